/- Plain: places between the least and the most that a judge can give; both ends can be. -/
import Derived.Test.YtmclchaalmonnaaOuB
namespace Go.Proofs.Ytmclchaalmonnaa
structure LeSt (a b : St) : Prop where
  t : a.total ≤ b.total
  e : a.elements ≤ b.elements
theorem LeSc.st {a b : Sc} (h : LeSc a b) : LeSt (stOf a) (stOf b) := ⟨h.t, h.e⟩
theorem bet_mono {a a' b b' : St} (h : betB a b = true) (ha : LeSt a a') (hb : LeSt b' b) : betB a' b' = true := by
  obtain ⟨h1, h2⟩ := ha
  obtain ⟨h3, h4⟩ := hb
  simp only [betB, Bool.or_eq_true, Bool.and_eq_true, decide_eq_true_eq] at h ⊢
  omega
theorem bet_irr {a b : St} (h : LeSt a b) : betB a b = false := by
  obtain ⟨h1, h2⟩ := h
  have : ¬ betB a b = true := by
    simp only [betB, Bool.or_eq_true, Bool.and_eq_true, decide_eq_true_eq]
    omega
  simpa using this
theorem bet_ne {a b : St} (h : LeSt a b) : betB b a = !decide (b = a) := by
  obtain ⟨h1, h2⟩ := h
  apply Bool.eq_iff_iff.2
  simp only [betB, Bool.or_eq_true, Bool.and_eq_true, decide_eq_true_eq, Bool.not_eq_true', decide_eq_false_iff_not]
  constructor
  · intro h e
    subst e
    omega
  · intro h
    by_cases ht : a.total < b.total
    · exact .inl ht
    · right
      have : a.total = b.total := by omega
      refine ⟨this.symm, ?_⟩
      by_cases he : a.elements < b.elements
      · exact he
      · exfalso
        apply h
        cases a; cases b
        simp only [St.mk.injEq] at *
        omega
theorem countP_le_at {α β : Type} {p : α → Bool} {q : β → Bool} : ∀ {l : List α} {m : List β}, l.length = m.length → (∀ i (h1 : i < l.length) (h2 : i < m.length), p l[i] = true → q m[i] = true) → l.countP p ≤ m.countP q
  | [], [], _, _ => Nat.le_refl _
  | [], _ :: _, h, _ => by cases h
  | _ :: _, [], h, _ => by cases h
  | a :: l, b :: m, h, hi => by
    have h1 := hi 0 (by simp) (by simp)
    simp only [List.getElem_cons_zero] at h1
    have h2 := countP_le_at (p := p) (q := q) (l := l) (m := m) (by simpa using h) (fun i h1 h2 => by have := hi (i + 1) (by simpa using h1) (by simpa using h2); simpa using this)
    simp only [List.countP_cons]
    cases hp : p a
    · simp; omega
    · rw [h1 hp]; simp; exact h2
theorem countP_put {α : Type} {p : α → Bool} : ∀ {l : List α} {k : Nat} (h : k < l.length) (a : α), (l.set k a).countP p + (if p l[k] then 1 else 0) = l.countP p + (if p a then 1 else 0)
  | [], _, h, _ => by cases h
  | b :: l, 0, _, a => by simp only [List.set_cons_zero, List.countP_cons, List.getElem_cons_zero]; omega
  | b :: l, k + 1, h, a => by
    have := countP_put (p := p) (l := l) (k := k) (by simpa using h) a
    simp only [List.set_cons_succ, List.countP_cons, List.getElem_cons_succ]
    omega
/-- the place is within the span -/
theorem place_in {worst best m : List St} (hw : worst.length = m.length) (hb : best.length = m.length) (h : ∀ i (h0 : i < m.length) (h1 : i < worst.length) (h2 : i < best.length), LeSt worst[i] m[i] ∧ LeSt m[i] best[i]) {i : Nat} (h0 : i < m.length) (h1 : i < worst.length) (h2 : i < best.length) :
    plP best[i] worst ≤ plP m[i] m ∧ plP m[i] m ≤ plP worst[i] best - (if best[i] = worst[i] then 0 else 1) := by
  constructor
  · unfold plP
    have := countP_le_at (p := fun o => betB o best[i]) (q := fun o => betB o m[i]) hw (fun k k1 k2 hk => bet_mono hk (h k k2 k1 (by omega)).1 (h i h0 h1 h2).2)
    omega
  · have hwb : LeSt worst[i] best[i] := ⟨Int.le_trans (h i h0 h1 h2).1.t (h i h0 h1 h2).2.t, Int.le_trans (h i h0 h1 h2).1.e (h i h0 h1 h2).2.e⟩
    have h3 := countP_put (p := fun o => betB o worst[i]) h2 worst[i]
    have h4 : betB worst[i] worst[i] = false := bet_irr ⟨Int.le_refl _, Int.le_refl _⟩
    have h5 := bet_ne hwb
    have h6 := countP_le_at (p := fun o => betB o m[i]) (q := fun o => betB o worst[i]) (l := m) (m := best.set i worst[i]) (by simp [hb]) (fun k k1 k2 hk => by
      by_cases hki : i = k
      · subst hki
        rw [bet_irr (a := m[i]) (b := m[i]) ⟨Int.le_refl _, Int.le_refl _⟩] at hk
        cases hk
      · rw [List.getElem_set_ne hki]
        exact bet_mono hk (h k k1 (by omega) (by omega)).2 (h i h0 h1 h2).1)
    simp only [h4, h5] at h3
    unfold plP
    by_cases he : best[i] = worst[i]
    · rw [if_pos he]
      simp only [he, decide_true, Bool.not_true, Bool.false_eq_true, if_false] at h3
      omega
    · rw [if_neg he]
      simp only [he, decide_false, Bool.not_false, if_true, Bool.false_eq_true, if_false] at h3
      omega
/-- both ends -/
theorem end_lo {worst best : List St} (h : ∀ i (h1 : i < worst.length) (h2 : i < best.length), LeSt worst[i] best[i]) {i : Nat} (h1 : i < worst.length) (h2 : i < best.length) :
    plP best[i] (worst.set i best[i]) = plP best[i] worst := by
  have h3 := countP_put (p := fun o => betB o best[i]) h1 best[i]
  have h4 : betB best[i] best[i] = false := bet_irr ⟨Int.le_refl _, Int.le_refl _⟩
  have h5 := bet_irr (h i h1 h2)
  simp only [h4, h5, Bool.false_eq_true, if_false] at h3
  unfold plP
  omega
theorem end_hi {worst best : List St} (h : ∀ i (h1 : i < worst.length) (h2 : i < best.length), LeSt worst[i] best[i]) {i : Nat} (h1 : i < worst.length) (h2 : i < best.length) :
    plP worst[i] (best.set i worst[i]) = plP worst[i] best - (if best[i] = worst[i] then 0 else 1) := by
  have h3 := countP_put (p := fun o => betB o worst[i]) h2 worst[i]
  have h4 : betB worst[i] worst[i] = false := bet_irr ⟨Int.le_refl _, Int.le_refl _⟩
  have h5 := bet_ne (h i h1 h2)
  simp only [h4, h5] at h3
  unfold plP
  by_cases he : best[i] = worst[i]
  · rw [if_pos he]
    simp only [he, decide_true, Bool.not_true, Bool.false_eq_true, if_false] at h3
    omega
  · rw [if_neg he]
    simp only [he, decide_false, Bool.not_false, if_true, Bool.false_eq_true, if_false] at h3
    omega
/-- a contest holds skatings of contests -/
theorem contest_each {r : Ru} {l : List Sk} (h : contestB r l = true) : ∀ s ∈ l, OneC r s (nP l) := fun s hs => by
  simp only [contestB, Bool.and_eq_true] at h
  obtain ⟨h1, h2, h3⟩ := h
  have h4 := List.all_eq_true.1 h3 s hs
  simp only [skB, Bool.and_eq_true, decide_eq_true_eq] at h4
  obtain ⟨a1, a2, a3, a4, a5⟩ := h4
  obtain ⟨c1, -, c3⟩ := callsB_spec a4
  refine ⟨h1, a1, a2, a3, c3, ?_, c1, fun m hm => ?_⟩
  · by_cases hc : s.calls ≠ [] ∨ s.parts ≠ []
    · right
      obtain ⟨n, hn⟩ := judges_some hs hc
      unfold panelB at h2
      unfold nP
      rw [hn] at h2 ⊢
      simp [inB] at h2
      simp
      omega
    · left
      simpa using hc
  · have := List.all_eq_true.1 a5 m hm
    simpa using this
theorem OneC.len {r : Ru} {s : Sk} {n : Nat} (h : OneC r s n) : (∀ c ∈ s.calls, c.marks.length = n) ∧ ∀ m ∈ s.parts, m.length = n := by
  refine ⟨fun c hc => ?_, fun m hm => ?_⟩
  · have := h.c c hc
    simp only [clB, Bool.and_eq_true, decide_eq_true_eq] at this
    have := this.2.2.2.1
    omega
  · have := (h.p m hm).1
    omega
theorem OneC.rng {r : Ru} {s : Sk} {n : Nat} (h : OneC r s n) : (∀ c ∈ s.calls, ∀ x ∈ c.marks, -5 ≤ x ∧ x ≤ 5) ∧ ∀ m ∈ s.parts, ∀ x ∈ m, 0 ≤ x ∧ x ≤ 40 := by
  refine ⟨fun c hc x hx => ?_, fun m hm x hx => ?_⟩
  · have := h.c c hc
    simp only [clB, Bool.and_eq_true] at this
    have := List.all_eq_true.1 this.2.2.2.2 x hx
    simpa [inB] using this
  · have := List.all_eq_true.1 (h.p m hm).2 x hx
    simpa [inB] using this
/-- whatever the judge gives, the score is between both ends -/
theorem put_between {r : Ru} {s : Sk} {n j : Nat} (h : OneC r s n) (hj : j < n) {f g : Nat → Int} (hf : ∀ i, i < s.calls.length → -5 ≤ f i ∧ f i ≤ 5) (hg : ∀ i, i < s.parts.length → 0 ≤ g i ∧ g i ≤ 40) :
    LeSt (worstP r j s) (stOf (progP r (putS s j f g))) ∧ LeSt (stOf (progP r (putS s j f g))) (bestP r j s) := by
  have hs : contestB r [s] = true := contest_one.2 ⟨n, h⟩
  obtain ⟨l1, l2⟩ := h.len
  have hc : ∀ c ∈ s.calls, j < c.marks.length := fun c hc => by rw [l1 c hc]; exact hj
  have hp : ∀ m ∈ s.parts, j < m.length := fun m hm => by rw [l2 m hm]; exact hj
  have w1 := contest_ok (put_ok (s := s) (j := j) (f := fun _ => -5) (g := fun _ => 0) (fun _ _ => by omega) (fun _ _ => by omega) hs)
  have w2 := contest_ok (put_ok (s := s) (j := j) (f := f) (g := g) hf hg hs)
  unfold worstP bestP
  rw [mark_put, mark_put]
  exact ⟨(prog_le w1.1 (w1.2 _ List.mem_cons_self) ((put_same s j _ _).two (put_same s j _ _)) (put_le hc hp (fun i hi => (hf i hi).1) (fun i hi => (hg i hi).1))).st,
    (prog_le w2.1 (w2.2 _ List.mem_cons_self) ((put_same s j _ _).two (put_same s j _ _)) (put_le hc hp (fun i hi => (hf i hi).2) (fun i hi => (hg i hi).2))).st⟩
theorem own_between {r : Ru} {s : Sk} {n j : Nat} (h : OneC r s n) (hj : j < n) : LeSt (worstP r j s) (stOf (progP r s)) ∧ LeSt (stOf (progP r s)) (bestP r j s) := by
  have hs : contestB r [s] = true := contest_one.2 ⟨n, h⟩
  obtain ⟨l1, l2⟩ := h.len
  obtain ⟨g1, g2⟩ := h.rng
  have hc : ∀ c ∈ s.calls, j < c.marks.length := fun c hc => by rw [l1 c hc]; exact hj
  have hp : ∀ m ∈ s.parts, j < m.length := fun m hm => by rw [l2 m hm]; exact hj
  have w1 := contest_ok (put_ok (s := s) (j := j) (f := fun _ => -5) (g := fun _ => 0) (fun _ _ => by omega) (fun _ _ => by omega) hs)
  have w2 := contest_ok hs
  unfold worstP bestP
  rw [mark_put, mark_put]
  refine ⟨(prog_le w1.1 (w1.2 _ List.mem_cons_self) ?_ (put_low hc hp (fun i hi h' => (g1 _ (List.getElem_mem hi) _ (List.getElem_mem h')).1) (fun i hi h' => (g2 _ (List.getElem_mem hi) _ (List.getElem_mem h')).1))).st,
    (prog_le w2.1 (w2.2 _ List.mem_cons_self) (put_same s j _ _) (put_high hc hp (fun i hi h' => (g1 _ (List.getElem_mem hi) _ (List.getElem_mem h')).2) (fun i hi h' => (g2 _ (List.getElem_mem hi) _ (List.getElem_mem h')).2))).st⟩
  exact (put_same s j _ _).two ⟨rfl, rfl, rfl⟩
theorem worst_best {r : Ru} {s : Sk} {n j : Nat} (h : OneC r s n) (hj : j < n) : LeSt (worstP r j s) (bestP r j s) := by
  have := own_between h hj
  exact ⟨Int.le_trans this.1.t this.2.t, Int.le_trans this.1.e this.2.e⟩
/-- scores of which one is the best and all others the worst, or the other way round -/
def mixP (r : Ru) (l : List Sk) (j w : Nat) (b : Bool) : List Sc := l.mapIdx fun i s => if b = decide (i = w) then progP r (markP s j 5 40) else progP r (markP s j (-5) 0)
theorem mix_lo {r : Ru} {l : List Sk} {j w : Nat} (h : contestB r l = true) (hj : j < nP l) (hw : w < l.length) : (ranksP (mixP r l j w true))[w]? = (swingP r l j)[w]?.map (·.lo) := by
  have e : (mixP r l j w true).map stOf = (l.map (worstP r j)).set w (bestP r j l[w]) := by
    apply List.ext_getElem
    · simp [mixP]
    · intro i h1 h2
      simp only [mixP, List.getElem_map, List.getElem_mapIdx, List.getElem_set]
      by_cases hi : w = i
      · subst hi; simp [bestP]
      · have : ¬ i = w := fun e => hi e.symm
        simp [hi, this, worstP]
  have h1 := end_lo (worst := l.map (worstP r j)) (best := l.map (bestP r j)) (fun i h1 h2 => by simp only [List.getElem_map]; exact worst_best (contest_each h _ (List.getElem_mem _)) hj) (i := w) (by simpa using hw) (by simpa using hw)
  simp only [List.getElem_map] at h1
  unfold ranksP swingP
  rw [e, List.getElem?_map, List.getElem?_map, List.getElem?_set_self (by simpa using hw), List.getElem?_eq_getElem hw]
  simp only [Option.map_some, spanP]
  rw [h1]
theorem mix_hi {r : Ru} {l : List Sk} {j w : Nat} (h : contestB r l = true) (hj : j < nP l) (hw : w < l.length) : (ranksP (mixP r l j w false))[w]? = (swingP r l j)[w]?.map (·.hi) := by
  have e : (mixP r l j w false).map stOf = (l.map (bestP r j)).set w (worstP r j l[w]) := by
    apply List.ext_getElem
    · simp [mixP]
    · intro i h1 h2
      simp only [mixP, List.getElem_map, List.getElem_mapIdx, List.getElem_set]
      by_cases hi : w = i
      · subst hi; simp [worstP]
      · have : ¬ i = w := fun e => hi e.symm
        simp [hi, this, bestP]
  have h1 := end_hi (worst := l.map (worstP r j)) (best := l.map (bestP r j)) (fun i h1 h2 => by simp only [List.getElem_map]; exact worst_best (contest_each h _ (List.getElem_mem _)) hj) (i := w) (by simpa using hw) (by simpa using hw)
  simp only [List.getElem_map] at h1
  unfold ranksP swingP
  rw [e, List.getElem?_map, List.getElem?_map, List.getElem?_set_self (by simpa using hw), List.getElem?_eq_getElem hw]
  simp only [Option.map_some, spanP]
  rw [h1]
/-- places by what was given, and by what the judge gives instead -/
theorem swing_in {r : Ru} {l : List Sk} {j : Nat} (h : contestB r l = true) (hj : j < nP l) {m : List Sc} (hm : m.length = l.length) (hb : ∀ i (h1 : i < l.length) (h2 : i < m.length), LeSt (worstP r j l[i]) (stOf m[i]) ∧ LeSt (stOf m[i]) (bestP r j l[i]))
    {i : Nat} (hi : i < l.length) {x : Int} (hx : (ranksP m)[i]? = some x) {s : Sp} (hs : (swingP r l j)[i]? = some s) : 1 ≤ s.lo ∧ s.lo ≤ x ∧ x ≤ s.hi ∧ s.hi ≤ l.length := by
  have hx2 : plP (stOf (m[i]'(by omega))) (m.map stOf) = x := by
    unfold ranksP at hx
    rw [List.getElem?_map, List.getElem?_map, List.getElem?_eq_getElem (by omega)] at hx
    simpa using hx
  have hs2 : spanP r l j l[i] = s := by
    unfold swingP at hs
    rw [List.getElem?_map, List.getElem?_eq_getElem hi] at hs
    simpa using hs
  have h1 := place_in (worst := l.map (worstP r j)) (best := l.map (bestP r j)) (m := m.map stOf) (by simp [hm]) (by simp [hm]) (fun k k0 k1 k2 => by
    simp only [List.getElem_map]
    exact hb k (by simpa using k1) (by simpa using k0)) (i := i) (by simp; omega) (by simpa using hi) (by simpa using hi)
  simp only [List.getElem_map] at h1
  rw [hx2] at h1
  subst hs2
  refine ⟨by unfold spanP plP; simp; omega, h1.1, h1.2, ?_⟩
  unfold spanP plP
  simp only
  have hle := List.countP_le_length (p := fun o => betB o (worstP r j l[i])) (l := l.map (bestP r j))
  have hput := countP_put (p := fun o => betB o (worstP r j l[i])) (l := l.map (bestP r j)) (k := i) (by simpa using hi) (worstP r j l[i])
  have hle2 := List.countP_le_length (p := fun o => betB o (worstP r j l[i])) (l := (l.map (bestP r j)).set i (worstP r j l[i]))
  have hwb := worst_best (contest_each h _ (List.getElem_mem hi)) hj
  have h4 : betB (worstP r j l[i]) (worstP r j l[i]) = false := bet_irr ⟨Int.le_refl _, Int.le_refl _⟩
  have h5 := bet_ne hwb
  simp only [List.getElem_map, h4, h5, Bool.false_eq_true, if_false] at hput
  have hlt : (List.countP (fun o => betB o (worstP r j l[i])) ((l.map (bestP r j)).set i (worstP r j l[i]))) < l.length := by
    have : ¬ List.countP (fun o => betB o (worstP r j l[i])) ((l.map (bestP r j)).set i (worstP r j l[i])) = ((l.map (bestP r j)).set i (worstP r j l[i])).length := by
      rw [List.countP_eq_length]
      intro hall
      have := hall (worstP r j l[i]) (List.mem_set (by simpa using hi) _)
      rw [h4] at this
      cases this
    simp only [List.length_set, List.length_map] at this hle2
    omega
  by_cases he : bestP r j l[i] = worstP r j l[i]
  · rw [if_pos he]
    simp only [he, decide_true, Bool.not_true, Bool.false_eq_true, if_false] at hput
    omega
  · rw [if_neg he]
    simp only [he, decide_false, Bool.not_false, if_true] at hput
    omega
end Go.Proofs.Ytmclchaalmonnaa

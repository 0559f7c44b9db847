/- Plain: a mark rises, one more call falls, a skating takes longer. -/
import Derived.Test.YtmclchaalmonnaaRfF
namespace Go.Proofs.Ytmclchaalmonnaa
theorem rnd_mono {n m b : Int} (h : n ≤ m) (hb : 1 ≤ b) : rnd n b ≤ rnd m b := by
  unfold rnd
  by_cases h1 : n < 0
  · rw [if_pos h1]
    by_cases h2 : m < 0
    · rw [if_pos h2]
      have := Int.ediv_le_ediv (show 0 < 2 * b by omega) (show 2 * -m + b ≤ 2 * -n + b by omega)
      omega
    · rw [if_neg h2]
      have h3 : 0 ≤ (2 * -n + b) / (2 * b) := Int.ediv_nonneg (by omega) (by omega)
      have h4 : 0 ≤ (2 * m + b) / (2 * b) := Int.ediv_nonneg (by omega) (by omega)
      omega
  · rw [if_neg h1, if_neg (by omega)]
    exact Int.ediv_le_ediv (by omega) (by omega)
theorem sum_set {l : List Int} {j : Nat} (h : j < l.length) (x : Int) : (l.set j x).sum = l.sum + x - l[j] := by
  induction l generalizing j with
  | nil => cases h
  | cons a l ih =>
    cases j with
    | zero => simp; omega
    | succ j =>
      have := ih (j := j) (by simpa using h)
      simp only [List.set_cons_succ, List.sum_cons, List.getElem_cons_succ]
      omega
theorem mid_set {l : List Int} {j : Nat} (h : j < l.length) {x : Int} (hx : l[j] ≤ x) : (mid l).sum ≤ (mid (l.set j x)).sum := by
  by_cases h5 : 5 ≤ l.length
  rotate_left
  · rw [mid_sum' h5, mid_sum' (by simpa using h5), sum_set h]
    omega
  · obtain ⟨a, ha⟩ : ∃ a, l[0]? = some a := ⟨l[0], List.getElem?_eq_getElem _⟩
    obtain ⟨b, hb⟩ : ∃ b, (l.set j x)[0]? = some b := ⟨(l.set j x)[0]'(by simp; omega), List.getElem?_eq_getElem _⟩
    rw [mid_sum ha h5, mid_sum hb (by simpa using h5), sum_set h]
    obtain ⟨⟨p1, p2⟩, p3⟩ := lmax_spec l a
    obtain ⟨⟨q1, q2⟩, q3⟩ := lmin_spec l a
    obtain ⟨⟨r1, r2⟩, r3⟩ := lmax_spec (l.set j x) b
    obtain ⟨⟨s1, s2⟩, s3⟩ := lmin_spec (l.set j x) b
    have hal : a ∈ l := List.mem_of_getElem? ha
    have hbl : b ∈ l.set j x := List.mem_of_getElem? hb
    have hM' : lmax (l.set j x) b ∈ l.set j x := r3.elim (fun e => by rw [e]; exact hbl) id
    have hm : lmin l a ∈ l := q3.elim (fun e => by rw [e]; exact hal) id
    have hM1 : lmax (l.set j x) b ≤ lmax l a ∨ lmax (l.set j x) b = x := by
      rcases List.mem_or_eq_of_mem_set hM' with e | e
      · exact .inl (p2 _ e)
      · exact .inr e
    have hM2 := p2 _ (List.getElem_mem h)
    have hx' : x ∈ l.set j x := List.mem_set h x
    have hm1 : lmin (l.set j x) b ≤ lmin l a ∨ (lmin l a = l[j] ∧ lmin (l.set j x) b ≤ x ∧ lmin (l.set j x) b ≤ lmax l a) := by
      obtain ⟨i, hi, he⟩ := List.getElem_of_mem hm
      by_cases hij : i = j
      · subst hij
        refine .inr ⟨he.symm, s2 _ hx', ?_⟩
        obtain ⟨i2, h2, h3⟩ : ∃ i2, i2 < l.length ∧ i2 ≠ i := by
          by_cases h0 : i = 0
          · exact ⟨1, by omega, by omega⟩
          · exact ⟨0, by omega, by omega⟩
        have h4 : (l.set i x)[i2]'(by simpa using h2) = l[i2] := List.getElem_set_ne (by omega) _
        have h5 := s2 _ (List.getElem_mem (l := l.set i x) (n := i2) (by simpa using h2))
        rw [h4] at h5
        have := p2 _ (List.getElem_mem h2)
        omega
      · refine .inl ?_
        have h4 : (l.set j x)[i]'(by simpa using hi) = l[i] := List.getElem_set_ne (by omega) _
        have h5 := s2 _ (List.getElem_mem (l := l.set j x) (n := i) (by simpa using hi))
        rw [h4, he] at h5
        exact h5
    omega
theorem map_set_self {α β : Type} {f : α → β} {l : List α} {k : Nat} (h : k < l.length) {y : α} (he : f y = f l[k]) : (l.set k y).map f = l.map f := by
  rw [List.map_set, he]
  apply List.ext_getElem
  · simp
  · intro i h1 h2
    rw [List.getElem_set]
    split
    · rename_i e; subst e; simp
    · rfl
theorem ahead_map (l : List Cl) (c : Cl) : ahead l c = (l.map fun d => (d.element, d.place)).countP fun p => decide (p.1 = c.element) && decide (p.2 < c.place) := by
  unfold ahead
  rw [List.countP_map]; rfl
theorem ahead_set {l : List Cl} {k : Nat} (h : k < l.length) {y : Cl} (h1 : y.element = l[k].element) (h2 : y.place = l[k].place) (c : Cl) : ahead (l.set k y) c = ahead l c := by
  rw [ahead_map, ahead_map, map_set_self h (by rw [h1, h2])]
theorem callsB_seen {r : Ru} {n : Int} : ∀ {l seen seen' : List Cl}, seen.map (·.place) = seen'.map (·.place) → callsB r n seen l = callsB r n seen' l
  | [], _, _, _ => rfl
  | c :: l, seen, seen', h => by
    have h1 : ∀ s : List Cl, (s.any fun d => decide (d.place = c.place)) = (s.map (·.place)).any fun p => decide (p = c.place) := fun s => by rw [List.any_map]; rfl
    unfold callsB
    rw [h1 seen, h1 seen', h, callsB_seen (l := l) (seen := c :: seen) (seen' := c :: seen') (by simp [h])]
theorem callsB_set {r : Ru} {n : Int} {y : Cl} : ∀ {l seen : List Cl} {k : Nat} (h : k < l.length), y.place = l[k].place → clB r y n = clB r l[k] n → callsB r n seen (l.set k y) = callsB r n seen l
  | [], _, _, h, _, _ => by cases h
  | c :: l, seen, 0, h, h1, h2 => by
    simp only [List.set_cons_zero, List.getElem_cons_zero] at h1 h2 ⊢
    unfold callsB
    rw [h1, h2, callsB_seen (l := l) (seen := y :: seen) (seen' := c :: seen) (by simp [h1])]
  | c :: l, seen, k + 1, h, h1, h2 => by
    simp only [List.set_cons_succ, List.getElem_cons_succ] at h1 h2 ⊢
    unfold callsB
    rw [callsB_set (by simpa using h) h1 h2]
def lateS (s : Sk) : Sk := ⟨s.calls, s.parts, min 600 (s.over + 5)⟩
def setC (s : Sk) (k : Nat) (y : Cl) : Sk := ⟨s.calls.set k y, s.parts, s.over⟩
theorem judges_set {s : Sk} {k : Nat} (h : k < s.calls.length) {y : Cl} (hl : y.marks.length = s.calls[k].marks.length) : judgesP [setC s k y] = judgesP [s] := by
  obtain ⟨l, p, o⟩ := s
  unfold setC
  simp only at h hl ⊢
  cases l with
  | nil => cases h
  | cons a l =>
    cases k with
    | zero => simpa [judgesP] using hl
    | succ k => simp [judgesP]
theorem contest_late {r : Ru} {s : Sk} (h : contestB r [s] = true) : contestB r [lateS s] = true := by
  have hj : judgesP [lateS s] = judgesP [s] := rfl
  have hn : nP [lateS s] = nP [s] := by unfold nP; rw [hj]
  simp only [contestB, panelB, hj, hn, List.all_cons, List.all_nil, Bool.and_true, Bool.and_eq_true] at h ⊢
  refine ⟨h.1, h.2.1, ?_⟩
  have h3 := h.2.2
  have he : skB r (lateS s) (nP [s]) = (decide (s.calls.length ≤ 16) && (decide (s.parts.length ≤ 5) && (inB (min 600 (s.over + 5)) 0 600 && (callsB r (nP [s]) [] s.calls && partsB (nP [s]) s.parts)))) := rfl
  rw [he]
  simp only [skB, inB, Bool.and_eq_true, decide_eq_true_eq] at h3 ⊢
  exact ⟨h3.1, h3.2.1, by have := h3.2.2.1; omega, h3.2.2.2⟩
theorem contest_set {r : Ru} {s : Sk} {k : Nat} (hk : k < s.calls.length) {y : Cl} (hl : y.marks.length = s.calls[k].marks.length) (hp : y.place = s.calls[k].place) (hc : ∀ n, clB r y n = clB r s.calls[k] n) (h : contestB r [s] = true) : contestB r [setC s k y] = true := by
  have hj := judges_set hk hl
  have hn : nP [setC s k y] = nP [s] := by unfold nP; rw [hj]
  simp only [contestB, panelB, hj, hn, List.all_cons, List.all_nil, Bool.and_true, Bool.and_eq_true] at h ⊢
  refine ⟨h.1, h.2.1, ?_⟩
  have h3 := h.2.2
  simp only [skB, setC, Bool.and_eq_true, List.length_set] at h3 ⊢
  rw [callsB_set hk hp (hc _)]
  exact h3
theorem progR_one {r : Ru} {s : Sk} (h : contestB r [s] = true) : progR r s = (progP r s, 0) := by rw [progR_ct, if_pos h]
theorem late_sc {r : Ru} {s : Sk} (hs : VS r s) : (progP r (lateS s)).elements = (progP r s).elements ∧ (progP r s).off ≤ (progP r (lateS s)).off ∧ (progP r (lateS s)).total ≤ (progP r s).total := by
  have ho := hs.o
  have h1 : valsP r (lateS s) = valsP r s := rfl
  have h2 : partsP r (lateS s) = partsP r s := rfl
  have h3 : offP s ≤ offP (lateS s) := by
    unfold offP lateS
    simp only
    omega
  unfold progP
  rw [h1, h2]
  refine ⟨rfl, h3, ?_⟩
  show max _ _ ≤ max _ _
  omega
theorem falls_set {l : List Cl} {k : Nat} (h : k < l.length) {y : Cl} (hy : y.fall = true) : fallsP l ≤ fallsP (l.set k y) := by
  unfold fallsP
  induction l generalizing k with
  | nil => cases h
  | cons a l ih =>
    cases k with
    | zero => simp only [List.set_cons_zero, List.countP_cons, hy]; split <;> simp
    | succ k =>
      have := ih (k := k) (by simpa using h)
      simp only [List.set_cons_succ, List.countP_cons]
      omega
theorem falls_same {l : List Cl} {k : Nat} (h : k < l.length) {y : Cl} (hy : y.fall = l[k].fall) : fallsP (l.set k y) = fallsP l := by
  have hm : ∀ l : List Cl, fallsP l = (l.map (·.fall)).countP id := fun l => by unfold fallsP; rw [List.countP_map]; rfl
  rw [hm, hm, map_set_self h hy]
theorem vals_set {r : Ru} {s : Sk} {k : Nat} (h : k < s.calls.length) {y : Cl} (h1 : y.element = s.calls[k].element) (h2 : y.place = s.calls[k].place) : valsP r (setC s k y) = (valsP r s).set k (valP r s.calls y) := by
  have hf : valP r (s.calls.set k y) = valP r s.calls := by
    funext c
    unfold valP
    rw [ahead_set h h1 h2]
  unfold valsP setC
  simp only [hf]
  rw [List.map_set]
theorem set_same {l : List Int} {k : Nat} (h : k < l.length) : l.set k l[k] = l := by simp
def fallC (c : Cl) : Cl := { c with fall := true }
def riseC (c : Cl) (j : Nat) (x : Int) : Cl := { c with marks := c.marks.set j x }
theorem fall_sc {r : Ru} {s : Sk} {k : Nat} (h : k < s.calls.length) : (progP r (setC s k (fallC s.calls[k]))).elements = (progP r s).elements ∧ (progP r (setC s k (fallC s.calls[k]))).total ≤ (progP r s).total := by
  have hv : valP r s.calls (fallC s.calls[k]) = valP r s.calls s.calls[k] := rfl
  have h1 : valsP r (setC s k (fallC s.calls[k])) = valsP r s := by
    rw [vals_set h (y := fallC s.calls[k]) rfl rfl, hv]
    have hk : k < (valsP r s).length := by simpa [valsP] using h
    have := set_same hk
    rw [show (valsP r s)[k] = valP r s.calls s.calls[k] by simp [valsP]] at this
    exact this
  have h2 : partsP r (setC s k (fallC s.calls[k])) = partsP r s := rfl
  have h3 : offP s ≤ offP (setC s k (fallC s.calls[k])) := by
    have := falls_set h (y := fallC s.calls[k]) rfl
    unfold offP setC
    simp only
    omega
  unfold progP
  rw [h1, h2]
  refine ⟨rfl, ?_⟩
  show max _ _ ≤ max _ _
  omega
theorem val_rise {b x : Int} {c : Cl} {j : Nat} (hj : j < c.marks.length) (hx : c.marks[j] ≤ x) (hb : 0 ≤ b) (hu : 0 ≤ c.under ∧ c.under ≤ 2) : valC b c ≤ valC b (riseC c j x) := by
  have hm := mid_set hj hx
  have hl : (mid (c.marks.set j x)).length = (mid c.marks).length := by rw [mid_length, mid_length, List.length_set]
  have hl1 : 1 ≤ ((mid c.marks).length : Int) := by
    rw [mid_length]
    split <;> omega
  have hp : 0 ≤ b * (10 - 2 * c.under) := Int.mul_nonneg hb (by omega)
  unfold valC riseC
  simp only [hl]
  have := rnd_mono (Int.mul_le_mul_of_nonneg_right hm hp) (show 1 ≤ 100 * ((mid c.marks).length : Int) by omega)
  omega
theorem rise_sc {r : Ru} {s : Sk} {k j : Nat} {x : Int} (hr : VR r) (hs : VS r s) (h : k < s.calls.length) (hj : j < s.calls[k].marks.length) (hx : s.calls[k].marks[j] ≤ x) :
    (progP r s).elements ≤ (progP r (setC s k (riseC s.calls[k] j x))).elements ∧ (progP r s).total ≤ (progP r (setC s k (riseC s.calls[k] j x))).total := by
  obtain ⟨hvc, hel, -⟩ := hs.c _ (List.getElem_mem h)
  have hb : 0 ≤ r.bases.getD s.calls[k].element.toNat 0 := by
    rw [List.getD_eq_getElem?_getD, List.getElem?_eq_getElem (show s.calls[k].element.toNat < r.bases.length by omega)]
    exact (hr.b _ (List.getElem_mem _)).1
  have hv : valP r s.calls s.calls[k] ≤ valP r s.calls (riseC s.calls[k] j x) := by
    have h1 : ahead s.calls (riseC s.calls[k] j x) = ahead s.calls s.calls[k] := rfl
    have h2 := val_rise hj hx hb hvc.under
    unfold valP
    rw [h1]
    split
    · exact h2
    · omega
  have hk : k < (valsP r s).length := by simpa [valsP] using h
  have h1 : (valsP r s).sum ≤ (valsP r (setC s k (riseC s.calls[k] j x))).sum := by
    rw [vals_set h (y := riseC s.calls[k] j x) rfl rfl, sum_set hk, show (valsP r s)[k] = valP r s.calls s.calls[k] by simp [valsP]]
    omega
  have h2 : partsP r (setC s k (riseC s.calls[k] j x)) = partsP r s := rfl
  have h3 : offP (setC s k (riseC s.calls[k] j x)) = offP s := by
    unfold offP setC
    simp only
    rw [falls_same h (y := riseC s.calls[k] j x) rfl]
  unfold progP
  rw [h2, h3]
  refine ⟨h1, ?_⟩
  show max _ _ ≤ max _ _
  omega
theorem fall_ok {r : Ru} {s : Sk} {k : Nat} (h : k < s.calls.length) (hc : contestB r [s] = true) : contestB r [setC s k (fallC s.calls[k])] = true := contest_set h rfl rfl (fun _ => rfl) hc
theorem rise_ok {r : Ru} {s : Sk} {k j : Nat} {x : Int} (h : k < s.calls.length) (hx : -5 ≤ x ∧ x ≤ 5) (hs : VS r s) (hc : contestB r [s] = true) : contestB r [setC s k (riseC s.calls[k] j x)] = true := by
  have hvc := (hs.c _ (List.getElem_mem h)).1
  refine contest_set h (by simp [riseC]) rfl (fun n => ?_) hc
  have h1 : allB (s.calls[k].marks.set j x) (-5) 5 = true := by
    unfold allB
    rw [List.all_eq_true]
    intro z hz
    rcases List.mem_or_eq_of_mem_set hz with e | e
    · have := hvc.m z e; simp [inB]; omega
    · subst e; simp [inB]; omega
  have h2 : allB s.calls[k].marks (-5) 5 = true := by
    unfold allB
    rw [List.all_eq_true]
    intro z hz
    have := hvc.m z hz; simp [inB]; omega
  simp only [clB, riseC, List.length_set, h1, h2]
end Go.Proofs.Ytmclchaalmonnaa

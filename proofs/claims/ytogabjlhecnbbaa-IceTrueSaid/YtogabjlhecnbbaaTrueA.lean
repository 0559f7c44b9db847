/- What is true of a rink while Play tells its spans, plainly. -/
import Derived.Test.YtogabjlhecnbbaaApartA
namespace Go.Proofs.Ytogabjlhecnbbaa
open Go.RowKit Go.Shelf
structure Tr where
  ice : List Int
  paint : List Int
  fr : Int
  pl : Int
  wo : Int
def inn (x y b : Int) : Int := x + b % (y - x + 1)
theorem inn_in {x y b : Int} (h : x ≤ y) : x ≤ inn x y b ∧ inn x y b ≤ y := by
  unfold inn
  have h1 := Int.emod_nonneg b (show y - x + 1 ≠ 0 by omega)
  have h2 := Int.emod_lt_of_pos b (show 0 < y - x + 1 by omega)
  omega
/-- what an event truly does to zone k -/
def liveK (e : Ev) (b : Int) (k : Nat) (t : Tr) : Tr :=
  if e.k = 4 then { t with paint := t.paint.set k (t.ice.getD k 0) }
  else if e.k = 3 then t
  else if e.k = 0 then { t with ice := t.ice.set k (t.ice.getD k 0 + inn e.x e.y b), fr := t.fr + inn e.x e.y b }
  else if e.k = 1 then { t with ice := t.ice.set k (t.ice.getD k 0 - min (inn e.x e.y b) (t.ice.getD k 0)), pl := t.pl + min (inn e.x e.y b) (t.ice.getD k 0) }
  else { t with ice := t.ice.set k (t.ice.getD k 0 - min (inn e.x e.y b) (t.ice.getD k 0)), wo := t.wo + min (inn e.x e.y b) (t.ice.getD k 0) }
def liveN (e : Ev) (bs : Nat → Int) : Nat → Nat → Tr → Tr
  | _, 0, t => t
  | i, n + 1, t => liveN e bs (i + 1) n (liveK e (bs i) i t)
def rightE (e : Ev) (t : Tr) : Ev := if e.k = 3 then { e with x := max 0 (t.ice.getD e.f.toNat 0 - e.x), y := min 20000 (t.ice.getD e.f.toNat 0 + e.y - e.x) } else e
def sumL (l : List Int) : Int := l.foldr (· + ·) 0
theorem sumL_set : ∀ (l : List Int) (k : Nat) (v : Int), k < l.length → sumL (l.set k v) = sumL l - l.getD k 0 + v
  | [], k, v, h => absurd h (by simp)
  | x :: l, 0, v, _ => by simp [sumL]; omega
  | x :: l, k + 1, v, h => by
    have := sumL_set l k v (by simpa using h)
    simp only [sumL, List.set_cons_succ, List.foldr_cons] at this ⊢
    rw [this]
    simp
    omega
def In1 (z : Zn) (i p : Int) : Prop := z.a ≤ i ∧ i ≤ z.b ∧ z.c ≤ p ∧ p ≤ z.d
structure Inv (first : Int) (st : List Zn × Sm) (t : Tr) : Prop where
  li : t.ice.length = st.1.length
  lp : t.paint.length = st.1.length
  ok : ∀ z ∈ st.1, z.ok = true
  at_ : ∀ k, k < st.1.length → In1 (st.1.getD k zd) (t.ice.getD k 0) (t.paint.getD k 0)
  fr : st.2.f1 ≤ t.fr ∧ t.fr ≤ st.2.f2
  pl : st.2.p1 ≤ t.pl ∧ t.pl ≤ st.2.p2
  wo : st.2.w1 ≤ t.wo ∧ t.wo ≤ st.2.w2
  sum : first + t.fr = sumL t.ice + t.pl + t.wo
theorem zok_at {st : List Zn × Sm} {k : Nat} (h : ∀ z ∈ st.1, z.ok = true) (hk : k < st.1.length) : (st.1.getD k zd).ok = true := by
  have : st.1.getD k zd = st.1[k] := by simp [hk]
  rw [this]; exact h _ (List.getElem_mem hk)
theorem set_at {α : Type} (l : List α) (k j : Nat) (v d : α) (hk : k < l.length) : (l.set k v).getD j d = if j = k then v else l.getD j d := by
  by_cases h : j = k
  · subst h; rw [if_pos rfl]; simp [hk]
  · rw [if_neg h]; simp [Ne.symm h]
/-- one zone, one event that is not a hole -/
theorem inv_step {first : Int} {st : List Zn × Sm} {t : Tr} {e : Ev} {k : Nat} {b : Int} (h : Inv first st t) (hk : k < st.1.length) (hkk : 0 ≤ e.k ∧ e.k < 5) (hd : e.k ≠ 3) (hw : e.k = 4 ∨ win e.x e.y = true) (he : zErr e (st.1.getD k zd) = 0) :
    Inv first (zStep e k st) (liveK e b k t) := by
  have hz := zok_at h.ok hk
  have hz' := zDo_ok (s := st.2) hz hkk hw he
  have ha := h.at_ k hk
  have hli := h.li
  have hlp := h.lp
  have hfr := h.fr
  have hpl := h.pl
  have hwo := h.wo
  have hsum := h.sum
  simp only [Zn.ok, Bool.and_eq_true, win_iff] at hz
  rw [win_iff] at hw
  have hki : k < t.ice.length := by omega
  have hkp : k < t.paint.length := by omega
  have hokk : ∀ z ∈ (zStep e k st).1, z.ok = true := by
    intro z hzm
    unfold zStep at hzm
    rcases List.mem_or_eq_of_mem_set hzm with hm | rfl
    · exact h.ok z hm
    · exact hz'
  obtain ⟨ek, ef, et, ex, ey⟩ := e
  simp only at hkk hd hw
  have hcases : ek = 0 ∨ ek = 1 ∨ ek = 2 ∨ ek = 4 := by omega
  obtain ⟨z, hzd⟩ : ∃ z, z = st.1.getD k zd := ⟨_, rfl⟩
  obtain ⟨ic, hic⟩ : ∃ ic, ic = t.ice.getD k 0 := ⟨_, rfl⟩
  obtain ⟨pc, hpc⟩ : ∃ pc, pc = t.paint.getD k 0 := ⟨_, rfl⟩
  have hss := sumL_set t.ice k
  rw [← hzd, ← hic, ← hpc] at ha
  rw [← hzd] at hz he
  unfold In1 at ha
  rcases hcases with rfl | rfl | rfl | rfl
  · have hin := inn_in (b := b) (show ex ≤ ey by omega)
    refine ⟨?_, ?_, hokk, ?_, ?_, ?_, ?_, ?_⟩
    · simp [liveK, zStep, hli]
    · simp [liveK, zStep, hlp]
    · intro j hj
      simp only [zStep, List.length_set] at hj
      have hj' := h.at_ j hj
      simp only [liveK, zStep]
      simp
      rw [← List.getD_eq_getElem?_getD, ← List.getD_eq_getElem?_getD, ← List.getD_eq_getElem?_getD, set_at _ _ _ _ _ hk, set_at _ _ _ _ _ hki]
      by_cases hjk : j = k
      · subst hjk
        rw [if_pos rfl, if_pos rfl, ← List.getD_eq_getElem?_getD, ← hzd, ← List.getD_eq_getElem?_getD, ← hic, ← hpc]
        simp only [In1, zDo, Zn.ice, if_true]
        omega
      · rw [if_neg hjk, if_neg hjk]; exact hj'
    · simp only [liveK, zStep, zDo, Sm.fro]; simp; omega
    · simp only [liveK, zStep, zDo, Sm.fro]; simp; omega
    · simp only [liveK, zStep, zDo, Sm.fro]; simp; omega
    · simp only [liveK]
      simp
      rw [hss _ hki, ← List.getD_eq_getElem?_getD, ← hic]
      omega
  · have hin := inn_in (b := b) (show ex ≤ ey by omega)
    refine ⟨?_, ?_, hokk, ?_, ?_, ?_, ?_, ?_⟩
    · simp [liveK, zStep, hli]
    · simp [liveK, zStep, hlp]
    · intro j hj
      simp only [zStep, List.length_set] at hj
      have hj' := h.at_ j hj
      simp only [liveK, zStep]
      simp
      rw [← List.getD_eq_getElem?_getD, ← List.getD_eq_getElem?_getD, ← List.getD_eq_getElem?_getD, set_at _ _ _ _ _ hk, set_at _ _ _ _ _ hki]
      by_cases hjk : j = k
      · subst hjk
        rw [if_pos rfl, if_pos rfl, ← List.getD_eq_getElem?_getD, ← hzd, ← List.getD_eq_getElem?_getD, ← hic, ← hpc]
        simp [In1, zDo, Zn.ice]
        omega
      · rw [if_neg hjk, if_neg hjk]; exact hj'
    · simp only [liveK, zStep, zDo, Sm.pla]; simp; try omega
    · simp only [liveK, zStep, zDo, Sm.pla]
      simp
      all_goals (try simp only [← List.getD_eq_getElem?_getD])
      all_goals (try rw [← hzd, ← hic])
      all_goals omega
    · simp only [liveK, zStep, zDo, Sm.pla]
      simp
      all_goals (try simp only [← List.getD_eq_getElem?_getD])
      all_goals (try rw [← hzd, ← hic])
      all_goals omega
    · simp only [liveK]
      simp
      rw [hss _ hki, ← List.getD_eq_getElem?_getD, ← hic]
      omega
  · have hin := inn_in (b := b) (show ex ≤ ey by omega)
    refine ⟨?_, ?_, hokk, ?_, ?_, ?_, ?_, ?_⟩
    · simp [liveK, zStep, hli]
    · simp [liveK, zStep, hlp]
    · intro j hj
      simp only [zStep, List.length_set] at hj
      have hj' := h.at_ j hj
      simp only [liveK, zStep]
      simp
      rw [← List.getD_eq_getElem?_getD, ← List.getD_eq_getElem?_getD, ← List.getD_eq_getElem?_getD, set_at _ _ _ _ _ hk, set_at _ _ _ _ _ hki]
      by_cases hjk : j = k
      · subst hjk
        rw [if_pos rfl, if_pos rfl, ← List.getD_eq_getElem?_getD, ← hzd, ← List.getD_eq_getElem?_getD, ← hic, ← hpc]
        simp [In1, zDo, Zn.ice]
        omega
      · rw [if_neg hjk, if_neg hjk]; exact hj'
    · simp only [liveK, zStep, zDo, Sm.wor]; simp; try omega
    · simp only [liveK, zStep, zDo, Sm.wor]
      simp
      all_goals (try simp only [← List.getD_eq_getElem?_getD])
      all_goals (try rw [← hzd, ← hic])
      all_goals omega
    · simp only [liveK, zStep, zDo, Sm.wor]
      simp
      all_goals (try simp only [← List.getD_eq_getElem?_getD])
      all_goals (try rw [← hzd, ← hic])
      all_goals omega
    · simp only [liveK]
      simp
      rw [hss _ hki, ← List.getD_eq_getElem?_getD, ← hic]
      omega
  · refine ⟨?_, ?_, hokk, ?_, ?_, ?_, ?_, ?_⟩
    · simp [liveK, zStep, hli]
    · simp [liveK, zStep, hlp]
    · intro j hj
      simp only [zStep, List.length_set] at hj
      have hj' := h.at_ j hj
      simp only [liveK, zStep]
      simp
      simp only [← List.getD_eq_getElem?_getD]
      rw [set_at _ _ _ _ _ hk, set_at _ _ _ _ _ hkp]
      by_cases hjk : j = k
      · subst hjk
        rw [if_pos rfl, if_pos rfl, ← hzd, ← hic]
        simp [In1, zDo]
        omega
      · rw [if_neg hjk, if_neg hjk]; exact hj'
    · simp only [liveK, zStep, zDo]; simp; omega
    · simp only [liveK, zStep, zDo]; simp; omega
    · simp only [liveK, zStep, zDo]; simp; omega
    · simp only [liveK]; simp; omega
theorem zErr_two {e : Ev} {z : Zn} (hd : e.k ≠ 3) : zErr e z = 0 ∨ zErr e z = 12 := by
  unfold zErr
  split
  · exact .inr rfl
  · rw [if_neg (fun h => hd h.1)]; exact .inl rfl
theorem inv_loop {first : Int} {e : Ev} (bs : Nat → Int) (hkk : 0 ≤ e.k ∧ e.k < 5) (hd : e.k ≠ 3) (hw : e.k = 4 ∨ win e.x e.y = true) : ∀ (n i : Nat) (st : List Zn × Sm) (t : Tr), i + n ≤ st.1.length → Inv first st t →
    (loopE e i n st).2 = 12 ∨ ((loopE e i n st).2 = 0 ∧ Inv first (loopE e i n st).1 (liveN e bs i n t))
  | 0, _, _, _, _, h => .inr ⟨rfl, h⟩
  | n + 1, i, st, t, hi, h => by
    unfold loopE liveN
    rcases zErr_two (z := st.1.getD i zd) hd with he | he
    · rw [if_pos he]
      have h' := inv_step (b := bs i) h (by omega) hkk hd hw he
      exact inv_loop bs hkk hd hw n (i + 1) (zStep e i st) (liveK e (bs i) i t) (by unfold zStep; simp; omega) h'
    · rw [if_neg (by omega)]; exact .inl he
theorem liveN_drill {e : Ev} (bs : Nat → Int) (hd : e.k = 3) : ∀ (n i : Nat) (t : Tr), liveN e bs i n t = t
  | 0, _, _ => rfl
  | n + 1, i, t => by
    unfold liveN
    have : liveK e (bs i) i t = t := by unfold liveK; rw [if_neg (by omega), if_pos hd]
    rw [this]; exact liveN_drill bs hd n (i + 1) t
/-- a hole that is drilled where the ice truly is as thick never ends with an error -/
theorem inv_drill {first : Int} {st : List Zn × Sm} {t : Tr} {e : Ev} (h : Inv first st t) (hd : e.k = 3) (hok : e.ok st.1.length = true) : (evDo (rightE e t) st).2 = 0 ∧ Inv first (evDo (rightE e t) st).1 t := by
  obtain ⟨ek, ef, et, ex, ey⟩ := e
  simp only at hd
  subst hd
  simp only [Ev.ok, Bool.and_eq_true, decide_eq_true_eq, Bool.or_eq_true, win_iff] at hok
  obtain ⟨f, rfl⟩ := Int.eq_ofNat_of_zero_le (show 0 ≤ ef by omega)
  have hf : f < st.1.length := by omega
  have ha := h.at_ f hf
  have hz := zok_at h.ok hf
  simp only [Zn.ok, Bool.and_eq_true, win_iff] at hz
  obtain ⟨z, hzd⟩ : ∃ z, z = st.1.getD f zd := ⟨_, rfl⟩
  obtain ⟨n, hn⟩ : ∃ n, n = t.ice.getD f 0 := ⟨_, rfl⟩
  obtain ⟨pc, hpc⟩ : ∃ pc, pc = t.paint.getD f 0 := ⟨_, rfl⟩
  rw [← hzd, ← hn, ← hpc] at ha
  rw [← hzd] at hz
  unfold In1 at ha
  have hr : rightE ⟨3, f, et, ex, ey⟩ t = ⟨3, f, et, max 0 (n - ex), min 20000 (n + ey - ex)⟩ := by unfold rightE; simp only [if_true, Int.toNat_natCast, ← hn]
  rw [hr]
  have hok2 : Ev.ok ⟨3, f, et, max 0 (n - ex), min 20000 (n + ey - ex)⟩ st.1.length = true := by
    simp only [Ev.ok, Bool.and_eq_true, decide_eq_true_eq, Bool.or_eq_true, win_iff]
    refine ⟨⟨by omega, ?_⟩, .inr ⟨by omega, by omega, by omega⟩⟩
    first | exact .inl rfl | exact .inl trivial
  have hE : zErr ⟨3, f, et, max 0 (n - ex), min 20000 (n + ey - ex)⟩ z = 0 := by
    unfold zErr
    rw [if_neg (by simp), if_neg]
    simp only [true_and]
    omega
  have hev : evDo ⟨3, f, et, max 0 (n - ex), min 20000 (n + ey - ex)⟩ st = (zStep ⟨3, f, et, max 0 (n - ex), min 20000 (n + ey - ex)⟩ f st, 0) := by
    unfold evDo
    rw [hok2, if_pos rfl]
    simp only [Ev.last, if_true, Int.toNat_natCast, Nat.add_sub_cancel_left]
    unfold loopE
    rw [← hzd, hE, if_pos rfl]
    rfl
  rw [hev]
  refine ⟨rfl, ?_⟩
  have hok3 := zDo_ok (e := ⟨3, f, et, max 0 (n - ex), min 20000 (n + ey - ex)⟩) (z := z) (s := st.2) (by simp only [Zn.ok, Bool.and_eq_true, win_iff]; omega) ⟨by simp, by simp⟩ (.inr (by rw [win_iff]; simp only; omega)) hE
  refine ⟨?_, ?_, ?_, ?_, h.fr, h.pl, h.wo, h.sum⟩
  · simp [zStep, h.li]
  · simp [zStep, h.lp]
  · intro y hy
    unfold zStep at hy
    rcases List.mem_or_eq_of_mem_set hy with hm | rfl
    · exact h.ok y hm
    · rw [← hzd]; exact hok3
  · intro j hj
    simp only [zStep, List.length_set] at hj
    have hj' := h.at_ j hj
    unfold zStep
    simp only
    rw [set_at _ _ _ _ _ hf]
    by_cases hjf : j = f
    · subst hjf
      rw [if_pos rfl, ← hzd, ← hn, ← hpc]
      simp [In1, zDo, Zn.ice]
      omega
    · rw [if_neg hjf]; exact hj'
/-- what an event truly does -/
def liveE (bs : Nat → Int) (e : Ev) (t : Tr) : Tr := liveN e bs e.f.toNat (e.last.toNat + 1 - e.f.toNat) t
theorem inv_ev {first : Int} {st : List Zn × Sm} {t : Tr} {e : Ev} (bs : Nat → Int) (h : Inv first st t) (hok : e.ok st.1.length = true) :
    (evDo (rightE e t) st).2 = 12 ∨ ((evDo (rightE e t) st).2 = 0 ∧ Inv first (evDo (rightE e t) st).1 (liveE bs e t)) := by
  by_cases hd : e.k = 3
  · right
    unfold liveE
    rw [liveN_drill bs hd]
    exact inv_drill h hd hok
  · have hr : rightE e t = e := by unfold rightE; rw [if_neg hd]
    rw [hr]
    have hok' := hok
    simp only [Ev.ok, Bool.and_eq_true, decide_eq_true_eq, Bool.or_eq_true] at hok
    have hlast : e.last < st.1.length ∧ e.f ≤ e.last := by unfold Ev.last; split <;> omega
    unfold evDo liveE
    rw [hok', if_pos rfl]
    exact inv_loop bs ⟨hok.1.1.1, hok.1.1.2.1⟩ hd hok.2 _ _ st t (by omega) h
/-- events as they truly are, and what is true behind them -/
def liveL (by' : Nat → Nat → Int) : List Ev → Nat → Tr → List Ev × Tr
  | [], _, t => ([], t)
  | e :: l, i, t => (rightE e t :: (liveL by' l (i + 1) (liveE (by' i) e t)).1, (liveL by' l (i + 1) (liveE (by' i) e t)).2)
theorem inv_play {first : Int} (by' : Nat → Nat → Int) : ∀ (es : List Ev) (st : List Zn × Sm) (t : Tr) (i j : Nat), (∀ e ∈ es, e.ok st.1.length = true) → Inv first st t →
    ((playL (liveL by' es i t).1 st j).2.2 = 12 ∧ j ≤ (playL (liveL by' es i t).1 st j).2.1 ∧ (playL (liveL by' es i t).1 st j).2.1 < j + es.length) ∨
    ((playL (liveL by' es i t).1 st j).2.2 = 0 ∧ Inv first (playL (liveL by' es i t).1 st j).1 (liveL by' es i t).2)
  | [], _, _, _, _, _, h => .inr ⟨rfl, h⟩
  | e :: l, st, t, i, j, hok, h => by
    unfold liveL playL
    simp only
    rcases inv_ev (by' i) h (hok e (by simp)) with he | ⟨he, h'⟩
    · left
      rw [if_neg (by omega)]
      exact ⟨he, Nat.le_refl _, by simp⟩
    · rw [if_pos he]
      have hl := evDo_len (rightE e t) st
      rcases inv_play by' l (evDo (rightE e t) st).1 (liveE (by' i) e t) (i + 1) (j + 1) (fun e' he' => by rw [hl]; exact hok e' (by simp [he'])) h' with hh | hh
      · exact .inl ⟨hh.1, by omega, by simp only [List.length_cons]; omega⟩
      · exact .inr hh
end Go.Proofs.Ytogabjlhecnbbaa

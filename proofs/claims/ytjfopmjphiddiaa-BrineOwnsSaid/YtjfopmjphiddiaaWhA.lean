/- Without heat the litres go the same ways: as plain lists. -/
import Derived.Test.YtjfopmjphiddiaaLwD
namespace Go.Proofs.Ytjfopmjphiddiaa
def coldS (s : Sl) : Sl := ⟨s.v, 0⟩
def coldP (p : Pp) : Pp := ⟨p.room, p.l.map coldS⟩
def coldX (x : List Pp × Sl) : List Pp × Sl := (x.1.map coldP, coldS x.2)
def coldE (e : Ev) : Ev := ⟨e.k, e.p, e.a, 0⟩
theorem vol_cold (l : List Sl) : vol (l.map coldS) = vol l := by
  induction l with
  | nil => rfl
  | cons s l ih => simp only [List.map_cons, vol, ih, coldS]
theorem takeO_cold (s : Sl) (n : Int) : takeO (coldS s) n = coldS (takeO s n) := by simp [takeO, coldS]
theorem takeR_cold (s : Sl) (n : Int) : takeR (coldS s) n = coldS (takeR s n) := by simp [takeR, coldS]
theorem add_cold (a b : Sl) : (coldS a).add (coldS b) = coldS (a.add b) := by simp [Sl.add, coldS]
theorem drain_cold (l : List Sl) : ∀ n : Int, drainL (l.map coldS) n = ((drainL l n).1.map coldS, (drainL l n).2.map coldS) := by
  induction l with
  | nil => intro n; rfl
  | cons s l ih =>
    intro n
    simp only [List.map_cons, drainL, ih, takeO_cold, takeR_cold, show (coldS s).v = s.v from rfl]
    by_cases h : n ≤ 0
    · simp [h]
    · by_cases h2 : n < s.v <;> simp [h, h2]
theorem getD_cold (l : List Sl) (k : Nat) : (l.map coldS).getD k sl0 = coldS (l.getD k sl0) := by
  simp only [List.getD, List.getElem?_map]
  cases l[k]? <;> rfl
theorem join_cold (l : List Sl) : joinL (l.map coldS) = (joinL l).map coldS := by
  unfold joinL
  by_cases h : l.length ≤ 16
  · simp [h]
  · simp only [List.length_map, h, if_false, getD_cold, add_cold, List.map_take, List.map_set]
theorem outs_cold (p : Pp) (s : Sl) : (coldP p).outs (coldS s) = (p.outs s).map coldS := by
  have e : (coldP p).l ++ [coldS s] = (p.l ++ [s]).map coldS := by simp [coldP]
  unfold Pp.outs
  rw [e, vol_cold, drain_cold]; rfl
theorem enter_cold (p : Pp) (s : Sl) : (coldP p).enter (coldS s) = coldP (p.enter s) := by
  have e : (coldP p).l ++ [coldS s] = (p.l ++ [s]).map coldS := by simp [coldP]
  unfold Pp.enter Pp.rest
  rw [e, vol_cold, drain_cold, join_cold]; rfl
theorem flow_cold (n : Nat) : ∀ (x : List Pp × Sl) (s : Sl), flowN n (coldX x) (coldS s) = coldX (flowN n x s) := by
  induction n with
  | zero =>
    rintro ⟨ps, t⟩ s
    cases ps <;> simp [flowN, coldX, add_cold]
  | succ n ih =>
    rintro ⟨ps, t⟩ s
    have fold : ∀ (l : List Sl) (x : List Pp × Sl), (l.map coldS).foldl (flowN n) (coldX x) = coldX (l.foldl (flowN n) x) := by
      intro l
      induction l with
      | nil => intro x; rfl
      | cons s l ihl => intro x; rw [List.map_cons, List.foldl_cons, List.foldl_cons, ih, ihl]
    cases ps with
    | nil => simp [flowN, coldX, add_cold]
    | cons p ps =>
      have f := fold (p.outs s) (ps, t)
      simp only [coldX] at f
      simp only [flowN, coldX, List.map_cons, outs_cold, enter_cold, f]
theorem shr_zero (all : Int) (s : Sl) : shr 0 all s = 0 := by simp [shr]
theorem shrs_zero (all : Int) (l : List Sl) : shrs 0 all l = 0 := by
  induction l with
  | nil => rfl
  | cons s l ih => simp only [shrs, ih, shr_zero]; rfl
theorem warm_cold (h : Int) (l : List Sl) : warmL 0 (l.map coldS) = (warmL h l).map coldS := by
  unfold warmL warmK
  simp only [List.length_map, vol_cold, getD_cold, shr_zero, shrs_zero, List.map_set, List.map_append, List.map_map, ← List.map_take, ← List.map_drop]
  rfl
/-- what of a circuit is the same without heat -/
structure Cold (y z : Yx) : Prop where
  ps : z.ps = y.ps.map coldP
  t : z.t = coldS y.t
  lv : z.r.s.lv = y.r.s.lv
  fv : z.r.s.fv = y.r.s.fv
theorem pipeAt_cold {y z : Yx} (h : z.ps = y.ps.map coldP) (p : Nat) : z.ps.getD p ⟨0, []⟩ = coldP (y.ps.getD p ⟨0, []⟩) := by
  rw [h]
  simp only [List.getD, List.getElem?_map]
  cases y.ps[p]? <;> rfl
theorem err_cold {y z : Yx} (h : Cold y z) {e : Ev} (hk : 0 ≤ e.k ∧ e.k ≤ 3) (he : errE y e ≠ 1) : errE z (coldE e) = errE y e := by
  obtain ⟨k, p, a, w⟩ := e
  simp only [errE, coldE] at he hk ⊢
  unfold doErr at he ⊢
  have hl : z.ps.length = y.ps.length := by rw [h.ps, List.length_map]
  cases hv : evOk k p a w y.ps.length
  · rw [hv] at he; simp at he
  have hv2 : evOk k p a 0 z.ps.length = true := by
    rw [hl]
    have h00 : hB 0 = true := rfl
    unfold evOk at hv ⊢
    by_cases k0 : k = 0
    · rw [if_pos k0] at hv ⊢; exact hv
    rw [if_neg k0] at hv ⊢
    by_cases k1 : k = 1
    · rw [if_pos k1] at hv ⊢; simp only [Bool.and_eq_true] at hv ⊢; exact ⟨hv.1, h00⟩
    rw [if_neg k1] at hv ⊢
    by_cases k2 : k = 2
    · rw [if_pos k2] at hv ⊢; exact hv
    rw [if_neg k2] at hv ⊢
    by_cases k3 : k = 3
    · rw [if_pos k3] at hv ⊢; simp only [Bool.and_eq_true] at hv ⊢; exact ⟨hv.1, h00⟩
    omega
  have e1 : (pipeAt z p).l = [] ↔ (pipeAt y p).l = [] := by
    have := pipeAt_cold h.ps p.toNat
    simp only [pipeAt, this, coldP, List.map_eq_nil_iff]
  have e2 : z.t.v = y.t.v := by rw [h.t]; rfl
  rw [hv2, e2]
  simp only [Bool.true_eq_false, if_false, e1]
  by_cases k4 : k = 4
  · omega
  simp [k4]
theorem do_cold {y z : Yx} (h : Cold y z) {e : Ev} (hk : 0 ≤ e.k ∧ e.k ≤ 3) : Cold (doE y e) (doE z (coldE e)) := by
  obtain ⟨k, p, a, w⟩ := e
  have hl : z.ps.length = y.ps.length := by rw [h.ps, List.length_map]
  have hp := pipeAt_cold h.ps p.toNat
  simp only at hk
  show Cold (doY y k p a w) (doY z k p a 0)
  unfold doY
  by_cases k0 : k = 0
  · rw [if_pos k0, if_pos k0]
    have f := flow_cold y.ps.length (y.ps, takeR y.t a) (takeO y.t a)
    simp only [coldX] at f
    refine ⟨?_, ?_, h.lv, h.fv⟩
    · simp only [pumpY, toY, h.ps, h.t, takeO_cold, takeR_cold, f, List.length_map]
    · simp only [pumpY, toY, h.ps, h.t, takeO_cold, takeR_cold, f, List.length_map]
  rw [if_neg k0, if_neg k0]
  by_cases k1 : k = 1
  · rw [if_pos k1, if_pos k1]
    refine ⟨?_, h.t, h.lv, h.fv⟩
    simp only [warmY, hp]
    simp only [h.ps, List.map_set]
    congr 1
    simp only [coldP, warm_cold w]
  rw [if_neg k1, if_neg k1]
  by_cases k2 : k = 2
  · rw [if_pos k2, if_pos k2]
    refine ⟨?_, h.t, ?_, h.fv⟩
    · simp only [leakY, leakN, leakPs, hp]
      simp only [h.ps, List.map_set, coldP, vol_cold, drain_cold]
    · simp only [leakY, leakN, leakR, hp, coldP, vol_cold, drain_cold, h.lv]
  rw [if_neg k2, if_neg k2]
  by_cases k3 : k = 3
  · rw [if_pos k3, if_pos k3]
    refine ⟨h.ps, ?_, h.lv, ?_⟩
    · simp only [fillY, h.t]; exact add_cold _ ⟨a, w⟩
    · simp only [fillY, fillS, h.fv]
  omega
theorem evs_cold (l : List Ev) : ∀ y z : Yx, Cold y z → (∀ e ∈ l, 0 ≤ e.k ∧ e.k ≤ 3) → Cold (evs y l) (evs z (l.map coldE)) := by
  induction l with
  | nil => intro y z h _; exact h
  | cons e l ih =>
    intro y z h hk
    have := ih (doE y e) (doE z (coldE e)) (do_cold h (hk e (by simp))) (fun x hx => hk x (by simp [hx]))
    simpa [evs] using this
theorem bad_cold (l : List Ev) : ∀ y z : Yx, Cold y z → (∀ e ∈ l, 0 ≤ e.k ∧ e.k ≤ 3) → (∀ i, bad y l ≠ some (i, 1)) → bad z (l.map coldE) = bad y l := by
  induction l with
  | nil => intro y z _ _ _; rfl
  | cons e l ih =>
    intro y z h hk hb
    have k0 := hk e (by simp)
    simp only [bad] at hb
    have he : errE y e ≠ 1 := by
      intro h1
      rw [h1] at hb
      exact hb 0 (by simp)
    have e1 := err_cold h k0 he
    simp only [List.map_cons, bad, e1]
    by_cases h0 : errE y e = 0
    · rw [if_pos h0] at hb
      rw [if_pos h0, if_pos h0, ih _ _ (do_cold h k0) (fun x hx => hk x (by simp [hx]))]
      intro i hi
      rw [hi] at hb
      exact hb (i + 1) rfl
    · rw [if_neg h0, if_neg h0]
theorem brineB_cold {t : Sl} {ps : List Pp} {heat hroom : Int} (h : brineB t ps heat hroom = true) : brineB (coldS t) (ps.map coldP) 0 0 = true := by
  unfold brineB at h ⊢
  simp only [Bool.and_eq_true, decide_eq_true_eq, List.all_eq_true, List.length_map] at h ⊢
  obtain ⟨⟨⟨⟨⟨⟨h1, h2⟩, h3⟩, h4⟩, h5⟩, h6⟩, h7⟩ := h
  have h00 : hB 0 = true := rfl
  refine ⟨⟨⟨⟨⟨⟨?_, h2⟩, h3⟩, ?_⟩, h00⟩, by omega⟩, by omega⟩
  · simp only [tankB, Bool.or_eq_true, Bool.and_eq_true, decide_eq_true_eq] at h1 ⊢
    rcases h1 with h1 | h1
    · left; rw [h1]; rfl
    · right; exact ⟨h1.1, h00⟩
  · intro q hq
    obtain ⟨p, hp, rfl⟩ := List.mem_map.1 hq
    have := h4 p hp
    simp only [pipeB, Bool.and_eq_true, decide_eq_true_eq, List.all_eq_true, coldP, List.length_map, vol_cold] at this ⊢
    obtain ⟨⟨⟨a1, a2⟩, a3⟩, a4⟩ := this
    refine ⟨⟨⟨a1, a2⟩, ?_⟩, a4⟩
    intro s hs
    obtain ⟨x, hx, rfl⟩ := List.mem_map.1 hs
    exact ⟨(a3 x hx).1, h00⟩
/-- what Play without heat leaves, where it does not end with 1 -/
theorem cold_play {t : Sl} {ps : List Pp} {heat hroom : Int} {l : List Ev} (hv : brineB t ps heat hroom = true) (hk : ∀ e ∈ l, 0 ≤ e.k ∧ e.k ≤ 3) {o : Option Yx} {i : Nat} {x : Int} (h : playR t ps heat hroom l = (o, i, x)) (hx : x ≠ 1) :
    ∃ o2, playR (coldS t) (ps.map coldP) 0 0 (l.map coldE) = (o2, i, x) ∧ (o = none ∧ o2 = none ∨ ∃ y z, o = some y ∧ o2 = some z ∧ Cold y z) := by
  have c0 : Cold (y0 t ps heat hroom) (y0 (coldS t) (ps.map coldP) 0 0) := ⟨rfl, rfl, rfl, rfl⟩
  have hv2 := brineB_cold hv
  unfold playR at h ⊢
  rw [if_neg (by simp [hv])] at h
  rw [if_neg (by simp [hv2]), List.length_map]
  by_cases h6 : 256 < l.length
  · rw [if_pos h6] at h ⊢
    cases h
    exact ⟨_, rfl, .inl ⟨rfl, rfl⟩⟩
  rw [if_neg h6] at h ⊢
  have hb : ∀ j, bad (y0 t ps heat hroom) l ≠ some (j, 1) := by
    intro j hj
    rw [hj] at h
    cases h
    exact hx rfl
  rw [bad_cold _ _ _ c0 hk hb]
  cases he : bad (y0 t ps heat hroom) l with
  | none =>
    rw [he] at h
    cases h
    exact ⟨_, rfl, .inr ⟨_, _, rfl, rfl, evs_cold _ _ _ c0 hk⟩⟩
  | some q =>
    rw [he] at h
    cases h
    exact ⟨_, rfl, .inl ⟨rfl, rfl⟩⟩
end Go.Proofs.Ytjfopmjphiddiaa

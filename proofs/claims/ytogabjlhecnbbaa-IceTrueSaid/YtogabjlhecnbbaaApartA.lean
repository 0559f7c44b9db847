/- What Play does to events in two parts, and to one zone alone, plainly. -/
import Derived.Test.YtogabjlhecnbbaaEndsA
namespace Go.Proofs.Ytogabjlhecnbbaa
open Go.RowKit Go.Shelf
theorem Sm.add_assoc (s t u : Sm) : (s.add t).add u = s.add (t.add u) := by
  unfold Sm.add; simp only [Sm.mk.injEq]; omega
theorem Sm.add_zero (s : Sm) : s.add Sm.zero = s := by cases s; simp [Sm.add]
theorem loopE_sum (e : Ev) : ∀ (n i : Nat) (zs : List Zn) (s : Sm), loopE e i n (zs, s) = (((loopE e i n (zs, Sm.zero)).1.1, s.add (loopE e i n (zs, Sm.zero)).1.2), (loopE e i n (zs, Sm.zero)).2)
  | 0, i, zs, s => by simp [loopE, Sm.add_zero]
  | n + 1, i, zs, s => by
    unfold loopE
    by_cases he : zErr e (zs.getD i zd) = 0
    · simp only [he, if_true]
      have h1 : zStep e i (zs, s) = (zs.set i (zDo e (zs.getD i zd) Sm.zero).1, s.add (zDo e (zs.getD i zd) Sm.zero).2) := by unfold zStep; simp only; rw [zDo_add]
      have h2 : zStep e i (zs, Sm.zero) = (zs.set i (zDo e (zs.getD i zd) Sm.zero).1, (zDo e (zs.getD i zd) Sm.zero).2) := rfl
      rw [h1, h2, loopE_sum e n (i + 1) _ (s.add _), loopE_sum e n (i + 1) _ (zDo e (zs.getD i zd) Sm.zero).2]
      simp only [Sm.add_assoc]
    · simp only [he, if_false, Sm.add_zero]
theorem evDo_sum (e : Ev) (zs : List Zn) (s : Sm) : evDo e (zs, s) = (((evDo e (zs, Sm.zero)).1.1, s.add (evDo e (zs, Sm.zero)).1.2), (evDo e (zs, Sm.zero)).2) := by
  unfold evDo
  simp only
  split
  · exact loopE_sum ..
  · simp only [Sm.add_zero]
theorem playL_sum : ∀ (es : List Ev) (zs : List Zn) (s : Sm) (i : Nat), playL es (zs, s) i = (((playL es (zs, Sm.zero) i).1.1, s.add (playL es (zs, Sm.zero) i).1.2), (playL es (zs, Sm.zero) i).2)
  | [], zs, s, i => by simp [playL, Sm.add_zero]
  | e :: l, zs, s, i => by
    unfold playL
    rw [evDo_sum e zs s]
    simp only
    by_cases h : (evDo e (zs, Sm.zero)).2 = 0
    · simp only [h, if_true]
      rw [playL_sum l _ (s.add _), playL_sum l (evDo e (zs, Sm.zero)).1.1 (evDo e (zs, Sm.zero)).1.2]
      simp only [Sm.add_assoc]
    · simp only [h, if_false, Sm.add_zero]
theorem playL_shift : ∀ (es : List Ev) (st : List Zn × Sm) (i j : Nat), (playL es st i).1 = (playL es st j).1 ∧ (playL es st i).2.2 = (playL es st j).2.2
  | [], _, _, _ => ⟨rfl, rfl⟩
  | e :: l, st, i, j => by
    unfold playL
    split
    · exact playL_shift l _ _ _
    · exact ⟨rfl, rfl⟩
theorem playL_app : ∀ (l1 l2 : List Ev) (st : List Zn × Sm) (i : Nat), (playL (l1 ++ l2) st i).2.2 = 0 → (playL l1 st i).2.2 = 0 ∧ (playL l2 (playL l1 st i).1 0).2.2 = 0 ∧ (playL (l1 ++ l2) st i).1 = (playL l2 (playL l1 st i).1 0).1
  | [], l2, st, i, h => by
    refine ⟨rfl, ?_, ?_⟩
    · exact (playL_shift l2 st i 0).2 ▸ h
    · exact (playL_shift l2 st i 0).1
  | e :: l, l2, st, i, h => by
    simp only [List.cons_append] at h ⊢
    unfold playL at h
    by_cases he : (evDo e st).2 = 0
    · rw [if_pos he] at h
      have hx : playL (e :: (l ++ l2)) st i = playL (l ++ l2) (evDo e st).1 (i + 1) := by rw [playL, if_pos he]
      have hy : playL (e :: l) st i = playL l (evDo e st).1 (i + 1) := by rw [playL, if_pos he]
      rw [hx, hy]
      exact playL_app l l2 (evDo e st).1 (i + 1) h
    · rw [if_neg he] at h; exact absurd h he
/-- a valid rink stays one -/
theorem playL_rink {es : List Ev} {zs : List Zn} {i : Nat} (hr : rinkOk zs = true) (h : (playL es (zs, Sm.zero) i).2.2 = 0) : rinkOk (playL es (zs, Sm.zero) i).1.1 = true := by
  have key : ∀ (l : List Ev) (st : List Zn × Sm) (i : Nat) (c : Int), st.1.length ≤ 24 → (∀ z ∈ st.1, z.ok = true) → st.2.Bd c → (playL l st i).2.2 = 0 → ∀ z ∈ (playL l st i).1.1, z.ok = true := by
    intro l
    induction l with
    | nil => intro st i c _ h2 _ _; exact h2
    | cons e l ih =>
      intro st i c h1 h2 h3 h4
      unfold playL at h4 ⊢
      by_cases h0 : (evDo e st).2 = 0
      · rw [if_pos h0] at h4 ⊢
        obtain ⟨g1, g2, g3⟩ := evDo_inv h1 h2 h3 h0
        exact ih _ _ _ (by omega) g2 g3 h4
      · rw [if_neg h0] at h4; exact absurd h4 h0
  have hp := rink_parts hr
  have := key es (zs, Sm.zero) i 0 hp.1 hp.2.2 (by unfold Sm.Bd; simp) h
  have hl := playL_len es (zs, Sm.zero) i
  simp only [rinkOk, Bool.and_eq_true, decide_eq_true_eq, List.all_eq_true]
  rw [hl]
  exact ⟨⟨hp.2.1, hp.1⟩, this⟩
/-- events in two parts leave what they leave in one, with sums that add up -/
theorem play_two {zs : List Zn} {l1 l2 : List Ev} (h : (playR zs (l1 ++ l2)).e = 0) :
    (playR zs l1).e = 0 ∧ (playR zs l1).i = l1.length ∧ (playR (playR zs l1).zs l2).e = 0 ∧ (playR (playR zs l1).zs l2).i = l2.length ∧ (playR (playR zs l1).zs l2).zs = (playR zs (l1 ++ l2)).zs ∧ (playR zs (l1 ++ l2)).s = (playR zs l1).s.add (playR (playR zs l1).zs l2).s := by
  obtain ⟨hr, hl, h0, e1⟩ := playR_ok h
  rw [List.length_append] at hl
  obtain ⟨g1, g2, g3⟩ := playL_app l1 l2 (zs, Sm.zero) 0 h0
  have e2 := playR_of hr (by omega) g1
  have hs := playL_sum l2 (playL l1 (zs, Sm.zero) 0).1.1 (playL l1 (zs, Sm.zero) 0).1.2 0
  rw [show ((playL l1 (zs, Sm.zero) 0).1.1, (playL l1 (zs, Sm.zero) 0).1.2) = (playL l1 (zs, Sm.zero) 0).1 from rfl] at hs
  rw [hs] at g2 g3
  simp only at g2 g3
  have e3 := playR_of (playL_rink hr g1) (by omega) g2
  rw [e2]
  simp only
  rw [e3, e1]
  simp only
  rw [g3]
  exact ⟨trivial, trivial, trivial, trivial, rfl, rfl⟩

/-- the events of one zone, as of a rink of its own -/
def ownE (z : Nat) (e : Ev) : Option Ev := if e.f ≤ z ∧ (z : Int) ≤ e.last then some { e with f := 0, t := 0 } else none
theorem loopE_at (e : Ev) : ∀ (n i : Nat) (st : List Zn × Sm) (j : Nat), j < st.1.length → (loopE e i n st).2 = 0 →
    (loopE e i n st).1.1.getD j zd = (if i ≤ j ∧ j < i + n then (zDo e (st.1.getD j zd) Sm.zero).1 else st.1.getD j zd) ∧ (i ≤ j ∧ j < i + n → zErr e (st.1.getD j zd) = 0)
  | 0, i, st, j, hj, h => ⟨by rw [if_neg (by omega)]; rfl, by omega⟩
  | n + 1, i, st, j, hj, h => by
    unfold loopE at h ⊢
    by_cases he : zErr e (st.1.getD i zd) = 0
    · rw [if_pos he] at h ⊢
      obtain ⟨h1, h2⟩ := loopE_at e n (i + 1) (zStep e i st) j (by simpa [zStep] using hj) h
      rw [h1]
      by_cases hij : j = i
      · subst hij
        rw [if_neg (by omega), if_pos (by omega)]
        refine ⟨?_, fun _ => he⟩
        unfold zStep
        simp only
        rw [zDo_add]
        simp [hj]
      · have hg : (zStep e i st).1.getD j zd = st.1.getD j zd := by
          unfold zStep
          simp [Ne.symm hij]
        rw [hg] at h2 ⊢
        refine ⟨?_, fun hh => h2 (by omega)⟩
        by_cases hh : i ≤ j ∧ j < i + (n + 1)
        · rw [if_pos hh, if_pos (by omega)]
        · rw [if_neg hh, if_neg (by omega)]
    · rw [if_neg he] at h; exact absurd h he
theorem zDo_own (e : Ev) (z : Zn) (s : Sm) : zDo { e with f := 0, t := 0 } z s = zDo e z s ∧ zErr { e with f := 0, t := 0 } z = zErr e z := ⟨rfl, rfl⟩
theorem evDo_at {e : Ev} {st : List Zn × Sm} {z : Nat} (hz : z < st.1.length) (h : (evDo e st).2 = 0) (s : Sm) :
    match ownE z e with
    | none => (evDo e st).1.1.getD z zd = st.1.getD z zd
    | some e' => (evDo e' ([st.1.getD z zd], s)).2 = 0 ∧ (evDo e' ([st.1.getD z zd], s)).1.1 = [(evDo e st).1.1.getD z zd] := by
  unfold evDo at h
  cases hok : e.ok st.1.length
  · rw [hok] at h; simp at h
  · have he : evDo e st = loopE e e.f.toNat (e.last.toNat + 1 - e.f.toNat) st := by unfold evDo; rw [hok, if_pos rfl]
    rw [hok, if_pos rfl] at h
    obtain ⟨h1, h2⟩ := loopE_at e _ _ st z hz h
    rw [he, h1]
    have hok' := hok
    simp only [Ev.ok, Bool.and_eq_true, decide_eq_true_eq, Bool.or_eq_true] at hok
    have hlast : e.f ≤ e.last ∧ e.last < st.1.length := by unfold Ev.last; split <;> omega
    unfold ownE
    by_cases ht : e.f ≤ z ∧ (z : Int) ≤ e.last
    · rw [if_pos ht]
      simp only
      have hr : e.f.toNat ≤ z ∧ z < e.f.toNat + (e.last.toNat + 1 - e.f.toNat) := by omega
      rw [if_pos hr]
      have hE := h2 hr
      have hok2 : Ev.ok { e with f := 0, t := 0 } (([st.1.getD z zd] : List Zn).length : Int) = true := by
        simp only [Ev.ok, Bool.and_eq_true, decide_eq_true_eq, Bool.or_eq_true, List.length_cons, List.length_nil]
        refine ⟨⟨by omega, .inr (by omega)⟩, hok.2⟩
      have hl2 : (Ev.last { e with f := 0, t := 0 }) = 0 := by unfold Ev.last; split <;> rfl
      unfold evDo
      rw [hok2, if_pos rfl, hl2]
      simp only [Int.toNat_zero, Nat.zero_add, Nat.sub_zero]
      unfold loopE
      have hg : ([st.1.getD z zd] : List Zn).getD 0 zd = st.1.getD z zd := rfl
      simp only [hg, (zDo_own e _ s).2, hE, if_true]
      unfold loopE
      refine ⟨rfl, ?_⟩
      unfold zStep
      simp only [hg, (zDo_own e _ s).1, List.set_cons_zero]
      rw [zDo_add]
    · rw [if_neg ht]
      simp only
      rw [if_neg (by omega)]
theorem playL_own (z : Nat) : ∀ (es : List Ev) (st : List Zn × Sm) (s : Sm) (i j : Nat), z < st.1.length → (playL es st i).2.2 = 0 →
    (playL (es.filterMap (ownE z)) ([st.1.getD z zd], s) j).2.2 = 0 ∧ (playL (es.filterMap (ownE z)) ([st.1.getD z zd], s) j).1.1 = [(playL es st i).1.1.getD z zd]
  | [], _, _, _, _, _, _ => ⟨rfl, rfl⟩
  | e :: l, st, s, i, j, hz, h => by
    unfold playL at h
    by_cases he : (evDo e st).2 = 0
    · rw [if_pos he] at h
      have hx : playL (e :: l) st i = playL l (evDo e st).1 (i + 1) := by rw [playL, if_pos he]
      rw [hx]
      have ha := evDo_at hz he s
      have hz' : z < (evDo e st).1.1.length := by rw [evDo_len]; exact hz
      cases ho : ownE z e with
      | none =>
        rw [ho] at ha
        simp only at ha
        rw [List.filterMap_cons, ho]
        simp only
        rw [← ha]
        exact playL_own z l (evDo e st).1 s (i + 1) j hz' h
      | some e' =>
        rw [ho] at ha
        simp only at ha
        rw [List.filterMap_cons, ho]
        simp only
        have hy : playL (e' :: l.filterMap (ownE z)) ([st.1.getD z zd], s) j = playL (l.filterMap (ownE z)) (evDo e' ([st.1.getD z zd], s)).1 (j + 1) := by rw [playL, if_pos ha.1]
        rw [hy, show (evDo e' ([st.1.getD z zd], s)).1 = ([(evDo e st).1.1.getD z zd], (evDo e' ([st.1.getD z zd], s)).1.2) by rw [← ha.2]]
        exact playL_own z l (evDo e st).1 _ (i + 1) (j + 1) hz' h
    · rw [if_neg he] at h; exact absurd h he
/-- each zone alone, with its events, is what it is among all -/
theorem play_own1 {zs : List Zn} {es : List Ev} {z : Nat} (hz : z < zs.length) (h : (playR zs es).e = 0) :
    (playR [zs.getD z zd] (es.filterMap (ownE z))).e = 0 ∧ (playR [zs.getD z zd] (es.filterMap (ownE z))).zs = [(playR zs es).zs.getD z zd] := by
  obtain ⟨hr, hl, h0, e1⟩ := playR_ok h
  obtain ⟨g1, g2⟩ := playL_own z es (zs, Sm.zero) Sm.zero 0 0 hz h0
  have hr1 : rinkOk [zs.getD z zd] = true := by
    have hp := rink_parts hr
    have : zs.getD z zd = zs[z] := by simp [hz]
    rw [this]
    simp only [rinkOk, List.length_cons, List.length_nil, List.all_cons, List.all_nil, Bool.and_true]
    simpa using hp.2.2 _ (List.getElem_mem hz)
  have hl1 : (es.filterMap (ownE z)).length ≤ 256 := Nat.le_trans (List.length_filterMap_le _ _) hl
  rw [playR_of hr1 hl1 g1, e1]
  exact ⟨rfl, g2⟩
end Go.Proofs.Ytogabjlhecnbbaa

/- The contract of the document's Table. -/
import Derived.Test.YtogabjlhecnbbaaRefA
import Derived.Test.YtogabjlhecnbbaaIceBr
import Derived.BigQuiet
namespace Go.Proofs.Ytogabjlhecnbbaa
open Go.RowKit Go.Shelf
theorem tabFrom_iff : ∀ (ts : List (Int × Int)) (b : Int × Int), tabFrom b ts = true ↔ ∀ j, j < ts.length → bOk (if j = 0 then b else ts.getD (j - 1) (0, 0)) (ts.getD j (0, 0)) = true
  | [], b => by simp [tabFrom]
  | t :: r, b => by
    rw [tabFrom, Bool.and_eq_true, tabFrom_iff r t]
    constructor
    · rintro ⟨h0, h⟩ j hj
      cases j with
      | zero => simpa using h0
      | succ j =>
        have := h j (by simpa using hj)
        cases j with
        | zero => simpa using this
        | succ j => simpa using this
    · intro h
      refine ⟨by simpa using h 0 (by simp), fun j hj => ?_⟩
      have := h (j + 1) (by simpa using hj)
      cases j with
      | zero => simpa using this
      | succ j => simpa using this
theorem belowN {B n : Nat} {w w' : World} (h : Below B w w') : Below B w (w'.drewN n) := ⟨h.os, h.tape, h.output, h.size, h.block⟩
/-- the first k of a table are well -/
def TabTo (ts : List (Int × Int)) (k : Nat) : Prop := ∀ j, j < k → bOk (if j = 0 then (0, -1) else ts.getD (j - 1) (0, 0)) (ts.getD j (0, 0)) = true
theorem TabTo.low {ts : List (Int × Int)} {k : Nat} (h : TabTo ts k) : ∀ j, j < k → 1 ≤ (ts.getD j (0, 0)).1 ∧ 0 ≤ (ts.getD j (0, 0)).2 := by
  intro j
  induction j with
  | zero =>
    intro hj
    have := h 0 hj
    simp [bOk] at this
    simp
    omega
  | succ j ih =>
    intro hj
    have h1 := h (j + 1) hj
    have h2 := ih (by omega)
    simp [bOk] at h1
    simp at h2
    simp
    omega
theorem tabTo_bad {ts : List (Int × Int)} {k : Nat} (hk : k < ts.length) (h : bOk (if k = 0 then (0, -1) else ts.getD (k - 1) (0, 0)) (ts.getD k (0, 0)) = false) : tableOk ts = false := by
  unfold tableOk
  cases ht : tabFrom (0, -1) ts
  · simp
  · have := (tabFrom_iff ts (0, -1)).1 ht k hk
    rw [this] at h; cases h
theorem tabTo_all {ts : List (Int × Int)} (h : TabTo ts ts.length) : tableOk ts = decide (1 ≤ (ts.length : Int) ∧ (ts.length : Int) ≤ 16) := by
  unfold tableOk
  rw [(tabFrom_iff ts (0, -1)).2 (fun j hj => h j hj)]
  rw [Bool.eq_iff_iff]; simp; omega

set_option maxRecDepth 100000 in
set_option maxHeartbeats 2000000 in
theorem table_any (ts : List (Int × Int)) (A : Option Addr) (cap : Nat) (w : World) (ht : BRow w w.heap.size A ts) (hl : ts.length ≤ 9223372036854775807) :
    Calls Try.prog 49 #[.slice A ts.length cap] w fun e w' => e = .returned (.bool (tableOk ts)) ∧ Below w.heap.size w w' := by
  go_enter Try.func49, Try.ntmps49
  go_wp2_with fail
  go_loopw [3] (fun t wr => ∃ k : Nat, k ≤ ts.length ∧ k ≤ 17 ∧ t = .int .i64 k ∧ TabTo ts k ∧ Below w.heap.size w wr) (fun t _ => 17 - (intOf t).toNat)
  case atStart => exact ⟨0, Nat.zero_le _, by omega, rfl, fun j h => absurd h (by omega), Below.refl _ _⟩
  case round =>
    obtain ⟨k, hk, hk17, rfl, hT, hb⟩ := hrel
    have HT := Lib.hid hT
    clear hT
    by_cases hlt : k < ts.length
    · have hI : (k : Int) < ts.length := by omega
      by_cases h16 : (k : Int) ≤ 16
      · obtain ⟨g, o, rfl, hg, c0, c1⟩ := ht k hlt
        rw [← hb.cell (p := ⟨g, _, none⟩) hg] at c0 c1
        have hgr : g < wr.heap.size := Nat.lt_of_lt_of_le hg hb.size
        have hgd : ts.getD k (0, 0) = ts[k] := by simp [hlt]
        obtain ⟨⟨a, b⟩, hab⟩ : ∃ t, t = ts[k] := ⟨_, rfl⟩
        rw [← hab] at c0 c1 hgd
        simp only at c0 c1
        have HG := Lib.hid hgd
        clear hab hgd
        cases h1 : inB a 1 100000
        · have HX : Hid (tableOk ts = false) := by
            show _ = _
            apply tabTo_bad hlt
            rw [HG.out]
            simp only [inB, decide_eq_false_iff_not] at h1
            have hlow := HT.out.low
            by_cases k0 : k = 0
            · subst k0; simp only [if_true, bOk, decide_eq_false_iff_not]; omega
            · have := hlow (k - 1) (by omega); simp only [if_neg k0, bOk, decide_eq_false_iff_not]; omega
          go_wp2_with fail
          refine (in_any _ _ _ _).mono ?_
          rintro r wa ⟨rfl, rfl⟩
          rw [h1]
          go_wp2_with fail
          go_ret
          exact ⟨ret_bool HX.out.symm, hb⟩
        cases h2 : inB b 0 20000
        · have HX : Hid (tableOk ts = false) := by
            show _ = _
            apply tabTo_bad hlt
            rw [HG.out]
            simp only [inB, decide_eq_false_iff_not] at h2
            have hlow := HT.out.low
            by_cases k0 : k = 0
            · subst k0; simp only [if_true, bOk, decide_eq_false_iff_not]; omega
            · have := hlow (k - 1) (by omega); simp only [if_neg k0, bOk, decide_eq_false_iff_not]; omega
          go_wp2_with fail
          refine (in_any _ _ _ _).mono ?_
          rintro r wa ⟨rfl, rfl⟩
          rw [h1]
          go_wp2_with fail
          refine (in_any _ _ _ _).mono ?_
          rintro r wa ⟨rfl, rfl⟩
          rw [h2]
          go_wp2_with fail
          go_ret
          exact ⟨ret_bool HX.out.symm, hb⟩
        have HI := Lib.hid (And.intro h1 h2)
        by_cases k0 : k = 0
        · have HN : Hid (TabTo ts (k + 1)) := by
            show TabTo _ _
            intro j hj
            obtain rfl : j = k := by omega
            have q1 := HI.out.1
            have q2 := HI.out.2
            simp only [inB, decide_eq_true_eq] at q1 q2
            rw [HG.out]
            simp only [if_pos k0, bOk, decide_eq_true_eq]; omega
          have hkd : decide (0 < (k : Int)) = false := by simp; omega
          have hkd2 : decide (0 < k) = false := by simp; omega
          clear k0
          go_wp2_with fail
          refine (in_any _ _ _ _).mono ?_
          rintro r wa ⟨rfl, rfl⟩
          rw [h1]
          go_wp2_with fail
          refine (in_any _ _ _ _).mono ?_
          rintro r wa ⟨rfl, rfl⟩
          rw [h2]
          clear h1 h2
          go_wp2
          go_quiet (fail)
          go_wp2
          go_roundw
          case rel => exact ⟨k + 1, by omega, by omega, by go_num, HN.out, belowN hb⟩
          case measure => simp [intOf]; omega
        · obtain ⟨m, rfl⟩ : ∃ m, k = m + 1 := ⟨k - 1, by omega⟩
          obtain ⟨g', o', e', hg', d0, d1⟩ := ht m (by omega)
          obtain ⟨rfl, rfl⟩ : g = g' ∧ o = o' := by simpa using e'
          rw [← hb.cell (p := ⟨g, _, none⟩) hg] at d0 d1
          have hgd : ts.getD m (0, 0) = ts[m] := by simp [show m < ts.length by omega]
          obtain ⟨⟨c, d⟩, hcd⟩ : ∃ t, t = ts[m] := ⟨_, rfl⟩
          rw [← hcd] at d0 d1 hgd
          simp only at d0 d1
          have HG' := Lib.hid hgd
          clear hcd hgd e' k0
          have HNX : Hid (bOk (if m + 1 = 0 then (0, -1) else ts.getD (m + 1 - 1) (0, 0)) (ts.getD (m + 1) (0, 0)) = (decide (c < a) && decide (d < b))) := by
            show _ = _
            have q1 := HI.out.1
            have q2 := HI.out.2
            simp only [inB, decide_eq_true_eq] at q1 q2
            rw [HG.out, if_neg (by omega), Nat.add_sub_cancel, HG'.out]
            rw [Bool.eq_iff_iff]
            simp only [bOk, Bool.and_eq_true, decide_eq_true_eq]; omega
          have hkd : decide (0 < ((m + 1 : Nat) : Int)) = true := by simp
          go_wp2_with fail
          refine (in_any _ _ _ _).mono ?_
          rintro r wa ⟨rfl, rfl⟩
          rw [h1]
          go_wp2_with fail
          refine (in_any _ _ _ _).mono ?_
          rintro r wa ⟨rfl, rfl⟩
          rw [h2]
          clear h1 h2
          go_wp2
          by_cases hx : a ≤ c
          · have HX : Hid (tableOk ts = false) := by
              show _ = _
              apply tabTo_bad hlt
              rw [HNX.out]
              simp; omega
            go_quiet (fail)
            go_wp2
            go_ret
            exact ⟨ret_bool HX.out.symm, belowN hb⟩
          have hxd : decide (a ≤ c) = false := by simpa using hx
          by_cases hy : b ≤ d
          · have HX : Hid (tableOk ts = false) := by
              show _ = _
              apply tabTo_bad hlt
              rw [HNX.out]
              simp; omega
            go_quiet (fail)
            go_wp2
            go_ret
            exact ⟨ret_bool HX.out.symm, belowN hb⟩
          have hyd : decide (b ≤ d) = false := by simpa using hy
          have HN : Hid (TabTo ts (m + 1 + 1)) := by
            show TabTo _ _
            intro j hj
            by_cases e : j = m + 1
            · subst e
              rw [HNX.out]
              simp; omega
            · exact HT.out j (by omega)
          go_quiet (fail)
          go_wp2
          go_roundw
          case rel => exact ⟨m + 1 + 1, by omega, by omega, by go_num, HN.out, belowN hb⟩
          case measure => simp [intOf]; omega
      · have h16' : decide ((k : Int) ≤ 16) = false := by simpa using h16
        have HX : Hid (tableOk ts = false) := by
          show _ = _
          unfold tableOk
          have : decide (ts.length ≤ 16) = false := by simp; omega
          simp [this]
        have HY : Hid (inB ts.length 1 16 = false) := by show _ = _; simp only [inB, decide_eq_false_iff_not]; omega
        go_wp2_with fail
        refine (in_any _ _ _ _).mono ?_
        rintro r wa ⟨rfl, rfl⟩
        rw [HY.out]
        go_wp2_with fail
        go_ret
        exact ⟨ret_bool HX.out.symm, hb⟩
    · have hkz : k = ts.length := by omega
      subst hkz
      have HX := Lib.hid (tabTo_all HT.out)
      go_wp2_with fail
      refine (in_any _ _ _ _).mono ?_
      rintro r wa ⟨rfl, rfl⟩
      go_wp2_with fail
      go_ret
      exact ⟨ret_bool (by rw [HX.out]; rfl), hb⟩
end Go.Proofs.Ytogabjlhecnbbaa

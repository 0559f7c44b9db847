/- Contracts: validCurve, validAir, onCurve. -/
import Derived.Test.YtdmpkeaanaoeaaaAirB
namespace Go.Proofs.Ytdmpkeaanaoeaaa
open Go.RowKit
theorem ret_bool {a b : Bool} (h : a = b) : Ending.returned (.bool a) = .returned (.bool b) := by rw [h]
theorem below_dr {W w : World} (h : Below W.heap.size W w) : Below W.heap.size W w.drew := ⟨h.os, h.tape, h.output, h.size, h.block⟩
theorem below_drN {W w : World} (h : Below W.heap.size W w) (n : Nat) : Below W.heap.size W (w.drewN n) := ⟨h.os, h.tape, h.output, h.size, h.block⟩
set_option maxRecDepth 100000 in
set_option maxHeartbeats 2000000 in
theorem curve_any (T H : List Int) (A B : Option Addr) (ca cb : Nat) (W : World) (hT : IRow W W.heap.size A T) (hH : IRow W W.heap.size B H) (lT : T.length ≤ 9223372036854775807) (lH : H.length ≤ 9223372036854775807) :
    Calls Try.prog 54 #[.slice A T.length ca, .slice B H.length cb] W (BoolPost (decide (T.length = H.length) && crvB T H T.length) W) := by
  have HR := Lib.hid (And.intro hT hH)
  clear hT hH
  by_cases hlen : T.length = H.length
  · have hq : ((T.length : Int) != (H.length : Int)) = false := by simp; omega
    have HN0 := Lib.hid (show (decide (T.length = H.length) && crvB T H T.length) = crvB T H T.length by rw [decide_eq_true hlen, Bool.true_and])
    have HL := Lib.hid hlen
    clear hlen
    go_enter Try.func54, Try.ntmps54
    go_wp2
    go_loopg [13] T.length (fun gk i wr => ∃ k : Nat, k ≤ T.length ∧ T.length - k ≤ gk ∧ i = .int .i64 k ∧ Hid (Below W.heap.size W wr) ∧ Hid (crvB T H k = true))
    case atStart => exact ⟨0, Nat.zero_le _, Nat.le_refl _, rfl, Below.refl _ _, by show _ = _; rfl⟩
    case round =>
      obtain ⟨k, hk, hgk, rfl, HW, HC⟩ := hrel
      by_cases hlt : k < T.length
      · have hlt' : (k : Int) < T.length := by omega
        have hltH : (k : Int) < H.length := by have := HL.out; omega
        have hltn : k < H.length := by omega
        obtain ⟨g, o, rfl, hg, c0⟩ := HR.out.1.below HW.out k hlt
        obtain ⟨g', o', rfl, hg', d0⟩ := HR.out.2.below HW.out k hltn
        have hs := crvB_succ T H k
        rw [HC.out, Bool.true_and] at hs
        have HS := Lib.hid hs
        have HFalse : crvAt T H k = false → Hid ((decide (T.length = H.length) && crvB T H T.length) = false) := fun h => by
          show _ = _
          rw [HN0.out]
          unfold crvB
          rw [List.all_eq_false]
          exact ⟨k, by simpa using hlt, by rw [h]; simp⟩
        have HD : crvAt T H k = (inB T[k] (-500) 500 && (inB H[k] 1 100000 && (decide (k = 0) || decide (T.getD (k - 1) 0 < T[k] ∧ H.getD (k - 1) 0 ≤ H[k])))) := by
          unfold crvAt inB; rw [getD_lt hlt, getD_lt hltn]
        rw [HD] at HFalse
        have HS2 := Lib.hid (HS.out.trans HD)
        have hT1 := fun w => within_any T[k] (-500) 500 w
        have hH1 := fun w => within_any H[k] 1 100000 w
        obtain ⟨x, hx⟩ : ∃ x, x = T[k] := ⟨_, rfl⟩
        obtain ⟨y, hy⟩ : ∃ y, y = H[k] := ⟨_, rfl⟩
        rw [← hx] at c0 hT1 HFalse HS2
        rw [← hy] at d0 hH1 HFalse HS2
        have HTP : 0 < k → ∃ z, z = T.getD (k - 1) 0 ∧ wr.cell? ⟨g, o + (k - 1), none⟩ = some (.int .i64 z) := fun h0 => by
          obtain ⟨g2, o2, e, -, c⟩ := HR.out.1.below HW.out (k - 1) (by omega)
          simp only [Option.some.injEq, Addr.mk.injEq, and_true] at e
          obtain ⟨rfl, rfl⟩ := e
          exact ⟨_, rfl, by rw [getD_lt (show k - 1 < T.length by omega)]; exact c⟩
        have HHP : 0 < k → ∃ z, z = H.getD (k - 1) 0 ∧ wr.cell? ⟨g', o' + (k - 1), none⟩ = some (.int .i64 z) := fun h0 => by
          obtain ⟨g2, o2, e, -, c⟩ := HR.out.2.below HW.out (k - 1) (by omega)
          simp only [Option.some.injEq, Addr.mk.injEq, and_true] at e
          obtain ⟨rfl, rfl⟩ := e
          exact ⟨_, rfl, by rw [getD_lt (show k - 1 < H.length by omega)]; exact c⟩
        have HTQ := Lib.hid HTP
        have HHQ := Lib.hid HHP
        clear HTP HHP
        have HF := Lib.hid HFalse
        clear hx hy hs HS HD HFalse hltn
        cases h1 : inB x (-500) 500 <;> rw [h1] at hT1 HF HS2
        · have HE := HF.out rfl
          clear HF HS2 h1 hH1
          have HC1 := Lib.hid hT1
          clear hT1
          go_wp2_with fail
          refine (HC1.out _).mono ?_
          rintro e w3 ⟨rfl, rfl⟩
          go_wp2_with fail
          go_ret
          exact ⟨ret_bool HE.out.symm, HW.out⟩
        cases h2 : inB y 1 100000 <;> rw [h2] at hH1 HF HS2
        · have HE := HF.out rfl
          clear HF HS2 h1 h2
          have HC1 := Lib.hid hT1
          have HC2 := Lib.hid hH1
          clear hT1 hH1
          go_wp2_with fail
          refine (HC1.out _).mono ?_
          rintro e w3 ⟨rfl, rfl⟩
          go_wp2_with fail
          refine (HC2.out _).mono ?_
          rintro e w3 ⟨rfl, rfl⟩
          go_wp2_with fail
          go_ret
          exact ⟨ret_bool HE.out.symm, HW.out⟩
        have HC1 := Lib.hid hT1
        have HC2 := Lib.hid hH1
        clear hT1 hH1 h1 h2
        rcases Nat.eq_zero_or_pos k with hk0 | hk0
        · subst hk0
          have HX := Lib.hid (HS2.out)
          rw [Nat.add_zero] at c0 d0
          clear HF HTQ HHQ hlt HS2
          go_wp2_with fail
          refine (HC1.out _).mono ?_
          rintro e w3 ⟨rfl, rfl⟩
          go_wp2_with fail
          refine (HC2.out _).mono ?_
          rintro e w3 ⟨rfl, rfl⟩
          go_wp2_with fail
          go_quiet (fail)
          go_wp2_with fail
          go_roundg (T.length - 1)
          case measure => omega
          case rel => exact ⟨1, by omega, Nat.le_refl _, by go_num, below_drN HW.out _, by show _ = _; rw [HX.out]; rfl⟩
        · obtain ⟨z, hz, cz⟩ := HTQ.out hk0
          obtain ⟨u, hu, cu⟩ := HHQ.out hk0
          rw [← hz, ← hu, decide_eq_false (show ¬ k = 0 by omega), Bool.false_or, Bool.true_and, Bool.true_and] at HF HS2
          have hk1 : (0 : Int) < k := by omega
          have hk2 : (1 : Int) ≤ k := by omega
          have hk3 : (k : Int) - 1 < T.length := by omega
          have hk4 : (k : Int) - 1 < H.length := by omega
          have e0 : 0 ≤ (k : Int) - 1 := by omega
          have e1 : ((k : Int) - 1).toNat = k - 1 := by omega
          have e2 : IntKind.i64.wrap ((k : Int) - 1) = (k : Int) - 1 := IntWalk.i64_in _ (by omega)
          clear hz hu HTQ HHQ
          by_cases h1 : x ≤ z
          · have HE := HF.out (decide_eq_false (by omega))
            clear HF HS2
            go_wp2_with fail
            refine (HC1.out _).mono ?_
            rintro e w3 ⟨rfl, rfl⟩
            go_wp2_with fail
            refine (HC2.out _).mono ?_
            rintro e w3 ⟨rfl, rfl⟩
            go_wp2_with fail
            go_quiet (fail)
            go_wp2_with fail
            go_ret
            exact ⟨ret_bool HE.out.symm, below_drN HW.out _⟩
          by_cases h2 : y < u
          · have HE := HF.out (decide_eq_false (by omega))
            clear HF HS2
            go_wp2_with fail
            refine (HC1.out _).mono ?_
            rintro e w3 ⟨rfl, rfl⟩
            go_wp2_with fail
            refine (HC2.out _).mono ?_
            rintro e w3 ⟨rfl, rfl⟩
            go_wp2_with fail
            go_quiet (fail)
            go_wp2_with fail
            go_ret
            exact ⟨ret_bool HE.out.symm, below_drN HW.out _⟩
          have HX := Lib.hid (HS2.out.trans (decide_eq_true (by omega)))
          clear HF HS2
          go_wp2_with fail
          refine (HC1.out _).mono ?_
          rintro e w3 ⟨rfl, rfl⟩
          go_wp2_with fail
          refine (HC2.out _).mono ?_
          rintro e w3 ⟨rfl, rfl⟩
          go_wp2_with fail
          go_quiet (fail)
          go_wp2_with fail
          go_roundg (T.length - (k + 1))
          case measure => omega
          case rel => exact ⟨k + 1, by omega, Nat.le_refl _, by go_num, below_drN HW.out _, HX.out⟩
      · have hge : ¬ (k : Int) < T.length := by omega
        have hk' : k = T.length := by omega
        have HX := Lib.hid (show (decide (T.length = H.length) && crvB T H T.length) = true by rw [HN0.out, ← hk']; exact HC.out)
        clear hk'
        go_wp2_with fail
        go_ret
        exact ⟨ret_bool HX.out.symm, HW.out⟩
  · have hq : ((T.length : Int) != (H.length : Int)) = true := by simp; omega
    have HN0 := Lib.hid (show (decide (T.length = H.length) && crvB T H T.length) = false by rw [decide_eq_false hlen, Bool.false_and])
    clear hlen
    go_enter Try.func54, Try.ntmps54
    go_wp2
    go_ret
    exact ⟨ret_bool HN0.out.symm, Below.refl _ _⟩
end Go.Proofs.Ytdmpkeaanaoeaaa

/- The law of Worst. -/
import Derived.Test.YtfdjoldcdfbfhaaRfE
namespace Go.Proofs.Ytfdjoldcdfbfhaa
open Go.Shelf Go.RowKit
theorem minB_in (a b : Int) : minB a b = (inB b 0 2000 && inB a 0 b) := by
  rw [Bool.eq_iff_iff]; unfold minB inB; simp; omega
theorem gasB_in (n : Int) : gasB n = inB n 0 1048576 := rfl
set_option maxRecDepth 100000 in
set_option maxHeartbeats 4000000 in
theorem refWorstTop_any (l : List Sn) (A : Option Addr) (cap : Nat) (V F t rise frm to : Int) (W : World) (hr : NRow W W.heap.size A l) (hl : l.length ≤ 9223372036854775807) :
    Calls Try.prog 20 #[vtv A l.length cap V F, .int .i64 t, .int .i64 rise, .int .i64 frm, .int .i64 to] W (TripPost (worstR l V F t rise frm to) W) := by
  have HR := Lib.hid hr
  have HV := Lib.hid (fun (w : World) h => refVoting_any l A cap V F w h hl)
  have g1 := fun w => in_any t 0 1048576 w
  have g2 := fun w => in_any rise 0 1048576 w
  have g3 := fun w => in_any to 0 2000 w
  have g4 := fun w => in_any frm 0 to w
  have hh : Has (W.alloc (.cells #[.slice A l.length cap, .int .i64 V, .int .i64 F] 24)) W.heap.size 24 #[.slice A l.length cap, .int .i64 V, .int .i64 F] := Has.new W 24 _
  have hb0 := below_one W (.cells #[.slice A l.length cap, .int .i64 V, .int .i64 F] 24)
  have HB := Lib.hid (And.intro hb0 hh)
  clear hb0 hh hr
  cases hv : vvB l V F
  · have HN := Lib.hid (show worstR l V F t rise frm to = (0, 0, 1) by unfold worstR; rw [if_pos hv])
    rw [hv] at HV
    clear g1 g2 g3 g4 hv
    unfold vtv at *
    go_enter Try.func20, Try.ntmps20
    go_wp2_with fail
    refine (HV.out _ (HR.out.step HB.out.1)).mono ?_
    rintro e w2 ⟨rfl, hb2⟩
    have H2 := Lib.hid (below_seq HB.out.1 hb2)
    clear hb2
    go_wp2_with fail
    refine bodyPost_ret (results_tmp3 rfl _ _ _) rfl ?_
    exact ⟨by rw [HN.out]; rfl, H2.out⟩
  have HVV := Lib.hid ((vvB_iff l V F).1 hv)
  rw [hv] at HV
  have HE : (inB t 0 1048576 && (inB rise 0 1048576 && (inB to 0 2000 && inB frm 0 to))) = false → Hid (worstR l V F t rise frm to = (0, 0, 2)) := fun h => by
    show _ = _
    unfold worstR
    rw [if_neg (by rw [hv]; simp), if_pos (by rw [minB_in, gasB_in, gasB_in, Bool.and_assoc]; exact h)]
  have HV2 := Lib.hid hv
  clear hv
  unfold vtv at *
  cases h1 : inB t 0 1048576 <;> rw [h1] at g1
  · have HN := HE (by rw [h1]; rfl)
    clear g2 g3 g4 h1 HE
    go_enter Try.func20, Try.ntmps20
    go_wp2_with fail
    refine (HV.out _ (HR.out.step HB.out.1)).mono ?_
    rintro e w2 ⟨rfl, hb2⟩
    have H2 := Lib.hid (below_seq HB.out.1 hb2)
    clear hb2
    go_wp2_with fail
    refine (g1 _).mono ?_
    rintro e w3 ⟨rfl, rfl⟩
    go_wp2_with fail
    refine bodyPost_ret (results_tmp3 rfl _ _ _) rfl ?_
    exact ⟨by rw [HN.out]; rfl, H2.out⟩
  cases h2 : inB rise 0 1048576 <;> rw [h2] at g2
  · have HN := HE (by rw [h1, h2]; rfl)
    clear g3 g4 h1 h2 HE
    go_enter Try.func20, Try.ntmps20
    go_wp2_with fail
    refine (HV.out _ (HR.out.step HB.out.1)).mono ?_
    rintro e w2 ⟨rfl, hb2⟩
    have H2 := Lib.hid (below_seq HB.out.1 hb2)
    clear hb2
    go_wp2_with fail
    refine (g1 _).mono ?_
    rintro e w3 ⟨rfl, rfl⟩
    go_wp2_with fail
    refine (g2 _).mono ?_
    rintro e w3 ⟨rfl, rfl⟩
    go_wp2_with fail
    refine bodyPost_ret (results_tmp3 rfl _ _ _) rfl ?_
    exact ⟨by rw [HN.out]; rfl, H2.out⟩
  cases h3 : inB to 0 2000 <;> rw [h3] at g3
  · have HN := HE (by rw [h1, h2, h3]; rfl)
    clear g4 h1 h2 h3 HE
    go_enter Try.func20, Try.ntmps20
    go_wp2_with fail
    refine (HV.out _ (HR.out.step HB.out.1)).mono ?_
    rintro e w2 ⟨rfl, hb2⟩
    have H2 := Lib.hid (below_seq HB.out.1 hb2)
    clear hb2
    go_wp2_with fail
    refine (g1 _).mono ?_
    rintro e w3 ⟨rfl, rfl⟩
    go_wp2_with fail
    refine (g2 _).mono ?_
    rintro e w3 ⟨rfl, rfl⟩
    go_wp2_with fail
    refine (g3 _).mono ?_
    rintro e w3 ⟨rfl, rfl⟩
    go_wp2_with fail
    refine bodyPost_ret (results_tmp3 rfl _ _ _) rfl ?_
    exact ⟨by rw [HN.out]; rfl, H2.out⟩
  cases h4 : inB frm 0 to <;> rw [h4] at g4
  · have HN := HE (by rw [h1, h2, h3, h4]; rfl)
    clear h1 h2 h3 h4 HE
    go_enter Try.func20, Try.ntmps20
    go_wp2_with fail
    refine (HV.out _ (HR.out.step HB.out.1)).mono ?_
    rintro e w2 ⟨rfl, hb2⟩
    have H2 := Lib.hid (below_seq HB.out.1 hb2)
    clear hb2
    go_wp2_with fail
    refine (g1 _).mono ?_
    rintro e w3 ⟨rfl, rfl⟩
    go_wp2_with fail
    refine (g2 _).mono ?_
    rintro e w3 ⟨rfl, rfl⟩
    go_wp2_with fail
    refine (g3 _).mono ?_
    rintro e w3 ⟨rfl, rfl⟩
    go_wp2_with fail
    refine (g4 _).mono ?_
    rintro e w3 ⟨rfl, rfl⟩
    go_wp2_with fail
    refine bodyPost_ret (results_tmp3 rfl _ _ _) rfl ?_
    exact ⟨by rw [HN.out]; rfl, H2.out⟩
  have HN := show worstR l V F t rise frm to = worstE (worstP (atN l (V + F).toNat t rise) frm (to - frm + 1).toNat) by
    unfold worstR
    rw [if_neg (by rw [HV2.out]; simp), if_neg (by rw [minB_in, gasB_in, gasB_in, h1, h2, h3, h4]; simp)]
  simp only [inB, decide_eq_true_eq] at h1 h2 h3 h4
  have hW := fun w h => refWorst_any l A cap V F t rise frm to w h HVV.out ⟨h1.1, by omega⟩ h2 ⟨h4.1, h4.2, h3.2⟩
  obtain ⟨y, hy⟩ : ∃ y, worstP (atN l (V + F).toNat t rise) frm (to - frm + 1).toNat = y := ⟨_, rfl⟩
  rw [hy] at hW HN
  unfold vtv at hW
  have HW := Lib.hid hW
  have HNN := Lib.hid HN
  clear h1 h2 h3 h4 HE hW HN hy
  go_enter Try.func20, Try.ntmps20
  go_wp2_with fail
  refine (HV.out _ (HR.out.step HB.out.1)).mono ?_
  rintro e w2 ⟨rfl, hb2⟩
  have H2 := Lib.hid (And.intro (below_seq HB.out.1 hb2) (HB.out.2.below hb2 HB.out.2.lt))
  clear hb2
  have v0 : w2.cell? ⟨W.heap.size, 0, none⟩ = some (.slice A l.length cap) := H2.out.2.cell 0
  have v1 : w2.cell? ⟨W.heap.size, 1, none⟩ = some (.int .i64 V) := H2.out.2.cell 1
  have v2 : w2.cell? ⟨W.heap.size, 2, none⟩ = some (.int .i64 F) := H2.out.2.cell 2
  go_wp2_with fail
  refine (g1 _).mono ?_
  rintro e w3 ⟨rfl, rfl⟩
  go_wp2_with fail
  refine (g2 _).mono ?_
  rintro e w3 ⟨rfl, rfl⟩
  go_wp2_with fail
  refine (g3 _).mono ?_
  rintro e w3 ⟨rfl, rfl⟩
  go_wp2_with fail
  refine (g4 _).mono ?_
  rintro e w3 ⟨rfl, rfl⟩
  go_wp2_with fail
  refine (HW.out _ (HR.out.step H2.out.1)).mono ?_
  rintro e w4 ⟨rfl, hb4⟩
  have H4 := Lib.hid (H2.out.1.trans (hb4.mono H2.out.1.size))
  clear hb4
  cases y with
  | none =>
    simp only [refWE]
    go_wp2_with fail
    refine bodyPost_ret (results_tmp3 rfl _ _ _) rfl ?_
    exact ⟨by rw [HNN.out]; rfl, H4.out⟩
  | some x =>
    simp only [refWE]
    go_wp2_with fail
    refine bodyPost_ret (results_tmp3 rfl _ _ _) rfl ?_
    exact ⟨by rw [HNN.out]; rfl, H4.out⟩
def longB (to : Int) : Bool := decide (120 < to ∧ to ≤ 2000)
theorem long_any (n : Int) (w : World) : Calls Try.prog 18 #[.int .i64 n] w fun e w' => e = .returned (.bool (longB n)) ∧ w' = w := by
  have hn : ∀ c, (decide (120 < n ∧ n ≤ 2000) = c) → longB n = c := fun b h => h
  have h3 : ¬ 120 < n ∨ (120 < n ∧ ¬ n ≤ 2000) ∨ (120 < n ∧ n ≤ 2000) := by omega
  rcases h3 with h0 | ⟨h0, h1⟩ | ⟨h0, h1⟩
  rotate_right
  · have HN := Lib.hid (hn true (by simp; omega))
    clear hn
    go_enter Try.func18, Try.ntmps18
    go_wp2
    go_ret
    exact ⟨by rw [HN.out]; rfl, rfl⟩
  all_goals
    have HN := Lib.hid (hn false (by simp; omega))
    clear hn
    go_enter Try.func18, Try.ntmps18
    go_wp2
    go_ret
    exact ⟨by rw [HN.out]; rfl, rfl⟩
set_option maxRecDepth 100000 in
set_option maxHeartbeats 4000000 in
theorem worstLaw_any (l : List Sn) (A : Option Addr) (cap : Nat) (V F t rise frm to : Int) (W : World) (hr : NRow W W.heap.size A l) (hl : l.length ≤ 9223372036854775807) :
    Calls Try.prog 4 #[vtv A l.length cap V F, .int .i64 t, .int .i64 rise, .int .i64 frm, .int .i64 to] W (BoolPost true W) := by
  have HR := Lib.hid hr
  have hlong := fun w => long_any to w
  have H1 := Lib.hid (fun w h => Worst_any l A cap V F t rise frm to w h hl)
  have H2 := Lib.hid (fun w h => refWorstTop_any l A cap V F t rise frm to w h hl)
  obtain ⟨R, hR⟩ : ∃ R, R = worstR l V F t rise frm to := ⟨_, rfl⟩
  rw [← hR] at H1 H2
  have hh : Has (W.alloc (.cells #[.slice A l.length cap, .int .i64 V, .int .i64 F] 24)) W.heap.size 24 #[.slice A l.length cap, .int .i64 V, .int .i64 F] := Has.new W 24 _
  have hb0 := below_one W (.cells #[.slice A l.length cap, .int .i64 V, .int .i64 F] 24)
  have HB := Lib.hid (And.intro hb0 hh)
  clear hb0 hh hr hR
  unfold vtv at *
  by_cases h20 : (20 : Int) < l.length
  · go_enter Try.func4, Try.ntmps4
    go_wp2_with fail
    refine (alive_any _).mono ?_
    rintro e wb ⟨rfl, hb⟩
    have HF := Lib.hid (below_seq HB.out.1 hb)
    clear hb
    go_wp2_with fail
    go_ret
    exact ⟨rfl, HF.out⟩
  cases hlg : longB to <;> rw [hlg] at hlong
  · clear hlg
    go_enter Try.func4, Try.ntmps4
    go_wp2_with fail
    refine (hlong _).mono ?_
    rintro e wb ⟨rfl, rfl⟩
    go_wp2_with fail
    generalize W.alloc (.cells #[.slice A l.length cap, .int .i64 V, .int .i64 F] 24) = w0 at HB ⊢
    refine (H1.out _ (HR.out.step HB.out.1)).mono ?_
    rintro e w1 ⟨rfl, hb1⟩
    have H3 := Lib.hid (And.intro (HB.out.1.trans (hb1.mono HB.out.1.size)) (HB.out.2.below hb1 HB.out.2.lt))
    have v0 : w1.cell? ⟨W.heap.size, 0, none⟩ = some (.slice A l.length cap) := H3.out.2.cell 0
    have v1 : w1.cell? ⟨W.heap.size, 1, none⟩ = some (.int .i64 V) := H3.out.2.cell 1
    have v2 : w1.cell? ⟨W.heap.size, 2, none⟩ = some (.int .i64 F) := H3.out.2.cell 2
    clear hb1
    go_wp2_with fail
    refine (H2.out _ (HR.out.step H3.out.1)).mono ?_
    rintro e w2 ⟨rfl, hb2⟩
    have H4 := Lib.hid (H3.out.1.trans (hb2.mono H3.out.1.size))
    clear hb2 v0 v1 v2
    go_wp2_with fail
    refine (alive_any _).mono ?_
    rintro e wb ⟨rfl, hb⟩
    have HF := Lib.hid (H4.out.trans (hb.mono H4.out.size))
    clear hb
    go_wp2_with fail
    go_ret
    exact ⟨rfl, HF.out⟩
  · clear hlg
    go_enter Try.func4, Try.ntmps4
    go_wp2_with fail
    refine (hlong _).mono ?_
    rintro e wb ⟨rfl, rfl⟩
    go_wp2_with fail
    refine (alive_any _).mono ?_
    rintro e wb ⟨rfl, hb⟩
    have HF := Lib.hid (below_seq HB.out.1 hb)
    clear hb
    go_wp2_with fail
    go_ret
    exact ⟨rfl, HF.out⟩
end Go.Proofs.Ytfdjoldcdfbfhaa

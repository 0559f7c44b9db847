/- The law of Thresholds and Best. -/
import Derived.Test.YtfdjoldcdfbfhaaRfI
namespace Go.Proofs.Ytfdjoldcdfbfhaa
open Go.Shelf Go.RowKit
set_option maxRecDepth 100000 in
set_option maxHeartbeats 4000000 in
theorem bestsLaw_any (l : List Sn) (A : Option Addr) (cap : Nat) (V F limit rise calm frm to : Int) (W : World) (hr : NRow W W.heap.size A l) (hl : l.length ≤ 9223372036854775807) :
    Calls Try.prog 5 #[vtv A l.length cap V F, .int .i64 limit, .int .i64 rise, .int .i64 calm, .int .i64 frm, .int .i64 to] W (BoolPost true W) := by
  have HR := Lib.hid hr
  have hlong := fun w => long_any to w
  have C1 := Lib.hid (fun w h => Thresholds_any l A cap V F limit rise calm frm to w h hl)
  have C2 := Lib.hid (fun w h => refThresholds_any l A cap V F limit rise calm frm to w h hl)
  have C3 := Lib.hid (fun w h => Best_any l A cap F limit rise calm frm to w h hl)
  have C4 := Lib.hid (fun w h => refBest_any l A cap F limit rise calm frm to w h hl)
  obtain ⟨T, hT⟩ : ∃ T, T = thrR l V F limit rise calm frm to := ⟨_, rfl⟩
  obtain ⟨B, hBq⟩ : ∃ B, B = bestR l F limit rise calm frm to := ⟨_, rfl⟩
  rw [← hT] at C1 C2
  rw [← hBq] at C3 C4
  have heq : ∀ (a b : Int) w, (binOp .eql 38 (.agg #[.int .i64 a, .int .i64 b]) (.agg #[.int .i64 a, .int .i64 b])).run Try.prog w = .ok (.bool true) w := fun a b w => by rw [eql38, decide_eq_true ⟨rfl, rfl⟩]
  have hh : Has (W.alloc (.cells #[.slice A l.length cap, .int .i64 V, .int .i64 F] 24)) W.heap.size 24 #[.slice A l.length cap, .int .i64 V, .int .i64 F] := Has.new W 24 _
  have hb0 := below_one W (.cells #[.slice A l.length cap, .int .i64 V, .int .i64 F] 24)
  have HB := Lib.hid (And.intro hb0 hh)
  clear hb0 hh hr hT hBq
  unfold vtv at *
  by_cases h20 : (20 : Int) < l.length
  · clear heq
    go_enter Try.func5, Try.ntmps5
    go_wp2_with fail
    refine (alive_any _).mono ?_
    rintro e wb ⟨rfl, hb⟩
    have HF := Lib.hid (below_seq HB.out.1 hb)
    clear hb
    go_wp2_with fail
    go_ret
    exact ⟨rfl, HF.out⟩
  cases hlg : longB to <;> rw [hlg] at hlong
  · clear hlg
    go_enter Try.func5, Try.ntmps5
    go_wp2_with fail
    refine (hlong _).mono ?_
    rintro e wb ⟨rfl, rfl⟩
    go_wp2_with fail
    generalize W.alloc (.cells #[.slice A l.length cap, .int .i64 V, .int .i64 F] 24) = w0 at HB ⊢
    refine (C1.out _ (HR.out.step HB.out.1)).mono ?_
    rintro e w1 ⟨rfl, hb1⟩
    have hb1' := hb1.trans ((below_one w1 (.cells #[.int .i64 T.1, .int .i64 T.2.1] 38)).mono hb1.size)
    have H1 := Lib.hid (And.intro (HB.out.1.trans (hb1'.mono HB.out.1.size)) (And.intro (HB.out.2.below hb1' HB.out.2.lt) (Has.new w1 38 #[.int .i64 T.1, .int .i64 T.2.1])))
    have v0 := H1.out.2.1.cell 0
    have v1 := H1.out.2.1.cell 1
    have v2 := H1.out.2.1.cell 2
    simp at v0 v1 v2
    clear hb1 hb1'
    go_wp2_with fail
    generalize w1.alloc (.cells #[.int .i64 T.1, .int .i64 T.2.1] 38) = w2 at H1 ⊢
    generalize w1.heap.size = g1 at H1 ⊢
    clear v0 v1 v2
    refine (C2.out _ (HR.out.step H1.out.1)).mono ?_
    rintro e w3 ⟨rfl, hb1⟩
    have hb1' := hb1.trans ((below_one w3 (.cells #[.int .i64 T.1, .int .i64 T.2.1] 38)).mono hb1.size)
    have H2 := Lib.hid (And.intro (H1.out.1.trans (hb1'.mono H1.out.1.size)) (And.intro (H1.out.2.1.below hb1' H1.out.2.1.lt) (And.intro (H1.out.2.2.below hb1' H1.out.2.2.lt) (Has.new w3 38 #[.int .i64 T.1, .int .i64 T.2.1]))))
    have v0 := H2.out.2.1.cell 0
    have v2 := H2.out.2.1.cell 2
    simp at v0 v2
    clear hb1 hb1' H1
    go_wp2_with fail
    generalize w3.alloc (.cells #[.int .i64 T.1, .int .i64 T.2.1] 38) = w4 at H2 ⊢
    generalize w3.heap.size = g2 at H2 ⊢
    clear v0 v2
    refine (C3.out _ (HR.out.step H2.out.1)).mono ?_
    rintro e w5 ⟨rfl, hb1⟩
    have hb1' := hb1.trans ((below_one w5 (.cells #[.int .i64 B.2.1.1, .int .i64 B.2.1.2] 38)).mono hb1.size)
    have H3 := Lib.hid (And.intro (H2.out.1.trans (hb1'.mono H2.out.1.size)) (And.intro (H2.out.2.1.below hb1' H2.out.2.1.lt) (And.intro (H2.out.2.2.1.below hb1' H2.out.2.2.1.lt) (And.intro (H2.out.2.2.2.below hb1' H2.out.2.2.2.lt) (Has.new w5 38 #[.int .i64 B.2.1.1, .int .i64 B.2.1.2])))))
    have v0 := H3.out.2.1.cell 0
    have v2 := H3.out.2.1.cell 2
    simp at v0 v2
    clear hb1 hb1' H2
    go_wp2_with fail
    generalize w5.alloc (.cells #[.int .i64 B.2.1.1, .int .i64 B.2.1.2] 38) = w6 at H3 ⊢
    generalize w5.heap.size = g3 at H3 ⊢
    clear v0 v2
    refine (C4.out _ (HR.out.step H3.out.1)).mono ?_
    rintro e w7 ⟨rfl, hb1⟩
    have hb1' := hb1.trans ((below_one w7 (.cells #[.int .i64 B.2.1.1, .int .i64 B.2.1.2] 38)).mono hb1.size)
    have H4 := Lib.hid (And.intro (H3.out.1.trans (hb1'.mono H3.out.1.size)) (And.intro (H3.out.2.2.1.below hb1' H3.out.2.2.1.lt) (And.intro (H3.out.2.2.2.1.below hb1' H3.out.2.2.2.1.lt) (And.intro (H3.out.2.2.2.2.below hb1' H3.out.2.2.2.2.lt) (Has.new w7 38 #[.int .i64 B.2.1.1, .int .i64 B.2.1.2])))))
    have a0 := H4.out.2.1.cell 0; have a1 := H4.out.2.1.cell 1
    have b0 := H4.out.2.2.1.cell 0; have b1 := H4.out.2.2.1.cell 1
    have c0 := H4.out.2.2.2.1.cell 0; have c1 := H4.out.2.2.2.1.cell 1
    simp at a0 a1 b0 b1 c0 c1
    clear hb1 hb1' H3
    go_wp2_with fail
    refine (alive_any _).mono ?_
    rintro e wb ⟨rfl, hb⟩
    have HF := Lib.hid (H4.out.1.trans (hb.mono H4.out.1.size))
    clear hb
    go_wp2_with fail
    go_ret
    exact ⟨rfl, HF.out⟩
  · clear hlg heq
    go_enter Try.func5, Try.ntmps5
    go_wp2_with fail
    refine (hlong _).mono ?_
    rintro e wb ⟨rfl, rfl⟩
    go_wp2_with fail
    refine (alive_any _).mono ?_
    rintro e wb ⟨rfl, hb⟩
    have HF := Lib.hid (below_seq HB.out.1 hb)
    clear hb
    go_wp2_with fail
    go_ret
    exact ⟨rfl, HF.out⟩
end Go.Proofs.Ytfdjoldcdfbfhaa

/- The document's Holds. -/
import Derived.Test.YtdmpkeaanaoeaaaRfB
import Derived.Test.YtdmpkeaanaoeaaaLiA
namespace Go.Proofs.Ytdmpkeaanaoeaaa
open Go.RowKit
set_option maxRecDepth 100000 in
set_option maxHeartbeats 2000000 in
theorem dHolds_any (a : Air) (A B : Option Addr) (ca cb : Nat) (t : Int) (W : World) (h : AR W W.heap.size a A B) : Calls Try.prog 12 #[airv a A B ca cb, .int .i64 t] W (TwoPost (holdsR a t).1 (holdsR a t).2 W) := by
  have HA := Lib.hid h
  have HB := Lib.hid (And.intro (below_one W (.cells (airc a A B ca cb) 26)) (box_air W a A B ca cb))
  have H1 := Lib.hid (fun w h => rAir_any a A B ca cb w h)
  have H2 := Lib.hid (fun w h hn => rTemp_any a A B ca cb t w h hn)
  have H3 := Lib.hid (fun w h hv ho => rholds_any a A B ca cb t w h hv ho)
  obtain ⟨R, hR⟩ : ∃ R, R = holdsR a t := ⟨_, rfl⟩
  rw [← hR]
  have HRE := Lib.hid hR
  clear hR h
  unfold airv at *
  go_enter Try.func12, Try.ntmps12
  go_upto_region 1 with fail
  generalize W.alloc (.cells (airc a A B ca cb) 26) = w0 at HB ⊢
  have hcall := H1.out w0 (HA.out.step HB.out.1)
  have a0 : w0.cell? ⟨W.heap.size, 0, none⟩ = some (.int .i64 a.R) := HB.out.2.cell 0
  have a1 : w0.cell? ⟨W.heap.size, 1, none⟩ = some (.slice A a.T.length ca) := HB.out.2.cell 1
  have a2 : w0.cell? ⟨W.heap.size, 2, none⟩ = some (.slice B a.H.length cb) := HB.out.2.cell 2
  have a3 : w0.cell? ⟨W.heap.size, 3, none⟩ = some (.int .i64 a.b0) := HB.out.2.cell 3
  have a4 : w0.cell? ⟨W.heap.size, 4, none⟩ = some (.int .i64 a.b1) := HB.out.2.cell 4
  cases hv : airB a <;> rw [hv] at hcall
  · have HX := Lib.hid (show R = (0, 1) by rw [HRE.out]; unfold holdsR; rw [if_neg (by rw [hv]; simp)])
    clear HRE hv
    go_wp2_with fail
    refine hcall.mono ?_
    rintro e w1 ⟨rfl, hb1⟩
    have X1 := Lib.hid (below_seq HB.out.1 hb1)
    clear a0 a1 a2 a3 a4 hb1 hcall
    go_wp2_with fail
    refine bodyPost_ret (results_tmp2 rfl _ _ _) rfl ?_
    exact ⟨by rw [HX.out]; rfl, X1.out⟩
  have HV := Lib.hid (And.intro hv ((airB_iff a).1 hv))
  clear hv
  go_wp2_with fail
  refine hcall.mono ?_
  rintro e w1 ⟨rfl, hb1⟩
  have X1 := Lib.hid (And.intro (below_seq HB.out.1 hb1) (HB.out.2.below hb1 HB.out.2.lt))
  clear a0 a1 a2 a3 a4 hb1 hcall
  have hcall := H2.out w1 (HA.out.step X1.out.1) HV.out.2.n.1
  have a0 : w1.cell? ⟨W.heap.size, 0, none⟩ = some (.int .i64 a.R) := X1.out.2.cell 0
  have a1 : w1.cell? ⟨W.heap.size, 1, none⟩ = some (.slice A a.T.length ca) := X1.out.2.cell 1
  have a2 : w1.cell? ⟨W.heap.size, 2, none⟩ = some (.slice B a.H.length cb) := X1.out.2.cell 2
  have a3 : w1.cell? ⟨W.heap.size, 3, none⟩ = some (.int .i64 a.b0) := X1.out.2.cell 3
  have a4 : w1.cell? ⟨W.heap.size, 4, none⟩ = some (.int .i64 a.b1) := X1.out.2.cell 4
  cases ho : onB a t <;> rw [ho] at hcall
  · have HX := Lib.hid (show R = (0, 2) by rw [HRE.out]; unfold holdsR; rw [if_pos HV.out.1, if_neg (by rw [ho]; simp)])
    clear HRE ho
    go_wp2_with fail
    refine hcall.mono ?_
    rintro e w2 ⟨rfl, hb2⟩
    have X2 := Lib.hid (X1.out.1.trans (hb2.mono X1.out.1.size))
    clear a0 a1 a2 a3 a4 hb2 hcall
    go_wp2_with fail
    refine bodyPost_ret (results_tmp2 rfl _ _ _) rfl ?_
    exact ⟨by rw [HX.out]; rfl, X2.out⟩
  have HX := Lib.hid (show R = (holdsP a t, 0) by rw [HRE.out]; unfold holdsR; rw [if_pos HV.out.1, if_pos ho])
  have HO := Lib.hid ho
  clear HRE ho
  go_wp2_with fail
  refine hcall.mono ?_
  rintro e w2 ⟨rfl, hb2⟩
  have X2 := Lib.hid (And.intro (X1.out.1.trans (hb2.mono X1.out.1.size)) (X1.out.2.below hb2 X1.out.2.lt))
  clear a0 a1 a2 a3 a4 hb2 hcall
  have hcall := H3.out w2 (HA.out.step X2.out.1) HV.out.2 HO.out
  have a0 : w2.cell? ⟨W.heap.size, 0, none⟩ = some (.int .i64 a.R) := X2.out.2.cell 0
  have a1 : w2.cell? ⟨W.heap.size, 1, none⟩ = some (.slice A a.T.length ca) := X2.out.2.cell 1
  have a2 : w2.cell? ⟨W.heap.size, 2, none⟩ = some (.slice B a.H.length cb) := X2.out.2.cell 2
  have a3 : w2.cell? ⟨W.heap.size, 3, none⟩ = some (.int .i64 a.b0) := X2.out.2.cell 3
  have a4 : w2.cell? ⟨W.heap.size, 4, none⟩ = some (.int .i64 a.b1) := X2.out.2.cell 4
  go_wp2_with fail
  refine hcall.mono ?_
  rintro e w3 ⟨rfl, hb3⟩
  have X3 := Lib.hid (X2.out.1.trans (hb3.mono X2.out.1.size))
  clear a0 a1 a2 a3 a4 hb3 hcall
  go_wp2_with fail
  refine bodyPost_ret (results_tmp2 rfl _ _ _) rfl ?_
  exact ⟨by rw [HX.out]; rfl, X3.out⟩
end Go.Proofs.Ytdmpkeaanaoeaaa

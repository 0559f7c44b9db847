/- What the document fixes: alive. -/
import Derived.Test.YtmclchaalmonnaaScZ
namespace Go.Proofs.Ytmclchaalmonnaa
open Go.RowKit Go.Lib
theorem prog_sample : progR sampleR sampleS = (⟨1606, 3173, 300, 4479⟩, 0) := by kernel_rfl
theorem swing_five : swingR threeR (threeL 5) 4 = ([⟨3, 3⟩, ⟨2, 2⟩, ⟨1, 1⟩], 0) := by kernel_rfl
set_option maxRecDepth 100000 in
set_option maxHeartbeats 1000000 in
theorem alive_any (W : World) : Calls Try.prog 13 #[] W (BoolPost true W) := by
  have HS := Lib.hid (fun w => sample_any w)
  have HT := Lib.hid (fun w => three_any 5 (by omega) w)
  have HP := Lib.hid (fun A c AC AP cc cp w h1 h2 => Program_any sampleR A c sampleS AC AP cc cp w h1 h2)
  have HW0 := Lib.hid (fun A c L k w h1 h2 => Swing_any threeR A c (threeL 5) L k 4 w h1 h2 (by decide))
  have HSP := Lib.hid (fun A A' c d w h1 h2 => spans_any [(3, 3), (2, 2), (1, 1)] [(3, 3), (2, 2), (1, 1)] A A' c d w h1 h2 (by decide))
  rw [show decide (([(3, 3), (2, 2), (1, 1)] : List (Int × Int)) = [(3, 3), (2, 2), (1, 1)]) = true by decide] at HSP
  unfold SamPost at HS
  unfold ThrPost at HT
  unfold SEPost at HP
  unfold SwEPost at HW0
  rw [prog_sample] at HP
  rw [swing_five] at HW0
  dsimp only [List.length_cons, List.length_nil, List.map_cons, List.map_nil, spp] at HW0 HSP
  have h34 : (threeL 5).length = 3 := rfl
  rw [h34] at HT HW0
  unfold ruv skv at *
  unfold scv at HP
  dsimp only [threeR, sampleR, sampleS, List.length_cons, List.length_nil] at HS HT HP HW0
  go_enter Try.func13, Try.ntmps13
  go_wp2_with fail
  refine (HS.out _).mono ?_
  rintro e w1 ⟨A, c, AC, AP, cc, cp, rfl, hr, hs, -, -, hb⟩
  have H1 : Hid (Below W.heap.size W ((w1.alloc (.cells #[.slice A 3 c, .int .i64 160, .int .i64 2] 24)).alloc (.cells #[.slice AC 3 cc, .slice AP 3 cp, .int .i64 7] 28)) ∧ Has ((w1.alloc (.cells #[.slice A 3 c, .int .i64 160, .int .i64 2] 24)).alloc (.cells #[.slice AC 3 cc, .slice AP 3 cp, .int .i64 7] 28)) w1.heap.size 24 #[.slice A 3 c, .int .i64 160, .int .i64 2] ∧ Has ((w1.alloc (.cells #[.slice A 3 c, .int .i64 160, .int .i64 2] 24)).alloc (.cells #[.slice AC 3 cc, .slice AP 3 cp, .int .i64 7] 28)) (w1.heap.size + 1) 28 #[.slice AC 3 cc, .slice AP 3 cp, .int .i64 7] ∧ Below w1.heap.size w1 ((w1.alloc (.cells #[.slice A 3 c, .int .i64 160, .int .i64 2] 24)).alloc (.cells #[.slice AC 3 cc, .slice AP 3 cp, .int .i64 7] 28))) :=
    Lib.hid ⟨(hb.trans ((below_one w1 _).mono hb.size)).trans ((below_one _ _).mono (by simp; have := hb.size; omega)), (Has.new _ _ _).alloc _, has_newAt (by simp), (below_one _ _).alloc (by simp) _⟩
  have HRS := Lib.hid (And.intro (hr.step H1.out.2.2.2) (hs.step H1.out.2.2.2))
  clear hr hs hb
  go_upto_region 2 with fail
  generalize (w1.alloc (.cells #[.slice A 3 c, .int .i64 160, .int .i64 2] 24)).alloc (.cells #[.slice AC 3 cc, .slice AP 3 cp, .int .i64 7] 28) = w2 at H1 HRS ⊢
  generalize w1.heap.size = D at H1 ⊢
  have x0 : w2.cell? ⟨D, 0, none⟩ = some (.slice A 3 c) := H1.out.2.1.cell 0
  have x1 : w2.cell? ⟨D, 1, none⟩ = some (.int .i64 160) := H1.out.2.1.cell 1
  have x2 : w2.cell? ⟨D, 2, none⟩ = some (.int .i64 2) := H1.out.2.1.cell 2
  have y0 : w2.cell? ⟨D + 1, 0, none⟩ = some (.slice AC 3 cc) := H1.out.2.2.1.cell 0
  have y1 : w2.cell? ⟨D + 1, 1, none⟩ = some (.slice AP 3 cp) := H1.out.2.2.1.cell 1
  have y2 : w2.cell? ⟨D + 1, 2, none⟩ = some (.int .i64 7) := H1.out.2.2.1.cell 2
  go_wp2_with fail
  refine (HP.out _ _ _ _ _ _ _ HRS.out.1 HRS.out.2).mono ?_
  rintro e w3 ⟨rfl, hb3⟩
  have H3 : Hid (Below W.heap.size W (w3.alloc (.cells #[.int .i64 1606, .int .i64 3173, .int .i64 300, .int .i64 4479] 33)) ∧ Has (w3.alloc (.cells #[.int .i64 1606, .int .i64 3173, .int .i64 300, .int .i64 4479] 33)) w3.heap.size 33 #[.int .i64 1606, .int .i64 3173, .int .i64 300, .int .i64 4479]) :=
    Lib.hid ⟨(H1.out.1.trans (hb3.mono H1.out.1.size)).trans ((below_one _ _).mono (by have := H1.out.1.size; have := hb3.size; omega)), Has.new _ _ _⟩
  clear hb3 x0 x1 x2 y0 y1 y2 H1 HRS HP HS
  go_upto_region 3 with fail
  generalize w3.alloc (.cells #[.int .i64 1606, .int .i64 3173, .int .i64 300, .int .i64 4479] 33) = w4 at H3 ⊢
  generalize w3.heap.size = E at H3 ⊢
  go_wp2_with fail
  refine (HT.out _).mono ?_
  rintro e w5 ⟨A5, c5, L5, k5, rfl, hr, hs, hb⟩
  have H5 : Hid (Below W.heap.size W (w5.alloc (.cells #[.slice A5 1 c5, .int .i64 0, .int .i64 1] 24)) ∧ Has (w5.alloc (.cells #[.slice A5 1 c5, .int .i64 0, .int .i64 1] 24)) w5.heap.size 24 #[.slice A5 1 c5, .int .i64 0, .int .i64 1] ∧ Has (w5.alloc (.cells #[.slice A5 1 c5, .int .i64 0, .int .i64 1] 24)) E 33 #[.int .i64 1606, .int .i64 3173, .int .i64 300, .int .i64 4479] ∧ Below w5.heap.size w5 (w5.alloc (.cells #[.slice A5 1 c5, .int .i64 0, .int .i64 1] 24))) :=
    Lib.hid ⟨(H3.out.1.trans (hb.mono H3.out.1.size)).trans ((below_one _ _).mono (by have := H3.out.1.size; have := hb.size; omega)), Has.new _ _ _, (H3.out.2.below hb H3.out.2.lt).alloc _, below_one _ _⟩
  have HRS := Lib.hid (And.intro (hr.step H5.out.2.2.2) (hs.step H5.out.2.2.2))
  clear hr hs hb H3 HT
  go_upto_region 4 with fail
  generalize w5.alloc (.cells #[.slice A5 1 c5, .int .i64 0, .int .i64 1] 24) = w6 at H5 HRS ⊢
  generalize w5.heap.size = G at H5 ⊢
  have x0 : w6.cell? ⟨G, 0, none⟩ = some (.slice A5 1 c5) := H5.out.2.1.cell 0
  have x1 : w6.cell? ⟨G, 1, none⟩ = some (.int .i64 0) := H5.out.2.1.cell 1
  have x2 : w6.cell? ⟨G, 2, none⟩ = some (.int .i64 1) := H5.out.2.1.cell 2
  go_wp2_with fail
  refine (HW0.out _ _ _ _ _ HRS.out.1 HRS.out.2).mono ?_
  rintro e w7 ⟨A7, c7, rfl, hq, -, -, hb⟩
  have H7 : Hid (Below W.heap.size W w7 ∧ Has w7 E 33 #[.int .i64 1606, .int .i64 3173, .int .i64 300, .int .i64 4479] ∧ QRow w7 w7.heap.size A7 [(3, 3), (2, 2), (1, 1)]) := Lib.hid ⟨H5.out.1.trans (hb.mono H5.out.1.size), H5.out.2.2.1.below hb H5.out.2.2.1.lt, hq⟩
  clear hq hb x0 x1 x2 H5 HRS HW0
  dsimp only
  go_upto_region 5 with fail
  have x0 : w7.cell? ⟨E, 0, none⟩ = some (.int .i64 1606) := H7.out.2.1.cell 0
  have x1 : w7.cell? ⟨E, 1, none⟩ = some (.int .i64 3173) := H7.out.2.1.cell 1
  have x2 : w7.cell? ⟨E, 2, none⟩ = some (.int .i64 300) := H7.out.2.1.cell 2
  have x3 : w7.cell? ⟨E, 3, none⟩ = some (.int .i64 4479) := H7.out.2.1.cell 3
  have he := fun w => eql33 1606 3173 300 4479 1606 3173 300 4479 w
  rw [show decide ((1606 : Int) = 1606 ∧ (3173 : Int) = 3173 ∧ (300 : Int) = 300 ∧ (4479 : Int) = 4479) = true by decide] at he
  have H8 := Lib.hid (show QRow (w7.alloc (.cells (pra [(3, 3), (2, 2), (1, 1)]) 56)) (w7.alloc (.cells (pra [(3, 3), (2, 2), (1, 1)]) 56)).heap.size A7 [(3, 3), (2, 2), (1, 1)] ∧ QRow (w7.alloc (.cells (pra [(3, 3), (2, 2), (1, 1)]) 56)) (w7.alloc (.cells (pra [(3, 3), (2, 2), (1, 1)]) 56)).heap.size (some ⟨w7.heap.size, 0, none⟩) [(3, 3), (2, 2), (1, 1)] ∧ Below W.heap.size W (w7.alloc (.cells (pra [(3, 3), (2, 2), (1, 1)]) 56)) from ⟨H7.out.2.2.step (below_one _ _), qrow_of (Has.new _ _ _) (Has.new _ _ _).lt, H7.out.1.trans ((below_one _ _).mono H7.out.1.size)⟩)
  go_wp2_with fail
  refine (HSP.out A7 (some ⟨w7.heap.size, 0, none⟩) c7 3 _ H8.out.1 H8.out.2.1).mono ?_
  rintro e w9 ⟨rfl, hb⟩
  have H9 := Lib.hid (H8.out.2.2.trans (hb.mono H8.out.2.2.size))
  clear hb x0 x1 x2 x3 he
  go_wp2_with fail
  go_ret
  exact ⟨rfl, H9.out⟩
end Go.Proofs.Ytmclchaalmonnaa

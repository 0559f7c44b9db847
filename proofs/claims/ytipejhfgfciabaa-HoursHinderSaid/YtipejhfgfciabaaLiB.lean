/- What the document fixes of the example: awake. -/
import Derived.Test.YtipejhfgfciabaaLiA
namespace Go.Proofs.Ytipejhfgfciabaa
open Go.RowKit Go.Shelf
theorem pair_of {α β : Type} {a : α × β} {b : β} (h : a.2 = b) : a = (a.1, b) := by subst h; rfl
theorem row_lit2 (w : World) (o : Obj) (l : List Int) : IRow ((w.alloc o).alloc (.cells (ils l) 3)) ((w.alloc o).alloc (.cells (ils l) 3)).heap.size (some ⟨w.heap.size + 1, 0, none⟩) l := by
  rw [show w.heap.size + 1 = (w.alloc o).heap.size from (World.size_alloc w o).symm]
  exact row_lit _ _
theorem sample_check3 : ∃ lx, checkR sampleT [0, 1, 0, 2] = (lx, 1, 6) := ⟨_, pair_of sample_check2⟩
set_option maxRecDepth 100000 in
set_option maxHeartbeats 2000000 in
theorem awake_any (W : World) : Calls Try.prog 10 #[] W (BoolPost true W) := by
  have HSA := Lib.hid (fun w => sample_any w)
  have E1 := sample_check
  obtain ⟨lx, E2⟩ := sample_check3
  have E3 := sample_fair
  have E4 := sample_comp
  have E5 := sample_hind
  obtain ⟨x, hx⟩ : ∃ x, x = sampleT := ⟨_, rfl⟩
  rw [← hx] at HSA E1 E2 E3 E4 E5
  clear hx
  have HC1 : Hid (∀ w AH AG ch cg A c, TR w w.heap.size x AH AG → IRow w w.heap.size A [0, 0, -1, 2] → Calls Try.prog 11 #[ttv x AH AG ch cg, .slice A 4 c] w (CheckPost ([2, 1, 1], 4, 0) w)) := Lib.hid fun w AH AG ch cg A c h1 h2 => by
    have := Check_any x AH AG ch cg [0, 0, -1, 2] A c w h1 h2
    rw [E1] at this
    exact this
  have HC2 : Hid (∀ w AH AG ch cg A c, TR w w.heap.size x AH AG → IRow w w.heap.size A [0, 1, 0, 2] → Calls Try.prog 11 #[ttv x AH AG ch cg, .slice A 4 c] w (CheckPost (lx, 1, 6) w)) := Lib.hid fun w AH AG ch cg A c h1 h2 => by
    have := Check_any x AH AG ch cg [0, 1, 0, 2] A c w h1 h2
    rw [E2] at this
    exact this
  have HF : Hid (∀ w AH AG ch cg, TR w w.heap.size x AH AG → Calls Try.prog 17 #[ttv x AH AG ch cg] w (SEPost ([0, 0, 0, 2], 0) w)) := Lib.hid fun w AH AG ch cg h1 => by
    have := Fairest_any x AH AG ch cg w h1
    rw [E3] at this
    exact this
  have HCo : Hid (∀ w AH AG ch cg A c B d, TR w w.heap.size x AH AG → IRow w w.heap.size A [0, 0, -1, 2] → IRow w w.heap.size B [1, 1, 0, 2] → Calls Try.prog 13 #[ttv x AH AG ch cg, .slice A 4 c, .slice B 4 d] w (IEPost (-1, 0) w)) := Lib.hid fun w AH AG ch cg A c B d h1 h2 h3 => by
    have := Compare_any x AH AG ch cg [0, 0, -1, 2] [1, 1, 0, 2] A B c d w h1 h2 h3
    rw [E4] at this
    exact this
  have HHi : Hid (∀ w AH AG ch cg A c, TR w w.heap.size x AH AG → IRow w w.heap.size A [2, 1, 1] → Calls Try.prog 19 #[ttv x AH AG ch cg, .slice A 3 c] w (SEPost ([0, 1, 2], 0) w)) := Lib.hid fun w AH AG ch cg A c h1 h2 => by
    have := Hinders_any x AH AG ch cg [2, 1, 1] A c w h1 h2
    rw [E5] at this
    exact this
  clear E1 E2 E3 E4 E5
  have HI1 : Hid (∀ w A c B d, IRow w w.heap.size A [2, 1, 1] → IRow w w.heap.size B [2, 1, 1] → Calls Try.prog 15 #[.slice A 3 c, .slice B 3 d] w (BoolPost true w)) := Lib.hid fun w A c B d h1 h2 => ints_any [2, 1, 1] [2, 1, 1] A B c d w h1 h2 (by decide)
  have HI2 : Hid (∀ w A c B d, IRow w w.heap.size A [0, 0, 0, 2] → IRow w w.heap.size B [0, 0, 0, 2] → Calls Try.prog 15 #[.slice A 4 c, .slice B 4 d] w (BoolPost true w)) := Lib.hid fun w A c B d h1 h2 => ints_any [0, 0, 0, 2] [0, 0, 0, 2] A B c d w h1 h2 (by decide)
  have HI3 : Hid (∀ w A c B d, IRow w w.heap.size A [0, 1, 2] → IRow w w.heap.size B [0, 1, 2] → Calls Try.prog 15 #[.slice A 3 c, .slice B 3 d] w (BoolPost true w)) := Lib.hid fun w A c B d h1 h2 => ints_any [0, 1, 2] [0, 1, 2] A B c d w h1 h2 (by decide)
  unfold ttv at *
  go_enter Try.func10, Try.ntmps10
  go_wp2_with fail
  refine (HSA.out _).mono ?_
  rintro e w1 ⟨AH, AG, ch, cg, rfl, htr, hb1⟩
  have HX := Lib.hid (And.intro htr hb1)
  clear htr hb1 HSA
  dsimp only
  go_upto_region 2 with fail
  have H2 : Hid (AW W (w1.alloc (.cells (ttc x AH AG ch cg) 25)) w1.heap.size x AH AG ch cg) := ⟨HX.out.2.trans ((below_one _ _).mono HX.out.2.size), Has.new _ _ _, HX.out.1.step (below_one _ _)⟩
  unfold ttc at H2 HC1 HC2 HF HCo HHi ⊢
  generalize w1.alloc (.cells #[.slice AH x.H.length ch, .slice AG x.G.length cg, .int .i64 x.R] 25) = w2 at H2 ⊢
  generalize w1.heap.size = B at H2 ⊢
  clear HX
  have x0 : w2.cell? ⟨B, 0, none⟩ = some (.slice AH x.H.length ch) := H2.out.fx.cell 0
  have x1 : w2.cell? ⟨B, 1, none⟩ = some (.slice AG x.G.length cg) := H2.out.fx.cell 1
  have x2 : w2.cell? ⟨B, 2, none⟩ = some (.int .i64 x.R) := H2.out.fx.cell 2
  have HW := Lib.hid (And.intro (H2.out.step (below_one w2 (.cells #[.int .i64 0, .int .i64 0, .int .i64 (-1), .int .i64 2] 3))) (row_lit w2 [0, 0, -1, 2]))
  go_wp2_with fail
  refine (HC1.out _ AH AG ch cg _ _ HW.out.1.tr HW.out.2).mono ?_
  rintro e w3 ⟨A1, c1, rfl, hr3, hb3, -⟩
  have H3 := Lib.hid (And.intro (HW.out.1.step hb3) hr3)
  clear hr3 hb3 HW x0 x1 x2 H2 HC1
  dsimp only [List.length_cons, List.length_nil]
  have x0 : w3.cell? ⟨B, 0, none⟩ = some (.slice AH x.H.length ch) := H3.out.1.fx.cell 0
  have x1 : w3.cell? ⟨B, 1, none⟩ = some (.slice AG x.G.length cg) := H3.out.1.fx.cell 1
  have x2 : w3.cell? ⟨B, 2, none⟩ = some (.int .i64 x.R) := H3.out.1.fx.cell 2
  have HW := Lib.hid (And.intro (H3.out.1.step (below_one w3 (.cells #[.int .i64 0, .int .i64 1, .int .i64 0, .int .i64 2] 3))) (And.intro (row_lit w3 [0, 1, 0, 2]) (H3.out.2.step (below_one w3 (.cells #[.int .i64 0, .int .i64 1, .int .i64 0, .int .i64 2] 3)))))
  go_wp2_with fail
  refine (HC2.out _ AH AG ch cg _ _ HW.out.1.tr HW.out.2.1).mono ?_
  rintro e w4 ⟨A2, c2, rfl, -, hb3, -⟩
  have H4 := Lib.hid (And.intro (HW.out.1.step hb3) (HW.out.2.2.step hb3))
  clear hb3 HW x0 x1 x2 H3 HC2
  dsimp only [List.length_cons, List.length_nil]
  have x0 : w4.cell? ⟨B, 0, none⟩ = some (.slice AH x.H.length ch) := H4.out.1.fx.cell 0
  have x1 : w4.cell? ⟨B, 1, none⟩ = some (.slice AG x.G.length cg) := H4.out.1.fx.cell 1
  have x2 : w4.cell? ⟨B, 2, none⟩ = some (.int .i64 x.R) := H4.out.1.fx.cell 2
  go_wp2_with fail
  refine (HF.out _ AH AG ch cg H4.out.1.tr).mono ?_
  rintro e w5 ⟨A3, c3, rfl, hr3, hb3⟩
  have H5 := Lib.hid (And.intro (H4.out.1.step hb3) (And.intro (H4.out.2.step hb3) hr3))
  clear hb3 hr3 x0 x1 x2 H4 HF
  dsimp only [List.length_cons, List.length_nil]
  have x0 : w5.cell? ⟨B, 0, none⟩ = some (.slice AH x.H.length ch) := H5.out.1.fx.cell 0
  have x1 : w5.cell? ⟨B, 1, none⟩ = some (.slice AG x.G.length cg) := H5.out.1.fx.cell 1
  have x2 : w5.cell? ⟨B, 2, none⟩ = some (.int .i64 x.R) := H5.out.1.fx.cell 2
  have hba := below_two w5 (.cells #[.int .i64 0, .int .i64 0, .int .i64 (-1), .int .i64 2] 3) (.cells #[.int .i64 1, .int .i64 1, .int .i64 0, .int .i64 2] 3)
  have HW := Lib.hid (And.intro (H5.out.1.step hba) (And.intro (H5.out.2.1.step hba) (And.intro (H5.out.2.2.step hba) (And.intro ((row_lit w5 [0, 0, -1, 2]).step (below_one _ (.cells #[.int .i64 1, .int .i64 1, .int .i64 0, .int .i64 2] 3))) (row_lit2 w5 (.cells #[.int .i64 0, .int .i64 0, .int .i64 (-1), .int .i64 2] 3) [1, 1, 0, 2])))))
  clear hba
  go_wp2_with fail
  refine (HCo.out _ AH AG ch cg _ _ _ _ HW.out.1.tr HW.out.2.2.2.1 HW.out.2.2.2.2).mono ?_
  rintro e w6 ⟨rfl, hb3⟩
  have H6 := Lib.hid (And.intro (HW.out.1.step hb3) (And.intro (HW.out.2.1.step hb3) (HW.out.2.2.1.step hb3)))
  clear hb3 x0 x1 x2 H5 HW HCo
  dsimp only
  have x0 : w6.cell? ⟨B, 0, none⟩ = some (.slice AH x.H.length ch) := H6.out.1.fx.cell 0
  have x1 : w6.cell? ⟨B, 1, none⟩ = some (.slice AG x.G.length cg) := H6.out.1.fx.cell 1
  have x2 : w6.cell? ⟨B, 2, none⟩ = some (.int .i64 x.R) := H6.out.1.fx.cell 2
  have hba := below_one w6 (.cells #[.int .i64 2, .int .i64 1, .int .i64 1] 3)
  have HW := Lib.hid (And.intro (H6.out.1.step hba) (And.intro (H6.out.2.1.step hba) (And.intro (H6.out.2.2.step hba) (row_lit w6 [2, 1, 1]))))
  clear hba
  go_wp2_with fail
  refine (HHi.out _ AH AG ch cg _ _ HW.out.1.tr HW.out.2.2.2).mono ?_
  rintro e w7 ⟨A5, c5, rfl, hr3, hb3⟩
  have H7 := Lib.hid (And.intro (HW.out.1.step hb3) (And.intro (HW.out.2.1.step hb3) (And.intro (HW.out.2.2.1.step hb3) hr3)))
  clear hb3 hr3 x0 x1 x2 H6 HW HHi
  dsimp only [List.length_cons, List.length_nil]
  have hba := below_one w7 (.cells #[.int .i64 2, .int .i64 1, .int .i64 1] 3)
  have HW := Lib.hid (And.intro (H7.out.1.step hba) (And.intro (H7.out.2.1.step hba) (And.intro (H7.out.2.2.1.step hba) (And.intro (H7.out.2.2.2.step hba) (row_lit w7 [2, 1, 1])))))
  clear hba
  go_wp2_with fail
  refine (HI1.out _ _ _ _ _ HW.out.2.1 HW.out.2.2.2.2).mono ?_
  rintro e w8 ⟨rfl, hb3⟩
  have H8 := Lib.hid (And.intro (HW.out.1.step hb3) (And.intro (HW.out.2.2.1.step hb3) (HW.out.2.2.2.1.step hb3)))
  clear hb3 H7 HW HI1
  have hba := below_one w8 (.cells #[.int .i64 0, .int .i64 0, .int .i64 0, .int .i64 2] 3)
  have HW := Lib.hid (And.intro (H8.out.1.step hba) (And.intro (H8.out.2.1.step hba) (And.intro (H8.out.2.2.step hba) (row_lit w8 [0, 0, 0, 2]))))
  clear hba
  go_wp2_with fail
  refine (HI2.out _ _ _ _ _ HW.out.2.1 HW.out.2.2.2).mono ?_
  rintro e w9 ⟨rfl, hb3⟩
  have H9 := Lib.hid (And.intro (HW.out.1.step hb3) (HW.out.2.2.1.step hb3))
  clear hb3 H8 HW HI2
  have hba := below_one w9 (.cells #[.int .i64 0, .int .i64 1, .int .i64 2] 3)
  have HW := Lib.hid (And.intro (H9.out.1.step hba) (And.intro (H9.out.2.step hba) (row_lit w9 [0, 1, 2])))
  clear hba
  go_wp2_with fail
  refine (HI3.out _ _ _ _ _ HW.out.2.1 HW.out.2.2).mono ?_
  rintro e w10 ⟨rfl, hb3⟩
  have H10 := Lib.hid (HW.out.1.step hb3)
  clear hb3 H9 HW HI3
  go_wp2_with fail
  go_ret
  exact ⟨rfl, H10.out.b⟩
end Go.Proofs.Ytipejhfgfciabaa

/- Contracts: awake. -/
import Derived.Test.YtljkgjfmambfoaaDoorLgV
import Derived.Test.YtljkgjfmambfoaaDoorLgM
import Derived.Test.YtljkgjfmambfoaaDoorLgI
import Derived.Test.YtljkgjfmambfoaaDoorLgJ
namespace Go.Proofs.YtljkgjfmambfoaaDoor
open Go.RowKit Go.Shelf
attribute [local irreducible] wpQuiet
attribute [local go_sem] Oper.semAt_some
def samT : List Rw := [⟨2, 2, 4, 5, 4, 3⟩, ⟨0, 2, 3, 5, 5, 3⟩, ⟨1, 2, 2, 3, 4, 2⟩]
theorem chk_sam : chkR samX = (5, 0) := by kernel_rfl
theorem trav_sam : travR samX 0 = (60, 0) := by kernel_rfl
theorem clin_sam : clinR samX 0 3 = (true, false, 0) := by kernel_rfl
theorem need_sam : needR samX 0 1 = (4, 0) := by kernel_rfl
theorem tab_sam : ((tabR samX).1.map stq, (tabR samX).2, (tabR samX).1.length) = (samT.map stq, 0, 3) := by kernel_rfl
/-- awake, at work -/
structure AwI (W w : World) (D : Nat) (AF AG : Option Addr) : Prop where
  b : Below W.heap.size W w
  f : Has w D 25 #[.slice AF 3 3, .slice AG 5 5]
  r : LgR w w.heap.size samX AF AG
  wo : Wo w
theorem AwI.step {W w w' : World} {D : Nat} {AF AG : Option Addr} (h : AwI W w D AF AG) (hb : Below w.heap.size w w') : AwI W w' D AF AG :=
  ⟨h.b.trans (hb.mono h.b.size), h.f.below hb h.f.lt, h.r.step hb, h.wo.step hb⟩
theorem samT_row {w : World} {D : Nat} (h : Has w D 46 #[.int .i64 2, .int .i64 2, .int .i64 4, .int .i64 5, .int .i64 4, .int .i64 0, .int .i64 2, .int .i64 3, .int .i64 5, .int .i64 5, .int .i64 1, .int .i64 2, .int .i64 2, .int .i64 3, .int .i64 4]) : NRow stc 5 w w.heap.size (some ⟨D, 0, none⟩) samT := fun k hk => by
  have hk3 : k < 3 := hk
  refine ⟨D, 0, rfl, h.lt, fun j hj => ?_⟩
  rw [h.cell]
  match k, hk3, j, hj with
  | 0, _, 0, _ => rfl
  | 0, _, 1, _ => rfl
  | 0, _, 2, _ => rfl
  | 0, _, 3, _ => rfl
  | 0, _, 4, _ => rfl
  | 1, _, 0, _ => rfl
  | 1, _, 1, _ => rfl
  | 1, _, 2, _ => rfl
  | 1, _, 3, _ => rfl
  | 1, _, 4, _ => rfl
  | 2, _, 0, _ => rfl
  | 2, _, 1, _ => rfl
  | 2, _, 2, _ => rfl
  | 2, _, 3, _ => rfl
  | 2, _, 4, _ => rfl
set_option maxRecDepth 100000 in
set_option maxHeartbeats 4000000 in
theorem awake_any (W : World) (hW : Wo W) : Calls Tryd.prog 10 #[] W (BoolPost true W) := by
  have HS := Lib.hid (sample_any W)
  have HC := Lib.hid (fun w D AF AG (h : AwI W w D AF AG) => (show Calls Tryd.prog 11 #[.agg #[.slice AF 3 3, .slice AG 5 5]] w (IEPost (5, 0) w) from by rw [← chk_sam]; exact Check_any samX AF AG 3 5 w h.r (by decide)))
  have HT := Lib.hid (fun w D AF AG (h : AwI W w D AF AG) => (show Calls Tryd.prog 13 #[.agg #[.slice AF 3 3, .slice AG 5 5], .int .i64 0] w (IEPost (60, 0) w) from by rw [← trav_sam]; exact Travel_any samX AF AG 3 5 0 w h.r))
  have HTB := Lib.hid (fun w D AF AG (h : AwI W w D AF AG) => (show Calls Tryd.prog 15 #[.agg #[.slice AF 3 3, .slice AG 5 5]] w (TabPost (tabR samX) w) from Table_any samX AF AG 3 5 w h.wo h.r))
  have HCL := Lib.hid (fun w D AF AG (h : AwI W w D AF AG) => (show Calls Tryd.prog 18 #[.agg #[.slice AF 3 3, .slice AG 5 5], .int .i64 0, .int .i64 3] w (ClPost (true, false, 0) w) from by rw [← clin_sam]; exact Clinched_any samX AF AG 3 5 0 3 w h.wo h.r))
  have HN := Lib.hid (fun w D AF AG (h : AwI W w D AF AG) => (show Calls Tryd.prog 20 #[.agg #[.slice AF 3 3, .slice AG 5 5], .int .i64 0, .int .i64 1] w (IEPost (4, 0) w) from by rw [← need_sam]; exact Needs_any samX AF AG 3 5 0 1 w h.wo h.r))
  obtain ⟨X, hX⟩ : ∃ X, X = tabR samX := ⟨_, rfl⟩
  have HX : Hid (X.1.map stq = samT.map stq ∧ X.2 = 0 ∧ X.1.length = 3) := Lib.hid (by
    have h := tab_sam
    rw [← hX] at h
    exact ⟨congrArg (·.1) h, congrArg (·.2.1) h, congrArg (·.2.2) h⟩)
  rw [← hX] at HTB
  have HST := Lib.hid (fun A c B d w h1 h2 => (show Calls Tryd.prog 17 #[.slice A 3 c, .slice B 3 d] w (BoolPost true w) from by
    have := Standings_any X.1 samT A B c d w h1 h2 (by rw [HX.out.2.2]; decide)
    rw [show stdB X.1 samT = true from by unfold stdB; rw [HX.out.1]; simp, HX.out.2.2] at this
    exact this))
  have HW := Lib.hid hW
  clear hX hW
  unfold SamPost at HS
  unfold IEPost at HC HT HN
  unfold ClPost at HCL
  unfold TabPost at HTB
  dsimp only at HC HT HCL HN
  go_enter Tryd.func10, Tryd.ntmps10
  go_wp2_with fail
  refine HS.out.mono ?_
  rintro e w1 ⟨AF, AG, rfl, hr1, hb1⟩
  have H1 : Hid (AwI W (w1.alloc (.cells #[.slice AF 3 3, .slice AG 5 5] 25)) w1.heap.size AF AG) := Lib.hid
    ⟨hb1.trans ((below_one _ _).mono hb1.size), Has.new _ _ _, hr1.step (below_one _ _), (HW.out.step hb1).step (below_one _ _)⟩
  clear hr1 hb1 HS HW
  have e25 : lgv samX AF AG 3 5 = .agg #[.slice AF 3 3, .slice AG 5 5] := rfl
  rw [e25]
  clear e25
  go_upto_region 2 with fail
  generalize w1.alloc (.cells #[.slice AF 3 3, .slice AG 5 5] 25) = w2 at H1 ⊢
  generalize w1.heap.size = D at H1 ⊢
  have d0 : w2.cell? ⟨D, 0, none⟩ = some (.slice AF 3 3) := H1.out.f.cell 0
  have d1 : w2.cell? ⟨D, 1, none⟩ = some (.slice AG 5 5) := H1.out.f.cell 1
  go_wp2_with fail
  refine (HC.out _ D _ _ H1.out).mono ?_
  rintro e w3 ⟨rfl, hb3⟩
  have H3 := Lib.hid (H1.out.step hb3)
  clear hb3 H1 d0 d1 HC
  have d0 : w3.cell? ⟨D, 0, none⟩ = some (.slice AF 3 3) := H3.out.f.cell 0
  have d1 : w3.cell? ⟨D, 1, none⟩ = some (.slice AG 5 5) := H3.out.f.cell 1
  go_wp2_with fail
  refine (HT.out _ D _ _ H3.out).mono ?_
  rintro e w4 ⟨rfl, hb4⟩
  have H4 := Lib.hid (H3.out.step hb4)
  clear hb4 H3 d0 d1 HT
  have d0 : w4.cell? ⟨D, 0, none⟩ = some (.slice AF 3 3) := H4.out.f.cell 0
  have d1 : w4.cell? ⟨D, 1, none⟩ = some (.slice AG 5 5) := H4.out.f.cell 1
  go_wp2_with fail
  refine (HTB.out _ D _ _ H4.out).mono ?_
  rintro e w5 ⟨A5, c5, rfl, hr5, hb5⟩
  have H5 := Lib.hid (And.intro (H4.out.step hb5) hr5)
  clear hb5 hr5 H4 d0 d1 HTB
  rw [HX.out.2.1, HX.out.2.2]
  have d0 : w5.cell? ⟨D, 0, none⟩ = some (.slice AF 3 3) := H5.out.1.f.cell 0
  have d1 : w5.cell? ⟨D, 1, none⟩ = some (.slice AG 5 5) := H5.out.1.f.cell 1
  go_wp2_with fail
  refine (HCL.out _ D _ _ H5.out.1).mono ?_
  rintro e w6 ⟨rfl, hb6⟩
  have H6 := Lib.hid (And.intro (H5.out.1.step hb6) (NRow.more (NRow.below (f := stc) (n := 5) H5.out.2 hb6) hb6.size))
  clear hb6 H5 d0 d1 HCL
  have d0 : w6.cell? ⟨D, 0, none⟩ = some (.slice AF 3 3) := H6.out.1.f.cell 0
  have d1 : w6.cell? ⟨D, 1, none⟩ = some (.slice AG 5 5) := H6.out.1.f.cell 1
  go_wp2_with fail
  refine (HN.out _ D _ _ H6.out.1).mono ?_
  rintro e w7 ⟨rfl, hb7⟩
  have H7 := Lib.hid (And.intro (H6.out.1.step hb7) (NRow.more (NRow.below (f := stc) (n := 5) H6.out.2 hb7) hb7.size))
  clear hb7 H6 d0 d1 HN
  go_wp2_with fail
  have H8 : Hid (NRow stc 5 (w7.alloc (.cells #[.int .i64 2, .int .i64 2, .int .i64 4, .int .i64 5, .int .i64 4, .int .i64 0, .int .i64 2, .int .i64 3, .int .i64 5, .int .i64 5, .int .i64 1, .int .i64 2, .int .i64 2, .int .i64 3, .int .i64 4] 46)) (w7.alloc (.cells #[.int .i64 2, .int .i64 2, .int .i64 4, .int .i64 5, .int .i64 4, .int .i64 0, .int .i64 2, .int .i64 3, .int .i64 5, .int .i64 5, .int .i64 1, .int .i64 2, .int .i64 2, .int .i64 3, .int .i64 4] 46)).heap.size A5 X.1) := Lib.hid (NRow.more (NRow.below (f := stc) (n := 5) H7.out.2 (below_one _ _)) (by simp))
  refine (HST.out _ _ _ _ _ H8.out (samT_row (Has.new _ _ _))).mono ?_
  rintro e w8 ⟨rfl, hb8⟩
  have H9 := Lib.hid (show Below W.heap.size W w8 from (H7.out.1.b.trans ((below_one _ _).mono H7.out.1.b.size)).trans (hb8.mono (by have := H7.out.1.b.size; simp; omega)))
  clear hb8 H8 H7 HST
  go_wp2_with fail
  go_ret
  exact ⟨rfl, H9.out⟩
end Go.Proofs.YtljkgjfmambfoaaDoor

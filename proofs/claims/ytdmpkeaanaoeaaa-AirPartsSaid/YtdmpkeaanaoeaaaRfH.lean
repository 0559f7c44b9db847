/- The document's Dryer. -/
import Derived.Test.YtdmpkeaanaoeaaaRfG
namespace Go.Proofs.Ytdmpkeaanaoeaaa
open Go.RowKit
set_option maxRecDepth 100000 in
set_option maxHeartbeats 4000000 in
theorem dDryer_any (a : Air) (A B : Option Addr) (ca cb : Nat) (lo hi : Int) (L : List Stp) (AL : Option Addr) (cl : Nat) (W : World) (har : AR W W.heap.size a A B) (hr : SRow W W.heap.size AL L) (hL : L.length ≤ 9223372036854775807) :
    Calls Try.prog 20 #[airv a A B ca cb, .agg #[.int .i64 lo, .int .i64 hi], .slice AL L.length cl] W (DryPost a lo hi L W) := by
  have HB := Lib.hid (box_vb W a A B ca cb lo hi)
  have HA := Lib.hid (And.intro har hr)
  have H1 := Lib.hid (fun w h1 h2 => Valid_any a A B ca cb lo hi L AL cl w h1 h2 hL)
  have HD := Lib.hid (fun d w hg hd h1 h2 => dry_any a A B ca cb lo hi d L AL cl w h1 h2 hg hd)
  unfold airv at *
  clear har hr
  go_enter Try.func20, Try.ntmps20
  go_upto_region 1 with fail
  generalize ((W.alloc (.cells (airc a A B ca cb) 26)).alloc (.cells #[.int .i64 lo, .int .i64 hi] 24)) = w0 at HB ⊢
  have hcall := H1.out w0 (HA.out.1.step HB.out.b.b) ((HA.out.2.below HB.out.b.b).more HB.out.b.b.size)
  have a0 : w0.cell? ⟨W.heap.size, 0, none⟩ = some (.int .i64 a.R) := HB.out.b.fa.cell 0
  have a1 : w0.cell? ⟨W.heap.size, 1, none⟩ = some (.slice A a.T.length ca) := HB.out.b.fa.cell 1
  have a2 : w0.cell? ⟨W.heap.size, 2, none⟩ = some (.slice B a.H.length cb) := HB.out.b.fa.cell 2
  have a3 : w0.cell? ⟨W.heap.size, 3, none⟩ = some (.int .i64 a.b0) := HB.out.b.fa.cell 3
  have a4 : w0.cell? ⟨W.heap.size, 4, none⟩ = some (.int .i64 a.b1) := HB.out.b.fa.cell 4
  have l0 : w0.cell? ⟨W.heap.size + 1, 0, none⟩ = some (.int .i64 lo) := HB.out.fw.cell 0
  have l1 : w0.cell? ⟨W.heap.size + 1, 1, none⟩ = some (.int .i64 hi) := HB.out.fw.cell 1
  cases hg : insB a lo hi L <;> rw [hg] at hcall
  · have HG := Lib.hid hg
    clear hg
    go_wp2_with fail
    refine hcall.mono ?_
    rintro e w1 ⟨rfl, hb1⟩
    have X1 := Lib.hid (HB.out.step hb1)
    clear a0 a1 a2 a3 a4 l0 l1 hb1 hcall
    go_wp2_with fail
    refine bodyPost_ret (results_tmp2 rfl _ _ _) rfl ?_
    exact ⟨X1.out.b.b, .inl ⟨HG.out, rfl⟩⟩
  have HG := Lib.hid hg
  clear hg
  go_wp2_with fail
  refine hcall.mono ?_
  rintro e w1 ⟨rfl, hb1⟩
  have X1 := Lib.hid (HB.out.step hb1)
  clear a0 a1 a2 a3 a4 l0 l1 hb1 hcall
  have a0 : w1.cell? ⟨W.heap.size, 0, none⟩ = some (.int .i64 a.R) := X1.out.b.fa.cell 0
  have a1 : w1.cell? ⟨W.heap.size, 1, none⟩ = some (.slice A a.T.length ca) := X1.out.b.fa.cell 1
  have a2 : w1.cell? ⟨W.heap.size, 2, none⟩ = some (.slice B a.H.length cb) := X1.out.b.fa.cell 2
  have a3 : w1.cell? ⟨W.heap.size, 3, none⟩ = some (.int .i64 a.b0) := X1.out.b.fa.cell 3
  have a4 : w1.cell? ⟨W.heap.size, 4, none⟩ = some (.int .i64 a.b1) := X1.out.b.fa.cell 4
  have l0 : w1.cell? ⟨W.heap.size + 1, 0, none⟩ = some (.int .i64 lo) := X1.out.fw.cell 0
  have l1 : w1.cell? ⟨W.heap.size + 1, 1, none⟩ = some (.int .i64 hi) := X1.out.fw.cell 1
  have hcall := HD.out 68719476736 w1 HG.out (by omega) (HA.out.1.step X1.out.b.b) ((HA.out.2.below X1.out.b.b).more X1.out.b.b.size)
  cases hs : dryB hi (msOf a L) 68719476736 <;> rw [hs] at hcall
  · have HX := Lib.hid (show Least hi (msOf a L) 68719476737 from ⟨by omega, fun h => absurd h (by omega), fun _ => hs⟩)
    clear hs
    go_wp2_with fail
    refine hcall.mono ?_
    rintro e w2 ⟨rfl, hb2⟩
    have X2 := Lib.hid (X1.out.step hb2)
    clear a0 a1 a2 a3 a4 l0 l1 hb2 hcall
    go_wp2_with fail
    refine bodyPost_ret (results_tmp2 rfl _ _ _) rfl ?_
    exact ⟨X2.out.b.b, .inr ⟨HG.out, _, HX.out, rfl⟩⟩
  have HS := Lib.hid hs
  clear hs
  go_wp2_with fail
  refine hcall.mono ?_
  rintro e w2 ⟨rfl, hb2⟩
  have X2 := Lib.hid (X1.out.step hb2)
  clear a0 a1 a2 a3 a4 l0 l1 hb2 hcall
  go_wp2_with fail
  go_loopg [8, 9] 68719476736 (fun gk i j wr => ∃ x y : Nat, x ≤ y ∧ y ≤ 68719476736 ∧ y - x ≤ gk ∧ i = .int .i64 x ∧ j = .int .i64 y ∧ Hid (VB W wr a A B ca cb lo hi) ∧ Hid (dryB hi (msOf a L) y = true ∧ (0 < x → dryB hi (msOf a L) (x - 1) = false)))
  case atStart => exact ⟨0, 68719476736, by omega, by omega, by omega, rfl, rfl, X2, Lib.hid ⟨HS.out, fun h => absurd h (by omega)⟩⟩
  case round =>
    obtain ⟨x, y, hxy, hy, hgk, rfl, rfl, HW, HI⟩ := hrel
    by_cases hlt : x < y
    rotate_left
    · have hge : ¬ (x : Int) < y := by omega
      have hex : x = y := by omega
      have HX := Lib.hid (show Least hi (msOf a L) x from ⟨by omega, fun _ => by rw [hex]; exact HI.out.1, fun h => HI.out.2 h⟩)
      have hx1 : ¬ x = 68719476737 := by omega
      clear hex
      go_wp2_with fail
      refine bodyPost_ret (results_tmp2 rfl _ _ _) rfl ?_
      refine ⟨HW.out.b.b, .inr ⟨HG.out, x, HX.out, ?_⟩⟩
      rw [if_neg hx1, if_neg hx1]
      rfl
    have hlt2 : (x : Int) < y := by omega
    obtain ⟨m, hm⟩ : ∃ m : Nat, m = (x + y) / 2 := ⟨_, rfl⟩
    have hm1 : ((x : Int) + y) / 2 = m := by omega
    have hm2 : x ≤ m ∧ m < y := by omega
    clear hm
    go_upto_region 8 with fail
    have a0 : wr.cell? ⟨W.heap.size, 0, none⟩ = some (.int .i64 a.R) := HW.out.b.fa.cell 0
    have a1 : wr.cell? ⟨W.heap.size, 1, none⟩ = some (.slice A a.T.length ca) := HW.out.b.fa.cell 1
    have a2 : wr.cell? ⟨W.heap.size, 2, none⟩ = some (.slice B a.H.length cb) := HW.out.b.fa.cell 2
    have a3 : wr.cell? ⟨W.heap.size, 3, none⟩ = some (.int .i64 a.b0) := HW.out.b.fa.cell 3
    have a4 : wr.cell? ⟨W.heap.size, 4, none⟩ = some (.int .i64 a.b1) := HW.out.b.fa.cell 4
    have l0 : wr.cell? ⟨W.heap.size + 1, 0, none⟩ = some (.int .i64 lo) := HW.out.fw.cell 0
    have l1 : wr.cell? ⟨W.heap.size + 1, 1, none⟩ = some (.int .i64 hi) := HW.out.fw.cell 1
    have hcall := HD.out m wr HG.out (by omega) (HA.out.1.step HW.out.b.b) ((HA.out.2.below HW.out.b.b).more HW.out.b.b.size)
    cases hs : dryB hi (msOf a L) m <;> rw [hs] at hcall
    · have HX := Lib.hid (show 0 < m + 1 → dryB hi (msOf a L) (((m + 1 : Nat) : Int) - 1) = false from fun _ => by rw [show ((m + 1 : Nat) : Int) - 1 = m by omega]; exact hs)
      clear hs
      go_wp2_with fail
      refine hcall.mono ?_
      rintro e w3 ⟨rfl, hb3⟩
      have X3 := Lib.hid (HW.out.step hb3)
      clear a0 a1 a2 a3 a4 l0 l1 hb3 hcall
      go_wp2_with fail
      go_roundg (y - (m + 1))
      case measure => omega
      case rel => exact ⟨m + 1, y, by omega, hy, Nat.le_refl _, by go_num, rfl, X3.out, Lib.hid ⟨HI.out.1, HX.out⟩⟩
    · have HX := Lib.hid hs
      clear hs
      go_wp2_with fail
      refine hcall.mono ?_
      rintro e w3 ⟨rfl, hb3⟩
      have X3 := Lib.hid (HW.out.step hb3)
      clear a0 a1 a2 a3 a4 l0 l1 hb3 hcall
      go_wp2_with fail
      go_roundg (m - x)
      case measure => omega
      case rel => exact ⟨x, m, by omega, by omega, Nat.le_refl _, rfl, rfl, X3.out, Lib.hid ⟨HX.out, HI.out.2⟩⟩
end Go.Proofs.Ytdmpkeaanaoeaaa

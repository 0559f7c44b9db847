/- The law of what Check and Compare answer. -/
import Derived.Test.YtipejhfgfciabaaLiM
namespace Go.Proofs.Ytipejhfgfciabaa
open Go.RowKit Go.Shelf
set_option maxRecDepth 100000 in
set_option maxHeartbeats 4000000 in
theorem checksLaw_any (x : Tt) (AH AG : Option Addr) (ch cg : Nat) (a : List Int) (A1 : Option Addr) (c1 : Nat) (b : List Int) (A2 : Option Addr) (c2 : Nat) (W : World) (hr : TR W W.heap.size x AH AG) (ha : IRow W W.heap.size A1 a) (hb : IRow W W.heap.size A2 b) :
    Calls Try.prog 3 #[ttv x AH AG ch cg, .slice A1 a.length c1, .slice A2 b.length c2] W (BoolPost true W) := by
  have HB : Hid (VB W (W.alloc (.cells (ttc x AH AG ch cg) 25)) x AH AG ch cg) := ⟨below_one W _, Has.new W 25 _⟩
  have HR := Lib.hid (And.intro hr (And.intro ha hb))
  have HAw := Lib.hid (fun w => awake_any w)
  clear hr ha hb
  by_cases hbig : (8 : Int) < x.G.length ∨ (14 : Int) < x.H.length ∨ (16 : Int) < a.length ∨ (16 : Int) < b.length
  · have hex : (8 : Int) < x.G.length ∨ (¬ (8 : Int) < x.G.length ∧ (14 : Int) < x.H.length) ∨ (¬ (8 : Int) < x.G.length ∧ ¬ (14 : Int) < x.H.length ∧ (16 : Int) < a.length) ∨ (¬ (8 : Int) < x.G.length ∧ ¬ (14 : Int) < x.H.length ∧ ¬ (16 : Int) < a.length ∧ (16 : Int) < b.length) := by omega
    clear hbig
    unfold ttv at *
    rcases hex with h1 | ⟨h1, h2⟩ | ⟨h1, h2, h3⟩ | ⟨h1, h2, h3, h4⟩
    all_goals
      go_enter Try.func3, Try.ntmps3
      go_upto_region 1 with fail
      generalize W.alloc (.cells (ttc x AH AG ch cg) 25) = w0 at HB ⊢
      have x0 : w0.cell? ⟨W.heap.size, 0, none⟩ = some (.slice AH x.H.length ch) := HB.out.fx.cell 0
      have x1 : w0.cell? ⟨W.heap.size, 1, none⟩ = some (.slice AG x.G.length cg) := HB.out.fx.cell 1
      go_wp2_with fail
      refine (HAw.out _).mono ?_
      rintro e w1 ⟨rfl, hb1⟩
      have H1 := Lib.hid (HB.out.step hb1)
      clear hb1
      go_wp2_with fail
      go_ret
      exact ⟨rfl, H1.out.b⟩
  have h1 : ¬ (8 : Int) < x.G.length := by omega
  have h2 : ¬ (14 : Int) < x.H.length := by omega
  have h3 : ¬ (16 : Int) < a.length := by omega
  have h4 : ¬ (16 : Int) < b.length := by omega
  clear hbig
  have HC1 := Lib.hid (fun w h h' => Check_any x AH AG ch cg a A1 c1 w h h')
  have HC2 := Lib.hid (fun w h h' => dCheck_any x AH AG ch cg a A1 c1 w h h' (by omega) (by omega) (by omega))
  have HK1 := Lib.hid (fun w h h' h'' => Compare_any x AH AG ch cg a b A1 A2 c1 c2 w h h' h'')
  have HK2 := Lib.hid (fun w h h' h'' => dCompare_any x AH AG ch cg a b A1 A2 c1 c2 w h h' h'' (by omega) (by omega) (by omega) (by omega))
  have hle := check_le x a
  obtain ⟨l, n, e, hE⟩ : ∃ l n e, checkR x a = (l, n, e) := ⟨_, _, _, rfl⟩
  obtain ⟨q, f, hF⟩ : ∃ q f, compR x a b = (q, f) := ⟨_, _, rfl⟩
  rw [hE] at HC1 HC2 hle
  rw [hF] at HK1 HK2
  simp only at hle
  clear hE hF
  have HI := Lib.hid (fun A A' c d w h h' => ints_any l l A A' c d w h h' hle)
  rw [show decide (l = l) = true by simp] at HI
  unfold ttv at *
  go_enter Try.func3, Try.ntmps3
  go_upto_region 1 with fail
  generalize W.alloc (.cells (ttc x AH AG ch cg) 25) = w0 at HB ⊢
  have x0 : w0.cell? ⟨W.heap.size, 0, none⟩ = some (.slice AH x.H.length ch) := HB.out.fx.cell 0
  have x1 : w0.cell? ⟨W.heap.size, 1, none⟩ = some (.slice AG x.G.length cg) := HB.out.fx.cell 1
  have x2 : w0.cell? ⟨W.heap.size, 2, none⟩ = some (.int .i64 x.R) := HB.out.fx.cell 2
  go_wp2_with fail
  refine (HC1.out _ (HR.out.1.step HB.out.b) (HR.out.2.1.step HB.out.b)).mono ?_
  rintro _ w1 ⟨B1, d1, rfl, hr1, hb1, -⟩
  have H1 := Lib.hid (And.intro (HB.out.step hb1) hr1)
  clear hr1 hb1 x0 x1 x2 HB HC1
  have x0 : w1.cell? ⟨W.heap.size, 0, none⟩ = some (.slice AH x.H.length ch) := H1.out.1.fx.cell 0
  have x1 : w1.cell? ⟨W.heap.size, 1, none⟩ = some (.slice AG x.G.length cg) := H1.out.1.fx.cell 1
  have x2 : w1.cell? ⟨W.heap.size, 2, none⟩ = some (.int .i64 x.R) := H1.out.1.fx.cell 2
  dsimp only
  go_wp2_with fail
  refine (HC2.out _ (HR.out.1.step H1.out.1.b) (HR.out.2.1.step H1.out.1.b)).mono ?_
  rintro _ w2 ⟨B2, d2, rfl, hr2, hb2, -⟩
  have H2 := Lib.hid (And.intro (H1.out.1.step hb2) (And.intro (H1.out.2.step hb2) hr2))
  clear hr2 hb2 x0 x1 x2 H1 HC2
  have x0 : w2.cell? ⟨W.heap.size, 0, none⟩ = some (.slice AH x.H.length ch) := H2.out.1.fx.cell 0
  have x1 : w2.cell? ⟨W.heap.size, 1, none⟩ = some (.slice AG x.G.length cg) := H2.out.1.fx.cell 1
  have x2 : w2.cell? ⟨W.heap.size, 2, none⟩ = some (.int .i64 x.R) := H2.out.1.fx.cell 2
  dsimp only
  go_wp2_with fail
  refine (HK1.out _ (HR.out.1.step H2.out.1.b) (HR.out.2.1.step H2.out.1.b) (HR.out.2.2.step H2.out.1.b)).mono ?_
  rintro _ w3 ⟨rfl, hb3⟩
  have H3 := Lib.hid (And.intro (H2.out.1.step hb3) (And.intro (H2.out.2.1.step hb3) (H2.out.2.2.step hb3)))
  clear hb3 x0 x1 x2 H2 HK1
  have x0 : w3.cell? ⟨W.heap.size, 0, none⟩ = some (.slice AH x.H.length ch) := H3.out.1.fx.cell 0
  have x1 : w3.cell? ⟨W.heap.size, 1, none⟩ = some (.slice AG x.G.length cg) := H3.out.1.fx.cell 1
  have x2 : w3.cell? ⟨W.heap.size, 2, none⟩ = some (.int .i64 x.R) := H3.out.1.fx.cell 2
  dsimp only
  go_wp2_with fail
  refine (HK2.out _ (HR.out.1.step H3.out.1.b) (HR.out.2.1.step H3.out.1.b) (HR.out.2.2.step H3.out.1.b)).mono ?_
  rintro _ w4 ⟨rfl, hb4⟩
  have H4 := Lib.hid (And.intro (H3.out.1.step hb4) (And.intro (H3.out.2.1.step hb4) (H3.out.2.2.step hb4)))
  clear hb4 x0 x1 x2 H3 HK2
  dsimp only
  go_wp2_with fail
  refine (HI.out _ _ _ _ _ H4.out.2.1 H4.out.2.2).mono ?_
  rintro _ w5 ⟨rfl, hb5⟩
  have H5 := Lib.hid (H4.out.1.step hb5)
  clear hb5 H4 HI
  go_wp2_with fail
  refine (HAw.out _).mono ?_
  rintro _ w6 ⟨rfl, hb6⟩
  have H6 := Lib.hid (H5.out.step hb6)
  clear hb6
  go_wp2_with fail
  go_ret
  exact ⟨rfl, H6.out.b⟩
end Go.Proofs.Ytipejhfgfciabaa

/- The law of Travel. -/
import Derived.Test.YtljkgjfmambfoaaDoorLzA
import Derived.Test.YtljkgjfmambfoaaDoorLgW
import Derived.Test.YtljkgjfmambfoaaDoorLgY
import Derived.Test.YtljkgjfmambfoaaDoorLzS
namespace Go.Proofs.YtljkgjfmambfoaaDoor
open Go.RowKit Go.Shelf
attribute [local irreducible] wpQuiet
attribute [local go_sem] Oper.semAt_some
set_option maxRecDepth 100000 in
set_option maxHeartbeats 4000000 in
theorem travelBig (x : Lg) (AF AG : Option Addr) (cf cg : Nat) (t : Int) (W : World) (hW : Wo W) (hr : LgR W W.heap.size x AF AG) (hb : largeB x 4 = true ∨ (largeB x 4 = false ∧ 32 < x.G.length)) :
    Calls Tryd.prog 8 #[lgv x AF AG cf cg, .int .i64 t] W (BoolPost true W) := by
  have HB : Hid (LX W (W.alloc (.cells (lgc x AF AG cf cg) 25)) W.heap.size x AF AG cf cg ∧ Wo (W.alloc (.cells (lgc x AF AG cf cg) 25))) := Lib.hid ⟨LX.start hr, hW.step (below_one _ _)⟩
  have HL := Lib.hid (fun w (h : LX W w W.heap.size x AF AG cf cg) => large_any x AF AG cf cg 4 w h.up)
  have HA := Lib.hid (fun w (h : Wo w) => awake_any w h)
  clear hW hr
  unfold lgv at *
  rcases hb with hb | ⟨hb, h32⟩ <;> rw [hb] at HL
  · clear hb
    go_enter Tryd.func8, Tryd.ntmps8
    go_upto_region 1 with fail
    generalize W.alloc (.cells (lgc x AF AG cf cg) 25) = w9 at HB ⊢
    have x0 : w9.cell? ⟨W.heap.size, 0, none⟩ = some (.slice AF x.F.length cf) := HB.out.1.fx.cell 0
    have x1 : w9.cell? ⟨W.heap.size, 1, none⟩ = some (.slice AG x.G.length cg) := HB.out.1.fx.cell 1
    go_wp2_with fail
    refine (HL.out _ HB.out.1).mono ?_
    rintro e w1 ⟨rfl, hb1⟩
    have H1 := Lib.hid (And.intro (HB.out.1.step hb1) (HB.out.2.step hb1))
    clear hb1 x0 x1 HB
    go_wp2_with fail
    refine (HA.out _ H1.out.2).mono ?_
    rintro e w2 ⟨rfl, hb2⟩
    have H2 := Lib.hid (H1.out.1.step hb2)
    clear hb2 H1
    go_wp2_with fail
    go_ret
    exact ⟨rfl, H2.out.b⟩
  · have q32 : (32 : Int) < x.G.length := by omega
    clear hb h32
    go_enter Tryd.func8, Tryd.ntmps8
    go_upto_region 1 with fail
    generalize W.alloc (.cells (lgc x AF AG cf cg) 25) = w9 at HB ⊢
    have x0 : w9.cell? ⟨W.heap.size, 0, none⟩ = some (.slice AF x.F.length cf) := HB.out.1.fx.cell 0
    have x1 : w9.cell? ⟨W.heap.size, 1, none⟩ = some (.slice AG x.G.length cg) := HB.out.1.fx.cell 1
    go_wp2_with fail
    refine (HL.out _ HB.out.1).mono ?_
    rintro e w1 ⟨rfl, hb1⟩
    have H1 := Lib.hid (And.intro (HB.out.1.step hb1) (HB.out.2.step hb1))
    clear hb1 x0 x1 HB
    have x1 : w1.cell? ⟨W.heap.size, 1, none⟩ = some (.slice AG x.G.length cg) := H1.out.1.fx.cell 1
    go_wp2_with fail
    refine (HA.out _ H1.out.2).mono ?_
    rintro e w2 ⟨rfl, hb2⟩
    have H2 := Lib.hid (H1.out.1.step hb2)
    clear hb2 H1
    go_wp2_with fail
    go_ret
    exact ⟨rfl, H2.out.b⟩
set_option maxRecDepth 100000 in
set_option maxHeartbeats 4000000 in
theorem travelBad (x : Lg) (AF AG : Option Addr) (cf cg : Nat) (t : Int) (W : World) (hW : Wo W) (hr : LgR W W.heap.size x AF AG) (hb : largeB x 4 = false) (h32 : x.G.length ≤ 32) (e0 : Int) (he : travR x t = (0, e0)) (h12 : e0 = 1 ∨ e0 = 2) :
    Calls Tryd.prog 8 #[lgv x AF AG cf cg, .int .i64 t] W (BoolPost true W) := by
  have HB : Hid (LX W (W.alloc (.cells (lgc x AF AG cf cg) 25)) W.heap.size x AF AG cf cg ∧ Wo (W.alloc (.cells (lgc x AF AG cf cg) 25))) := Lib.hid ⟨LX.start hr, hW.step (below_one _ _)⟩
  have HL := Lib.hid (fun w (h : LX W w W.heap.size x AF AG cf cg) => large_any x AF AG cf cg 4 w h.up)
  have HA := Lib.hid (fun w (h : Wo w) => awake_any w h)
  have HT := Lib.hid (fun w (h : LX W w W.heap.size x AF AG cf cg) => Travel_any x AF AG cf cg t w h.up)
  rw [he] at HT
  rw [hb] at HL
  have q32 : ¬ (32 : Int) < x.G.length := by omega
  clear hW hr he hb h32
  unfold lgv at *
  unfold IEPost at HT
  go_enter Tryd.func8, Tryd.ntmps8
  go_upto_region 1 with fail
  generalize W.alloc (.cells (lgc x AF AG cf cg) 25) = w9 at HB ⊢
  have x0 : w9.cell? ⟨W.heap.size, 0, none⟩ = some (.slice AF x.F.length cf) := HB.out.1.fx.cell 0
  have x1 : w9.cell? ⟨W.heap.size, 1, none⟩ = some (.slice AG x.G.length cg) := HB.out.1.fx.cell 1
  go_wp2_with fail
  refine (HL.out _ HB.out.1).mono ?_
  rintro e w1 ⟨rfl, hb1⟩
  have H1 := Lib.hid (And.intro (HB.out.1.step hb1) (HB.out.2.step hb1))
  clear hb1 x0 x1 HB HL
  have x0 : w1.cell? ⟨W.heap.size, 0, none⟩ = some (.slice AF x.F.length cf) := H1.out.1.fx.cell 0
  have x1 : w1.cell? ⟨W.heap.size, 1, none⟩ = some (.slice AG x.G.length cg) := H1.out.1.fx.cell 1
  go_wp2_with fail
  refine (HT.out _ H1.out.1).mono ?_
  rintro e w2 ⟨rfl, hb2⟩
  have H2 := Lib.hid (And.intro (H1.out.1.step hb2) (H1.out.2.step hb2))
  clear hb2 x0 x1 H1 HT
  rcases h12 with rfl | rfl
  all_goals
    go_wp2_with fail
    refine (HA.out _ H2.out.2).mono ?_
    rintro e w3 ⟨rfl, hb3⟩
    have H3 := Lib.hid (H2.out.1.step hb3)
    clear hb3 H2
    go_wp2_with fail
    go_ret
    exact ⟨rfl, H3.out.b⟩
theorem lx_cells {W w : World} {x : Lg} {AF AG : Option Addr} {cf cg : Nat} (h : LX W w W.heap.size x AF AG cf cg) : w.cell? ⟨W.heap.size, 0, none⟩ = some (.slice AF x.F.length cf) ∧ w.cell? ⟨W.heap.size, 1, none⟩ = some (.slice AG x.G.length cg) := ⟨h.fx.cell 0, h.fx.cell 1⟩
theorem lx_far {W w w' : World} {x : Lg} {AF AG : Option Addr} {cf cg P : Nat} (h : LX W w W.heap.size x AF AG cf cg) (ho : Wo w) (hb : Below P w w') (hP : W.heap.size < P) : LX W w' W.heap.size x AF AG cf cg ∧ Wo w' :=
  ⟨⟨h.b.trans (hb.mono (by omega)), h.fx.below hb hP, h.r.below (hb.mono (by omega))⟩, ⟨by have := ho.lt; have := hb.size; omega, fun i hi => (hb.cell (p := ⟨0, i, none⟩) (by show 0 < P; omega)).trans (ho.c i hi)⟩⟩
/-- what the law has laid -/
structure TvI (W w : World) (x : Lg) (AF AG : Option Addr) (cf cg D7 D8 B : Nat) (S : List Gm) (v : Value) : Prop where
  lx : LX W w W.heap.size x AF AG cf cg
  wo : Wo w
  f7 : Has w D7 25 #[.slice AF x.F.length cf, v]
  f8 : Has w D8 25 #[.slice AF x.F.length cf, .slice none 0 0]
  ow : w.ownsRow B 53 6 v S.length (nvl gmc S)
  lt : W.heap.size < D7 ∧ W.heap.size < D8 ∧ D7 < B ∧ D8 < B ∧ ¬ D7 = D8
  le : B ≤ w.heap.size
section
variable {W w w' : World} {x : Lg} {AF AG : Option Addr} {cf cg D7 D8 B : Nat} {S S' : List Gm} {v v' : Value}
theorem TvI.step (h : TvI W w x AF AG cf cg D7 D8 B S v) (hb : Below w.heap.size w w') : TvI W w' x AF AG cf cg D7 D8 B S v :=
  ⟨h.lx.step hb, h.wo.step hb, h.f7.below hb h.f7.lt, h.f8.below hb h.f8.lt, own_step h.ow hb, h.lt, Nat.le_trans h.le hb.size⟩
theorem TvI.gb (h : TvI W w x AF AG cf cg D7 D8 B S v) (hg : w.grownBy w' v.ownBlock) : Below B w w' :=
  ⟨hg.os, hg.tape, hg.output, hg.size, fun i hi => hg.block i (by have := h.le; omega) (fun e => by have := (own_block h.ow i e.symm).1; omega)⟩
theorem TvI.drewN (h : TvI W w x AF AG cf cg D7 D8 B S v) (n : Nat) : TvI W (w.drewN n) x AF AG cf cg D7 D8 B S v := h.step ⟨rfl, rfl, rfl, Nat.le_refl _, fun _ _ => rfl⟩
theorem TvI.grown (h : TvI W w x AF AG cf cg D7 D8 B S v) (hg : w.grownBy w' v.ownBlock) (ho : w'.ownsRow B 53 6 v' S'.length (nvl gmc S')) :
   
    TvI W (w'.setCell ⟨D7, 1, none⟩ v') x AF AG cf cg D7 D8 B S' v' := by
  have hlt := h.lt
  have hB := h.le
  have hb : Below B w w' := ⟨hg.os, hg.tape, hg.output, hg.size, fun i hi => hg.block i (by omega) (fun e => by have := (own_block h.ow i e.symm).1; omega)⟩
  have hb2 : Below (W.heap.size + 1) w (w'.setCell ⟨D7, 1, none⟩ v') := (hb.mono (by omega)).setCell (p := ⟨D7, 1, none⟩) (by show W.heap.size + 1 ≤ D7; omega) _
  refine ⟨⟨h.lx.b.trans (hb2.mono (by omega)), h.lx.fx.below hb2 (by omega), h.lx.r.below (hb2.mono (by omega))⟩, ⟨by have := h.wo.lt; have := hb2.size; omega, fun i hi => (hb2.cell (p := ⟨0, i, none⟩) (by show 0 < W.heap.size + 1; omega)).trans (h.wo.c i hi)⟩, ?_, ?_, own_far ho (p := ⟨D7, 1, none⟩) (by show D7 < B; omega) _, hlt, by have := hb2.size; omega⟩
  · have := (h.f7.below hb hlt.2.2.1).set 1 v'
    simpa using this
  · exact (h.f8.below hb hlt.2.2.2.1).far (p := ⟨D7, 1, none⟩) (by show D8 ≠ D7; omega) _
end
theorem TvI.cells7 {W w : World} {x : Lg} {AF AG : Option Addr} {cf cg D7 D8 B : Nat} {S : List Gm} {v : Value} (h : TvI W w x AF AG cf cg D7 D8 B S v) : w.cell? ⟨D7, 0, none⟩ = some (.slice AF x.F.length cf) ∧ w.cell? ⟨D7, 1, none⟩ = some v := ⟨h.f7.cell 0, h.f7.cell 1⟩
theorem TvI.nrow {W w : World} {x : Lg} {AF AG A2 : Option Addr} {cf cg D7 D8 B c2 : Nat} {S : List Gm} (h : TvI W w x AF AG cf cg D7 D8 B S (.slice A2 S.length c2)) : NRow gmc 6 w w.heap.size A2 S ∧ (A2 = none → S.length = 0) := by
  obtain ⟨A, cap, e, hN⟩ := own_nrow gmc_size h.ow
  cases e
  exact ⟨hN, fun e => nrow_none hN e⟩
theorem cell_lt {w : World} {g o : Nat} {v : Value} (h : w.cell? ⟨g, o, none⟩ = some v) : g < w.heap.size := by
  rcases Nat.lt_or_ge g w.heap.size with h1 | h1
  · exact h1
  · simp [World.cell?, Array.getElem?_eq_none h1] at h
theorem cell_keep {w w' : World} {g o : Nat} {v : Value} (hb : Below w.heap.size w w') (h : w.cell? ⟨g, o, none⟩ = some v) : w'.cell? ⟨g, o, none⟩ = some v := (hb.cell (p := ⟨g, o, none⟩) (cell_lt h)).trans h
theorem far_row {w : World} {B : Nat} {x : Lg} {AF AG : Option Addr} (h : LgR w B x AF AG) (hv : VL x) {a : Nat} (ha : a < x.F.length) :
    ∃ g o g' o' c, AF = some ⟨g, o, none⟩ ∧ w.cell? ⟨g, o + a, none⟩ = some (.slice (some ⟨g', o', none⟩) x.F.length c) ∧ ∀ b : Nat, b < x.F.length → w.cell? ⟨g', o' + b, none⟩ = some (.int .i64 (farA x.F a b)) := by
  obtain ⟨g, o, M, c, e, h1, h2, -⟩ := farRow_cell h.f ha
  have hl := (hv.fr _ (List.getElem_mem ha)).1
  obtain ⟨g', o', e', -, -⟩ := h2 0 (by omega)
  subst e'
  refine ⟨g, o, g', o', c, e, by rw [h1, hl], fun b hb => ?_⟩
  obtain ⟨g2, o2, e2, -, h3⟩ := h2 b (by omega)
  cases e2
  rw [h3]
  unfold farA
  simp only [Int.toNat_natCast]
  rw [List.getElem?_eq_getElem ha]
  simp only [Option.getD_some]
  rw [List.getElem?_eq_getElem (by omega)]
  rfl
def twoK (F : List (List Int)) (a T : Int) (s v : Int) : List Gm → Int
  | [] => s + v
  | g :: _ => 2 * (s + v) - v - farA F T g.home + farA F a g.home
/-- both leagues -/
structure TwI (W w : World) (x : Lg) (AF AG : Option Addr) (cf cg D7 D8 : Nat) (S : List Gm) (A2 : Option Addr) (c2 : Nat) (A5 : Option Addr) (c5 : Nat) : Prop where
  lx : LX W w W.heap.size x AF AG cf cg
  wo : Wo w
  f7 : Has w D7 25 #[.slice AF x.F.length cf, .slice A2 S.length c2]
  f8 : Has w D8 25 #[.slice AF x.F.length cf, .slice A5 (S.length + S.length) c5]
  g7 : LgR w w.heap.size ⟨x.F, S⟩ AF A2
  g8 : LgR w w.heap.size ⟨x.F, S ++ S⟩ AF A5
theorem TwI.step {W w w' : World} {x : Lg} {AF AG : Option Addr} {cf cg D7 D8 : Nat} {S : List Gm} {A2 : Option Addr} {c2 : Nat} {A5 : Option Addr} {c5 : Nat} (h : TwI W w x AF AG cf cg D7 D8 S A2 c2 A5 c5) (hb : Below w.heap.size w w') : TwI W w' x AF AG cf cg D7 D8 S A2 c2 A5 c5 :=
  ⟨h.lx.step hb, h.wo.step hb, h.f7.below hb h.f7.lt, h.f8.below hb h.f8.lt, h.g7.step hb, h.g8.step hb⟩
theorem TwI.of_tv {W w : World} {x : Lg} {AF AG A2 A5 : Option Addr} {cf cg D7 D8 B E c2 c5 : Nat} {S : List Gm} (h : TvI W w x AF AG cf cg D7 D8 B S (.slice A2 S.length c2)) (ho : w.ownsRow E 53 6 (.slice A5 (S.length + S.length) c5) (S.length + S.length) (nvl gmc S ++ nvl gmc S)) (hE : B ≤ E) (hS : S.length ≤ 32) (hlt : W.heap.size < D7 ∧ W.heap.size < D8 ∧ D7 < B ∧ D8 < B ∧ ¬ D7 = D8) :
    TwI W (w.setCell ⟨D8, 1, none⟩ (.slice A5 (S.length + S.length) c5)) x AF AG cf cg D7 D8 S A2 c2 A5 c5 := by
  have hb : Below D8 w (w.setCell ⟨D8, 1, none⟩ (.slice A5 (S.length + S.length) c5)) := (Below.refl _ _).setCell (p := ⟨D8, 1, none⟩) (Nat.le_refl _) _
  have hl := lx_far h.lx h.wo hb hlt.2.1
  have o1 := own_far h.ow (p := ⟨D8, 1, none⟩) (by show D8 < B; omega) (.slice A5 (S.length + S.length) c5)
  have o2 := own_far ho (p := ⟨D8, 1, none⟩) (by show D8 < E; omega) (.slice A5 (S.length + S.length) c5)
  obtain ⟨A, cap, e, hN⟩ := own_nrow gmc_size o1
  cases e
  rw [← nvl_append, ← List.length_append] at o2
  obtain ⟨A, cap, e, hM⟩ := own_nrow gmc_size o2
  rw [List.length_append] at e
  cases e
  refine ⟨hl.1, hl.2, h.f7.far (p := ⟨D8, 1, none⟩) (by show D7 ≠ D8; omega) _, ?_, ⟨hl.1.up.f, ?_, h.lx.r.lf, ?_⟩, ⟨hl.1.up.f, ?_, h.lx.r.lf, ?_⟩⟩
  · have := h.f8.set 1 (.slice A5 (S.length + S.length) c5)
    simpa using this
  · exact hN
  · show S.length ≤ big; unfold big; omega
  · rw [List.length_append] at hM; exact hM
  · show (S ++ S).length ≤ big; rw [List.length_append]; unfold big; omega
theorem TvI.start {W w : World} {x : Lg} {AF AG : Option Addr} {cf cg D7 D8 : Nat} (h : LX W w W.heap.size x AF AG cf cg) (ho : Wo w) (h7 : Has w D7 25 (lgc x AF AG cf cg)) (h8 : Has w D8 25 (lgc x AF AG cf cg)) (l7 : W.heap.size < D7) (l8 : W.heap.size < D8) (hne : ¬ D7 = D8) :
    TvI W ((w.setCell ⟨D7, 1, none⟩ (.slice none 0 0)).setCell ⟨D8, 1, none⟩ (.slice none 0 0)) x AF AG cf cg D7 D8 w.heap.size [] (.slice none 0 0) := by
  have hb : Below (W.heap.size + 1) w ((w.setCell ⟨D7, 1, none⟩ (.slice none 0 0)).setCell ⟨D8, 1, none⟩ (.slice none 0 0)) := ((Below.refl _ _).setCell (p := ⟨D7, 1, none⟩) (by show W.heap.size + 1 ≤ D7; omega) _).setCell (p := ⟨D8, 1, none⟩) (by show W.heap.size + 1 ≤ D8; omega) _
  have hl := lx_far h ho hb (by omega)
  refine ⟨hl.1, hl.2, ?_, ?_, by simpa [nvl] using own_nil _ _ _ _, ⟨l7, l8, h7.lt, h8.lt, hne⟩, by simp [World.setCell]⟩
  · have := (h7.set 1 (.slice none 0 0)).far (p := ⟨D8, 1, none⟩) (by show D7 ≠ D8; omega) (.slice none 0 0)
    simpa using this
  · have := (h8.far (p := ⟨D7, 1, none⟩) (by show D8 ≠ D7; omega) (.slice none 0 0)).set 1 (.slice none 0 0)
    simpa using this
theorem large_op {x : Lg} (h : largeB x 4 = false) (hl : lgB x = true) : openN x.G ≤ 4 := by
  have := (vl_of hl).o
  unfold largeB at h
  simp only [Bool.or_eq_false_iff, Bool.and_eq_false_iff, decide_eq_false_iff_not] at h
  omega
set_option maxRecDepth 100000 in
set_option maxHeartbeats 4000000 in
theorem travelGood (x : Lg) (AF AG : Option Addr) (cf cg : Nat) (t : Int) (W : World) (hW : Wo W) (hr : LgR W W.heap.size x AF AG) (hb : largeB x 4 = false) (h32 : x.G.length ≤ 32) (hl : lgB x = true) (ht : teamB x.F.length t = true) :
    Calls Tryd.prog 8 #[lgv x AF AG cf cg, .int .i64 t] W (BoolPost true W) := by
  have HB : Hid (LX W (W.alloc (.cells (lgc x AF AG cf cg) 25)) W.heap.size x AF AG cf cg ∧ Wo (W.alloc (.cells (lgc x AF AG cf cg) 25))) := Lib.hid ⟨LX.start hr, hW.step (below_one _ _)⟩
  have HL := Lib.hid (fun w (h : LX W w W.heap.size x AF AG cf cg) => large_any x AF AG cf cg 4 w h.up)
  have HA := Lib.hid (fun w (h : Wo w) => awake_any w h)
  have HT := Lib.hid (fun w (h : LX W w W.heap.size x AF AG cf cg) => Travel_any x AF AG cf cg t w h.up)
  have HV := Lib.hid (fun w (h : LX W w W.heap.size x AF AG cf cg) => docValid_any x AF AG cf cg w h.up)
  rw [hl] at HV
  have HTO := Lib.hid (trav_own hl ht)
  have HTT := Lib.hid (trav_two hl ht h32 (large_op hb hl))
  have HTR := Lib.hid (trav_ok hl ht)
  have hvl := vl_of hl
  have htm : 0 ≤ t ∧ t < x.F.length := by unfold teamB inB at ht; simp only [decide_eq_true_eq] at ht; omega
  have HVL := Lib.hid hvl
  have hnf := hvl.nf
  obtain ⟨T, hT⟩ : ∃ T : Nat, t = (T : Int) := ⟨t.toNat, by omega⟩
  subst hT
  obtain ⟨n, hn⟩ : ∃ n, n = (travR x T).1 := ⟨_, rfl⟩
  have HN := Lib.hid hn
  have e1 : travR x T = (n, 0) := by rw [hn, HTR.out]
  rw [e1] at HT
  have hnb : 0 ≤ n ∧ n ≤ 10000000 := by
    have h1 := wayG_bd hvl htm x.G.length (Nat.le_refl _)
    rw [wayG_all] at h1
    have h2 := far_bd hvl (wayP x.F T x.G).2 T
    rw [hn, HTR.out]
    simp only
    omega
  clear hn e1 hvl
  rw [hb] at HL
  have q32 : ¬ (32 : Int) < x.G.length := by omega
  clear hW hr hb hl ht h32
  unfold lgv at *
  unfold IEPost at HT
  go_enter Tryd.func8, Tryd.ntmps8
  go_upto_region 1 with fail
  generalize W.alloc (.cells (lgc x AF AG cf cg) 25) = w9 at HB ⊢
  have x0 : w9.cell? ⟨W.heap.size, 0, none⟩ = some (.slice AF x.F.length cf) := HB.out.1.fx.cell 0
  have x1 : w9.cell? ⟨W.heap.size, 1, none⟩ = some (.slice AG x.G.length cg) := HB.out.1.fx.cell 1
  go_wp2_with fail
  refine (HL.out _ HB.out.1).mono ?_
  rintro e w1 ⟨rfl, hb1⟩
  have H1 := Lib.hid (And.intro (HB.out.1.step hb1) (HB.out.2.step hb1))
  clear hb1 x0 x1 HB HL
  have x0 : w1.cell? ⟨W.heap.size, 0, none⟩ = some (.slice AF x.F.length cf) := H1.out.1.fx.cell 0
  have x1 : w1.cell? ⟨W.heap.size, 1, none⟩ = some (.slice AG x.G.length cg) := H1.out.1.fx.cell 1
  go_wp2_with fail
  refine (HT.out _ H1.out.1).mono ?_
  rintro e w2 ⟨rfl, hb2⟩
  have H2 := Lib.hid (And.intro (H1.out.1.step hb2) (H1.out.2.step hb2))
  clear hb2 x0 x1 H1 HT
  have x0 : w2.cell? ⟨W.heap.size, 0, none⟩ = some (.slice AF x.F.length cf) := H2.out.1.fx.cell 0
  have x1 : w2.cell? ⟨W.heap.size, 1, none⟩ = some (.slice AG x.G.length cg) := H2.out.1.fx.cell 1
  go_wp2_with fail
  refine (HV.out _ H2.out.1).mono ?_
  rintro e w3 ⟨rfl, hb3⟩
  have H3 := Lib.hid (And.intro (H2.out.1.step hb3) (H2.out.2.step hb3))
  clear hb3 x0 x1 H2 HV
  have x0 : w3.cell? ⟨W.heap.size, 0, none⟩ = some (.slice AF x.F.length cf) := H3.out.1.fx.cell 0
  have x1 : w3.cell? ⟨W.heap.size, 1, none⟩ = some (.slice AG x.G.length cg) := H3.out.1.fx.cell 1
  have ht2 : (T : Int) < x.F.length := htm.2
  go_upto_region 8 with fail
  go_cut [7, 8] (fun u7 u8 wx => ∃ D7 D8, u7 = .pointer (some ⟨D7, 0, none⟩) ∧ u8 = .pointer (some ⟨D8, 0, none⟩) ∧ Hid (LX W wx W.heap.size x AF AG cf cg ∧ Wo wx ∧ Has wx D7 25 (lgc x AF AG cf cg) ∧ Has wx D8 25 (lgc x AF AG cf cg) ∧ W.heap.size < D7 ∧ W.heap.size < D8 ∧ ¬ D7 = D8))
  case first =>
    have H4 : Hid (LX W w3.drew W.heap.size x AF AG cf cg ∧ Wo w3.drew) := Lib.hid ⟨H3.out.1.step (Below.refl _ _).drew, H3.out.2.step (Below.refl _ _).drew⟩
    have K4 := Lib.hid (lx_cells H4.out.1)
    clear x0 x1
    refine wp_region_late (fun w' : World => w'.cell? ⟨W.heap.size, 0, none⟩ = some (.slice AF x.F.length cf) ∧ w'.cell? ⟨W.heap.size, 1, none⟩ = some (.slice AG x.G.length cg)) [5] (by kernel_rfl) ?_
    generalize w3.drew = w4 at H4 K4 ⊢
    refine wpLate_take (i := 0) (oi := ?oi0r8_) (v := ?v0r8_) [4, 5] ?hi0r8_ (by kernel_rfl) (by kernel_rfl) (by kernel_rfl) (by kernel_rfl) (by kernel_rfl) ?hQ0r8_ (Or.inl ⟨?hw0r8_, ?hy0r8_⟩) K4.out ?rest0r8_
    case hi0r8_ => (simp only [List.getElem?_toArray, List.getElem?_cons_zero]; rfl)
    case hQ0r8_ => exact fun _ _ _ h => h
    case hw0r8_ => rfl
    case hy0r8_ =>
      intro w' hSw
      obtain ⟨r0, r1⟩ := hSw
      go_simp
      try exact rfl
    try simp only [Act.put, List.setIfInBounds_toArray, List.set_cons_zero, List.set_cons_succ]
    refine wpLate_take (i := 1) (oi := ?oi1r8_) (v := ?v1r8_) [5] ?hi1r8_ (by kernel_rfl) (by kernel_rfl) (by kernel_rfl) (by kernel_rfl) (by kernel_rfl) ?hQ1r8_ (Or.inl ⟨?hw1r8_, ?hy1r8_⟩) K4.out ?rest1r8_
    case hi1r8_ => (simp only [List.getElem?_toArray, List.getElem?_cons_zero, List.getElem?_cons_succ]; rfl)
    case hQ1r8_ => exact fun _ _ _ h => h
    case hw1r8_ => rfl
    case hy1r8_ =>
      intro w' hSw
      obtain ⟨r0, r1⟩ := hSw
      go_simp
      try exact rfl
    try simp only [Act.put, List.setIfInBounds_toArray, List.set_cons_zero, List.set_cons_succ]
    refine wpLate_two (i := 2) (j := 3) (o := ?o2) (u := ?o3) (by kernel_rfl) ?h2 ?h3 ?b2 ?b3
    case h2 => (simp only [List.getElem?_toArray, List.getElem?_cons_zero, List.getElem?_cons_succ]; rfl)
    case h3 => (simp only [List.getElem?_toArray, List.getElem?_cons_zero, List.getElem?_cons_succ]; rfl)
    case b2 =>
      intro K hK
      go_simp
      have H5 : Hid (LX W (w4.alloc (.cells #[.slice none 0 0, .slice none 0 0] 25)) W.heap.size x AF AG cf cg ∧ Wo (w4.alloc (.cells #[.slice none 0 0, .slice none 0 0] 25)) ∧ Has (w4.alloc (.cells #[.slice none 0 0, .slice none 0 0] 25)) w4.heap.size 25 #[.slice none 0 0, .slice none 0 0] ∧ W.heap.size < w4.heap.size) := Lib.hid ⟨H4.out.1.step (below_one _ _), H4.out.2.step (below_one _ _), Has.new _ _ _, H4.out.1.fx.lt⟩
      have K5 := Lib.hid (lx_cells H5.out.1)
      generalize (w4.alloc (.cells #[.slice none 0 0, .slice none 0 0] 25)) = w5 at H5 K5 ⊢
      generalize w4.heap.size = P1 at H5 ⊢
      refine hK.out _ _ (fun h => K5.out) ?_
      clear hK K
      try simp only [Act.put, List.setIfInBounds_toArray, List.set_cons_zero, List.set_cons_succ]
      refine wpLate_one (i := 3) (o := ?p3_2) (by kernel_rfl) ?q3_2 ?r3_2
      case q3_2 => (simp only [List.getElem?_toArray, List.getElem?_cons_zero, List.getElem?_cons_succ]; rfl)
      intro K hK
      go_simp
      have H6 : Hid (LX W (w5.alloc (.cells #[.slice none 0 0, .slice none 0 0] 25)) W.heap.size x AF AG cf cg ∧ Wo (w5.alloc (.cells #[.slice none 0 0, .slice none 0 0] 25)) ∧ Has (w5.alloc (.cells #[.slice none 0 0, .slice none 0 0] 25)) P1 25 #[.slice none 0 0, .slice none 0 0] ∧ Has (w5.alloc (.cells #[.slice none 0 0, .slice none 0 0] 25)) w5.heap.size 25 #[.slice none 0 0, .slice none 0 0] ∧ W.heap.size < P1 ∧ P1 < w5.heap.size) := Lib.hid ⟨H5.out.1.step (below_one _ _), H5.out.2.1.step (below_one _ _), H5.out.2.2.1.alloc _, Has.new _ _ _, H5.out.2.2.2, H5.out.2.2.1.lt⟩
      have K6 := Lib.hid (lx_cells H6.out.1)
      generalize (w5.alloc (.cells #[.slice none 0 0, .slice none 0 0] 25)) = w6 at H6 K6 ⊢
      generalize w5.heap.size = P2 at H6 ⊢
      refine hK.out _ _ (fun h => K6.out) ?_
      clear hK K
      try simp only [Act.put, List.setIfInBounds_toArray, List.set_cons_zero, List.set_cons_succ]
      have c0 := (H6.out.2.2.1).cell 0
      have c1 := (H6.out.2.2.1).cell 1
      have f0 := (H6.out.2.2.1).frozen 0
      have f1 := (H6.out.2.2.1).frozen 1
      have cl := (H6.out.2.2.1).lt
      refine wpLate_one (i := 4) (o := ?p4_2) (by kernel_rfl) ?q4_2 ?r4_2
      case q4_2 => (simp only [List.getElem?_toArray, List.getElem?_cons_zero, List.getElem?_cons_succ]; rfl)
      intro K hK
      go_simp
      have H7 : Hid (Has ((w6.setCell ⟨P1, 0, none⟩ (.slice AF x.F.length cf)).setCell ⟨P1, 1, none⟩ (.slice AG x.G.length cg)) P1 25 (lgc x AF AG cf cg) ∧ Has ((w6.setCell ⟨P1, 0, none⟩ (.slice AF x.F.length cf)).setCell ⟨P1, 1, none⟩ (.slice AG x.G.length cg)) P2 25 #[.slice none 0 0, .slice none 0 0]) := Lib.hid ⟨by simpa using ((H6.out.2.2.1).set 0 (.slice AF x.F.length cf)).set 1 (.slice AG x.G.length cg), (((H6.out.2.2.2.1).far (p := ⟨P1, 0, none⟩) (by show P2 ≠ P1; have := H6.out.2.2.2.2.2; omega) _).far (p := ⟨P1, 1, none⟩) (by show P2 ≠ P1; have := H6.out.2.2.2.2.2; omega) _)⟩
      have B7 : Hid (Below P1 w6 ((w6.setCell ⟨P1, 0, none⟩ (.slice AF x.F.length cf)).setCell ⟨P1, 1, none⟩ (.slice AG x.G.length cg))) := Lib.hid (((Below.refl _ _).setCell (p := ⟨P1, 0, none⟩) (by show P1 ≤ P1; have := H6.out.2.2.2.2.2; omega) _).setCell (p := ⟨P1, 1, none⟩) (by show P1 ≤ P1; have := H6.out.2.2.2.2.2; omega) _)
      have K7 := Lib.hid (lx_cells (lx_far H6.out.1 H6.out.2.1 B7.out H6.out.2.2.2.2.1).1)
      generalize ((w6.setCell ⟨P1, 0, none⟩ (.slice AF x.F.length cf)).setCell ⟨P1, 1, none⟩ (.slice AG x.G.length cg)) = w7 at H7 B7 K7 ⊢
      refine hK.out _ _ (fun h => K7.out) ?_
      clear hK K c0 c1 f0 f1 cl
      try simp only [Act.put, List.setIfInBounds_toArray, List.set_cons_zero, List.set_cons_succ]
      have c0 := (H7.out.2).cell 0
      have c1 := (H7.out.2).cell 1
      have f0 := (H7.out.2).frozen 0
      have f1 := (H7.out.2).frozen 1
      have cl := (H7.out.2).lt
      refine wpLate_one (i := 5) (o := ?p5_2) (by kernel_rfl) ?q5_2 ?r5_2
      case q5_2 => (simp only [List.getElem?_toArray, List.getElem?_cons_zero, List.getElem?_cons_succ]; rfl)
      intro K hK
      go_simp
      have H8 : Hid (Has ((w7.setCell ⟨P2, 0, none⟩ (.slice AF x.F.length cf)).setCell ⟨P2, 1, none⟩ (.slice AG x.G.length cg)) P1 25 (lgc x AF AG cf cg) ∧ Has ((w7.setCell ⟨P2, 0, none⟩ (.slice AF x.F.length cf)).setCell ⟨P2, 1, none⟩ (.slice AG x.G.length cg)) P2 25 (lgc x AF AG cf cg)) := Lib.hid ⟨((H7.out.1).far (p := ⟨P2, 0, none⟩) (by show P1 ≠ P2; have := H6.out.2.2.2.2.2; omega) _).far (p := ⟨P2, 1, none⟩) (by show P1 ≠ P2; have := H6.out.2.2.2.2.2; omega) _, by simpa using ((H7.out.2).set 0 (.slice AF x.F.length cf)).set 1 (.slice AG x.G.length cg)⟩
      have B8 : Hid (Below P1 w6 ((w7.setCell ⟨P2, 0, none⟩ (.slice AF x.F.length cf)).setCell ⟨P2, 1, none⟩ (.slice AG x.G.length cg))) := Lib.hid (B7.out.trans (((Below.refl _ _).setCell (p := ⟨P2, 0, none⟩) (by show P1 ≤ P2; have := H6.out.2.2.2.2.2; omega) _).setCell (p := ⟨P2, 1, none⟩) (by show P1 ≤ P2; have := H6.out.2.2.2.2.2; omega) _))
      generalize ((w7.setCell ⟨P2, 0, none⟩ (.slice AF x.F.length cf)).setCell ⟨P2, 1, none⟩ (.slice AG x.G.length cg)) = w8 at H8 B8 ⊢
      refine hK.out _ _ (fun h => absurd h (by decide)) ?_
      clear hK K c0 c1 f0 f1 cl
      try simp only [Act.put, List.setIfInBounds_toArray, List.set_cons_zero, List.set_cons_succ]
      refine wpLate_done (by kernel_rfl) ?_ _
      try simp only [Act.put, List.setIfInBounds_toArray, List.set_cons_zero, List.set_cons_succ]
      have H9 : Hid (LX W w8 W.heap.size x AF AG cf cg ∧ Wo w8) := Lib.hid (lx_far H6.out.1 H6.out.2.1 B8.out H6.out.2.2.2.2.1)
      clear K4 K5 K6 H4 H5
      go_wp2_with fail
      go_meet
      exact ⟨P1, P2, rfl, rfl, Lib.hid ⟨H9.out.1, H9.out.2, H8.out.1, H8.out.2, by have := H6.out.2.2.2.2; omega, by have := H6.out.2.2.2.2; omega, by have := H6.out.2.2.2.2; omega⟩⟩
    case b3 =>
      intro K hK
      go_simp
      have H5 : Hid (LX W (w4.alloc (.cells #[.slice none 0 0, .slice none 0 0] 25)) W.heap.size x AF AG cf cg ∧ Wo (w4.alloc (.cells #[.slice none 0 0, .slice none 0 0] 25)) ∧ Has (w4.alloc (.cells #[.slice none 0 0, .slice none 0 0] 25)) w4.heap.size 25 #[.slice none 0 0, .slice none 0 0] ∧ W.heap.size < w4.heap.size) := Lib.hid ⟨H4.out.1.step (below_one _ _), H4.out.2.step (below_one _ _), Has.new _ _ _, H4.out.1.fx.lt⟩
      have K5 := Lib.hid (lx_cells H5.out.1)
      generalize (w4.alloc (.cells #[.slice none 0 0, .slice none 0 0] 25)) = w5 at H5 K5 ⊢
      generalize w4.heap.size = P1 at H5 ⊢
      refine hK.out _ _ (fun h => K5.out) ?_
      clear hK K
      try simp only [Act.put, List.setIfInBounds_toArray, List.set_cons_zero, List.set_cons_succ]
      refine wpLate_one (i := 2) (o := ?p2_3) (by kernel_rfl) ?q2_3 ?r2_3
      case q2_3 => (simp only [List.getElem?_toArray, List.getElem?_cons_zero, List.getElem?_cons_succ]; rfl)
      intro K hK
      go_simp
      have H6 : Hid (LX W (w5.alloc (.cells #[.slice none 0 0, .slice none 0 0] 25)) W.heap.size x AF AG cf cg ∧ Wo (w5.alloc (.cells #[.slice none 0 0, .slice none 0 0] 25)) ∧ Has (w5.alloc (.cells #[.slice none 0 0, .slice none 0 0] 25)) P1 25 #[.slice none 0 0, .slice none 0 0] ∧ Has (w5.alloc (.cells #[.slice none 0 0, .slice none 0 0] 25)) w5.heap.size 25 #[.slice none 0 0, .slice none 0 0] ∧ W.heap.size < P1 ∧ P1 < w5.heap.size) := Lib.hid ⟨H5.out.1.step (below_one _ _), H5.out.2.1.step (below_one _ _), H5.out.2.2.1.alloc _, Has.new _ _ _, H5.out.2.2.2, H5.out.2.2.1.lt⟩
      have K6 := Lib.hid (lx_cells H6.out.1)
      generalize (w5.alloc (.cells #[.slice none 0 0, .slice none 0 0] 25)) = w6 at H6 K6 ⊢
      generalize w5.heap.size = P2 at H6 ⊢
      refine hK.out _ _ (fun h => K6.out) ?_
      clear hK K
      try simp only [Act.put, List.setIfInBounds_toArray, List.set_cons_zero, List.set_cons_succ]
      have c0 := (H6.out.2.2.2.1).cell 0
      have c1 := (H6.out.2.2.2.1).cell 1
      have f0 := (H6.out.2.2.2.1).frozen 0
      have f1 := (H6.out.2.2.2.1).frozen 1
      have cl := (H6.out.2.2.2.1).lt
      refine wpLate_one (i := 4) (o := ?p4_3) (by kernel_rfl) ?q4_3 ?r4_3
      case q4_3 => (simp only [List.getElem?_toArray, List.getElem?_cons_zero, List.getElem?_cons_succ]; rfl)
      intro K hK
      go_simp
      have H7 : Hid (Has ((w6.setCell ⟨P2, 0, none⟩ (.slice AF x.F.length cf)).setCell ⟨P2, 1, none⟩ (.slice AG x.G.length cg)) P2 25 (lgc x AF AG cf cg) ∧ Has ((w6.setCell ⟨P2, 0, none⟩ (.slice AF x.F.length cf)).setCell ⟨P2, 1, none⟩ (.slice AG x.G.length cg)) P1 25 #[.slice none 0 0, .slice none 0 0]) := Lib.hid ⟨by simpa using ((H6.out.2.2.2.1).set 0 (.slice AF x.F.length cf)).set 1 (.slice AG x.G.length cg), (((H6.out.2.2.1).far (p := ⟨P2, 0, none⟩) (by show P1 ≠ P2; have := H6.out.2.2.2.2.2; omega) _).far (p := ⟨P2, 1, none⟩) (by show P1 ≠ P2; have := H6.out.2.2.2.2.2; omega) _)⟩
      have B7 : Hid (Below P1 w6 ((w6.setCell ⟨P2, 0, none⟩ (.slice AF x.F.length cf)).setCell ⟨P2, 1, none⟩ (.slice AG x.G.length cg))) := Lib.hid (((Below.refl _ _).setCell (p := ⟨P2, 0, none⟩) (by show P1 ≤ P2; have := H6.out.2.2.2.2.2; omega) _).setCell (p := ⟨P2, 1, none⟩) (by show P1 ≤ P2; have := H6.out.2.2.2.2.2; omega) _)
      have K7 := Lib.hid (lx_cells (lx_far H6.out.1 H6.out.2.1 B7.out H6.out.2.2.2.2.1).1)
      generalize ((w6.setCell ⟨P2, 0, none⟩ (.slice AF x.F.length cf)).setCell ⟨P2, 1, none⟩ (.slice AG x.G.length cg)) = w7 at H7 B7 K7 ⊢
      refine hK.out _ _ (fun h => K7.out) ?_
      clear hK K c0 c1 f0 f1 cl
      try simp only [Act.put, List.setIfInBounds_toArray, List.set_cons_zero, List.set_cons_succ]
      have c0 := (H7.out.2).cell 0
      have c1 := (H7.out.2).cell 1
      have f0 := (H7.out.2).frozen 0
      have f1 := (H7.out.2).frozen 1
      have cl := (H7.out.2).lt
      refine wpLate_one (i := 5) (o := ?p5_3) (by kernel_rfl) ?q5_3 ?r5_3
      case q5_3 => (simp only [List.getElem?_toArray, List.getElem?_cons_zero, List.getElem?_cons_succ]; rfl)
      intro K hK
      go_simp
      have H8 : Hid (Has ((w7.setCell ⟨P1, 0, none⟩ (.slice AF x.F.length cf)).setCell ⟨P1, 1, none⟩ (.slice AG x.G.length cg)) P2 25 (lgc x AF AG cf cg) ∧ Has ((w7.setCell ⟨P1, 0, none⟩ (.slice AF x.F.length cf)).setCell ⟨P1, 1, none⟩ (.slice AG x.G.length cg)) P1 25 (lgc x AF AG cf cg)) := Lib.hid ⟨((H7.out.1).far (p := ⟨P1, 0, none⟩) (by show P2 ≠ P1; have := H6.out.2.2.2.2.2; omega) _).far (p := ⟨P1, 1, none⟩) (by show P2 ≠ P1; have := H6.out.2.2.2.2.2; omega) _, by simpa using ((H7.out.2).set 0 (.slice AF x.F.length cf)).set 1 (.slice AG x.G.length cg)⟩
      have B8 : Hid (Below P1 w6 ((w7.setCell ⟨P1, 0, none⟩ (.slice AF x.F.length cf)).setCell ⟨P1, 1, none⟩ (.slice AG x.G.length cg))) := Lib.hid (B7.out.trans (((Below.refl _ _).setCell (p := ⟨P1, 0, none⟩) (by show P1 ≤ P1; have := H6.out.2.2.2.2.2; omega) _).setCell (p := ⟨P1, 1, none⟩) (by show P1 ≤ P1; have := H6.out.2.2.2.2.2; omega) _))
      generalize ((w7.setCell ⟨P1, 0, none⟩ (.slice AF x.F.length cf)).setCell ⟨P1, 1, none⟩ (.slice AG x.G.length cg)) = w8 at H8 B8 ⊢
      refine hK.out _ _ (fun h => absurd h (by decide)) ?_
      clear hK K c0 c1 f0 f1 cl
      try simp only [Act.put, List.setIfInBounds_toArray, List.set_cons_zero, List.set_cons_succ]
      refine wpLate_done (by kernel_rfl) ?_ _
      try simp only [Act.put, List.setIfInBounds_toArray, List.set_cons_zero, List.set_cons_succ]
      have H9 : Hid (LX W w8 W.heap.size x AF AG cf cg ∧ Wo w8) := Lib.hid (lx_far H6.out.1 H6.out.2.1 B8.out H6.out.2.2.2.2.1)
      clear K4 K5 K6 H4 H5
      go_wp2_with fail
      go_meet
      exact ⟨P2, P1, rfl, rfl, Lib.hid ⟨H9.out.1, H9.out.2, H8.out.1, H8.out.2, by have := H6.out.2.2.2.2; omega, by have := H6.out.2.2.2.2; omega, by have := H6.out.2.2.2.2; omega⟩⟩
  case rest =>
    obtain ⟨D7, D8, rfl, rfl, HC⟩ := hcut
    have H10 : Hid (TvI W ((wc.setCell ⟨D7, 1, none⟩ (.slice none 0 0)).setCell ⟨D8, 1, none⟩ (.slice none 0 0)) x AF AG cf cg D7 D8 wc.heap.size [] (.slice none 0 0)) := Lib.hid (TvI.start HC.out.1 HC.out.2.1 HC.out.2.2.1 HC.out.2.2.2.1 HC.out.2.2.2.2.1 HC.out.2.2.2.2.2.1 HC.out.2.2.2.2.2.2)
    have e7 : wc.cell? ⟨D7, 1, none⟩ = some (.slice AG x.G.length cg) := HC.out.2.2.1.cell 1
    have e8 : wc.cell? ⟨D8, 1, none⟩ = some (.slice AG x.G.length cg) := HC.out.2.2.2.1.cell 1
    have f7 := HC.out.2.2.1.frozen 1
    have f8 := HC.out.2.2.2.1.frozen 1
    have l7 := HC.out.2.2.1.lt
    have l8 := HC.out.2.2.2.1.lt
    have hne : ¬ D7 = D8 := HC.out.2.2.2.2.2.2
    have hne2 : ¬ D8 = D7 := fun e => hne e.symm
    clear x0 x1 H3
    go_upto_region 10 with fail
    generalize (wc.setCell ⟨D7, 1, none⟩ (.slice none 0 0)).setCell ⟨D8, 1, none⟩ (.slice none 0 0) = w10 at H10 ⊢
    generalize wc.heap.size = B at H10
    clear e7 e8 f7 f8 l7 l8 hne hne2 HC
    have HWN := Lib.hid (fun k (h : k < x.G.length) hb => wayG_no (x := x) (t := (T : Int)) h hb)
    have HWY := Lib.hid (fun k (h : k < x.G.length) hb => wayG_yes (x := x) (t := (T : Int)) h hb)
    have HON := Lib.hid (fun k (h : k < x.G.length) hb => ofT_no (t := (T : Int)) h hb)
    have HOY := Lib.hid (fun k (h : k < x.G.length) hb => ofT_yes (t := (T : Int)) h hb)
    have HWB := Lib.hid (wayG_bd HVL.out htm)
    have hlg : x.G.length ≤ 64 := HVL.out.ng
    go_wp2_with fail
    go_loopg [9, 10, 11] x.G.length (fun gk s a i wr => ∃ (k : Nat) (A2 : Option Addr) (c2 : Nat), k ≤ x.G.length ∧ x.G.length - k ≤ gk ∧ i = .int .i64 ((k : Nat) : Int) ∧ s = .int .i64 (wayG x T k).1 ∧ a = .int .i64 (wayG x T k).2 ∧ Hid (TvI W wr x AF AG cf cg D7 D8 B (ofT T (x.G.take k)) (.slice A2 (ofT T (x.G.take k)).length c2)))
    case atStart => exact ⟨0, none, 0, by omega, by omega, rfl, rfl, rfl, H10⟩
    case round =>
      clear H10
      obtain ⟨k, A2, c2, hk, hgk, rfl, rfl, rfl, HB⟩ := hrel
      have hwb := HWB.out k hk
      by_cases hlt : k < x.G.length
      rotate_left
      · have HK : Hid (k = x.G.length) := Lib.hid (by omega)
        have hge : ¬ (k : Int) < x.G.length := by omega
        have x1 : wr.cell? ⟨W.heap.size, 1, none⟩ = some (.slice AG x.G.length cg) := HB.out.lx.fx.cell 1
        obtain ⟨S, hS⟩ : ∃ S, S = ofT T x.G := ⟨_, rfl⟩
        have HOA : Hid (ofT T (x.G.take k) = S) := Lib.hid (by rw [hS, HK.out, List.take_of_length_le (Nat.le_refl _)])
        have HWA : Hid (wayG x T k = wayP x.F T x.G) := Lib.hid (by rw [HK.out, wayG_all])
        have hSl : S.length ≤ 32 := by rw [hS]; have := List.length_filter_le (hasB T) x.G; unfold ofT; omega
        rw [HOA.out] at HB
        rw [HWA.out] at hwb ⊢
        rw [← hS] at HTO HTT
        obtain ⟨a, ha⟩ : ∃ a : Nat, (wayP x.F T x.G).2 = (a : Int) := ⟨(wayP x.F T x.G).2.toNat, by omega⟩
        obtain ⟨s, hs⟩ : ∃ s, s = (wayP x.F T x.G).1 := ⟨_, rfl⟩
        rw [ha] at hwb HTR HTT ⊢
        rw [← hs] at hwb HTR ⊢
        have hal : a < x.F.length := by omega
        have hTl : T < x.F.length := by omega
        obtain ⟨v, hv⟩ : ∃ v, v = farA x.F a T := ⟨_, rfl⟩
        have hfv := far_bd HVL.out (a : Int) (T : Int)
        rw [← hv] at HTR HTT hfv
        have hns : n = s + v := by rw [HN.out, HTR.out]
        rw [HTR.out] at HTO HTT
        have HVE := Lib.hid hv
        have HSE := Lib.hid hS
        have hslen : (S.length : Int) ≤ 32 := by omega
        subst hns
        have HK2 : Hid (travR ⟨x.F, S ++ S⟩ T = (twoK x.F a T s v S, 0)) := Lib.hid (by rw [HTT.out]; cases S <;> rfl)
        have HT7 := Lib.hid (fun A2 c2 w (h : LgR w w.heap.size ⟨x.F, S⟩ AF A2) => (show Calls Tryd.prog 13 #[.agg #[.slice AF x.F.length cf, .slice A2 S.length c2], .int .i64 (T : Int)] w (IEPost (s + v, 0) w) from by rw [← HTO.out]; exact Travel_any ⟨x.F, S⟩ AF A2 cf c2 T w h))
        have HT8 := Lib.hid (fun A5 c5 w (h : LgR w w.heap.size ⟨x.F, S ++ S⟩ AF A5) => (show Calls Tryd.prog 13 #[.agg #[.slice AF x.F.length cf, .slice A5 (S.length + S.length) c5], .int .i64 (T : Int)] w (IEPost (twoK x.F a T s v S, 0) w) from by rw [← HK2.out, ← List.length_append]; exact Travel_any ⟨x.F, S ++ S⟩ AF A5 cf c5 T w h))
        obtain ⟨k2, hk2⟩ : ∃ k2, k2 = twoK x.F a T s v S := ⟨_, rfl⟩
        rw [← hk2] at HT8
        unfold IEPost at HT7 HT8
        dsimp only at HT7 HT8
        have HKE := Lib.hid hk2
        clear hk2 HK2 HTO HTT
        clear hk hgk hlt hS ha hs hv HWN HWY HON HOY HWB HN HTR HOA HWA
        go_upto_region 19 with fail
        have H4 := Lib.hid (HB.out.step (Below.refl wr.heap.size wr).drew)
        clear HB x1 hge
        have K4 := Lib.hid H4.out.cells7
        refine wp_region_late (fun w' : World => w'.cell? ⟨D7, 0, none⟩ = some (.slice AF x.F.length cf) ∧ w'.cell? ⟨D7, 1, none⟩ = some (.slice A2 S.length c2)) [8] (by kernel_rfl) ?_
        generalize wr.drew = w4 at H4 K4 ⊢
        refine wpLate_take (i := 1) (oi := ?oi1r19_) (v := ?v1r19_) [2, 3, 6, 7, 8] ?hi1r19_ (by kernel_rfl) (by kernel_rfl) (by kernel_rfl) (by kernel_rfl) (by kernel_rfl) ?hQ1r19_ (Or.inl ⟨?hw1r19_, ?hy1r19_⟩) K4.out ?rest1r19_
        case hi1r19_ => (simp only [List.getElem?_toArray, List.getElem?_cons_zero, List.getElem?_cons_succ]; rfl)
        case hQ1r19_ => exact fun _ _ _ h => h
        case hw1r19_ => rfl
        case hy1r19_ =>
          intro w' hSw
          obtain ⟨r0, r1⟩ := hSw
          go_simp
          try exact rfl
        try simp only [Act.put, List.setIfInBounds_toArray, List.set_cons_zero, List.set_cons_succ]
        refine wpLate_take (i := 2) (oi := ?oi2r19_) (v := ?v2r19_) [3, 6, 7, 8] ?hi2r19_ (by kernel_rfl) (by kernel_rfl) (by kernel_rfl) (by kernel_rfl) (by kernel_rfl) ?hQ2r19_ (Or.inl ⟨?hw2r19_, ?hy2r19_⟩) K4.out ?rest2r19_
        case hi2r19_ => (simp only [List.getElem?_toArray, List.getElem?_cons_zero, List.getElem?_cons_succ]; rfl)
        case hQ2r19_ => exact fun _ _ _ h => h
        case hw2r19_ => rfl
        case hy2r19_ =>
          intro w' hSw
          obtain ⟨r0, r1⟩ := hSw
          go_simp
          try exact rfl
        try simp only [Act.put, List.setIfInBounds_toArray, List.set_cons_zero, List.set_cons_succ]
        refine wpLate_take (i := 4) (oi := ?oi4r19_) (v := ?v4r19_) [5, 6, 7, 8] ?hi4r19_ (by kernel_rfl) (by kernel_rfl) (by kernel_rfl) (by kernel_rfl) (by kernel_rfl) ?hQ4r19_ (Or.inl ⟨?hw4r19_, ?hy4r19_⟩) K4.out ?rest4r19_
        case hi4r19_ => (simp only [List.getElem?_toArray, List.getElem?_cons_zero, List.getElem?_cons_succ]; rfl)
        case hQ4r19_ => exact fun _ _ _ h => h
        case hw4r19_ => rfl
        case hy4r19_ =>
          intro w' hSw
          obtain ⟨r0, r1⟩ := hSw
          go_simp
          try exact rfl
        try simp only [Act.put, List.setIfInBounds_toArray, List.set_cons_zero, List.set_cons_succ]
        refine wpLate_take (i := 5) (oi := ?oi5r19_) (v := ?v5r19_) [6, 7, 8] ?hi5r19_ (by kernel_rfl) (by kernel_rfl) (by kernel_rfl) (by kernel_rfl) (by kernel_rfl) ?hQ5r19_ (Or.inl ⟨?hw5r19_, ?hy5r19_⟩) K4.out ?rest5r19_
        case hi5r19_ => (simp only [List.getElem?_toArray, List.getElem?_cons_zero, List.getElem?_cons_succ]; rfl)
        case hQ5r19_ => exact fun _ _ _ h => h
        case hw5r19_ => rfl
        case hy5r19_ =>
          intro w' hSw
          obtain ⟨r0, r1⟩ := hSw
          go_simp
          try exact rfl
        try simp only [Act.put, List.setIfInBounds_toArray, List.set_cons_zero, List.set_cons_succ]
        refine wpLate_one (i := 0) (o := ?z0) (by kernel_rfl) ?zh0 ?zb0
        case zh0 => (simp only [List.getElem?_toArray, List.getElem?_cons_zero]; rfl)
        intro K hK
        go_simp
        have H5 : Hid ((w4.alloc (.cells #[] 53)).ownsRow w4.heap.size 53 6 (.slice (some ⟨w4.heap.size, 0, none⟩) 0 0) 0 [] ∧ Below w4.heap.size w4 (w4.alloc (.cells #[] 53)) ∧ w4.heap.size ≤ (w4.alloc (.cells #[] 53)).heap.size) := Lib.hid ⟨own_made _ _ _, below_one _ _, (below_one _ _).size⟩
        have K5 := Lib.hid (H4.out.step H5.out.2.1).cells7
        generalize w4.alloc (.cells #[] 53) = w5 at H5 K5 ⊢
        refine hK.out _ _ (fun h => K5.out) ?_
        clear hK K
        try simp only [Act.put, List.setIfInBounds_toArray, List.set_cons_zero, List.set_cons_succ]
        obtain ⟨i0, hi, hz0, hz1, hz2⟩ := info_parts Tryd.info53
        have HN5 := Lib.hid (H4.out.step H5.out.2.1).nrow
        refine wpLate_one (i := 3) (o := ?z3) (by kernel_rfl) ?zh3 ?zb3
        case zh3 => (simp only [List.getElem?_toArray, List.getElem?_cons_zero, List.getElem?_cons_succ]; rfl)
        intro K hK
        refine step_append_row rfl (.tmp 108) (.tmp 110) 23 rfl (some 111) rfl w4.heap.size 53 i0 (.agg #[.int .i64 0, .int .i64 0, .int .i64 0, .int .i64 0, .int .i64 0, .int .i64 0]) 6 48 Tryd.underlying23 hi hz0 hz1 hz2 rfl (by decide) (.slice (some ⟨w4.heap.size, 0, none⟩) 0 0) 0 [] rfl H5.out.1 A2 S.length c2 (nvl gmc S) rfl HN5.out.2 (nvl_len gmc_size S) (fun ad e => nrow_news gmc_size (by omega) HN5.out.1 ad e) (nvl_one gmc_one S) (by unfold maxLen; omega) (by omega) H5.out.2.2 ?_
        intro v1 w6 hown hgr _
        rw [Nat.zero_add, List.nil_append] at hown
        have H6 := Lib.hid (show w6.ownsRow w4.heap.size 53 6 v1 S.length (nvl gmc S) ∧ Below w4.heap.size w4 w6 from ⟨hown, H5.out.2.1.trans (grown_step (o := some w4.heap.size) hgr H5.out.2.2 (fun b e => by cases e; exact Nat.le_refl _))⟩)
        have K6 := Lib.hid (H4.out.step H6.out.2).cells7
        have HN6 := Lib.hid (H4.out.step H6.out.2).nrow
        refine hK.out _ _ (fun h => K6.out) ?_
        clear hK K hown hgr HN5 K5 H5
        try simp only [Act.put, List.setIfInBounds_toArray, List.set_cons_zero, List.set_cons_succ]
        refine wpLate_one (i := 6) (o := ?z6) (by kernel_rfl) ?zh6 ?zb6
        case zh6 => (simp only [List.getElem?_toArray, List.getElem?_cons_zero, List.getElem?_cons_succ]; rfl)
        intro K hK
        refine step_append_row rfl (.tmp 111) (.tmp 113) 23 rfl (some 114) rfl w4.heap.size 53 i0 (.agg #[.int .i64 0, .int .i64 0, .int .i64 0, .int .i64 0, .int .i64 0, .int .i64 0]) 6 48 Tryd.underlying23 hi hz0 hz1 hz2 rfl (by decide) v1 S.length (nvl gmc S) rfl H6.out.1 A2 S.length c2 (nvl gmc S) rfl HN6.out.2 (nvl_len gmc_size S) (fun ad e => nrow_news gmc_size (by omega) HN6.out.1 ad e) (nvl_one gmc_one S) (by unfold maxLen; omega) (by omega) H6.out.2.size ?_
        intro v2 w7 hown hgr _
        have H7 := Lib.hid (show w7.ownsRow w4.heap.size 53 6 v2 (S.length + S.length) (nvl gmc S ++ nvl gmc S) ∧ Below w4.heap.size w4 w7 from ⟨hown, H6.out.2.trans (grown_step hgr H6.out.2.size (fun b e => (own_block H6.out.1 b e).1))⟩)
        have K7 := Lib.hid (H4.out.step H7.out.2).cells7
        obtain ⟨A5, c5, rfl, -, -⟩ := own_slice hown
        refine hK.out _ _ (fun h => K7.out) ?_
        clear hK K hown hgr HN6 K6 H6 hi hz0 hz1 hz2
        try simp only [Act.put, List.setIfInBounds_toArray, List.set_cons_zero, List.set_cons_succ]
        have H8 := Lib.hid (TwI.of_tv (H4.out.step H7.out.2) H7.out.1 H4.out.le hSl H4.out.lt)
        have d8 : w7.cell? ⟨D8, 1, none⟩ = some (.slice none 0 0) := (H4.out.step H7.out.2).f8.cell 1
        have fz := (H4.out.step H7.out.2).f8.frozen 1
        have fl := (H4.out.step H7.out.2).f8.lt
        refine wpLate_one (i := 7) (o := ?z7) (by kernel_rfl) ?zh7 ?zb7
        case zh7 => (simp only [List.getElem?_toArray, List.getElem?_cons_zero, List.getElem?_cons_succ]; rfl)
        intro K hK
        go_simp
        refine hK.out _ _ (fun h => K7.out) ?_
        clear hK K
        try simp only [Act.put, List.setIfInBounds_toArray, List.set_cons_zero, List.set_cons_succ]
        refine wpLate_one (i := 8) (o := ?z8) (by kernel_rfl) ?zh8 ?zb8
        case zh8 => (simp only [List.getElem?_toArray, List.getElem?_cons_zero, List.getElem?_cons_succ]; rfl)
        intro K hK
        go_simp
        refine hK.out _ _ (fun h => absurd h (by decide)) ?_
        clear hK K
        try simp only [Act.put, List.setIfInBounds_toArray, List.set_cons_zero, List.set_cons_succ]
        refine wpLate_done (by kernel_rfl) ?_ _
        try simp only [Act.put, List.setIfInBounds_toArray, List.set_cons_zero, List.set_cons_succ]
        clear d8 fz fl K7 K4
        go_upto_region 20 with fail
        generalize w7.setCell ⟨D8, 1, none⟩ (.slice A5 (S.length + S.length) c5) = w8 at H8 ⊢
        clear H4 H7
        have e0 : w8.cell? ⟨D7, 0, none⟩ = some (.slice AF x.F.length cf) := H8.out.f7.cell 0
        have e1 : w8.cell? ⟨D7, 1, none⟩ = some (.slice A2 S.length c2) := H8.out.f7.cell 1
        go_wp2_with fail
        refine (HT7.out A2 c2 w8 H8.out.g7).mono ?_
        rintro e w9 ⟨rfl, hb9⟩
        have H9 := Lib.hid (H8.out.step hb9)
        clear hb9 e0 e1 H8 HT7
        have e0 : w9.cell? ⟨D8, 0, none⟩ = some (.slice AF x.F.length cf) := H9.out.f8.cell 0
        have e1 : w9.cell? ⟨D8, 1, none⟩ = some (.slice A5 (S.length + S.length) c5) := H9.out.f8.cell 1
        go_wp2_with fail
        refine (HT8.out A5 c5 w9 H9.out.g8).mono ?_
        rintro e wa ⟨rfl, hba⟩
        have H10 := Lib.hid (H9.out.step hba)
        clear hba e0 e1 H9 HT8
        obtain ⟨gF, oF, gA, oA, cA, hAF, cFa, cAb⟩ := far_row H10.out.lx.up HVL.out hal
        obtain ⟨gF', oF', gT, oT, cT, hAF', cFT, cTb⟩ := far_row H10.out.lx.up HVL.out hTl
        subst hAF
        cases hAF'
        have x0 : wa.cell? ⟨W.heap.size, 0, none⟩ = some (.slice (some ⟨gF, oF, none⟩) x.F.length cf) := H10.out.lx.fx.cell 0
        have cAT : wa.cell? ⟨gA, oA + T, none⟩ = some (.int .i64 v) := by rw [HVE.out]; exact cAb T hTl
        have HAb := Lib.hid cAb
        have HTb := Lib.hid cTb
        have e71 : wa.cell? ⟨D7, 1, none⟩ = some (.slice A2 S.length c2) := H10.out.f7.cell 1
        have ha3 : (a : Int) < x.F.length := by omega
        have hT3 : (T : Int) < x.F.length := by omega
        clear cAb cTb
        by_cases hS0 : S.length = 0
        · have q0 : ((S.length : Int) == 0) = true := by simp; exact List.eq_nil_of_length_eq_zero hS0
          have hk2 : k2 = s + v := by rw [HKE.out]; rw [List.eq_nil_of_length_eq_zero hS0]; rfl
          subst hk2
          clear hS0
          go_wp2_with fail
          refine (HA.out _ H10.out.wo).mono ?_
          rintro e wb ⟨rfl, hbb⟩
          have H11 := Lib.hid (H10.out.step hbb)
          clear hbb H10 x0 cAT cFa cFT e71
          go_wp2_with fail
          go_ret
          exact ⟨rfl, H11.out.lx.b⟩
        have hSp : 0 < S.length := by omega
        have q0 : ((S.length : Int) == 0) = false := by simp; intro h; rw [h] at hSp; simp at hSp
        have q1 : (0 : Int) < S.length := by omega
        obtain ⟨g2, o2, hA2, -, hc⟩ := H10.out.g7.g 0 hSp
        obtain ⟨g, hg⟩ : ∃ g, g = S[0] := ⟨_, rfl⟩
        have hgb := (HVL.out.g g (by rw [hg]; exact ofT_mem (t := (T : Int)) (by rw [← HSE.out]; exact List.getElem_mem hSp))).h
        have hk2 : k2 = 2 * (s + v) - v - farA x.F T g.home + farA x.F a g.home := by
          rw [HKE.out, hg]
          cases S with
          | nil => simp at hSp
          | cons b R => rfl
        subst hA2
        obtain ⟨h, hh⟩ : ∃ h : Nat, g.home = (h : Int) := ⟨g.home.toNat, by omega⟩
        have hhl : h < x.F.length := by omega
        rw [hh] at hk2
        have c1 : wa.cell? ⟨g2, o2 + 1, none⟩ = some (.int .i64 (h : Int)) := by
          have := hc 1 (by omega)
          simp only [Nat.zero_mul, Nat.add_zero] at this
          rw [this, ← hh, hg]; rfl
        have cAh : wa.cell? ⟨gA, oA + h, none⟩ = some (.int .i64 (farA x.F a h)) := HAb.out h hhl
        have cTh : wa.cell? ⟨gT, oT + h, none⟩ = some (.int .i64 (farA x.F T h)) := HTb.out h hhl
        have hf1 := far_bd HVL.out (T : Int) (h : Int)
        have hf2 := far_bd HVL.out (a : Int) (h : Int)
        obtain ⟨f1, hf1e⟩ : ∃ f1, f1 = farA x.F T h := ⟨_, rfl⟩
        obtain ⟨f2, hf2e⟩ : ∃ f2, f2 = farA x.F a h := ⟨_, rfl⟩
        rw [← hf1e] at hk2 hf1 cTh
        rw [← hf2e] at hk2 hf2 cAh
        subst hk2
        have hh3 : (h : Int) < x.F.length := by omega
        clear hc hg hgb hh hf1e hf2e hS0 HAb HTb HKE
        have e2 : IntKind.i64.wrap (2 * (s + v)) = 2 * (s + v) := IntWalk.i64_in _ (by omega)
        have e3 : IntKind.i64.wrap (2 * (s + v) - v) = 2 * (s + v) - v := IntWalk.i64_in _ (by omega)
        have e4 : IntKind.i64.wrap (2 * (s + v) - v - f1) = 2 * (s + v) - v - f1 := IntWalk.i64_in _ (by omega)
        have e5 : IntKind.i64.wrap (2 * (s + v) - v - f1 + f2) = 2 * (s + v) - v - f1 + f2 := IntWalk.i64_in _ (by omega)
        go_upto_region 27 with fail
        have hmix : Tryd.prog.follows .mixedOrders = true := by kernel_rfl
        have hawk : ∀ w, Below wa.heap.size wa w → Calls Tryd.prog 10 #[] w fun e w' => e = .returned (.bool true) ∧ Below wa.heap.size wa w' := fun w hw => (HA.out w (H10.out.wo.step hw)).mono fun e w' ⟨he, hb⟩ => ⟨he, hw.trans (hb.mono hw.size)⟩
        have k0 : ∀ pc : Cls (fun w' => Below wa.heap.size wa w'), pc.w.cell? ⟨W.heap.size, 0, none⟩ = some (.slice (some ⟨gF, oF, none⟩) x.F.length cf) := fun pc => cell_keep pc.h x0
        have k1 : ∀ pc : Cls (fun w' => Below wa.heap.size wa w'), pc.w.cell? ⟨gF, oF + a, none⟩ = some (.slice (some ⟨gA, oA, none⟩) x.F.length cA) := fun pc => cell_keep pc.h cFa
        have k2 : ∀ pc : Cls (fun w' => Below wa.heap.size wa w'), pc.w.cell? ⟨gF, oF + T, none⟩ = some (.slice (some ⟨gT, oT, none⟩) x.F.length cT) := fun pc => cell_keep pc.h cFT
        have k3 : ∀ pc : Cls (fun w' => Below wa.heap.size wa w'), pc.w.cell? ⟨gA, oA + T, none⟩ = some (.int .i64 v) := fun pc => cell_keep pc.h cAT
        have k4 : ∀ pc : Cls (fun w' => Below wa.heap.size wa w'), pc.w.cell? ⟨gA, oA + h, none⟩ = some (.int .i64 f2) := fun pc => cell_keep pc.h cAh
        have k5 : ∀ pc : Cls (fun w' => Below wa.heap.size wa w'), pc.w.cell? ⟨gT, oT + h, none⟩ = some (.int .i64 f1) := fun pc => cell_keep pc.h cTh
        clear x0 cAT cFa cFT e71 cAh cTh c1
        refine wp_region_cls (fun w' => Below wa.heap.size wa w') hmix (by kernel_rfl) (Below.refl wa.heap.size wa).drew ?_
        repeat (quiet_step (first | exact rfl | with_reducible exact cls_call hawk _))
        refine wpQuiet_nil ?_
        rintro wb ⟨⟨_, hwb2⟩, rfl⟩
        have H11 := Lib.hid (H10.out.step hwb2)
        clear hwb2 k0 k1 k2 k3 k4 k5 hawk H10
        go_wp2_with fail
        go_ret
        exact ⟨rfl, H11.out.lx.b⟩
      have hlt2 : (k : Int) < x.G.length := by omega
      have x1 : wr.cell? ⟨W.heap.size, 1, none⟩ = some (.slice AG x.G.length cg) := HB.out.lx.fx.cell 1
      obtain ⟨gb, go, hg, hgs, hc⟩ := HB.out.lx.r.g k hlt
      obtain ⟨g, hb⟩ : ∃ g, g = x.G[k] := ⟨_, rfl⟩
      have hhm := (HVL.out.g g (by rw [hb]; exact List.getElem_mem hlt)).h
      have HWNk := Lib.hid (HWN.out k hlt)
      have HWYk := Lib.hid (HWY.out k hlt)
      have HONk := Lib.hid (HON.out k hlt)
      have HOYk := Lib.hid (HOY.out k hlt)
      rw [← hb] at hc HWNk HWYk HONk HOYk
      have hc := fun j hj => (HB.out.lx.b.cell (p := ⟨gb, _, none⟩) hgs).trans ((HB.out.lx.b.cell (p := ⟨gb, _, none⟩) hgs).symm.trans (hc j hj))
      have c0 : wr.cell? ⟨gb, go + k * 6, none⟩ = some (.int .i64 g.day) := hc 0 (by omega)
      have c1 : wr.cell? ⟨gb, go + k * 6 + 1, none⟩ = some (.int .i64 g.home) := hc 1 (by omega)
      have c2' : wr.cell? ⟨gb, go + k * 6 + 2, none⟩ = some (.int .i64 g.away) := hc 2 (by omega)
      have c3 : wr.cell? ⟨gb, go + k * 6 + 3, none⟩ = some (.int .i64 g.fin) := hc 3 (by omega)
      have c4 : wr.cell? ⟨gb, go + k * 6 + 4, none⟩ = some (.int .i64 g.hg) := hc 4 (by omega)
      have c5 : wr.cell? ⟨gb, go + k * 6 + 5, none⟩ = some (.int .i64 g.ag) := hc 5 (by omega)
      subst hg
      obtain ⟨S, hS⟩ : ∃ S, S = ofT T (x.G.take k) := ⟨_, rfl⟩
      obtain ⟨q, hq⟩ : ∃ q, q = wayG x T k := ⟨_, rfl⟩
      rw [← hS] at HB HONk HOYk
      rw [← hq] at hwb HWNk HWYk ⊢
      obtain ⟨a, ha⟩ : ∃ a : Nat, q.2 = (a : Int) := ⟨q.2.toNat, by omega⟩
      obtain ⟨s, hs⟩ : ∃ s, s = q.1 := ⟨_, rfl⟩
      rw [ha] at hwb HWYk ⊢
      rw [← hs] at hwb HWYk ⊢
      have hSl : S.length ≤ 64 := by rw [hS]; have := List.length_filter_le (hasB T) (x.G.take k); rw [List.length_take] at this; unfold ofT; omega
      have HQ2 : Hid (q = (s, (a : Int))) := Lib.hid (by rw [← ha, hs])
      clear hS hq ha hs hb hc hgs
      have H1 : Hid (TvI W (wr.alloc (.cells (gmc g) 53)) x AF (some ⟨gb, go, none⟩) cf cg D7 D8 B S (.slice A2 S.length c2) ∧ Has (wr.alloc (.cells (gmc g) 53)) wr.heap.size 53 (gmc g)) := Lib.hid ⟨HB.out.step (below_one _ _), Has.new _ _ _⟩
      go_upto_region 15 with fail
      generalize wr.alloc (.cells (gmc g) 53) = w1 at H1 ⊢
      generalize wr.heap.size = E at H1 ⊢
      clear c0 c1 c2' c3 c4 c5 x1 HB
      have y0 : w1.cell? ⟨E, 0, none⟩ = some (.int .i64 g.day) := H1.out.2.cell 0
      have y1 : w1.cell? ⟨E, 1, none⟩ = some (.int .i64 g.home) := H1.out.2.cell 1
      have y2 : w1.cell? ⟨E, 2, none⟩ = some (.int .i64 g.away) := H1.out.2.cell 2
      have y3 : w1.cell? ⟨E, 3, none⟩ = some (.int .i64 g.fin) := H1.out.2.cell 3
      have y4 : w1.cell? ⟨E, 4, none⟩ = some (.int .i64 g.hg) := H1.out.2.cell 4
      have y5 : w1.cell? ⟨E, 5, none⟩ = some (.int .i64 g.ag) := H1.out.2.cell 5
      by_cases hown : hasB T g = true
      rotate_left
      · have hno : hasB T g = false := by simpa using hown
        have h1 : ¬ g.home = T ∧ ¬ g.away = T := by unfold hasB at hno; simpa using hno
        have p1 : (g.home == (T : Int)) = false := by simpa using h1.1
        have p2 : (g.home != (T : Int)) = true := by simpa using h1.1
        have p3 : (g.away == (T : Int)) = false := by simpa using h1.2
        have p4 : (g.away != (T : Int)) = true := by simpa using h1.2
        have HW2 : Hid (wayG x T (k + 1) = (s, (a : Int)) ∧ ofT T (x.G.take (k + 1)) = S) := Lib.hid ⟨by rw [HWNk.out hno, HQ2.out], HONk.out hno⟩
        clear h1 hno hown HWNk HWYk HONk HOYk
        go_wp2_with fail
        go_roundg (x.G.length - (k + 1))
        case measure => omega
        case rel => exact ⟨k + 1, A2, c2, by omega, Nat.le_refl _, by go_num, by rw [HW2.out.1], by rw [HW2.out.1], by rw [HW2.out.2]; exact H1.out.1⟩
      obtain ⟨h, hh⟩ : ∃ h : Nat, g.home = (h : Int) := ⟨g.home.toNat, by omega⟩
      have HWA : Hid (wayG x T (k + 1) = (s + farA x.F a h, (h : Int)) ∧ ofT T (x.G.take (k + 1)) = S ++ [g]) := Lib.hid ⟨by rw [HWYk.out hown, hh], HOYk.out hown⟩
      have hfb := far_bd HVL.out (a : Int) (h : Int)
      have hal : a < x.F.length := by omega
      have hhl : h < x.F.length := by omega
      have HFC := Lib.hid (far_cells H1.out.1.lx.up HVL.out hal hhl)
      clear y1
      by_cases hom : g.home = (T : Int)
      · have p1 : ((h : Int) == (T : Int)) = true := by rw [← hh]; simpa using hom
        have p2 : ((h : Int) != (T : Int)) = false := by rw [← hh]; simpa using hom
        have p1n : (h == T) = true := by simp; omega
        have p2n : (h != T) = false := by simp; omega
        have y1 : w1.cell? ⟨E, 1, none⟩ = some (.int .i64 (h : Int)) := by rw [← hh]; exact H1.out.2.cell 1
        obtain ⟨gF, oF, gR, oR, cR, hAF, cF, cR2⟩ := HFC.out
        obtain ⟨v, hv⟩ : ∃ v, v = farA x.F a h := ⟨_, rfl⟩
        rw [← hv] at HWA hfb cR2
        have HHE := Lib.hid hh
        have HEG : Hid (gmc g = #[.int .i64 g.day, .int .i64 (h : Int), .int .i64 g.away, .int .i64 g.fin, .int .i64 g.hg, .int .i64 g.ag]) := Lib.hid (by rw [← hh])
        have e1 : IntKind.i64.wrap (s + v) = s + v := IntWalk.i64_in _ (by omega)
        have ha3 : (a : Int) < x.F.length := by omega
        have hh3 : (h : Int) < x.F.length := by omega
        clear hv hown hh HWNk HWYk HONk HOYk HFC hom
        subst hAF
        have x0 : w1.cell? ⟨W.heap.size, 0, none⟩ = some (.slice (some ⟨gF, oF, none⟩) x.F.length cf) := H1.out.1.lx.fx.cell 0
        go_upto_region 16 with fail
        go_quiet (fail)
        have H2 := Lib.hid (And.intro (H1.out.1.drewN nq) (H1.out.2.drewN nq))
        generalize w1.drewN nq = w2 at H2 ⊢
        clear y0 y1 y2 y3 y4 y5 x0 cF cR2 H1 e1
        rw [HEG.out] at H2
        have y0 : w2.cell? ⟨E, 0, none⟩ = some (.int .i64 g.day) := H2.out.2.cell 0
        have y1 : w2.cell? ⟨E, 1, none⟩ = some (.int .i64 (h : Int)) := H2.out.2.cell 1
        have y2 : w2.cell? ⟨E, 2, none⟩ = some (.int .i64 g.away) := H2.out.2.cell 2
        have y3 : w2.cell? ⟨E, 3, none⟩ = some (.int .i64 g.fin) := H2.out.2.cell 3
        have y4 : w2.cell? ⟨E, 4, none⟩ = some (.int .i64 g.hg) := H2.out.2.cell 4
        have y5 : w2.cell? ⟨E, 5, none⟩ = some (.int .i64 g.ag) := H2.out.2.cell 5
        have d7 : w2.cell? ⟨D7, 1, none⟩ = some (.slice A2 S.length c2) := H2.out.1.f7.cell 1
        obtain ⟨i0, hi, hz0, hz1, hz2⟩ := info_parts Tryd.info53
        have HA : Hid (TvI W (w2.alloc (.cells #[.int .i64 g.day, .int .i64 (h : Int), .int .i64 g.away, .int .i64 g.fin, .int .i64 g.hg, .int .i64 g.ag] 53)) x (some ⟨gF, oF, none⟩) (some ⟨gb, go, none⟩) cf cg D7 D8 B S (.slice A2 S.length c2) ∧ Has (w2.alloc (.cells #[.int .i64 g.day, .int .i64 (h : Int), .int .i64 g.away, .int .i64 g.fin, .int .i64 g.hg, .int .i64 g.ag] 53)) w2.heap.size 53 #[.int .i64 g.day, .int .i64 (h : Int), .int .i64 g.away, .int .i64 g.fin, .int .i64 g.hg, .int .i64 g.ag]) := Lib.hid ⟨H2.out.1.step (below_one _ _), Has.new _ _ _⟩
        clear H2
        go_wp2_with (at_builtin; refine wpList_append_row rfl _ _ 23 rfl B 53 i0 (.agg #[.int .i64 0, .int .i64 0, .int .i64 0, .int .i64 0, .int .i64 0, .int .i64 0]) 6 48 Tryd.underlying23 hi hz0 hz1 hz2 rfl (by decide) (.slice A2 S.length c2) S.length (nvl gmc S) rfl HA.out.1.ow (some ⟨w2.heap.size, 0, none⟩) 1 1 (gmc g).toList rfl ?ga1 rfl ?ga2 (gmc_one g) ?ga3 ?ga4 ?ga5 ?_)
        case ga1 => intro h; cases h
        case ga2 =>
          intro j u hu
          rw [HHE.out] at hu
          exact hu
        case ga3 => unfold maxLen; omega
        case ga4 => omega
        case ga5 => exact HA.out.1.le
        intro v' w'' hown hgr
        obtain ⟨A3, c3, rfl, -, -⟩ := own_slice hown
        have HF := Lib.hid (HA.out.1.f7.below (HA.out.1.gb hgr) HA.out.1.lt.2.2.1)
        have H5 := Lib.hid (HA.out.1.grown (S' := S ++ [g]) hgr (by rw [List.length_append, nvl_append]; simpa [nvl] using hown))
        have d7 : w''.cell? ⟨D7, 1, none⟩ = some (.slice A2 S.length c2) := HF.out.cell 1
        have fz := HF.out.frozen 1
        have fl := HF.out.lt
        clear hown hgr HA HF y0 y1 y2 y3 y4 y5 hi hz0 hz1 hz2 HEG
        go_wp2_with fail
        go_roundg (x.G.length - (k + 1))
        case measure => omega
        case rel => exact ⟨k + 1, A3, c3, by omega, Nat.le_refl _, by go_num, by rw [HWA.out.1], by rw [HWA.out.1], by rw [HWA.out.2, List.length_append]; exact H5.out⟩
      · have haw : g.away = T := by unfold hasB at hown; simp at hown; omega
        have p1 : ((h : Int) == (T : Int)) = false := by rw [← hh]; simpa using hom
        have p2 : ((h : Int) != (T : Int)) = true := by rw [← hh]; simpa using hom
        have p1n : (h == T) = false := by simp; omega
        have p2n : (h != T) = true := by simp; omega
        have p3 : (g.away == (T : Int)) = true := by simpa using haw
        have p4 : (g.away != (T : Int)) = false := by simpa using haw
        clear haw
        have y1 : w1.cell? ⟨E, 1, none⟩ = some (.int .i64 (h : Int)) := by rw [← hh]; exact H1.out.2.cell 1
        obtain ⟨gF, oF, gR, oR, cR, hAF, cF, cR2⟩ := HFC.out
        obtain ⟨v, hv⟩ : ∃ v, v = farA x.F a h := ⟨_, rfl⟩
        rw [← hv] at HWA hfb cR2
        have HHE := Lib.hid hh
        have HEG : Hid (gmc g = #[.int .i64 g.day, .int .i64 (h : Int), .int .i64 g.away, .int .i64 g.fin, .int .i64 g.hg, .int .i64 g.ag]) := Lib.hid (by rw [← hh])
        have e1 : IntKind.i64.wrap (s + v) = s + v := IntWalk.i64_in _ (by omega)
        have ha3 : (a : Int) < x.F.length := by omega
        have hh3 : (h : Int) < x.F.length := by omega
        clear hv hown hh HWNk HWYk HONk HOYk HFC hom
        subst hAF
        have x0 : w1.cell? ⟨W.heap.size, 0, none⟩ = some (.slice (some ⟨gF, oF, none⟩) x.F.length cf) := H1.out.1.lx.fx.cell 0
        go_upto_region 16 with fail
        go_quiet (fail)
        have H2 := Lib.hid (And.intro (H1.out.1.drewN nq) (H1.out.2.drewN nq))
        generalize w1.drewN nq = w2 at H2 ⊢
        clear y0 y1 y2 y3 y4 y5 x0 cF cR2 H1 e1
        rw [HEG.out] at H2
        have y0 : w2.cell? ⟨E, 0, none⟩ = some (.int .i64 g.day) := H2.out.2.cell 0
        have y1 : w2.cell? ⟨E, 1, none⟩ = some (.int .i64 (h : Int)) := H2.out.2.cell 1
        have y2 : w2.cell? ⟨E, 2, none⟩ = some (.int .i64 g.away) := H2.out.2.cell 2
        have y3 : w2.cell? ⟨E, 3, none⟩ = some (.int .i64 g.fin) := H2.out.2.cell 3
        have y4 : w2.cell? ⟨E, 4, none⟩ = some (.int .i64 g.hg) := H2.out.2.cell 4
        have y5 : w2.cell? ⟨E, 5, none⟩ = some (.int .i64 g.ag) := H2.out.2.cell 5
        have d7 : w2.cell? ⟨D7, 1, none⟩ = some (.slice A2 S.length c2) := H2.out.1.f7.cell 1
        obtain ⟨i0, hi, hz0, hz1, hz2⟩ := info_parts Tryd.info53
        have HA : Hid (TvI W (w2.alloc (.cells #[.int .i64 g.day, .int .i64 (h : Int), .int .i64 g.away, .int .i64 g.fin, .int .i64 g.hg, .int .i64 g.ag] 53)) x (some ⟨gF, oF, none⟩) (some ⟨gb, go, none⟩) cf cg D7 D8 B S (.slice A2 S.length c2) ∧ Has (w2.alloc (.cells #[.int .i64 g.day, .int .i64 (h : Int), .int .i64 g.away, .int .i64 g.fin, .int .i64 g.hg, .int .i64 g.ag] 53)) w2.heap.size 53 #[.int .i64 g.day, .int .i64 (h : Int), .int .i64 g.away, .int .i64 g.fin, .int .i64 g.hg, .int .i64 g.ag]) := Lib.hid ⟨H2.out.1.step (below_one _ _), Has.new _ _ _⟩
        clear H2
        go_wp2_with (at_builtin; refine wpList_append_row rfl _ _ 23 rfl B 53 i0 (.agg #[.int .i64 0, .int .i64 0, .int .i64 0, .int .i64 0, .int .i64 0, .int .i64 0]) 6 48 Tryd.underlying23 hi hz0 hz1 hz2 rfl (by decide) (.slice A2 S.length c2) S.length (nvl gmc S) rfl HA.out.1.ow (some ⟨w2.heap.size, 0, none⟩) 1 1 (gmc g).toList rfl ?gb1 rfl ?gb2 (gmc_one g) ?gb3 ?gb4 ?gb5 ?_)
        case gb1 => intro h; cases h
        case gb2 =>
          intro j u hu
          rw [HHE.out] at hu
          exact hu
        case gb3 => unfold maxLen; omega
        case gb4 => omega
        case gb5 => exact HA.out.1.le
        intro v' w'' hown hgr
        obtain ⟨A3, c3, rfl, -, -⟩ := own_slice hown
        have HF := Lib.hid (HA.out.1.f7.below (HA.out.1.gb hgr) HA.out.1.lt.2.2.1)
        have H5 := Lib.hid (HA.out.1.grown (S' := S ++ [g]) hgr (by rw [List.length_append, nvl_append]; simpa [nvl] using hown))
        have d7 : w''.cell? ⟨D7, 1, none⟩ = some (.slice A2 S.length c2) := HF.out.cell 1
        have fz := HF.out.frozen 1
        have fl := HF.out.lt
        clear hown hgr HA HF y0 y1 y2 y3 y4 y5 hi hz0 hz1 hz2 HEG
        go_wp2_with fail
        go_roundg (x.G.length - (k + 1))
        case measure => omega
        case rel => exact ⟨k + 1, A3, c3, by omega, Nat.le_refl _, by go_num, by rw [HWA.out.1], by rw [HWA.out.1], by rw [HWA.out.2, List.length_append]; exact H5.out⟩
theorem travelLaw (x : Lg) (AF AG : Option Addr) (cf cg : Nat) (t : Int) (W : World) (hW : Wo W) (hr : LgR W W.heap.size x AF AG) :
    Calls Tryd.prog 8 #[lgv x AF AG cf cg, .int .i64 t] W (BoolPost true W) := by
  cases hb : largeB x 4
  rotate_left
  · exact travelBig x AF AG cf cg t W hW hr (.inl hb)
  by_cases h32 : 32 < x.G.length
  · exact travelBig x AF AG cf cg t W hW hr (.inr ⟨hb, h32⟩)
  cases hl : lgB x
  · exact travelBad x AF AG cf cg t W hW hr hb (by omega) 1 (by unfold travR; rw [hl]; rfl) (.inl rfl)
  cases ht : teamB x.F.length t
  · exact travelBad x AF AG cf cg t W hW hr hb (by omega) 2 (by unfold travR; rw [hl, ht]; rfl) (.inr rfl)
  exact travelGood x AF AG cf cg t W hW hr hb (by omega) hl ht
end Go.Proofs.YtljkgjfmambfoaaDoor

/- What the tie gives: the package variable's cells. -/
import Derived.Test.YtljkgjfmambfoaaDoorRows
import Derived.Test.YtljkgjfmambfoaaDoorLgF
import Derived.ProofKit
import Derived.LaidMore
import Derived.OpenShut
import Derived.Stop.Joined
namespace Go.Proofs.YtljkgjfmambfoaaDoor
open Go.ChangeShapes Go.WideShapes Go.ChangeAt Go.WideMaps Go.WideElems Go.RowKit
theorem gWorth : Tryd.prog.globalNamed "icehall/league.worth" = some 0 := by kernel_rfl
theorem tWorth : (Tryd.prog.globals[0]?).map (·.type) = some 103 := by kernel_rfl
abbrev laidW : List (String × DataW Unit) := [("icehall/league.worth", Rows.laid_icehall_league_worth)]
theorem door_met (os : Os) (args : Array Value) : laidMetH Tryd.prog laidW ((World.doorLaid Tryd.prog 400 os).forCall (fun _ _ => 0) ⟨#[], args, []⟩).memory :=
  laidMetH_of_parts3 (fuel := 8) (laidMet_of_run' 8 (by kernel_rfl) (by kernel_rfl)) (by kernel_rfl) (by kernel_rfl)
theorem c3 : Tryd.prog.cellsOf 3 = 1 := by kernel_rfl
theorem c102 : Tryd.prog.cellsOf 102 = 2 := by kernel_rfl
theorem c103 : Tryd.prog.cellsOf 103 = 8 := by kernel_rfl
set_option maxRecDepth 100000 in
theorem pair_cells {W : World} {n : Nat} {c d : Value} {a b : Int} {p : List MemPlace} (h : DataW.trod (fun _ => ()) Tryd.prog W 0 (fun _ => true) false n 102 [c, d] = some (.agg [.lit (.int .i64 a), .lit (.int .i64 b)], p)) : c = .int .i64 a ∧ d = .int .i64 b := by
  obtain ⟨ys, m, rfl, hy, -, hn, hel⟩ := DataW.trod_array Tryd.underlying102 h
  have h0 := hel 0 (by decide)
  have h1 := hel 1 (by decide)
  rw [c3] at h0 h1
  simp only [Prod.mk.injEq, DataW.agg.injEq] at hy
  match ys, hn, hy, h0, h1 with
  | [y0, y1], _, hy, h0, h1 =>
    simp only [List.map_cons, List.map_nil, List.cons.injEq] at hy
    obtain ⟨k, e1, e2, _⟩ := DataW.trod_int Tryd.underlying3 (show DataW.trod _ Tryd.prog W 0 _ false m 3 [c] = some y0 from h0)
    obtain ⟨l, e3, e4, _⟩ := DataW.trod_int Tryd.underlying3 (show DataW.trod _ Tryd.prog W 0 _ false m 3 [d] = some y1 from h1)
    have hk : k = a := by rw [e2] at hy; simpa using hy.1.1.symm
    have hl : l = b := by rw [e4] at hy; simpa using hy.1.2.1.symm
    subst hk hl
    exact ⟨by simpa using e1, by simpa using e3⟩
set_option maxRecDepth 100000 in
theorem of_laid {W : World} (h : laidMetH Tryd.prog laidW W) : Wo W := by
  rw [MakeChecks.laidMetH_plain _ _ _ (by kernel_rfl)] at h
  obtain ⟨ps, ⟨g0, t0, cs0, f0, p0, q0, hg0, ht0, hv0, hd0, _, _⟩, _, _⟩ := h
  obtain rfl := Option.some.inj (gWorth.symm.trans hg0)
  obtain rfl := Option.some.inj (tWorth.symm.trans ht0)
  obtain ⟨xs, m, rfl, hx, hlen, hn, hel⟩ := DataW.trod_array Tryd.underlying103 hd0
  have h0 := hel 0 (by decide)
  have h1 := hel 1 (by decide)
  have h2 := hel 2 (by decide)
  have h3 := hel 3 (by decide)
  rw [c102] at h0 h1 h2 h3
  rw [c103] at hlen
  have hcell := fun i => World.var?_cell hg0 hv0 i
  obtain ⟨l⟩ := cs0
  match l, hlen, h0, h1, h2, h3, hcell, hv0 with
  | [a0, a1, a2, a3, a4, a5, a6, a7], _, h0, h1, h2, h3, hcell, _ =>
    simp only [Rows.laid_icehall_league_worth, Prod.mk.injEq, DataW.agg.injEq] at hx
    match xs, hn, hx, h0, h1, h2, h3 with
    | [x0, x1, x2, x3], _, hx, h0, h1, h2, h3 =>
      simp only [List.map_cons, List.map_nil, List.cons.injEq] at hx
      obtain ⟨⟨y0, y1, y2, y3, -⟩, -⟩ := hx
      obtain ⟨d0, q0⟩ := x0
      obtain ⟨d1, q1⟩ := x1
      obtain ⟨d2, q2⟩ := x2
      obtain ⟨d3, q3⟩ := x3
      subst y0 y1 y2 y3
      obtain ⟨rfl, rfl⟩ := pair_cells (show DataW.trod _ Tryd.prog W 0 _ false m 102 [a0, a1] = some _ from h0)
      obtain ⟨rfl, rfl⟩ := pair_cells (show DataW.trod _ Tryd.prog W 0 _ false m 102 [a2, a3] = some _ from h1)
      obtain ⟨rfl, rfl⟩ := pair_cells (show DataW.trod _ Tryd.prog W 0 _ false m 102 [a4, a5] = some _ from h2)
      obtain ⟨rfl, rfl⟩ := pair_cells (show DataW.trod _ Tryd.prog W 0 _ false m 102 [a6, a7] = some _ from h3)
      have c0 := hcell 0
      refine ⟨?_, fun i hi => ?_⟩
      · rcases Nat.eq_zero_or_pos W.heap.size with hz | hz
        · have : W.heap[0]? = none := Array.getElem?_eq_none (by omega)
          simp [World.cell?, this] at c0
        · exact hz
      · have := hcell i
        rw [this]
end Go.Proofs.YtljkgjfmambfoaaDoor

/- The opener of a voting, with what a nil slice is. -/
import Derived.Test.YtfdjoldcdfbfhaaOwC
import Derived.Test.YtfdjoldcdfbfhaaOpA
namespace Go.Proofs.Ytfdjoldcdfbfhaa
open Go.ChangeShapes Go.WideShapes Go.ChangeAt Go.RowKit
section
variable {H : Type} {enc : TypeId × Value → H} {w : World} {base : Nat} {spare : Nat → Bool} {held : Bool}
theorem sensors_cell2 {fuel : Nat} {c : Value} {x : DataW H × List MemPlace} (h : DataW.trod enc Try.prog w base spare held fuel 22 [c] = some x) :
    ∃ (l : List Sn) (A : Option Addr) (cap : Nat), c = .slice A l.length cap ∧ l.length ≤ maxLen ∧ (A = none → l.length = 0 ∧ cap = 0) ∧ (∀ s ∈ l, s.Wf) ∧ NRow w w.heap.size A l := by
  obtain ⟨L, A, cap, rfl, h1, h2, h3, h4⟩ := open_rowT (by omega) Try.underlying22 cells56 (fun (s : Sn) cs => cs = sn3 s ∧ s.Wf) sensor_cells h
  refine ⟨L, A, cap, rfl, by omega, h3, fun s hs => ?_, fun k hk => ?_⟩
  · obtain ⟨i, hi, rfl⟩ := List.mem_iff_getElem.1 hs
    obtain ⟨g, o, cs, e, hg, ⟨-, hw⟩, -⟩ := h4 i hi
    exact hw
  · obtain ⟨g, o, cs, e, hg, ⟨rfl, -⟩, hc⟩ := h4 k hk
    exact ⟨g, o, e, hg, by simpa [sn3] using hc 0 (by omega), by simpa [Nat.add_assoc, sn3] using hc 1 (by omega), by simpa [Nat.add_assoc, sn3] using hc 2 (by omega)⟩
set_option maxRecDepth 100000 in
theorem open_voting2 {r : Reach} {b0 : Nat} {v : Value} {d : DataW H} {p : List MemPlace} (hv : Value.okWide Try.prog w r b0 24 v) (h : DataW.Trod enc Try.prog w base spare held 24 v d p) :
    ∃ (l : List Sn) (A : Option Addr) (cap : Nat) (V F : Int), v = vtv A l.length cap V F ∧ l.length ≤ 9223372036854775807 ∧ (A = none → l.length = 0 ∧ cap = 0) ∧ (∀ s ∈ l, s.Wf) ∧ NRow w w.heap.size A l ∧ Wf V ∧ Wf F := by
  obtain ⟨cs, rfl, hsz⟩ := okWide_struct Try.underlying24 hv
  obtain ⟨fuel, hf0⟩ := h
  obtain ⟨cs⟩ := cs
  have hf1 : DataW.trod enc Try.prog w base spare held fuel 24 cs = some (d, p) := by simpa [Value.cells] using hf0
  obtain ⟨hl, hf⟩ := struct_field Try.underlying24 hf1
  rw [cells24] at hl
  obtain ⟨c0, c1, c2, rfl⟩ := len3 hl
  obtain ⟨n0, y0, h0⟩ := hf 0 22 0 1 rfl cells22
  obtain ⟨n1, y1, h1⟩ := hf 1 3 1 1 rfl cells3
  obtain ⟨n2, y2, h2⟩ := hf 2 3 2 1 rfl cells3
  obtain ⟨l, A, cap, e1, hl2, hn, hw, hp⟩ := sensors_cell2 (c := c0) h0
  obtain ⟨a, e2, ha⟩ := int_cell (c := c1) Try.underlying3 h1
  obtain ⟨b, e3, hb⟩ := int_cell (c := c2) Try.underlying3 h2
  subst e1 e2 e3
  exact ⟨l, A, cap, a, b, rfl, hl2, hn, hw, hp, ha, hb⟩
end
end Go.Proofs.Ytfdjoldcdfbfhaa

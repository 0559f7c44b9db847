/- A slice that comes in is no longer than its room. -/
import Derived.Test.YtogabjlhecnbbaaOpen
namespace Go.Proofs.Ytogabjlhecnbbaa
open Go.ChangeShapes Go.WideShapes Go.ChangeAt Go.RowKit Go.Deep
variable {H : Type} {enc : TypeId × Value → H} {w : World} {base : Nat} {spare : Nat → Bool} {held : Bool}
theorem slice_cap {t E : TypeId} (ht : Try.prog.underlying t = some (.slice E)) {A : Option Addr} {n cap : Nat} {d : DataW H} {p : List MemPlace}
    (h : DataW.Trod enc Try.prog w base spare held t (.slice A n cap) d p) : n ≤ cap ∧ cap ≤ 9223372036854775807 := by
  obtain ⟨fuel, hf⟩ := h
  rcases open_slice ht hf with ⟨h0, -⟩ | ⟨a, len, cap, m, n, D, Pl, hcs, -, hl, hm, -⟩
  · simp [Value.cells] at h0
    omega
  · simp [Value.cells] at hcs
    have : cap ≤ 9223372036854775807 := hm
    omega
end Go.Proofs.Ytogabjlhecnbbaa

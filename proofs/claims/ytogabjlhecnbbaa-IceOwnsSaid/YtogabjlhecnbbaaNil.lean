/- A slice that comes in without an address has no elements and no room. -/
import Derived.Test.YtogabjlhecnbbaaOpen
namespace Go.Proofs.Ytogabjlhecnbbaa
open Go.ChangeShapes Go.WideShapes Go.ChangeAt Go.RowKit Go.Deep
variable {H : Type} {enc : TypeId × Value → H} {w : World} {base : Nat} {spare : Nat → Bool} {held : Bool}
theorem slice_nil {t E : TypeId} (ht : Try.prog.underlying t = some (.slice E)) {A : Option Addr} {n cap : Nat} {d : DataW H} {p : List MemPlace}
    (h : DataW.Trod enc Try.prog w base spare held t (.slice A n cap) d p) : A = none → n = 0 ∧ cap = 0 := by
  rintro rfl
  obtain ⟨fuel, hf⟩ := h
  rcases open_slice ht hf with ⟨h0, -⟩ | ⟨a, len, cap, m, n, D, Pl, hcs, -⟩
  · simp [Value.cells] at h0
    exact h0
  · simp [Value.cells] at hcs
end Go.Proofs.Ytogabjlhecnbbaa

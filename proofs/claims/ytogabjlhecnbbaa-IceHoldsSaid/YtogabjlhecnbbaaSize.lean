/- How long a slice that comes in can be. -/
import Derived.Test.YtogabjlhecnbbaaOpen
import Derived.SizedLaws
namespace Go.Proofs.Ytogabjlhecnbbaa
open Go.ChangeShapes Go.WideShapes Go.ChangeAt Go.RowKit Go.Deep
variable {H : Type} {enc : TypeId × Value → H} {w : World} {base : Nat} {spare : Nat → Bool} {held : Bool}
theorem slice_size {t E : TypeId} (ht : Try.prog.underlying t = some (.slice E)) {A : Option Addr} {n cap : Nat} {d : DataW H} {p : List MemPlace}
    (h : DataW.Trod enc Try.prog w base spare held t (.slice A n cap) d p) : n = 0 ∨ ∃ el sp, d = .slice el sp ∧ el.length = n := by
  obtain ⟨fuel, hf⟩ := h
  rcases open_slice ht hf with ⟨h0, -⟩ | ⟨a, len, cap, m, n, D, Pl, hcs, -, -, -, -, hx, -⟩
  · simp [Value.cells] at h0
    exact .inl h0.2.1
  · simp [Value.cells] at hcs
    simp only [Prod.mk.injEq] at hx
    exact .inr ⟨_, _, hx.1, by simp [hcs.2.1]⟩
theorem Try.bytes60 : Try.prog.bytesOf 60 = 32 := by kernel_rfl
end Go.Proofs.Ytogabjlhecnbbaa

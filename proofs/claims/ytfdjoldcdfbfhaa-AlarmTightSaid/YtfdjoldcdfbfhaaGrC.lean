/- minutes: the iterator is made. -/
import Derived.Test.YtfdjoldcdfbfhaaGrB
namespace Go.Proofs.Ytfdjoldcdfbfhaa
open Go.RowKit Go.Shelf
def mkW (W : World) (A : Option Addr) (k cap : Nat) (n : Int) : World := (W.alloc (.cells #[.slice A k cap] 25)).alloc (.cells #[.int .i64 n] 3)
set_option maxRecDepth 100000 in
theorem minutes52_any (A : Option Addr) (k cap : Nat) (n : Int) (W : World) :
    Calls Try.prog 52 #[.slice A k cap, .int .i64 n] W fun e W' => e = .returned (.func (.func 61) #[] #[.pointer (some ⟨W.heap.size, 0, none⟩), .pointer (some ⟨W.heap.size + 1, 0, none⟩)]) ∧ W' = mkW W A k cap n := by
  have hmf : ∀ (fn : Fn) (first cap : Array Value) (w : World), (Instr.makeFunc fn first cap).run Try.prog w = .ok (.func fn first cap) w := fun _ _ _ _ => rfl
  go_enter Try.func52, Try.ntmps52
  go_wp2
  go_ret
  exact ⟨rfl, rfl⟩
theorem mkW_in {W : World} {A : Option Addr} {cap : Nat} {n : Int} {L : List Sf} (hr : FRow W W.heap.size A L) : ItIn (mkW W A L.length cap n) W.heap.size (W.heap.size + 1) A cap n L := by
  have hb := (below_one W (.cells #[.slice A L.length cap] 25)).alloc (by simp) (.cells #[.int .i64 n] 3)
  have h1 : Has (mkW W A L.length cap n) W.heap.size 25 #[.slice A L.length cap] := (Has.new _ _ _).alloc _
  have h2 := Has.new (W.alloc (.cells #[.slice A L.length cap] 25)) 3 #[.int .i64 n]
  simp only [World.size_alloc] at h2
  exact ⟨h1.cell 0, Has.cell h2 0, hr.step hb⟩
end Go.Proofs.Ytfdjoldcdfbfhaa

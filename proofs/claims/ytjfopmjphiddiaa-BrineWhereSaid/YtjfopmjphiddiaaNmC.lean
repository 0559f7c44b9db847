/- The names and examples: contracts on the examples. -/
import Derived.Test.YtjfopmjphiddiaaNmA
namespace Go.Proofs.Ytjfopmjphiddiaa
open Go.RowKit Go.Shelf
theorem tot_s1 (A : Option Addr) (W : World) (h : PRow W W.heap.size A smP) : Calls Try.prog 16 #[.agg #[.int .i64 smT.v, .int .i64 smT.h, .slice A 2 2, .int .i64 200, .int .i64 500]] W fun e W' => e = .returned (.tuple #[.agg #[.int .i64 160, .int .i64 1440], .int .i64 0]) ∧ Below W.heap.size W W' := by
  refine (total_any smT smP A 2 200 500 W h (by decide) (by decide)).mono fun r wb hh => ?_
  rw [tot_s] at hh
  exact hh
theorem tot_l1 (A : Option Addr) (W : World) (h : PRow W W.heap.size A laP) : Calls Try.prog 16 #[brv laT A laP.length laP.length 0 500] W fun e W' => e = .returned (.tuple #[.agg #[.int .i64 145, .int .i64 825], .int .i64 0]) ∧ Below W.heap.size W W' := by
  refine (total_any laT laP A 2 0 500 W h (by decide) (by decide)).mono fun r wb hh => ?_
  rw [tot_l] at hh
  exact hh
theorem room_c (B B' : Nat) (L n : Int) (W : World) (h1 : Has W B 3 #[.int .i64 100, .int .i64 50, .int .i64 0, .int .i64 30]) (h2 : Has W B' 3 #[.int .i64 20, .int .i64 20, .int .i64 80, .int .i64 40]) (hR : RoomR [100, 50, 0, 30] [20, 20, 80, 40] 10 L n 0) : Calls Try.prog 21 #[.slice (some ⟨B, 0, none⟩) 4 4, .slice (some ⟨B', 0, none⟩) 4 4, .int .i64 10, .int .i64 L] W fun e W' => e = .returned (.tuple #[.int .i64 n, .int .i64 0]) ∧ Below W.heap.size W W' := by
  refine (room_any [100, 50, 0, 30] [20, 20, 80, 40] 10 L (some ⟨B, 0, none⟩) (some ⟨B', 0, none⟩) 4 4 W (irow_four h1 h1.lt) (irow_four h2 h2.lt) (by decide)).mono ?_
  rintro r wb ⟨m, c, rfl, hm, hb⟩
  obtain ⟨rfl, rfl⟩ := RoomR.uniq hm hR
  exact ⟨rfl, hb⟩
theorem same_o (A A' : Option Addr) (cap : Nat) (W : World) (h1 : PRow W W.heap.size A oneP) (h2 : PRow W W.heap.size A' oneP) : Calls Try.prog 18 #[.agg #[.int .i64 oneT.v, .int .i64 oneT.h, .slice A oneP.length cap, .int .i64 200, .int .i64 500], .agg #[.int .i64 70, .int .i64 700, .slice A' 2 2, .int .i64 200, .int .i64 500]] W fun r wb => r = .returned (.bool true) ∧ Below W.heap.size W wb :=
  same_any oneT oneP 200 500 A A' cap 2 W h1 h2 (by decide) (by decide)
theorem built_o (W : World) : PRow (((W.alloc (.cells #[.int .i64 20, .int .i64 100, .int .i64 30, .int .i64 300] 23)).alloc (.cells #[.int .i64 10, .int .i64 50, .int .i64 30, .int .i64 90] 23)).alloc (.cells #[.int .i64 50, .slice (some ⟨W.heap.size, 0, none⟩) 2 2, .int .i64 40, .slice (some ⟨W.heap.size + 1, 0, none⟩) 2 2] 51)) (((W.alloc (.cells #[.int .i64 20, .int .i64 100, .int .i64 30, .int .i64 300] 23)).alloc (.cells #[.int .i64 10, .int .i64 50, .int .i64 30, .int .i64 90] 23)).alloc (.cells #[.int .i64 50, .slice (some ⟨W.heap.size, 0, none⟩) 2 2, .int .i64 40, .slice (some ⟨W.heap.size + 1, 0, none⟩) 2 2] 51)).heap.size (some ⟨W.heap.size + 1 + 1, 0, none⟩) oneP := by
  refine prow_two (t := 51) (g := W.heap.size) (g' := W.heap.size + 1) (c := 2) (c' := 2) ?_ ?_ ?_ ?_
  · exact Has.newAt (by simp)
  · simp
  · exact srow_of (t := 23) (((Has.new _ _ _).alloc _).alloc _) (by simp; omega)
  · exact srow_of (t := 23) ((Has.newAt (by simp)).alloc _) (by simp)
theorem eql23s (x y : Int) (w : World) : (binOp .eql 23 (.agg #[.int .i64 x, .int .i64 y]) (.agg #[.int .i64 x, .int .i64 y])).run Try.prog w = .ok (.bool true) w := by
  have := eql23 ⟨x, y⟩ ⟨x, y⟩ w
  simpa using this
/-- what lies there, in a later world -/
structure NmS (w W : World) (g x1 x2 : Nat) (A A1 A2 : Option Addr) (c1 c2 : Nat) : Prop where
  bl : Below w.heap.size w W
  b : Has W g 26 (bxc A)
  p : PRow W W.heap.size A smP
  h1 : Has W x1 26 #[.int .i64 oneT.v, .int .i64 oneT.h, .slice A1 oneP.length c1, .int .i64 200, .int .i64 500]
  p1 : PRow W W.heap.size A1 oneP
  h2 : Has W x2 26 #[.int .i64 oneT.v, .int .i64 oneT.h, .slice A2 2 c2, .int .i64 200, .int .i64 500]
  p2 : PRow W W.heap.size A2 thP
theorem NmS.step {w W W' : World} {g x1 x2 : Nat} {A A1 A2 : Option Addr} {c1 c2 : Nat} (h : NmS w W g x1 x2 A A1 A2 c1 c2) (hb : Below W.heap.size W W') : NmS w W' g x1 x2 A A1 A2 c1 c2 :=
  ⟨h.bl.trans (hb.mono h.bl.size), h.b.below hb h.b.lt, h.p.step hb, h.h1.below hb h.h1.lt, h.p1.step hb, h.h2.below hb h.h2.lt, h.p2.step hb⟩
end Go.Proofs.Ytjfopmjphiddiaa

/- Contracts of grow and shrink. -/
import Derived.Test.YtogabjlhecnbbaaIceA
import Derived.Test.YtogabjlhecnbbaaMem
import Derived.BigRegion
namespace Go.Proofs.Ytogabjlhecnbbaa
open Go.RowKit Go.Shelf
abbrev iv (n : Int) : Value := .int .i64 n
abbrev sv (x y : Int) : Value := .agg #[.int .i64 x, .int .i64 y]
def Near (n : Int) : Prop := -4611686018427387904 ≤ n ∧ n ≤ 4611686018427387904

def upd2 (cs : Array Value) (o : Nat) (lo hi : Int) : Array Value := (cs.setIfInBounds o (iv lo)).setIfInBounds (o + 1) (iv hi)

theorem sv_eq {a b a' b' : Int} (h1 : a = a') (h2 : b = b') : Ending.returned (.agg #[.int .i64 a, .int .i64 b]) = .returned (sv a' b') := by rw [h1, h2]
theorem upd2_eq {w : World} {g : Nat} {t : TypeId} {cs : Array Value} {o : Nat} {a b a' b' : Int} (h1 : a = a') (h2 : b = b') (h : Has w g t ((cs.setIfInBounds o (.int .i64 a)).setIfInBounds (o + 1) (.int .i64 b))) : Has w g t (upd2 cs o a' b') := by
  rw [← h1, ← h2]; exact h

set_option maxHeartbeats 800000 in
theorem grow_any (b o : Nat) (t : TypeId) (cs : Array Value) (lo hi x y : Int) (w : World) (hh : Has w b t cs) (e0 : cs[o]? = some (iv lo)) (e1 : cs[o + 1]? = some (iv hi)) (n1 : Near (lo + x)) (n2 : Near (hi + y)) :
    Calls Try.prog 71 #[.pointer (some ⟨b, o, none⟩), sv x y] w fun e w' => e = .returned (.tuple #[]) ∧ Only (· = b) w w' ∧ Has w' b t (upd2 cs o (lo + x) (hi + y)) := by
  have hb := hh.lt
  have c0 := (hh.cell o).trans e0
  have c1 := (hh.cell (o + 1)).trans e1
  have f0 := hh.frozen o
  have f1 := hh.frozen (o + 1)
  obtain ⟨h1, h2⟩ := n1
  obtain ⟨h3, h4⟩ := n2
  clear e0 e1
  go_enter Try.func71, Try.ntmps71
  go_wp2
  go_region
  go_wp2
  go_region
  go_wp2
  go_end0
  exact ⟨rfl, (((((Only.refl (· = b) w).setCell (p := ⟨b, o, none⟩) (.inl rfl) _).setCell (p := ⟨b, o + 1, none⟩) (.inl rfl) _).alloc _).drew).drew, (((hh.set o _).set (o + 1) _).alloc _).drew.drew⟩

set_option maxHeartbeats 800000 in
theorem shrink_any (b o : Nat) (t : TypeId) (cs : Array Value) (lo hi x y : Int) (w : World) (hh : Has w b t cs) (e0 : cs[o]? = some (iv lo)) (e1 : cs[o + 1]? = some (iv hi)) (n1 : Near (lo - y)) (n2 : Near (hi - x)) :
    Calls Try.prog 70 #[.pointer (some ⟨b, o, none⟩), sv x y] w fun e w' => e = .returned (sv (min lo x) (min hi y)) ∧ Only (· = b) w w' ∧ Has w' b t (upd2 cs o (max 0 (lo - y)) (max 0 (hi - x))) := by
  have hb := hh.lt
  have hb1 : b < w.heap.size + 1 := by omega
  have hb2 : b < w.heap.size + 1 + 1 := by omega
  have hb3 : b < w.heap.size + 1 + 1 + 1 := by omega
  have c0 := (hh.cell o).trans e0
  have c1 := (hh.cell (o + 1)).trans e1
  have f0 := hh.frozen o
  have f1 := hh.frozen (o + 1)
  obtain ⟨h1, h2⟩ := n1
  obtain ⟨h3, h4⟩ := n2
  clear e0 e1
  go_enter Try.func70, Try.ntmps70
  go_wp2
  go_region
  all_goals go_wp2
  all_goals go_region
  all_goals go_wp2
  all_goals go_region
  all_goals go_wp2
  all_goals
    refine bodyPost_ret (v := .agg #[.int .i64 _, .int .i64 _]) (by simp [results, Try.results70, go_sem]; exact ⟨rfl, rfl⟩) rfl ⟨sv_eq ?_ ?_, ?_, upd2_eq ?_ ?_ ((((((hh.set o _).set (o + 1) _).alloc _).alloc _).alloc _).drew.drew.drew)⟩
    · omega
    · omega
    · exact ((((((Only.refl (· = b) w).setCell (p := ⟨b, o, none⟩) (.inl rfl) _).setCell (p := ⟨b, o + 1, none⟩) (.inl rfl) _).alloc _).alloc _).alloc _).drew.drew.drew
    · omega
    · omega
end Go.Proofs.Ytogabjlhecnbbaa

/- What events do to zones, plainly; contracts of add, measure and the deeds. -/
import Derived.Test.YtogabjlhecnbbaaIceB
import Derived.Deep.QuietTactic
import Derived.BigQuiet
import Derived.Deep.RegionHeld3
import Derived.Deep.RegionWith
namespace Go.Proofs.Ytogabjlhecnbbaa
open Go.RowKit Go.Shelf

structure Ev where
  k : Int
  f : Int
  t : Int
  x : Int
  y : Int
  deriving DecidableEq
structure Sm where
  f1 : Int
  f2 : Int
  p1 : Int
  p2 : Int
  w1 : Int
  w2 : Int
  deriving DecidableEq
abbrev Sm.zero : Sm := ⟨0, 0, 0, 0, 0, 0⟩
abbrev evv (e : Ev) : Value := .agg #[iv e.k, iv e.f, iv e.t, iv e.x, iv e.y]
abbrev smv (s : Sm) : Value := .agg #[iv s.f1, iv s.f2, iv s.p1, iv s.p2, iv s.w1, iv s.w2]
/-- the cells of zones in a row -/
def flat (zs : List Zn) : Array Value := (zs.flatMap fun z => [iv z.a, iv z.b, iv z.c, iv z.d]).toArray
abbrev kcells (Bz n : Nat) (s : Sm) : Array Value := #[.slice (some ⟨Bz, 0, none⟩) n n, iv s.f1, iv s.f2, iv s.p1, iv s.p2, iv s.w1, iv s.w2]

theorem flat_size (zs : List Zn) : (flat zs).size = zs.length * 4 := by
  unfold flat
  simp only [List.size_toArray]
  induction zs with
  | nil => rfl
  | cons z zs ih => simp only [List.flatMap_cons, List.length_append, List.length_cons, List.length_nil, ih]; omega
theorem flat_get (zs : List Zn) (i : Nat) (h : i < zs.length) (j : Nat) (hj : j < 4) : (flat zs)[i * 4 + j]? = [iv zs[i].a, iv zs[i].b, iv zs[i].c, iv zs[i].d][j]? := by
  unfold flat
  simp only [List.getElem?_toArray]
  induction zs generalizing i with
  | nil => exact absurd h (by simp)
  | cons z zs ih =>
    cases i with
    | zero =>
      simp only [List.flatMap_cons, Nat.zero_mul, Nat.zero_add, List.getElem_cons_zero]
      rw [List.getElem?_append_left (by simpa using hj)]
    | succ i =>
      simp only [List.flatMap_cons, List.getElem_cons_succ]
      rw [List.getElem?_append_right (by simp; omega), ← ih i (by simpa using h)]
      congr 1
      simp; omega
theorem flat_set (zs : List Zn) (i : Nat) (z : Zn) (h : i < zs.length) : flat (zs.set i z) = ((((flat zs).setIfInBounds (i * 4) (iv z.a)).setIfInBounds (i * 4 + 1) (iv z.b)).setIfInBounds (i * 4 + 2) (iv z.c)).setIfInBounds (i * 4 + 3) (iv z.d) := by
  apply Array.ext_getElem?
  intro m
  simp only [Array.getElem?_setIfInBounds, Array.size_setIfInBounds]
  by_cases hm : m < zs.length * 4
  · have hd : m / 4 * 4 + m % 4 = m := by omega
    have hq : m / 4 < zs.length := by omega
    have h1 := flat_get (zs.set i z) (m / 4) (by simpa using hq) (m % 4) (by omega)
    have h2 := flat_get zs (m / 4) hq (m % 4) (by omega)
    rw [hd] at h1 h2
    rw [h1, h2]
    have hr : m % 4 = 0 ∨ m % 4 = 1 ∨ m % 4 = 2 ∨ m % 4 = 3 := by omega
    by_cases hi : i = m / 4
    · subst hi
      simp only [List.getElem_set_self, flat_size]
      rcases hr with e | e | e | e <;> rw [e] <;> simp <;> (repeat (first | rw [if_neg (by omega)] | rw [if_pos (by omega)])) <;> rfl
    · simp only [List.getElem_set_ne hi]
      rw [if_neg (by omega), if_neg (by omega), if_neg (by omega), if_neg (by omega)]
  · have s1 := flat_size (zs.set i z)
    have s2 := flat_size zs
    simp only [List.length_set] at s1
    rw [Array.getElem?_eq_none (by omega)]
    rw [if_neg (by omega), if_neg (by omega), if_neg (by omega), if_neg (by omega), Array.getElem?_eq_none (by omega)]

set_option maxHeartbeats 800000 in
theorem add_any (b o : Nat) (t : TypeId) (cs : Array Value) (lo hi x y : Int) (w : World) (hh : Has w b t cs) (e0 : cs[o]? = some (iv lo)) (e1 : cs[o + 1]? = some (iv hi)) (n1 : Near (lo + x)) (n2 : Near (hi + y)) :
    Calls Try.prog 74 #[.pointer (some ⟨b, o, none⟩), sv x y] w fun e w' => e = .returned (.tuple #[]) ∧ Only (· = b) w w' ∧ Has w' b t (upd2 cs o (lo + x) (hi + y)) := by
  have hb := hh.lt
  have c0 := (hh.cell o).trans e0
  have c1 := (hh.cell (o + 1)).trans e1
  have f0 := hh.frozen o
  have f1 := hh.frozen (o + 1)
  obtain ⟨h1, h2⟩ := n1
  obtain ⟨h3, h4⟩ := n2
  clear e0 e1
  go_enter Try.func74, Try.ntmps74
  go_wp2
  go_region
  go_wp2
  go_region
  go_wp2
  go_end0
  exact ⟨rfl, (((((Only.refl (· = b) w).setCell (p := ⟨b, o, none⟩) (.inl rfl) _).setCell (p := ⟨b, o + 1, none⟩) (.inl rfl) _).alloc _).drew).drew, (((hh.set o _).set (o + 1) _).alloc _).drew.drew⟩

def holeMsg : Value := .iface 9 (.string ⟨#[97, 32, 104, 111, 108, 101, 32, 116, 104, 97, 116, 32, 99, 97, 110, 110, 111, 116, 32, 98, 101]⟩)
def MeasPost (b o : Nat) (t : TypeId) (cs : Array Value) (lo hi : Int) (w : World) (e : Ending) (w' : World) : Prop :=
  ((lo ≤ hi ∧ e = .returned (.tuple #[])) ∨ (hi < lo ∧ e = .panicked [{ v := holeMsg, recovered := false }])) ∧ Only (· = b) w w' ∧ Has w' b t (upd2 cs o lo hi)
set_option maxHeartbeats 800000 in
theorem measure_any (b o : Nat) (t : TypeId) (cs : Array Value) (lo hi x y : Int) (w : World) (hh : Has w b t cs) (e0 : cs[o]? = some (iv lo)) (e1 : cs[o + 1]? = some (iv hi)) :
    Calls Try.prog 78 #[.pointer (some ⟨b, o, none⟩), sv x y] w (MeasPost b o t cs (max lo x) (min hi y) w) := by
  have hb := hh.lt
  have hb1 : b < w.heap.size + 1 := by omega
  have c0 := (hh.cell o).trans e0
  have c1 := (hh.cell (o + 1)).trans e1
  have f0 := hh.frozen o
  have f1 := hh.frozen (o + 1)
  clear e0 e1
  go_enter Try.func78, Try.ntmps78
  go_wp2
  go_region
  all_goals go_wp2
  all_goals go_region
  all_goals go_wp2
  all_goals go_region
  all_goals go_wp2
  all_goals
    first
    | refine ⟨rfl, .inr ⟨by omega, rfl⟩, ?_, upd2_eq ?_ ?_ ((((hh.set o _).set (o + 1) _).alloc _).drew.drew.drew)⟩
    | (go_end0; refine ⟨.inl ⟨by omega, rfl⟩, ?_, upd2_eq ?_ ?_ ((((hh.set o _).set (o + 1) _).alloc _).drew.drew.drew)⟩)
    · exact ((((Only.refl (· = b) w).setCell (p := ⟨b, o, none⟩) (.inl rfl) _).setCell (p := ⟨b, o + 1, none⟩) (.inl rfl) _).alloc _).drew.drew.drew
    · omega
    · omega
end Go.Proofs.Ytogabjlhecnbbaa

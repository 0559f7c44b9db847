/- Contracts of the deeds: drill and paint. -/
import Derived.Test.YtogabjlhecnbbaaIceQ
namespace Go.Proofs.Ytogabjlhecnbbaa
open Go.RowKit Go.Shelf
theorem measure_ok (b o : Nat) (t : TypeId) (cs : Array Value) (lo hi x y : Int) (w : World) (hh : Has w b t cs) (e0 : cs[o]? = some (iv lo)) (e1 : cs[o + 1]? = some (iv hi)) (hle : max lo x ≤ min hi y) :
    Calls Try.prog 78 #[.pointer (some ⟨b, o, none⟩), sv x y] w fun e w' => e = .returned (.tuple #[]) ∧ Only (· = b) w w' ∧ Has w' b t (upd2 cs o (max lo x) (min hi y)) :=
  (measure_any b o t cs lo hi x y w hh e0 e1).mono fun _ _ ⟨h, r⟩ => ⟨h.elim (fun h => h.2) (fun h => absurd h.1 (by omega)), r⟩
theorem measure_bad (b o : Nat) (t : TypeId) (cs : Array Value) (lo hi x y : Int) (w : World) (hh : Has w b t cs) (e0 : cs[o]? = some (iv lo)) (e1 : cs[o + 1]? = some (iv hi)) (hle : min hi y < max lo x) :
    Calls Try.prog 78 #[.pointer (some ⟨b, o, none⟩), sv x y] w fun e w' => e = .panicked [{ v := holeMsg, recovered := false }] ∧ Only (· = b) w w' :=
  (measure_any b o t cs lo hi x y w hh e0 e1).mono fun _ _ ⟨h, r⟩ => ⟨h.elim (fun h => absurd h.1 (by omega)) (fun h => h.2), r.1⟩

set_option maxHeartbeats 800000 in
theorem drill_ok (Bk Bz i : Nat) (zs : List Zn) (s : Sm) (x y : Int) (w : World) (h : KIn w Bk Bz zs s) (hi : i < zs.length) (hle : max zs[i].a x ≤ min zs[i].b y) :
    Calls Try.prog 77 #[.pointer (some ⟨Bz, i * 4, none⟩), sv x y] w
      fun e w' => e = .returned (.tuple #[]) ∧ OnlyKZ Bk Bz w w' ∧ KIn w' Bk Bz (zs.set i (zs[i].ice (max zs[i].a x) (min zs[i].b y))) s := by
  obtain ⟨z0, z1, z2, z3⟩ := flat_at hi
  have HZ := Lib.hid (And.intro z0 (And.intro z1 hle))
  have H := Lib.hid h
  clear z0 z1 z2 z3 h hle
  go_enter Try.func77, Try.ntmps77
  go_wp2
  go_region_with ((go_at_call 78; refine (measure_ok Bz (i * 4) 104 (flat zs) zs[i].a zs[i].b x y _ ((H.out.z.alloc _).drew) HZ.out.1 HZ.out.2.1 HZ.out.2.2).mono ?_; rintro e w1 ⟨rfl, ho1, hh1⟩))
  all_goals
    go_wp2
    go_end0
    refine ⟨rfl, ((((Only.refl _ w).alloc _).drew).from_ (S' := fun b => b = Bz) ho1 (fun _ _ e => .inr e)), ⟨?_, ?_, H.out.ne⟩⟩
    · rw [List.length_set]; exact ((H.out.k.alloc _).drew).only ho1 H.out.ne
    · rw [← flat_ice hi]; exact hh1

set_option maxRecDepth 100000 in
set_option maxHeartbeats 800000 in
theorem drill_bad (Bk Bz i : Nat) (zs : List Zn) (s : Sm) (x y : Int) (w : World) (h : KIn w Bk Bz zs s) (hi : i < zs.length) (hle : min zs[i].b y < max zs[i].a x) :
    Calls Try.prog 77 #[.pointer (some ⟨Bz, i * 4, none⟩), sv x y] w
      fun e w' => e = .panicked [{ v := holeMsg, recovered := false }] ∧ OnlyKZ Bk Bz w w' := by
  obtain ⟨z0, z1, z2, z3⟩ := flat_at hi
  have HZ := Lib.hid (And.intro z0 (And.intro z1 hle))
  have H := Lib.hid h
  clear z0 z1 z2 z3 h hle
  go_enter Try.func77, Try.ntmps77
  go_wp2
  refine still_tail 4 (by kernel_rfl) (by kernel_rfl) ?_
  simp only [List.take_succ_cons, List.take_zero, List.drop_succ_cons, List.drop_zero]
  repeat still_step
  refine wpStill_nil ?_
  go_wp2_with fail
  refine (measure_bad Bz (i * 4) 104 (flat zs) zs[i].a zs[i].b x y _ ((H.out.z.alloc _).drew) HZ.out.1 HZ.out.2.1 HZ.out.2.2).mono ?_
  rintro e w1 ⟨rfl, ho1⟩
  exact ⟨rfl, rfl, ((((Only.refl _ w).alloc _).drew).from_ (S' := fun b => b = Bz) ho1 (fun _ _ e => .inr e))⟩

theorem flat_paint {zs : List Zn} {i : Nat} (h : i < zs.length) : (((flat zs).setIfInBounds (i * 4 + 2) (iv zs[i].a)).setIfInBounds (i * 4 + 3) (iv zs[i].b)) = flat (zs.set i { zs[i] with c := zs[i].a, d := zs[i].b }) := by
  obtain ⟨h0, h1, h2, h3⟩ := flat_at h
  rw [flat_set zs i _ h]
  apply Array.ext_getElem?
  intro m
  simp only [Array.getElem?_setIfInBounds, Array.size_setIfInBounds]
  by_cases e3 : i * 4 + 3 = m
  · rw [if_pos e3, if_pos e3]
  · rw [if_neg e3, if_neg e3]
    by_cases e2 : i * 4 + 2 = m
    · rw [if_pos e2, if_pos e2]
    · rw [if_neg e2, if_neg e2]
      by_cases e1 : i * 4 + 1 = m
      · subst e1; rw [if_pos rfl, h1, if_pos (by rw [flat_size]; omega)]
      · rw [if_neg e1]
        by_cases e0 : i * 4 = m
        · subst e0; rw [if_pos rfl, h0, if_pos (by rw [flat_size]; omega)]
        · rw [if_neg e0]

set_option maxHeartbeats 800000 in
theorem paint_any (Bk Bz i : Nat) (zs : List Zn) (s : Sm) (x y : Int) (w : World) (h : KIn w Bk Bz zs s) (hi : i < zs.length) :
    Calls Try.prog 79 #[.pointer (some ⟨Bz, i * 4, none⟩), sv x y] w
      fun e w' => e = .returned (.tuple #[]) ∧ OnlyKZ Bk Bz w w' ∧ KIn w' Bk Bz (zs.set i { zs[i] with c := zs[i].a, d := zs[i].b }) s := by
  obtain ⟨z0, z1, z2, z3⟩ := flat_at hi
  have hb := h.z.lt
  have hb1 : Bz < w.heap.size + 1 := by omega
  have c0 : w.cell? ⟨Bz, i * 4, none⟩ = some (iv zs[i].a) := (h.z.cell _).trans z0
  have c1 : w.cell? ⟨Bz, i * 4 + 1, none⟩ = some (iv zs[i].b) := (h.z.cell _).trans z1
  have c2 : w.cell? ⟨Bz, i * 4 + 2, none⟩ = some (iv zs[i].c) := (h.z.cell _).trans z2
  have c3 : w.cell? ⟨Bz, i * 4 + 3, none⟩ = some (iv zs[i].d) := (h.z.cell _).trans z3
  have c3' : w.cell? ⟨Bz, i * 4 + 2 + 1, none⟩ = some (iv zs[i].d) := c3
  have f2 := h.z.frozen (i * 4 + 2)
  have f3 := h.z.frozen (i * 4 + 3)
  have f3' : w.frozen? ⟨Bz, i * 4 + 2 + 1, none⟩ = false := f3
  have H := Lib.hid h
  clear z0 z1 z2 z3 h
  go_enter Try.func79, Try.ntmps79
  go_wp2
  go_end0
  refine ⟨rfl, ((((Only.refl _ w).setCell (p := ⟨Bz, i * 4 + 2, none⟩) (.inl (.inr rfl)) _).setCell (p := ⟨Bz, i * 4 + 2 + 1, none⟩) (.inl (.inr rfl)) _).alloc _), ⟨?_, ?_, H.out.ne⟩⟩
  · rw [List.length_set]; exact (((H.out.k.far H.out.ne _).far H.out.ne _).alloc _)
  · rw [← flat_paint hi]; exact (((H.out.z.set _ _).set _ _).alloc _)
end Go.Proofs.Ytogabjlhecnbbaa

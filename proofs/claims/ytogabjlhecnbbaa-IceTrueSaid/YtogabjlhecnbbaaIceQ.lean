/- Contracts of the deeds. -/
import Derived.Test.YtogabjlhecnbbaaIceP
import Derived.StillTailTactics
namespace Go.Proofs.Ytogabjlhecnbbaa
open Go.RowKit Go.Shelf
structure KIn (w : World) (Bk Bz : Nat) (zs : List Zn) (s : Sm) : Prop where
  k : Has w Bk 83 (kcells Bz zs.length s)
  z : Has w Bz 104 (flat zs)
  ne : Bk ≠ Bz
abbrev OnlyKZ (Bk Bz : Nat) (w w' : World) : Prop := Only (fun b => b = Bk ∨ b = Bz) w w'
def Sm.fro (s : Sm) (x y : Int) : Sm := { s with f1 := s.f1 + x, f2 := s.f2 + y }
def Sm.pla (s : Sm) (x y : Int) : Sm := { s with p1 := s.p1 + x, p2 := s.p2 + y }
def Sm.wor (s : Sm) (x y : Int) : Sm := { s with w1 := s.w1 + x, w2 := s.w2 + y }
def Zn.ice (z : Zn) (a b : Int) : Zn := { z with a := a, b := b }
/-- sums that are far from any overflow -/
def Sm.Bd (s : Sm) (c : Int) : Prop := (0 ≤ s.f1 ∧ s.f1 ≤ c) ∧ (0 ≤ s.f2 ∧ s.f2 ≤ c) ∧ (0 ≤ s.p1 ∧ s.p1 ≤ c) ∧ (0 ≤ s.p2 ∧ s.p2 ≤ c) ∧ (0 ≤ s.w1 ∧ s.w1 ≤ c) ∧ (0 ≤ s.w2 ∧ s.w2 ≤ c)

theorem flat_at {zs : List Zn} {i : Nat} (h : i < zs.length) : (flat zs)[i * 4]? = some (iv zs[i].a) ∧ (flat zs)[i * 4 + 1]? = some (iv zs[i].b) ∧ (flat zs)[i * 4 + 2]? = some (iv zs[i].c) ∧ (flat zs)[i * 4 + 3]? = some (iv zs[i].d) :=
  ⟨by have := flat_get zs i h 0 (by omega); simpa using this, by have := flat_get zs i h 1 (by omega); simpa using this, by have := flat_get zs i h 2 (by omega); simpa using this, by have := flat_get zs i h 3 (by omega); simpa using this⟩
theorem flat_ice {zs : List Zn} {i : Nat} (h : i < zs.length) (a b : Int) : upd2 (flat zs) (i * 4) a b = flat (zs.set i (zs[i].ice a b)) := by
  obtain ⟨h0, h1, h2, h3⟩ := flat_at h
  rw [flat_set zs i _ h]
  unfold upd2 Zn.ice
  apply Array.ext_getElem?
  intro m
  simp only [Array.getElem?_setIfInBounds, Array.size_setIfInBounds]
  by_cases e3 : i * 4 + 3 = m
  · subst e3; rw [if_neg (by omega), if_neg (by omega), if_pos rfl, h3, if_pos (by rw [flat_size]; omega)]
  · rw [if_neg e3]
    by_cases e2 : i * 4 + 2 = m
    · subst e2; rw [if_neg (by omega), if_neg (by omega), if_pos rfl, h2, if_pos (by rw [flat_size]; omega)]
    · rw [if_neg e2]

set_option maxHeartbeats 800000 in
theorem flood_any (Bk Bz Bp i : Nat) (zs : List Zn) (s : Sm) (x y c : Int) (w : World) (h : KIn w Bk Bz zs s) (hp : Has w Bp 77 #[.pointer (some ⟨Bk, 0, none⟩)]) (_hpk : Bp ≠ Bk) (hpz : Bp ≠ Bz) (hi : i < zs.length)
    (n1 : Near (zs[i].a + x)) (n2 : Near (zs[i].b + y)) (hs : s.Bd c) (hc : c ≤ 1000000000) (hx : 0 ≤ x ∧ x ≤ 20000) (hy : 0 ≤ y ∧ y ≤ 20000) :
    Calls Try.prog 73 #[.pointer (some ⟨Bz, i * 4, none⟩), sv x y, .pointer (some ⟨Bp, 0, none⟩)] w
      fun e w' => e = .returned (.tuple #[]) ∧ OnlyKZ Bk Bz w w' ∧ KIn w' Bk Bz (zs.set i (zs[i].ice (zs[i].a + x) (zs[i].b + y))) (s.fro x y) := by
  obtain ⟨z0, z1, z2, z3⟩ := flat_at hi
  have HZ := Lib.hid (And.intro z0 z1)
  have H := Lib.hid h
  have HP := Lib.hid hp
  clear z0 z1 z2 z3 h hp
  go_enter Try.func73, Try.ntmps73
  go_wp2
  go_region_with ((go_at_call 71; refine (grow_any Bz (i * 4) 104 (flat zs) zs[i].a zs[i].b x y _ ((H.out.z.alloc _).drew) HZ.out.1 HZ.out.2 n1 n2).mono ?_; rintro e w1 ⟨rfl, ho1, hh1⟩))
  have hbx : Has w1 w.heap.size 27 #[.int .i64 x, .int .i64 y] := ((Has.new w 27 #[.int .i64 x, .int .i64 y]).drew).only ho1 (by have := H.out.z.lt; omega)
  have hP1 : Has w1 Bp 77 #[.pointer (some ⟨Bk, 0, none⟩)] := ((HP.out.alloc _).drew).only ho1 hpz
  have hK1 : Has w1 Bk 83 (kcells Bz zs.length s) := ((H.out.k.alloc _).drew).only ho1 H.out.ne
  have c0 : w1.cell? ⟨w.heap.size, 0, none⟩ = some (.int .i64 x) := hbx.cell 0
  have c1 : w1.cell? ⟨w.heap.size, 1, none⟩ = some (.int .i64 y) := hbx.cell 1
  have c2 : w1.cell? ⟨Bp, 0, none⟩ = some (.pointer (some ⟨Bk, 0, none⟩)) := hP1.cell 0
  have hO1 : OnlyKZ Bk Bz w w1 := (((Only.refl _ w).alloc _).drew).from_ ho1 (fun i _ e => .inr e)
  have HS := Lib.hid hs
  have HK := Lib.hid (And.intro hK1 (And.intro hh1 hO1))
  clear ho1 hh1 hbx hP1 hK1 hO1 hs
  go_wp2
  go_region_with ((go_at_call 74; refine (add_any Bk 1 83 (kcells Bz zs.length s) s.f1 s.f2 x y _ (HK.out.1.drew) rfl rfl ⟨by have := HS.out.1; omega, by have := HS.out.1; omega⟩ ⟨by have := HS.out.2.1; omega, by have := HS.out.2.1; omega⟩).mono ?_; rintro e w2 ⟨rfl, ho2, hh2⟩))
  all_goals
    go_wp2
    go_end0
    refine ⟨rfl, HK.out.2.2.drew.from_ ho2 (fun _ _ e => .inl e), ⟨by rw [List.length_set]; exact hh2, ?_, H.out.ne⟩⟩
    rw [← flat_ice hi]
    exact HK.out.2.1.drew.only ho2 (fun e => H.out.ne e.symm)

set_option maxHeartbeats 800000 in
theorem plane_any (Bk Bz Bp i : Nat) (zs : List Zn) (s : Sm) (x y c : Int) (w : World) (h : KIn w Bk Bz zs s) (hp : Has w Bp 77 #[.pointer (some ⟨Bk, 0, none⟩)]) (_hpk : Bp ≠ Bk) (hpz : Bp ≠ Bz) (hi : i < zs.length)
    (hz : (0 ≤ zs[i].a ∧ zs[i].a ≤ 1000000) ∧ (0 ≤ zs[i].b ∧ zs[i].b ≤ 1000000)) (hs : s.Bd c) (hc : c ≤ 1000000000) (hx : 0 ≤ x ∧ x ≤ 20000) (hy : 0 ≤ y ∧ y ≤ 20000) :
    Calls Try.prog 75 #[.pointer (some ⟨Bz, i * 4, none⟩), sv x y, .pointer (some ⟨Bp, 0, none⟩)] w
      fun e w' => e = .returned (.tuple #[]) ∧ OnlyKZ Bk Bz w w' ∧ KIn w' Bk Bz (zs.set i (zs[i].ice (max 0 (zs[i].a - y)) (max 0 (zs[i].b - x)))) (s.pla (min zs[i].a x) (min zs[i].b y)) := by
  obtain ⟨z0, z1, z2, z3⟩ := flat_at hi
  have hbp := hp.lt
  have hbp1 : Bp < w.heap.size + 1 := by omega
  have c2 : w.cell? ⟨Bp, 0, none⟩ = some (.pointer (some ⟨Bk, 0, none⟩)) := hp.cell 0
  have HZ := Lib.hid (And.intro z0 (And.intro z1 hz))
  have H := Lib.hid h
  have HP := Lib.hid hp
  have hb1 : Near (s.p1 + min zs[i].a x) ∧ Near (s.p2 + min zs[i].b y) := by unfold Sm.Bd at hs; unfold Near; omega
  have HB := Lib.hid hb1
  clear z0 z1 z2 z3 h hp hz hs hb1
  go_enter Try.func75, Try.ntmps75
  go_wp2
  go_region_with (first | (go_at_call 70; refine (shrink_any Bz (i * 4) 104 (flat zs) zs[i].a zs[i].b x y _ ((H.out.z.alloc _).drew) HZ.out.1 HZ.out.2.1 ⟨by have := HZ.out.2.2; omega, by have := HZ.out.2.2; omega⟩ ⟨by have := HZ.out.2.2; omega, by have := HZ.out.2.2; omega⟩).mono ?_; rintro e w1 ⟨rfl, ho1, hh1⟩; have c3 : w1.cell? ⟨Bp, 0, none⟩ = some (.pointer (some ⟨Bk, 0, none⟩)) := (((HP.out.alloc _).drew).only ho1 hpz).cell 0) | (go_at_call 74; refine (add_any Bk 3 83 (kcells Bz zs.length s) s.p1 s.p2 (min zs[i].a x) (min zs[i].b y) _ (((H.out.k.alloc _).drew).only (by assumption) H.out.ne) rfl rfl HB.out.1 HB.out.2).mono ?_; rintro e w2 ⟨rfl, ho2, hh2⟩))
  all_goals
    go_wp2
    go_end0
    refine ⟨rfl, ((((Only.refl _ w).alloc _).drew).from_ (S' := fun b => b = Bz) (by assumption) (fun _ _ e => .inr e)).from_ ho2 (fun _ _ e => .inl e), ⟨by rw [List.length_set]; exact hh2, ?_, H.out.ne⟩⟩
    rw [← flat_ice hi]
    exact hh1.only ho2 (fun e => H.out.ne e.symm)

set_option maxHeartbeats 800000 in
theorem skate_any (Bk Bz Bp i : Nat) (zs : List Zn) (s : Sm) (x y c : Int) (w : World) (h : KIn w Bk Bz zs s) (hp : Has w Bp 77 #[.pointer (some ⟨Bk, 0, none⟩)]) (_hpk : Bp ≠ Bk) (hpz : Bp ≠ Bz) (hi : i < zs.length)
    (hz : (0 ≤ zs[i].a ∧ zs[i].a ≤ 1000000) ∧ (0 ≤ zs[i].b ∧ zs[i].b ≤ 1000000)) (hs : s.Bd c) (hc : c ≤ 1000000000) (hx : 0 ≤ x ∧ x ≤ 20000) (hy : 0 ≤ y ∧ y ≤ 20000) :
    Calls Try.prog 76 #[.pointer (some ⟨Bz, i * 4, none⟩), sv x y, .pointer (some ⟨Bp, 0, none⟩)] w
      fun e w' => e = .returned (.tuple #[]) ∧ OnlyKZ Bk Bz w w' ∧ KIn w' Bk Bz (zs.set i (zs[i].ice (max 0 (zs[i].a - y)) (max 0 (zs[i].b - x)))) (s.wor (min zs[i].a x) (min zs[i].b y)) := by
  obtain ⟨z0, z1, z2, z3⟩ := flat_at hi
  have hbp := hp.lt
  have hbp1 : Bp < w.heap.size + 1 := by omega
  have c2 : w.cell? ⟨Bp, 0, none⟩ = some (.pointer (some ⟨Bk, 0, none⟩)) := hp.cell 0
  have HZ := Lib.hid (And.intro z0 (And.intro z1 hz))
  have H := Lib.hid h
  have HP := Lib.hid hp
  have hb1 : Near (s.w1 + min zs[i].a x) ∧ Near (s.w2 + min zs[i].b y) := by unfold Sm.Bd at hs; unfold Near; omega
  have HB := Lib.hid hb1
  clear z0 z1 z2 z3 h hp hz hs hb1
  go_enter Try.func76, Try.ntmps76
  go_wp2
  go_region_with (first | (go_at_call 70; refine (shrink_any Bz (i * 4) 104 (flat zs) zs[i].a zs[i].b x y _ ((H.out.z.alloc _).drew) HZ.out.1 HZ.out.2.1 ⟨by have := HZ.out.2.2; omega, by have := HZ.out.2.2; omega⟩ ⟨by have := HZ.out.2.2; omega, by have := HZ.out.2.2; omega⟩).mono ?_; rintro e w1 ⟨rfl, ho1, hh1⟩; have c3 : w1.cell? ⟨Bp, 0, none⟩ = some (.pointer (some ⟨Bk, 0, none⟩)) := (((HP.out.alloc _).drew).only ho1 hpz).cell 0) | (go_at_call 74; refine (add_any Bk 5 83 (kcells Bz zs.length s) s.w1 s.w2 (min zs[i].a x) (min zs[i].b y) _ (((H.out.k.alloc _).drew).only (by assumption) H.out.ne) rfl rfl HB.out.1 HB.out.2).mono ?_; rintro e w2 ⟨rfl, ho2, hh2⟩))
  all_goals
    go_wp2
    go_end0
    refine ⟨rfl, ((((Only.refl _ w).alloc _).drew).from_ (S' := fun b => b = Bz) (by assumption) (fun _ _ e => .inr e)).from_ ho2 (fun _ _ e => .inl e), ⟨by rw [List.length_set]; exact hh2, ?_, H.out.ne⟩⟩
    rw [← flat_ice hi]
    exact hh1.only ho2 (fun e => H.out.ne e.symm)
end Go.Proofs.Ytogabjlhecnbbaa

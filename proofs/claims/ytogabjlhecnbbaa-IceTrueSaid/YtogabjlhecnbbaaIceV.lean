/- One round of take's loop over the touched zones. -/
import Derived.Test.YtogabjlhecnbbaaIceU
import Derived.Test.YtogabjlhecnbbaaIceY
namespace Go.Proofs.Ytogabjlhecnbbaa
open Go.RowKit Go.Shelf
attribute [local go_sem] Oper.semAt_some

/-- what a valid event does to a zone and to the sums, if it is not an error -/
def zDo (e : Ev) (z : Zn) (s : Sm) : Zn × Sm :=
  if e.k = 0 then (z.ice (z.a + e.x) (z.b + e.y), s.fro e.x e.y)
  else if e.k = 1 then (z.ice (max 0 (z.a - e.y)) (max 0 (z.b - e.x)), s.pla (min z.a e.x) (min z.b e.y))
  else if e.k = 2 then (z.ice (max 0 (z.a - e.y)) (max 0 (z.b - e.x)), s.wor (min z.a e.x) (min z.b e.y))
  else if e.k = 3 then (z.ice (max z.a e.x) (min z.b e.y), s)
  else ({ z with c := z.a, d := z.b }, s)
def zErr (e : Ev) (z : Zn) : Int :=
  if e.k = 0 ∧ 20000 < z.b + e.y then 12 else if e.k = 3 ∧ min z.b e.y < max z.a e.x then 6 else 0
abbrev zd : Zn := ⟨0, 0, 0, 0⟩
def zStep (e : Ev) (i : Nat) (st : List Zn × Sm) : List Zn × Sm := (st.1.set i (zDo e (st.1.getD i zd) st.2).1, (zDo e (st.1.getD i zd) st.2).2)
def loopE (e : Ev) : Nat → Nat → List Zn × Sm → (List Zn × Sm) × Int
  | _, 0, st => (st, 0)
  | i, c + 1, st => if zErr e (st.1.getD i zd) = 0 then loopE e (i + 1) c (zStep e i st) else (st, zErr e (st.1.getD i zd))
def evDo (e : Ev) (st : List Zn × Sm) : (List Zn × Sm) × Int :=
  if e.ok st.1.length then loopE e e.f.toNat (e.last.toNat + 1 - e.f.toNat) st else (st, 1)

theorem zDo_ok {e : Ev} {z : Zn} {s : Sm} (hz : z.ok = true) (_hk : 0 ≤ e.k ∧ e.k < 5) (hw : e.k = 4 ∨ win e.x e.y = true) (he : zErr e z = 0) : (zDo e z s).1.ok = true := by
  simp only [Zn.ok, Bool.and_eq_true, win_iff] at hz ⊢
  rw [win_iff] at hw
  unfold zErr at he
  have h1 : ¬ (e.k = 0 ∧ 20000 < z.b + e.y) := fun h => by rw [if_pos h] at he; cases he
  rw [if_neg h1] at he
  have h2 : ¬ (e.k = 3 ∧ min z.b e.y < max z.a e.x) := fun h => by rw [if_pos h] at he; cases he
  unfold zDo Zn.ice
  split
  · simp only; omega
  · split
    · simp only; omega
    · split
      · simp only; omega
      · split
        · simp only; omega
        · simp only; omega
theorem zDo_bd {e : Ev} {z : Zn} {s : Sm} {c : Int} (hz : z.ok = true) (hw : e.k = 4 ∨ win e.x e.y = true) (_hk : 0 ≤ e.k ∧ e.k < 5) (hs : s.Bd c) : (zDo e z s).2.Bd (c + 20000) := by
  simp only [Zn.ok, Bool.and_eq_true, win_iff] at hz
  rw [win_iff] at hw
  unfold Sm.Bd at hs ⊢
  unfold zDo Sm.fro Sm.pla Sm.wor
  split
  · simp only; omega
  · split
    · simp only; omega
    · split
      · simp only; omega
      · split
        · simp only; omega
        · simp only; omega

abbrev fnOf (k : Int) : Nat := if k = 0 then 73 else if k = 1 then 75 else if k = 2 then 76 else if k = 3 then 77 else 79
def capOf (k : Int) (Bp : Nat) : Array Value := if k = 0 ∨ k = 1 ∨ k = 2 then #[.pointer (some ⟨Bp, 0, none⟩)] else #[]
def deedF (k : Int) (Bp : Nat) : Value := .func (.func (fnOf k)) #[] (capOf k Bp)

def DeedPost (e : Ev) (i Bk Bz : Nat) (zs : List Zn) (s : Sm) (w : World) (r : Ending) (w' : World) : Prop :=
  (r = .returned (.tuple #[]) ∧ OnlyKZ Bk Bz w w' ∧ KIn w' Bk Bz (zStep e i (zs, s)).1 (zStep e i (zs, s)).2 ∧ zErr e (zs.getD i zd) ≠ 6) ∨
  (r = .panicked [{ v := holeMsg, recovered := false }] ∧ OnlyKZ Bk Bz w w' ∧ zErr e (zs.getD i zd) = 6)

theorem deed_any (e : Ev) (Bk Bz Bp i : Nat) (zs : List Zn) (s : Sm) (c : Int) (w : World) (h : KIn w Bk Bz zs s) (hp : Has w Bp 77 #[.pointer (some ⟨Bk, 0, none⟩)]) (hpk : Bp ≠ Bk) (hpz : Bp ≠ Bz) (hi : i < zs.length)
    (hk : 0 ≤ e.k ∧ e.k < 5) (hw : e.k = 4 ∨ win e.x e.y = true) (hz : zs[i].ok = true) (hs : s.Bd c) (hc : c ≤ 1000000000) :
    Calls Try.prog (fnOf e.k) (#[.pointer (some ⟨Bz, i * 4, none⟩), sv e.x e.y] ++ capOf e.k Bp) w (DeedPost e i Bk Bz zs s w) := by
  have hg : zs.getD i zd = zs[i] := by simp [hi]
  simp only [Zn.ok, Bool.and_eq_true, win_iff] at hz
  rw [win_iff] at hw
  obtain ⟨k, f, t, x, y⟩ := e
  simp only at hk hw
  have hkk : k = 0 ∨ k = 1 ∨ k = 2 ∨ k = 3 ∨ k = 4 := by omega
  rcases hkk with rfl | rfl | rfl | rfl | rfl
  · refine (flood_any Bk Bz Bp i zs s x y c w h hp hpk hpz hi ⟨by omega, by omega⟩ ⟨by omega, by omega⟩ hs hc (by omega) (by omega)).mono ?_
    rintro r w' ⟨rfl, ho, hK⟩
    refine .inl ⟨rfl, ho, ?_, ?_⟩
    · simp only [zStep, hg, zDo, if_true]; exact hK
    · simp only [zErr, hg]; split <;> simp
  · refine (plane_any Bk Bz Bp i zs s x y c w h hp hpk hpz hi (by omega) hs hc (by omega) (by omega)).mono ?_
    rintro r w' ⟨rfl, ho, hK⟩
    refine .inl ⟨rfl, ho, ?_, ?_⟩
    · simp only [zStep, hg, zDo]; exact hK
    · simp [zErr]
  · refine (skate_any Bk Bz Bp i zs s x y c w h hp hpk hpz hi (by omega) hs hc (by omega) (by omega)).mono ?_
    rintro r w' ⟨rfl, ho, hK⟩
    refine .inl ⟨rfl, ho, ?_, ?_⟩
    · simp only [zStep, hg, zDo]; exact hK
    · simp [zErr]
  · by_cases hle : max zs[i].a x ≤ min zs[i].b y
    · refine (drill_ok Bk Bz i zs s x y w h hi hle).mono ?_
      rintro r w' ⟨rfl, ho, hK⟩
      refine .inl ⟨rfl, ho, ?_, ?_⟩
      · simp only [zStep, hg, zDo]; exact hK
      · simp only [zErr, hg]; rw [if_neg (by simp), if_neg (by omega)]; simp
    · refine (drill_bad Bk Bz i zs s x y w h hi (by omega)).mono ?_
      rintro r w' ⟨rfl, ho⟩
      refine .inr ⟨rfl, ho, ?_⟩
      simp only [zErr, hg]; rw [if_neg (by simp), if_pos ⟨trivial, by omega⟩]
  · refine (paint_any Bk Bz i zs s x y w h hi).mono ?_
    rintro r w' ⟨rfl, ho, hK⟩
    refine .inl ⟨rfl, ho, ?_, ?_⟩
    · simp only [zStep, hg, zDo]; exact hK
    · simp [zErr]
end Go.Proofs.Ytogabjlhecnbbaa

/- What is told in Sure. -/
import Derived.Test.YtfdjoldcdfbfhaaSuA
import Derived.Test.YtfdjoldcdfbfhaaQtC
namespace Go.Proofs.Ytfdjoldcdfbfhaa
open Go.Shelf Go.RowKit
/-- what is told in Sure -/
def tlS (by_ : List Int) (B : List Bool) (t : Int) (l : List Sn) (i m c : Int) : Int :=
  if B.getD i.toNat false = true then (by_.getD ((i + 3 * m).tmod by_.length).toNat 0).tmod 3 * t
  else if (by_.getD ((i + 3 * m).tmod by_.length).toNat 0).tmod 2 = 0 then c - (l.getD i.toNat ⟨0, 1, 0⟩).r
  else c - (l.getD i.toNat ⟨0, 1, 0⟩).r + (by_.getD ((i + 3 * m).tmod by_.length).toNat 0).tmod (2 * (l.getD i.toNat ⟨0, 1, 0⟩).r + 1)
theorem tlS_says {by_ : List Int} {B : List Bool} {t : Int} {l : List Sn} {m c : Int} {j : Nat} (hj : j < l.length) (hB : B.length = l.length) (hv : vS l[j]) (hby : ∀ x ∈ by_, 0 ≤ x ∧ x ≤ 4294967295) (h : B[j]? ≠ some true) : c - l[j].r ≤ tlS by_ B t l j m c := by
  unfold tlS
  have hx : 0 ≤ by_.getD (((j : Int) + 3 * m).tmod by_.length).toNat 0 := by
    rw [List.getD_eq_getElem?_getD]
    cases he : by_[(((j : Int) + 3 * m).tmod by_.length).toNat]? with
    | none => simp
    | some x => exact (hby x (List.mem_of_getElem? he)).1
  generalize by_.getD (((j : Int) + 3 * m).tmod by_.length).toNat 0 = x at hx ⊢
  rw [List.getElem?_eq_getElem (show j < B.length by omega)] at h
  simp only [Int.toNat_natCast, List.getD_eq_getElem?_getD, List.getElem?_eq_getElem hj, List.getElem?_eq_getElem (show j < B.length by omega), Option.getD_some]
  rw [if_neg (fun hb => h (by rw [hb]))]
  have hr := hv.2.2
  have hz := tmod_bd (a := x) (b := 2 * l[j].r + 1) hx (by omega)
  split <;> omega
set_option maxRecDepth 100000 in
set_option maxHeartbeats 4000000 in
theorem tellsS_any (b9 b20 b6 b5 : Nat) (Ab : Option Addr) (capb : Nat) (by_ : List Int) (g : Nat) (B : List Bool) (t : Int) (A0 : Option Addr) (cap0 : Nat) (l : List Sn) (V F : Int) (w : World) (hJ : JQ w b9 b20 b6 b5 Ab capb by_ g B t A0 cap0 l V F)
    (i m : Nat) (c : Int) (hi : i < l.length) (hm : m < 61) (hl : l.length ≤ 12) (hc : 0 ≤ c ∧ c ≤ 1048576) (ht : 0 ≤ t ∧ t ≤ 1048576) (hvs : ∀ s ∈ l, vS s) (hB : B.length = l.length) (hb0 : 0 < by_.length) (hbl : by_.length ≤ 9223372036854775807) (hby : ∀ x ∈ by_, 0 ≤ x ∧ x ≤ 4294967295) :
    Calls Try.prog 29 #[.int .i64 i, .int .i64 m, .int .i64 c, .pointer (some ⟨b9, 0, none⟩), .pointer (some ⟨b20, 0, none⟩), .pointer (some ⟨b6, 0, none⟩), .pointer (some ⟨b5, 0, none⟩)] w (IPost (tlS by_ B t l i m c) w) := by
  have hq := tmod_bd (a := (i : Int) + 3 * m) (b := by_.length) (by omega) (by omega)
  obtain ⟨q, hqe⟩ : ∃ q : Nat, ((i : Int) + 3 * m).tmod by_.length = q := ⟨(((i : Int) + 3 * m).tmod by_.length).toNat, by omega⟩
  have hql : q < by_.length := by omega
  have hql' : (q : Int) < by_.length := by omega
  have hx := hby _ (List.getElem_mem hql)
  obtain ⟨gu, ou, hA, hgu, u0⟩ := hJ.r q hql
  obtain ⟨x, hxe⟩ : ∃ x, x = by_[q] := ⟨_, rfl⟩
  rw [← hxe] at hx u0
  obtain ⟨gs, os, hA2, hgs, -, -, s2⟩ := hJ.n i hi
  have hvr := (hvs _ (List.getElem_mem hi)).2.2
  obtain ⟨r, hr⟩ : ∃ r, r = l[i].r := ⟨_, rfl⟩
  rw [← hr] at s2 hvr
  have hBi := bls_get hJ.f i (by omega)
  obtain ⟨bi, hbi⟩ : ∃ bi, bi = B[i] := ⟨_, rfl⟩
  rw [← hbi] at hBi
  have HV : Hid (tlS by_ B t l i m c = if bi = true then x.tmod 3 * t else if x.tmod 2 = 0 then c - r else c - r + x.tmod (2 * r + 1)) := by
    show _ = _
    unfold tlS
    rw [hqe, Int.toNat_natCast, Int.toNat_natCast, List.getD_eq_getElem?_getD, List.getD_eq_getElem?_getD, List.getD_eq_getElem?_getD, List.getElem?_eq_getElem hql, List.getElem?_eq_getElem hi, List.getElem?_eq_getElem (show i < B.length by omega)]
    simp only [Option.getD_some]
    rw [← hxe, ← hr, ← hbi]
  have a0 := hJ.a.cell 0
  have b0 := hJ.b.cell 0
  have c0 : w.cell? ⟨b6, 0, none⟩ = some (.int .i64 t) := hJ.c.cell 0
  have d0 : w.cell? ⟨b5, 0, none⟩ = some (.slice A0 l.length cap0) := hJ.d.cell 0
  have hi' : (i : Int) < l.length := by omega
  subst hA hA2
  have a0' : w.cell? ⟨b9, 0, none⟩ = some (.slice (some ⟨gu, ou, none⟩) by_.length capb) := a0
  have b0' : w.cell? ⟨b20, 0, none⟩ = some (.slice (some ⟨g, 0, none⟩) l.length l.length) := b0
  clear a0 b0
  have l1 := hJ.a.lt; have l2 := hJ.b.lt; have l3 := hJ.c.lt; have l4 := hJ.d.lt; have l5 := hJ.f.lt
  have HJ := Lib.hid hJ
  have hw1 : IntKind.i64.wrap ((i : Int) + 3 * m) = (i : Int) + 3 * m := by rw [IntKind.wrap_i64]; omega
  have hw2 : IntKind.i64.wrap (q : Int) = (q : Int) := by rw [IntKind.wrap_i64]; omega
  have hbn : ¬ by_ = [] := by rintro rfl; simp at hb0
  have hbz : ¬ (by_.length : Int) = 0 := by omega
  clear hJ hby hvs hxe hr hbi hq
  have hm3 : IntKind.i64.wrap (3 * (m : Int)) = 3 * (m : Int) := by rw [IntKind.wrap_i64]; omega
  cases bi
  · have hz := tmod_bd (a := x) (b := 2 * r + 1) hx.1 (by omega)
    obtain ⟨z, hze⟩ : ∃ z, x.tmod (2 * r + 1) = z := ⟨_, rfl⟩
    rw [hze] at hz
    have hm1 : IntKind.i64.wrap (2 * r) = 2 * r := by rw [IntKind.wrap_i64]; omega
    have hm2 : IntKind.i64.wrap (2 * r + 1) = 2 * r + 1 := by rw [IntKind.wrap_i64]; omega
    have hm4 : IntKind.i64.wrap z = z := by rw [IntKind.wrap_i64]; omega
    have hm5 : IntKind.i64.wrap (c - r) = c - r := by rw [IntKind.wrap_i64]; omega
    have hm7 : IntKind.i64.wrap (c - r + z) = c - r + z := by rw [IntKind.wrap_i64]; omega
    have hm6 : ¬ 2 * r + 1 = 0 := by omega
    have h2e : x.tmod 2 = x % 2 := Int.tmod_eq_emod_of_nonneg hx.1
    rw [h2e] at HV
    by_cases h2 : x % 2 = 0
    · have HV2 := Lib.hid (show tlS by_ B t l i m c = c - r by rw [HV.out]; simp [h2])
      have h2q : (x % 2 == 0) = true := by rw [beq_iff_eq]; exact h2
      clear HV h2e
      go_enter Try.func29, Try.ntmps29
      go_wp2_with fail
      go_quiet (fail)
      go_wp2_with fail
      go_ret
      exact ⟨by rw [HV2.out]; rfl, below_dn (Below.refl _ _)⟩
    · have HV2 := Lib.hid (show tlS by_ B t l i m c = c - r + z by rw [HV.out, hze]; simp [h2])
      have h2q : (x % 2 == 0) = false := by rw [beq_eq_false_iff_ne]; exact h2
      clear HV h2e
      go_enter Try.func29, Try.ntmps29
      go_wp2_with fail
      go_quiet (fail)
      go_wp2_with fail
      go_quiet (fail)
      go_wp2_with fail
      go_ret
      exact ⟨by rw [HV2.out]; rfl, below_dn (below_dn (Below.refl _ _))⟩
  · have h3 := Int.emod_nonneg x (show (3 : Int) ≠ 0 by omega)
    have h4 := Int.emod_lt_of_pos x (show (0 : Int) < 3 by omega)
    obtain ⟨y, hye⟩ : ∃ y, x % 3 = y := ⟨_, rfl⟩
    rw [hye] at h3 h4
    have HV2 := Lib.hid (show tlS by_ B t l i m c = y * t by rw [HV.out, Int.tmod_eq_emod_of_nonneg hx.1, hye]; rfl)
    have h5 := Int.mul_nonneg h3 ht.1
    have h6 : y * t ≤ 3 * 1048576 := Int.mul_le_mul (by omega) ht.2 ht.1 (by omega)
    obtain ⟨p, hp⟩ : ∃ p, y * t = p := ⟨_, rfl⟩
    rw [hp] at h5 h6 HV2
    have hw5 : IntKind.i64.wrap p = p := by rw [IntKind.wrap_i64]; omega
    clear HV
    go_enter Try.func29, Try.ntmps29
    go_wp2_with fail
    go_quiet (fail)
    go_wp2_with fail
    go_ret
    exact ⟨by rw [HV2.out]; rfl, below_dn (Below.refl _ _)⟩
end Go.Proofs.Ytfdjoldcdfbfhaa

/- What read gives: its order, its readings; what is told in Quiet. -/
import Derived.Test.YtfdjoldcdfbfhaaQtA
import Derived.Test.YtfdjoldcdfbfhaaOpA
namespace Go.Proofs.Ytfdjoldcdfbfhaa
open Go.Shelf Go.RowKit
theorem rowN_mem {l : List Sn} {tl : Int → Int → Int → Int} {m c : Int} {r : Sf} : ∀ k, k ≤ l.length → r ∈ rowN l tl m c k → ∃ i, ∃ hi : i < l.length, i < k ∧ hitB l[i] m = true ∧ r = ⟨m, i, tl i m c⟩
  | 0, _, h => by simp [rowN] at h
  | k + 1, hk, h => by
    have hkl : k < l.length := by omega
    rw [rowN_next hkl] at h
    by_cases hh : hitB l[k] m = true
    · rw [if_pos hh, List.mem_append, List.mem_singleton] at h
      rcases h with h | h
      · obtain ⟨i, hi, h1, h2⟩ := rowN_mem k (by omega) h
        exact ⟨i, hi, by omega, h2⟩
      · exact ⟨k, hkl, by omega, hh, h⟩
    · rw [if_neg hh] at h
      obtain ⟨i, hi, h1, h2⟩ := rowN_mem k (by omega) h
      exact ⟨i, hi, by omega, h2⟩
theorem readN_mem {l : List Sn} {tl : Int → Int → Int → Int} {cs : List Int} {r : Sf} : ∀ k, k ≤ cs.length → r ∈ readN l tl cs k → ∃ m, ∃ hm : m < cs.length, m < k ∧ ∃ i, ∃ hi : i < l.length, hitB l[i] m = true ∧ r = ⟨m, i, tl i m cs[m]⟩
  | 0, _, h => by simp [readN] at h
  | k + 1, hk, h => by
    have hkl : k < cs.length := by omega
    rw [readN_next hkl, List.mem_append] at h
    rcases h with h | h
    · obtain ⟨m, hm, h1, h2⟩ := readN_mem k (by omega) h
      exact ⟨m, hm, by omega, h2⟩
    · obtain ⟨i, hi, _, h2⟩ := rowN_mem _ (Nat.le_refl _) h
      exact ⟨k, hkl, by omega, i, hi, h2⟩
theorem readN_pair {l : List Sn} {tl : Int → Int → Int → Int} {cs : List Int} : ∀ k, k ≤ cs.length → (readN l tl cs k).Pairwise (fun a b => a.m ≤ b.m)
  | 0, _ => List.Pairwise.nil
  | k + 1, hk => by
    have hkl : k < cs.length := by omega
    rw [readN_next hkl, List.pairwise_append]
    refine ⟨readN_pair k (by omega), ?_, fun a ha b hb => ?_⟩
    · refine List.pairwise_of_forall_mem_list fun a ha b hb => ?_
      obtain ⟨_, _, _, _, rfl⟩ := rowN_mem _ (Nat.le_refl _) ha
      obtain ⟨_, _, _, _, rfl⟩ := rowN_mem _ (Nat.le_refl _) hb
      exact Int.le_refl _
    · obtain ⟨m, _, hm, _, _, _, rfl⟩ := readN_mem k (by omega) ha
      obtain ⟨_, _, _, _, rfl⟩ := rowN_mem _ (Nat.le_refl _) hb
      simp only; omega
theorem readN_sorted {l : List Sn} {tl : Int → Int → Int → Int} {cs : List Int} : ∀ j (h : j + 1 < (readN l tl cs cs.length).length), (readN l tl cs cs.length)[j].m ≤ (readN l tl cs cs.length)[j + 1].m := fun j h =>
  List.pairwise_iff_getElem.1 (readN_pair (l := l) (tl := tl) (cs := cs) cs.length (Nat.le_refl _)) j (j + 1) (by omega) h (by omega)
theorem readN_in {l : List Sn} {tl : Int → Int → Int → Int} {cs : List Int} (hc : cs.length ≤ 1048576) : ∀ r ∈ readN l tl cs cs.length, (0 ≤ r.m ∧ r.m ≤ 1048576) ∧ (0 ≤ r.s ∧ r.s < l.length) := fun r hr => by
  obtain ⟨m, hm, _, i, hi, _, rfl⟩ := readN_mem _ (Nat.le_refl _) hr
  simp only; omega
/-- what is told in Quiet -/
def tlQ (by_ : List Int) (B : List Bool) (t : Int) (l : List Sn) (i m c : Int) : Int :=
  if B.getD i.toNat false = true then t + (by_.getD ((i + m).tmod by_.length).toNat 0).tmod 7
  else c + (l.getD i.toNat ⟨0, 1, 0⟩).r - (by_.getD ((i + m).tmod by_.length).toNat 0).tmod (2 * (l.getD i.toNat ⟨0, 1, 0⟩).r + 1)
structure JQ (w : World) (b9 b20 b6 b5 : Nat) (Ab : Option Addr) (capb : Nat) (by_ : List Int) (g : Nat) (B : List Bool) (t : Int) (A0 : Option Addr) (cap0 : Nat) (l : List Sn) (V F : Int) : Prop where
  a : Has w b9 48 #[.slice Ab by_.length capb]
  b : Has w b20 50 #[.slice (some ⟨g, 0, none⟩) l.length l.length]
  c : Has w b6 3 #[.int .i64 t]
  d : Has w b5 24 #[.slice A0 l.length cap0, .int .i64 V, .int .i64 F]
  r : URow w w.heap.size Ab by_
  f : Has w g 4 (bls B)
  n : NRow w w.heap.size A0 l
theorem URow.more {w : World} {B B' : Nat} {A : Option Addr} {l : List Int} (h : URow w B A l) (hB : B ≤ B') : URow w B' A l := fun k hk => by
  obtain ⟨g, o, e, hg, c⟩ := h k hk
  exact ⟨g, o, e, by omega, c⟩
theorem JQ.step {w w' : World} {b9 b20 b6 b5 : Nat} {Ab : Option Addr} {capb : Nat} {by_ : List Int} {g : Nat} {B : List Bool} {t : Int} {A0 : Option Addr} {cap0 : Nat} {l : List Sn} {V F : Int} (h : JQ w b9 b20 b6 b5 Ab capb by_ g B t A0 cap0 l V F) (hb : Below w.heap.size w w') : JQ w' b9 b20 b6 b5 Ab capb by_ g B t A0 cap0 l V F :=
  ⟨h.a.below hb h.a.lt, h.b.below hb h.b.lt, h.c.below hb h.c.lt, h.d.below hb h.d.lt, (h.r.below hb).more hb.size, h.f.below hb h.f.lt, h.n.step hb⟩
set_option maxRecDepth 100000 in
set_option maxHeartbeats 4000000 in
theorem tellsQ_any (b9 b20 b6 b5 : Nat) (Ab : Option Addr) (capb : Nat) (by_ : List Int) (g : Nat) (B : List Bool) (t : Int) (A0 : Option Addr) (cap0 : Nat) (l : List Sn) (V F : Int) (w : World) (hJ : JQ w b9 b20 b6 b5 Ab capb by_ g B t A0 cap0 l V F)
    (i m : Nat) (c : Int) (hi : i < l.length) (hm : m < 61) (hl : l.length ≤ 12) (hc : 0 ≤ c ∧ c ≤ 1048576) (ht : 0 ≤ t ∧ t ≤ 1048576) (hvs : ∀ s ∈ l, vS s) (hB : B.length = l.length) (hb0 : 0 < by_.length) (hbl : by_.length ≤ 9223372036854775807) (hby : ∀ x ∈ by_, 0 ≤ x ∧ x ≤ 4294967295) :
    Calls Try.prog 33 #[.int .i64 i, .int .i64 m, .int .i64 c, .pointer (some ⟨b9, 0, none⟩), .pointer (some ⟨b20, 0, none⟩), .pointer (some ⟨b6, 0, none⟩), .pointer (some ⟨b5, 0, none⟩)] w (IPost (tlQ by_ B t l i m c) w) := by
  have hq := tmod_bd (a := (i : Int) + m) (b := by_.length) (by omega) (by omega)
  obtain ⟨q, hqe⟩ : ∃ q : Nat, ((i : Int) + m).tmod by_.length = q := ⟨(((i : Int) + m).tmod by_.length).toNat, by omega⟩
  have hql : q < by_.length := by omega
  have hql' : (q : Int) < by_.length := by omega
  have hx := hby _ (List.getElem_mem hql)
  obtain ⟨gu, ou, hA, hgu, u0⟩ := hJ.r q hql
  obtain ⟨x, hxe⟩ : ∃ x, x = by_[q] := ⟨_, rfl⟩
  rw [← hxe] at hx u0
  obtain ⟨gs, os, hA2, hgs, -, -, s2⟩ := hJ.n i hi
  have hvr := (hvs _ (List.getElem_mem hi)).2.2
  obtain ⟨r, hr⟩ : ∃ r, r = l[i].r := ⟨_, rfl⟩
  rw [← hr] at s2 hvr
  have hBi := bls_get hJ.f i (by omega)
  obtain ⟨bi, hbi⟩ : ∃ bi, bi = B[i] := ⟨_, rfl⟩
  rw [← hbi] at hBi
  have HV : Hid (tlQ by_ B t l i m c = if bi = true then t + x.tmod 7 else c + r - x.tmod (2 * r + 1)) := by
    show _ = _
    unfold tlQ
    rw [hqe, Int.toNat_natCast, Int.toNat_natCast, List.getD_eq_getElem?_getD, List.getD_eq_getElem?_getD, List.getD_eq_getElem?_getD, List.getElem?_eq_getElem hql, List.getElem?_eq_getElem hi, List.getElem?_eq_getElem (show i < B.length by omega)]
    simp only [Option.getD_some]
    rw [← hxe, ← hr, ← hbi]
  have a0 := hJ.a.cell 0
  have b0 := hJ.b.cell 0
  have c0 : w.cell? ⟨b6, 0, none⟩ = some (.int .i64 t) := hJ.c.cell 0
  have d0 : w.cell? ⟨b5, 0, none⟩ = some (.slice A0 l.length cap0) := hJ.d.cell 0
  have hi' : (i : Int) < l.length := by omega
  subst hA hA2
  have a0' : w.cell? ⟨b9, 0, none⟩ = some (.slice (some ⟨gu, ou, none⟩) by_.length capb) := a0
  have b0' : w.cell? ⟨b20, 0, none⟩ = some (.slice (some ⟨g, 0, none⟩) l.length l.length) := b0
  clear a0 b0
  have l1 := hJ.a.lt; have l2 := hJ.b.lt; have l3 := hJ.c.lt; have l4 := hJ.d.lt; have l5 := hJ.f.lt
  have HJ := Lib.hid hJ
  have hw1 : IntKind.i64.wrap ((i : Int) + m) = (i : Int) + m := by rw [IntKind.wrap_i64]; omega
  have hw2 : IntKind.i64.wrap (q : Int) = (q : Int) := by rw [IntKind.wrap_i64]; omega
  have hbn : ¬ by_ = [] := by rintro rfl; simp at hb0
  have hbz : ¬ (by_.length : Int) = 0 := by omega
  clear hJ hby hvs hxe hr hbi hq
  cases bi
  · have hz := tmod_bd (a := x) (b := 2 * r + 1) hx.1 (by omega)
    obtain ⟨z, hze⟩ : ∃ z, x.tmod (2 * r + 1) = z := ⟨_, rfl⟩
    rw [hze] at hz
    have HV2 := Lib.hid (show tlQ by_ B t l i m c = c + r - z by rw [HV.out, hze]; rfl)
    have hm1 : IntKind.i64.wrap (2 * r) = 2 * r := by rw [IntKind.wrap_i64]; omega
    have hm2 : IntKind.i64.wrap (2 * r + 1) = 2 * r + 1 := by rw [IntKind.wrap_i64]; omega
    have hm3 : IntKind.i64.wrap z = z := by rw [IntKind.wrap_i64]; omega
    have hm4 : IntKind.i64.wrap (c + r) = c + r := by rw [IntKind.wrap_i64]; omega
    have hm5 : IntKind.i64.wrap (c + r - z) = c + r - z := by rw [IntKind.wrap_i64]; omega
    have hm6 : ¬ 2 * r + 1 = 0 := by omega
    clear HV
    go_enter Try.func33, Try.ntmps33
    go_wp2_with fail
    go_quiet (fail)
    go_wp2_with fail
    go_quiet (fail)
    go_wp2_with fail
    go_ret
    exact ⟨by rw [HV2.out]; rfl, below_dn (below_dn (Below.refl _ _))⟩
  · have HV2 := Lib.hid (show tlQ by_ B t l i m c = t + x % 7 by rw [HV.out, Int.tmod_eq_emod_of_nonneg hx.1]; rfl)
    clear HV
    go_enter Try.func33, Try.ntmps33
    go_wp2_with fail
    go_quiet (fail)
    go_wp2_with fail
    go_ret
    exact ⟨by rw [HV2.out]; rfl, below_dn (Below.refl _ _)⟩
end Go.Proofs.Ytfdjoldcdfbfhaa

/- The iterator over the minutes. -/
import Derived.Test.YtfdjoldcdfbfhaaGrA
import Derived.Test.YtfdjoldcdfbfhaaRange
import Derived.RangeFuncNested
import Derived.RangeFuncBound
import Derived.RangeFuncLeaves
import Derived.Shelf.RegionOpen
import Derived.OwnWalkIn
import Derived.TacticsInMore
import Derived.LoopNIn
import Derived.LoopIn
namespace Go.Proofs.Ytfdjoldcdfbfhaa
open Go.RowKit Go.Shelf
attribute [local go_sem] Oper.semAt_some
theorem below_dl {B : Nat} {w w' : World} (h : Below B w.drew w') : Below B w w' := ⟨h.os, h.tape, h.output, h.size, h.block⟩
theorem below_dr' {B : Nat} {w w' : World} (h : Below B w w') : Below B w w'.drew := ⟨h.os, h.tape, h.output, h.size, h.block⟩
/-- what the iterator reads -/
structure ItIn (W : World) (Bl Bn : Nat) (A : Option Addr) (cap : Nat) (n : Int) (L : List Sf) : Prop where
  l : W.cell? ⟨Bl, 0, none⟩ = some (.slice A L.length cap)
  n : W.cell? ⟨Bn, 0, none⟩ = some (.int .i64 n)
  r : FRow W W.heap.size A L
def IterPost (L : List Sf) (n : Int) (J : Nat → World → Prop) (e : Ending) (W' : World) : Prop :=
  (∃ v, e = .returned v ∧ (∀ j, j < L.length → chkAt L n j = 0) ∧ J L.length W') ∨
  (∃ i, i < L.length ∧ (∀ j, j < i → chkAt L n j = 0) ∧ chkAt L n i ≠ 0 ∧ e = .panicked [{ v := errv (chkAt L n i), recovered := false }] ∧ J (bgn L i) W')
set_option maxRecDepth 100000 in
set_option maxHeartbeats 1000000 in
theorem iter_any (l Bl Bn : Nat) (A : Option Addr) (cap : Nat) (n : Int) (L : List Sf) (hc : L.length ≤ cap) (hL : L.length ≤ 9223372036854775807) (J : Nat → World → Prop)
    (hJ : ∀ b W, J b W → ItIn W Bl Bn A cap n L) (hJB : ∀ b W W', J b W → Below W.heap.size W W' → J b W')
    (hY : ∀ i W, 0 < i → i ≤ L.length → (i = L.length ∨ bgn L (i + 1) = i) → (∀ j, j < i → chkAt L n j = 0) → J (bgn L i) W → ∀ hb : bgn L i < L.length,
      YieldAt Fence.wide 2 Try.prog l #[.int .i64 (L[bgn L i]'hb).m, .slice (off3 A cap (bgn L i)) (i - bgn L i) (cap - bgn L i)] W fun e W' => e = .returned (.bool true) ∧ J i W')
    (W : World) (h0 : J 0 W) :
    CallsIn Fence.wide 3 Try.prog 61 #[.func (.yield l) #[] #[], .pointer (some ⟨Bl, 0, none⟩), .pointer (some ⟨Bn, 0, none⟩)] W (IterPost L n J) := by
  have I0 := hJ _ _ h0
  have c0 := I0.l
  have HJ := Lib.hid hJ
  have HJB := Lib.hid hJB
  have HY := Lib.hid hY
  clear hJ hJB hY I0
  refine callsIn_of_wp Try.func61 rfl trivial ?_ rfl
  simp only [Try.ntmps61, List.size_toArray, List.length_cons, List.length_nil, Nat.reduceAdd, Nat.reduceSub, Array.replicate_succ, Array.replicate_zero, List.push_toArray, List.append_toArray, List.nil_append, List.cons_append]
  gi_wp2
  gi_loopw [4, 10] (fun bt it wr => ∃ i : Nat, i ≤ L.length ∧ bt = .int .i64 (bgn L i) ∧ it = .int .i64 i ∧ Hid ((∀ j, j < i → chkAt L n j = 0) ∧ J (bgn L i) wr)) (fun _ it _ => L.length - (intOf it).toNat)
  case atStart => exact ⟨0, Nat.zero_le _, rfl, rfl, fun j hj => absurd hj (by omega), h0⟩
  case round =>
    obtain ⟨i, hi, rfl, rfl, HI⟩ := hrel
    have I1 := HJ.out _ wr HI.out.2
    have l0 := I1.l
    by_cases hlt : i < L.length
    · have hlt' : (i : Int) < L.length := by omega
      have hble := bgn_le L i
      have hbl : bgn L i < L.length := by omega
      have hbl' : (bgn L i : Int) < L.length := by omega
      obtain ⟨g, o, hA, hg, c0, c1, c2⟩ := I1.r i hlt
      obtain ⟨g', o', hA', hg', d0, d1, d2⟩ := I1.r (bgn L i) hbl
      subst hA
      simp only [Option.some.injEq, Addr.mk.injEq, and_true] at hA'
      obtain ⟨rfl, rfl⟩ := hA'
      have n0 := I1.n
      have HR := Lib.hid I1.r
      have HH := Lib.hid (And.intro hble (And.intro d1 (And.intro d2 hg')))
      clear I1 d1 d2 hg' hble
      gi_wp2
      have hck := check_any L[i] (L[bgn L i]'hbl).m n
      rw [← chkAt_eq hlt hbl] at hck
      unfold sfv at hck
      have HB := Lib.hid (below_one wr (.cells #[.int .i64 L[i].m, .int .i64 L[i].s, .int .i64 L[i].v] 45))
      have HS := Lib.hid (Has.new wr 45 #[.int .i64 L[i].m, .int .i64 L[i].s, .int .i64 L[i].v])
      have HI1 := Lib.hid (And.intro HI.out.1 (HJB.out _ _ _ HI.out.2 HB.out))
      clear HB c0 c1 c2 d0 l0 n0 HR
      generalize hw1 : wr.alloc (.cells #[.int .i64 L[i].m, .int .i64 L[i].s, .int .i64 L[i].v] 45) = w1 at HS HI1 ⊢
      generalize wr.heap.size = gb at HS ⊢
      clear hw1
      have I1 := HJ.out _ w1 HI1.out.2
      have l0 := I1.l
      have n0 := I1.n
      have d0 : w1.cell? ⟨g, o + bgn L i * 3, none⟩ = some (.int .i64 (L[bgn L i]'hbl).m) := by
        obtain ⟨gx, ox, e, -, c, -⟩ := I1.r (bgn L i) hbl
        simp only [Option.some.injEq, Addr.mk.injEq, and_true] at e
        obtain ⟨rfl, rfl⟩ := e
        exact c
      have s0 : w1.cell? ⟨gb, 0, none⟩ = some (.int .i64 L[i].m) := HS.out.cell 0
      have s1 : w1.cell? ⟨gb, 1, none⟩ = some (.int .i64 L[i].s) := HS.out.cell 1
      have s2 : w1.cell? ⟨gb, 2, none⟩ = some (.int .i64 L[i].v) := HS.out.cell 2
      clear I1
      refine still_tail_in 7 (by kernel_rfl) (by kernel_rfl) ?_
      simp only [List.take_succ_cons, List.take_zero, List.drop_succ_cons, List.drop_zero]
      repeat still_step
      refine wpStill_nil ?_
      gi_wp2
      refine ⟨trivial, (callsIn_wide.2 (hck _)).mono ?_⟩
      rintro e w2 ⟨hb2, (⟨hz, rfl⟩ | ⟨hnz, rfl⟩)⟩
      rotate_left
      · exact ⟨rfl, .inr ⟨i, hlt, HI1.out.1, hnz, rfl, HJB.out _ _ _ HI1.out.2 (below_dl hb2)⟩⟩
      have HI2 := Lib.hid (And.intro HI1.out.1 (And.intro hz (HJB.out _ _ _ HI1.out.2 (below_dl hb2))))
      have HS2 := Lib.hid (HS.out.below (below_dl hb2) HS.out.lt)
      clear hb2 hz l0 n0 d0 s0 s1 s2 hck
      have I2 := HJ.out _ w2 HI2.out.2.2
      have l0 := I2.l
      have d0 : w2.cell? ⟨g, o + bgn L i * 3, none⟩ = some (.int .i64 (L[bgn L i]'hbl).m) := by
        obtain ⟨gx, ox, e, -, c, -⟩ := I2.r (bgn L i) hbl
        simp only [Option.some.injEq, Addr.mk.injEq, and_true] at e
        obtain ⟨rfl, rfl⟩ := e
        exact c
      have s0 : w2.cell? ⟨gb, 0, none⟩ = some (.int .i64 L[i].m) := HS2.out.cell 0
      have hnx := bgn_next hlt hbl
      clear I2
      have hall : Hid (∀ j, j < i + 1 → chkAt L n j = 0) := fun j hj => by
        rcases Nat.lt_succ_iff_lt_or_eq.1 hj with h | rfl
        · exact HI2.out.1 j h
        · exact HI2.out.2.1
      by_cases hm : L[i].m = (L[bgn L i]'hbl).m
      · rw [if_pos hm] at hnx
        have HX := Lib.hid hnx
        rw [hm] at s0
        clear hnx hm
        dsimp only
        gi_wp2
        go_roundw
        case rel => exact ⟨i + 1, by omega, by rw [HX.out], by go_num, hall.out, by rw [HX.out]; exact HI2.out.2.2⟩
        case measure => simp [intOf]; omega
      · rw [if_neg hm] at hnx
        have hi0 : 0 < i := by
          rcases Nat.eq_zero_or_pos i with h | h
          · subst h; exact absurd rfl hm
          · exact h
        obtain ⟨fn, tmps, assign, body, hy, hR⟩ := HY.out i w2 hi0 (by omega) (.inr hnx) HI2.out.1 HI2.out.2.2 hbl
        have hcut := cut25 (some ⟨g, o, none⟩) L.length cap (bgn L i) i (bgn_le L i) (by omega) hc
        have HX := Lib.hid hnx
        clear hnx
        dsimp only
        gi_wp2
        refine hR.mono ?_
        rintro e w3 ⟨rfl, hJ3⟩
        have HJ3 := Lib.hid hJ3
        clear hJ3
        gi_wp2
        go_roundw
        case rel => exact ⟨i + 1, by omega, by rw [HX.out], by go_num, hall.out, by rw [HX.out]; exact HJ3.out⟩
        case measure => simp [intOf]; omega
    · have hge : ¬ (i : Int) < L.length := by omega
      have hil : i = L.length := by omega
      subst hil
      by_cases hz : L.length = 0
      · have hb0 : bgn L L.length = 0 := by have := bgn_le L L.length; omega
        rw [hb0] at HI ⊢
        have HZ := Lib.hid hz
        have hz' : ¬ (0 : Int) < L.length := by omega
        clear hz hlt
        gi_wp2
        go_end0
        exact .inl ⟨_, rfl, HI.out.1, by rw [HZ.out]; exact HI.out.2⟩
      · have hbl : bgn L L.length < L.length := by
          obtain ⟨m, hm⟩ : ∃ m, L.length = m + 1 := ⟨L.length - 1, by omega⟩
          rw [hm]; exact bgn_lt L m
        have hbl' : (bgn L L.length : Int) < L.length := by omega
        obtain ⟨g, o, hA, hg, c0, -, -⟩ := I1.r (bgn L L.length) hbl
        subst hA
        have hjd := HJB.out _ _ wr.drew HI.out.2 (below_dr' (Below.refl _ _))
        obtain ⟨fn, tmps, assign, body, hy, hR⟩ := HY.out L.length wr.drew (by omega) (Nat.le_refl _) (.inl rfl) HI.out.1 hjd hbl
        have hcut := cut25_lo (some ⟨g, o, none⟩) L.length cap (bgn L L.length) (bgn_le _ _)
        clear I1 hjd
        gi_wp2
        refine still_tail_in 9 (by kernel_rfl) (by kernel_rfl) ?_
        simp only [List.take_succ_cons, List.take_zero, List.drop_succ_cons, List.drop_zero]
        repeat still_step
        refine wpStill_nil ?_
        gi_wp2
        refine hR.mono ?_
        rintro e w3 ⟨rfl, hJ3⟩
        have HJ3 := Lib.hid hJ3
        clear hJ3
        gi_wp2
        go_end0
        exact .inl ⟨_, rfl, HI.out.1, HJ3.out⟩
end Go.Proofs.Ytfdjoldcdfbfhaa

/- The iterator of touched zones. -/
import Derived.Test.YtogabjlhecnbbaaIceT
import Derived.Test.YtogabjlhecnbbaaIceQb
import Derived.Test.YtogabjlhecnbbaaRange
import Derived.RangeFuncNested
import Derived.RangeFuncBound
import Derived.RangeFuncLeaves
import Derived.Shelf.RegionOpen
import Derived.OwnWalkIn
import Derived.TacticsInMore
import Derived.LoopNIn
import Derived.LoopIn
namespace Go.Proofs.Ytogabjlhecnbbaa
open Go.RowKit Go.Shelf
attribute [local go_sem] Oper.semAt_some

def IterPost (_l last : Nat) (J : Nat → World → Prop) (Jx : World → Prop) (Jp : List PanicEntry → World → Prop) (e : Ending) (W' : World) : Prop :=
  (∃ v, e = .returned v ∧ (J (last + 1) W' ∨ Jx W')) ∨ (∃ ch, e = .panicked ch ∧ Jp ch W')

/-- what the iterator reads -/
structure ItIn (W : World) (Bv Bl Bp Bk Bz n : Nat) (e : Ev) (last : Nat) : Prop where
  v : W.cell? ⟨Bv, 1, none⟩ = some (iv e.f)
  l : W.cell? ⟨Bl, 0, none⟩ = some (iv last)
  p : W.cell? ⟨Bp, 0, none⟩ = some (.pointer (some ⟨Bk, 0, none⟩))
  k : W.cell? ⟨Bk, 0, none⟩ = some (.slice (some ⟨Bz, 0, none⟩) n n)

set_option maxRecDepth 100000 in
set_option maxHeartbeats 2000000 in
theorem iter_any (l Bv Bl Bp Bk Bz n : Nat) (e : Ev) (frm last : Nat) (hf : e.f = frm) (hfl : frm ≤ last) (hln : last < n) (hn : n ≤ 24) (J : Nat → World → Prop) (Jx : World → Prop) (Jp : List PanicEntry → World → Prop)
    (hJ : ∀ i W, J i W → ItIn W Bv Bl Bp Bk Bz n e last)
    (hY : ∀ i W, frm ≤ i → i ≤ last → J i W → YieldAt Fence.wide 2 Try.prog l #[.pointer (some ⟨Bz, i * 4, none⟩)] W fun e W' =>
      (e = .returned (.bool true) ∧ J (i + 1) W') ∨ (e = .returned (.bool false) ∧ Jx W') ∨ (∃ ch, e = .panicked ch ∧ Jp ch W'))
    (W : World) (h0 : J frm W) :
    CallsIn Fence.wide 3 Try.prog 80 #[.func (.yield l) #[] #[], .pointer (some ⟨Bv, 0, none⟩), .pointer (some ⟨Bl, 0, none⟩), .pointer (some ⟨Bp, 0, none⟩)] W (IterPost l last J Jx Jp) := by
  have I0 := hJ _ _ h0
  have c0 := I0.v
  rw [hf] at c0
  have HJ := Lib.hid hJ
  have HY := Lib.hid hY
  clear hJ hY hf I0
  refine callsIn_of_wp Try.func80 rfl trivial ?_ rfl
  simp only [Try.ntmps80, List.size_toArray, List.length_cons, List.length_nil, Nat.reduceAdd, Nat.reduceSub, Array.replicate_succ, Array.replicate_zero, List.push_toArray, List.append_toArray, List.nil_append, List.cons_append]
  gi_wp2
  gi_loopw [5] (fun t wr => ∃ i : Nat, frm ≤ i ∧ i ≤ last + 1 ∧ t = .int .i64 i ∧ J i wr) (fun t _ => last + 1 - (intOf t).toNat)
  case atStart => exact ⟨frm, Nat.le_refl _, by omega, rfl, h0⟩
  case round =>
    obtain ⟨i, hi1, hi2, rfl, hJi⟩ := hrel
    have I1 := HJ.out i wr hJi
    have c1 := I1.l
    have c2 := I1.p
    have c3 := I1.k
    clear I1
    by_cases hle : i ≤ last
    · have hi24 : i < n := by omega
      have hi24' : (i : Int) < n := by omega
      obtain ⟨fn, tmps, assign, body, hy, hR⟩ := HY.out i wr hi1 hle hJi
      have hle' : (i : Int) ≤ last := by omega
      gi_wp2
      refine hR.mono ?_
      rintro e W3 (⟨rfl, hJ3⟩ | ⟨rfl, hJx3⟩ | ⟨ch, rfl, hJp3⟩)
      · gi_wp2
        go_roundw
        case rel => exact ⟨i + 1, by omega, by omega, by go_num, hJ3⟩
        case measure => simp [intOf]; omega
      · gi_wp2
        refine bodyPost_ret (results_none rfl _ _ _) rfl ?_
        exact .inl ⟨_, rfl, .inr hJx3⟩
      · exact ⟨rfl, .inr ⟨ch, rfl, hJp3⟩⟩
    · have hgt : (last : Int) < i := by omega
      have hgi : Hid (J (last + 1) wr) := by
        have e1 : i = last + 1 := by omega
        rw [e1] at hJi; exact hJi
      gi_wp2
      go_end0
      exact .inl ⟨_, rfl, .inl hgi.out⟩
end Go.Proofs.Ytogabjlhecnbbaa

/- The law of Dryers. -/
import Derived.Test.YtdmpkeaanaoeaaaRfH
import Derived.Test.YtdmpkeaanaoeaaaLwA
namespace Go.Proofs.Ytdmpkeaanaoeaaa
open Go.RowKit
/-- what both tell of the least dryer -/
theorem dry_same {a : Air} {lo hi : Int} {L : List Stp} {w w' W W' : World} {e e' : Ending} (h : DryPost a lo hi L w e W) (h' : DryPost a lo hi L w' e' W') : ∃ x y : Int, e = .returned (.tuple #[.int .i64 x, .int .i64 y]) ∧ e' = .returned (.tuple #[.int .i64 x, .int .i64 y]) := by
  obtain ⟨-, h⟩ := h
  obtain ⟨-, h'⟩ := h'
  rcases h with ⟨h1, rfl⟩ | ⟨h1, r, hr, rfl⟩ <;> rcases h' with ⟨h2, rfl⟩ | ⟨h2, s, hs, rfl⟩
  · exact ⟨_, _, rfl, rfl⟩
  · rw [h1] at h2; cases h2
  · rw [h1] at h2; cases h2
  · rw [least_eq (ins_gl h1) hs hr]
    exact ⟨_, _, rfl, rfl⟩
/-- the arguments of a law on air, water and steps, boxed -/
structure LB (W w : World) (a : Air) (A B : Option Addr) (ca cb : Nat) (lo hi : Int) (L : List Stp) (AL : Option Addr) : Prop where
  v : VB W w a A B ca cb lo hi
  ar : AR w w.heap.size a A B
  sr : SRow w w.heap.size AL L
theorem LB.step {W w w' : World} {a : Air} {A B : Option Addr} {ca cb : Nat} {lo hi : Int} {L : List Stp} {AL : Option Addr} (h : LB W w a A B ca cb lo hi L AL) (hb : Below w.heap.size w w') : LB W w' a A B ca cb lo hi L AL :=
  ⟨h.v.step hb, h.ar.step hb, h.sr.step hb⟩
theorem box_lb {W : World} {a : Air} {A B : Option Addr} {ca cb : Nat} {lo hi : Int} {L : List Stp} {AL : Option Addr} (har : AR W W.heap.size a A B) (hr : SRow W W.heap.size AL L) : LB W ((W.alloc (.cells (airc a A B ca cb) 26)).alloc (.cells #[.int .i64 lo, .int .i64 hi] 24)) a A B ca cb lo hi L AL :=
  ⟨box_vb W a A B ca cb lo hi, har.step (box_vb W a A B ca cb lo hi).b.b, (hr.below (box_vb W a A B ca cb lo hi).b.b).more (box_vb W a A B ca cb lo hi).b.b.size⟩
set_option maxRecDepth 100000 in
set_option maxHeartbeats 4000000 in
theorem dryersLaw_any (a : Air) (A B : Option Addr) (ca cb : Nat) (lo hi : Int) (L : List Stp) (AL : Option Addr) (cl : Nat) (W : World) (har : AR W W.heap.size a A B) (hr : SRow W W.heap.size AL L) (hL : L.length ≤ 9223372036854775807) :
    Calls Try.prog 4 #[airv a A B ca cb, .agg #[.int .i64 lo, .int .i64 hi], .slice AL L.length cl] W (BoolPost true W) := by
  have K0 := Lib.hid (box_lb (ca := ca) (cb := cb) (lo := lo) (hi := hi) har hr)
  have HMany := Lib.hid (fun w => many_any a A B AL ca cb cl L.length 60 w har.lt har.lh)
  have HP := Lib.hid (fun w h1 h2 => Dryer_any a A B ca cb lo hi L AL cl w h1 h2 hL)
  have HQ := Lib.hid (fun w h1 h2 => dDryer_any a A B ca cb lo hi L AL cl w h1 h2 hL)
  have HAw := Lib.hid (fun w => awake_any w)
  unfold airv at *
  clear har hr
  go_enter Try.func4, Try.ntmps4
  go_upto_region 1 with fail
  generalize ((W.alloc (.cells (airc a A B ca cb) 26)).alloc (.cells #[.int .i64 lo, .int .i64 hi] 24)) = w0 at K0 ⊢
  have a0 : w0.cell? ⟨W.heap.size, 0, none⟩ = some (.int .i64 a.R) := K0.out.v.b.fa.cell 0
  have a1 : w0.cell? ⟨W.heap.size, 1, none⟩ = some (.slice A a.T.length ca) := K0.out.v.b.fa.cell 1
  have a2 : w0.cell? ⟨W.heap.size, 2, none⟩ = some (.slice B a.H.length cb) := K0.out.v.b.fa.cell 2
  have a3 : w0.cell? ⟨W.heap.size, 3, none⟩ = some (.int .i64 a.b0) := K0.out.v.b.fa.cell 3
  have a4 : w0.cell? ⟨W.heap.size, 4, none⟩ = some (.int .i64 a.b1) := K0.out.v.b.fa.cell 4
  go_wp2_with fail
  refine (HMany.out _).mono ?_
  rintro e w1 ⟨rfl, hb1⟩
  have K1 := Lib.hid (K0.out.step hb1)
  clear hb1 a0 a1 a2 a3 a4
  cases hm : manyB a L.length 60
  rotate_left
  · go_wp2_with fail
    refine (HAw.out _).mono ?_
    rintro e w2 ⟨rfl, hb2⟩
    have K2 := Lib.hid (K1.out.step hb2)
    clear hb2
    go_wp2_with fail
    go_ret
    exact ⟨rfl, K2.out.v.b.b⟩
  clear hm
  have a0 : w1.cell? ⟨W.heap.size, 0, none⟩ = some (.int .i64 a.R) := K1.out.v.b.fa.cell 0
  have a1 : w1.cell? ⟨W.heap.size, 1, none⟩ = some (.slice A a.T.length ca) := K1.out.v.b.fa.cell 1
  have a2 : w1.cell? ⟨W.heap.size, 2, none⟩ = some (.slice B a.H.length cb) := K1.out.v.b.fa.cell 2
  have a3 : w1.cell? ⟨W.heap.size, 3, none⟩ = some (.int .i64 a.b0) := K1.out.v.b.fa.cell 3
  have a4 : w1.cell? ⟨W.heap.size, 4, none⟩ = some (.int .i64 a.b1) := K1.out.v.b.fa.cell 4
  have l0 : w1.cell? ⟨W.heap.size + 1, 0, none⟩ = some (.int .i64 lo) := K1.out.v.fw.cell 0
  have l1 : w1.cell? ⟨W.heap.size + 1, 1, none⟩ = some (.int .i64 hi) := K1.out.v.fw.cell 1
  go_wp2_with fail
  refine (HP.out _ K1.out.ar K1.out.sr).mono ?_
  intro e w2 hp
  have K2 := Lib.hid (K1.out.step hp.1)
  have HPP := Lib.hid hp
  clear hp a0 a1 a2 a3 a4 l0 l1
  have a0 : w2.cell? ⟨W.heap.size, 0, none⟩ = some (.int .i64 a.R) := K2.out.v.b.fa.cell 0
  have a1 : w2.cell? ⟨W.heap.size, 1, none⟩ = some (.slice A a.T.length ca) := K2.out.v.b.fa.cell 1
  have a2 : w2.cell? ⟨W.heap.size, 2, none⟩ = some (.slice B a.H.length cb) := K2.out.v.b.fa.cell 2
  have a3 : w2.cell? ⟨W.heap.size, 3, none⟩ = some (.int .i64 a.b0) := K2.out.v.b.fa.cell 3
  have a4 : w2.cell? ⟨W.heap.size, 4, none⟩ = some (.int .i64 a.b1) := K2.out.v.b.fa.cell 4
  have l0 : w2.cell? ⟨W.heap.size + 1, 0, none⟩ = some (.int .i64 lo) := K2.out.v.fw.cell 0
  have l1 : w2.cell? ⟨W.heap.size + 1, 1, none⟩ = some (.int .i64 hi) := K2.out.v.fw.cell 1
  obtain ⟨x, y, hxy⟩ : ∃ x y : Int, e = .returned (.tuple #[.int .i64 x, .int .i64 y]) := by
    obtain ⟨x, y, h, -⟩ := dry_same HPP.out HPP.out
    exact ⟨x, y, h⟩
  subst hxy
  go_wp2_with fail
  refine (HQ.out _ K2.out.ar K2.out.sr).mono ?_
  intro e w3 hp
  have K3 := Lib.hid (K2.out.step hp.1)
  obtain ⟨x', y', h1, h2⟩ := dry_same HPP.out hp
  cases h1
  subst h2
  clear hp a0 a1 a2 a3 a4 l0 l1
  go_wp2_with fail
  refine (HAw.out _).mono ?_
  rintro e w4 ⟨rfl, hb4⟩
  have K4 := Lib.hid (K3.out.step hb4)
  clear hb4
  go_wp2_with fail
  go_ret
  exact ⟨rfl, K4.out.v.b.b⟩
end Go.Proofs.Ytdmpkeaanaoeaaa

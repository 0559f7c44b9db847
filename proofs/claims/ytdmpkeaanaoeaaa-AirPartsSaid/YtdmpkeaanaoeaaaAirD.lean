/- Contracts: validAir, onCurve. -/
import Derived.Test.YtdmpkeaanaoeaaaAirC
namespace Go.Proofs.Ytdmpkeaanaoeaaa
open Go.RowKit
abbrev airc (a : Air) (A B : Option Addr) (ca cb : Nat) : Array Value := #[.int .i64 a.R, .slice A a.T.length ca, .slice B a.H.length cb, .int .i64 a.b0, .int .i64 a.b1]
def airv (a : Air) (A B : Option Addr) (ca cb : Nat) : Value := .agg (airc a A B ca cb)
/-- the curve of the air, in memory -/
structure AR (W : World) (n : Nat) (a : Air) (A B : Option Addr) : Prop where
  t : IRow W n A a.T
  h : IRow W n B a.H
  lt : a.T.length ≤ 9223372036854775807
  lh : a.H.length ≤ 9223372036854775807
theorem AR.below {w w' : World} {n : Nat} {a : Air} {A B : Option Addr} (h : AR w n a A B) (hb : Below n w w') : AR w' n a A B := ⟨h.t.below hb, h.h.below hb, h.lt, h.lh⟩
theorem AR.more {w : World} {n m : Nat} {a : Air} {A B : Option Addr} (h : AR w n a A B) (hb : n ≤ m) : AR w m a A B := ⟨h.t.more hb, h.h.more hb, h.lt, h.lh⟩
theorem AR.step {w w' : World} {a : Air} {A B : Option Addr} (h : AR w w.heap.size a A B) (hb : Below w.heap.size w w') : AR w' w'.heap.size a A B := (h.below hb).more hb.size
theorem box_air (W : World) (a : Air) (A B : Option Addr) (ca cb : Nat) : Has (W.alloc (.cells (airc a A B ca cb) 26)) W.heap.size 26 (airc a A B ca cb) := Has.new W 26 _
set_option maxRecDepth 100000 in
set_option maxHeartbeats 2000000 in
theorem validAir_any (a : Air) (A B : Option Addr) (ca cb : Nat) (W : World) (h : AR W W.heap.size a A B) : Calls Try.prog 32 #[airv a A B ca cb] W (BoolPost (airB a) W) := by
  have HA := Lib.hid h
  have HB := Lib.hid (And.intro (below_one W (.cells (airc a A B ca cb) 26)) (box_air W a A B ca cb))
  have hn : ∀ c, airB a = c → Hid (airB a = c) := fun b h => h
  have H1 := Lib.hid (fun w => within_any a.R 1 1048576 w)
  have H2 := Lib.hid (fun w => spanWithin_any a.b0 a.b1 1048576 w)
  have H3 := Lib.hid (fun w => within_any a.T.length 1 32 w)
  have H4 := Lib.hid (fun w h1 h2 => curve_any a.T a.H A B ca cb w h1 h2 h.lt h.lh)
  unfold airv
  clear h
  cases h1 : inB a.R 1 1048576 <;> rw [h1] at H1
  · have HE := hn false (by unfold airB; rw [h1]; rfl)
    clear hn h1
    go_enter Try.func32, Try.ntmps32
    go_wp2_with fail
    refine (H1.out _).mono ?_
    rintro e w1 ⟨rfl, rfl⟩
    go_wp2_with fail
    go_ret
    exact ⟨ret_bool HE.out.symm, HB.out.1⟩
  cases h2 : spB a.b0 a.b1 1048576 <;> rw [h2] at H2
  · have HE := hn false (by unfold airB; rw [h1, h2]; rfl)
    clear hn h1 h2
    go_enter Try.func32, Try.ntmps32
    go_wp2_with fail
    refine (H1.out _).mono ?_
    rintro e w1 ⟨rfl, rfl⟩
    go_wp2_with fail
    refine (H2.out _).mono ?_
    rintro e w1 ⟨rfl, hb1⟩
    have HX := Lib.hid (below_seq HB.out.1 hb1)
    clear hb1
    go_wp2_with fail
    go_ret
    exact ⟨ret_bool HE.out.symm, HX.out⟩
  cases h3 : inB a.T.length 1 32 <;> rw [h3] at H3
  · have HE := hn false (by unfold airB; rw [h1, h2, h3]; rfl)
    clear hn h1 h2 h3
    go_enter Try.func32, Try.ntmps32
    go_wp2_with fail
    refine (H1.out _).mono ?_
    rintro e w1 ⟨rfl, rfl⟩
    go_wp2_with fail
    refine (H2.out _).mono ?_
    rintro e w1 ⟨rfl, hb1⟩
    have HX := Lib.hid (And.intro (below_seq HB.out.1 hb1) (HB.out.2.below hb1 HB.out.2.lt))
    have c1 : w1.cell? ⟨W.heap.size, 1, none⟩ = some (.slice A a.T.length ca) := HX.out.2.cell 1
    clear hb1
    go_wp2_with fail
    refine (H3.out _).mono ?_
    rintro e w1 ⟨rfl, rfl⟩
    go_wp2_with fail
    go_ret
    exact ⟨ret_bool HE.out.symm, HX.out.1⟩
  obtain ⟨c, hc⟩ : ∃ c, (decide (a.T.length = a.H.length) && crvB a.T a.H a.T.length) = c := ⟨_, rfl⟩
  have HE := hn c (by unfold airB; rw [h1, h2, h3, hc]; rfl)
  rw [hc] at H4
  clear hn h1 h2 h3 hc
  go_enter Try.func32, Try.ntmps32
  go_wp2_with fail
  refine (H1.out _).mono ?_
  rintro e w1 ⟨rfl, rfl⟩
  go_wp2_with fail
  refine (H2.out _).mono ?_
  rintro e w1 ⟨rfl, hb1⟩
  have HX := Lib.hid (And.intro (below_seq HB.out.1 hb1) (HB.out.2.below hb1 HB.out.2.lt))
  have c1 : w1.cell? ⟨W.heap.size, 1, none⟩ = some (.slice A a.T.length ca) := HX.out.2.cell 1
  have c2 : w1.cell? ⟨W.heap.size, 2, none⟩ = some (.slice B a.H.length cb) := HX.out.2.cell 2
  clear hb1
  go_wp2_with fail
  refine (H3.out _).mono ?_
  rintro e w1 ⟨rfl, rfl⟩
  go_wp2_with fail
  refine (H4.out _ (HA.out.t.step HX.out.1) (HA.out.h.step HX.out.1)).mono ?_
  rintro e w2 ⟨rfl, hb2⟩
  have HY := Lib.hid (below_seq HX.out.1 hb2)
  clear hb2
  go_wp2_with fail
  go_ret
  exact ⟨ret_bool HE.out.symm, HY.out⟩
set_option maxRecDepth 100000 in
set_option maxHeartbeats 2000000 in
theorem onCurve_any (a : Air) (A B : Option Addr) (ca cb : Nat) (t : Int) (W : World) (h : AR W W.heap.size a A B) (hn : 1 ≤ a.T.length) : Calls Try.prog 33 #[airv a A B ca cb, .int .i64 t] W (BoolPost (onB a t) W) := by
  have HB := Lib.hid (And.intro (below_one W (.cells (airc a A B ca cb) 26)) (box_air W a A B ca cb))
  obtain ⟨g, o, hA, hg, c0⟩ := (h.t.step HB.out.1) 0 (by omega)
  obtain ⟨g', o', hA', hg', c1⟩ := (h.t.step HB.out.1) (a.T.length - 1) (by omega)
  subst hA
  simp only [Option.some.injEq, Addr.mk.injEq, and_true] at hA'
  obtain ⟨rfl, rfl⟩ := hA'
  have HE := Lib.hid (show onB a t = inB t (a.T[0]'(by omega)) (a.T[a.T.length - 1]'(by omega)) by
    unfold onB inB; rw [getD_lt (show 0 < a.T.length by omega), getD_lt (show a.T.length - 1 < a.T.length by omega)])
  obtain ⟨x, hx⟩ : ∃ x, x = a.T[0]'(by omega) := ⟨_, rfl⟩
  obtain ⟨y, hy⟩ : ∃ y, y = a.T[a.T.length - 1]'(by omega) := ⟨_, rfl⟩
  rw [← hx] at c0 HE
  rw [← hy] at c1 HE
  have HW := Lib.hid (fun w => within_any t x y w)
  have hl := h.lt
  have e0 : 0 < a.T.length := by omega
  have e3 : (0 : Int) < a.T.length := by omega
  have e4 : 0 ≤ (a.T.length : Int) - 1 := by omega
  have e5 : (1 : Int) ≤ a.T.length := by omega
  have e1 : ((a.T.length : Int) - 1).toNat = a.T.length - 1 := by omega
  have e2 : IntKind.i64.wrap ((a.T.length : Int) - 1) = (a.T.length : Int) - 1 := IntWalk.i64_in _ (by omega)
  rw [Nat.add_zero] at c0
  unfold airv
  clear h hx hy hn
  obtain ⟨b0, hb0⟩ : ∃ b, b = inB t x y := ⟨_, rfl⟩
  rw [← hb0] at HW HE
  clear hb0
  go_enter Try.func33, Try.ntmps33
  go_wp2_with fail
  go_quiet (exact Calls.quiet_of_same (HW.out _))
  go_wp2_with fail
  go_ret
  exact ⟨ret_bool HE.out.symm, below_drN HB.out.1 _⟩
end Go.Proofs.Ytdmpkeaanaoeaaa

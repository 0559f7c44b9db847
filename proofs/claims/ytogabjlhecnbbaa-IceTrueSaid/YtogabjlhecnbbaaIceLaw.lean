/- Contracts of span, sample, Same and alive. -/
import Derived.Test.YtogabjlhecnbbaaIcePlay
import Derived.Test.YtogabjlhecnbbaaIceY
import Derived.Test.YtogabjlhecnbbaaEq
namespace Go.Proofs.Ytogabjlhecnbbaa
open Go.RowKit Go.Shelf

set_option maxHeartbeats 400000 in
theorem span_any (x y : Int) (w : World) : Calls Try.prog 28 #[iv x, iv y] w fun e w' => e = .returned (sv x y) ∧ w.alloc (.cells #[iv x, iv y] 27) = w' := by
  go_enter Try.func28, Try.ntmps28
  go_wp2
  exact bodyPost_ret (v := sv x y) (by simp [results, Try.results28, go_sem]) rfl ⟨rfl, rfl⟩

def smZ : List Zn := [⟨3000, 3200, 1000, 1100⟩, ⟨2800, 2900, 1000, 1000⟩]
def smE : List Ev := [⟨2, 0, 1, 20, 50⟩, ⟨1, 0, 1, 100, 150⟩, ⟨0, 0, 1, 120, 130⟩, ⟨3, 0, 0, 2950, 3080⟩]
/-- the cells of events in a row -/
def eflat (es : List Ev) : Array Value := (es.flatMap fun e => [iv e.k, iv e.f, iv e.t, iv e.x, iv e.y]).toArray
def SamplePost (w : World) (r : Ending) (w' : World) : Prop :=
  ∃ B1 B2, r = .returned (.tuple #[.slice (some ⟨B1, 0, none⟩) 2 2, .slice (some ⟨B2, 0, none⟩) 4 4]) ∧ w.heap.size ≤ B1 ∧ w.heap.size ≤ B2 ∧ Below w.heap.size w w' ∧ Has w' B1 60 (flat smZ) ∧ Has w' B2 54 (eflat smE)
set_option maxHeartbeats 800000 in
theorem sample_any (w : World) : Calls Try.prog 27 #[] w (SamplePost w) := by
  go_enter Try.func27, Try.ntmps27
  go_wp2_with (go_at_call 28; refine (span_any _ _ _).mono ?_; rintro e w' ⟨rfl, rfl⟩)
  go_ret2
  exact ⟨_, _, rfl, by omega, by omega, (((((((((below1 w _).alloc (by simp) _).alloc (by simp; omega) _).alloc (by simp; omega) _).alloc (by simp; omega) _).alloc (by simp; omega) _).alloc (by simp; omega) _).alloc (by simp; omega) _).alloc (by simp; omega) _).alloc (by simp; omega) _,
    (((((Has.newAt (by simp)).alloc _).alloc _).alloc _).alloc _).alloc _, Has.newAt (by simp)⟩

/-- a region that draws its order and only reads -/
theorem still_all {P : Program} {id : Nat} {Q : Exit → Act → World → Prop} {a : Act} {w : World} {l : List Oper} (hm : P.follows .mixedOrders = true) (hB : Region.lexB .any l.toArray = true)
    (h : wpStill P l.toArray w.drew (fun a' => Q .normal a' w.drew) l a) : (Code.region id l.toArray true).wp P Q a w := wp_region_still_lit hm hB h
theorem take_succ_eq {xs ys : List Zn} {k : Nat} (h : xs.take k = ys.take k) (hx : k < xs.length) (hy : k < ys.length) (he : xs[k] = ys[k]) : xs.take (k + 1) = ys.take (k + 1) := by
  rw [List.take_succ_eq_append_getElem hx, List.take_succ_eq_append_getElem hy, h, he]
set_option maxRecDepth 100000 in
set_option maxHeartbeats 800000 in
theorem same_any (xs ys : List Zn) (A A' : Option Addr) (cap cap' : Nat) (w : World) (hx : ZRow w w.heap.size A xs) (hy : ZRow w w.heap.size A' ys) (hl : xs.length ≤ 9223372036854775807) (hl' : ys.length ≤ 9223372036854775807) :
    Calls Try.prog 19 #[.slice A xs.length cap, .slice A' ys.length cap'] w fun e w' => e = .returned (.bool (decide (xs = ys))) ∧ Below w.heap.size w w' := by
  by_cases hlen : xs.length = ys.length
  · have hq : ((xs.length : Int) != (ys.length : Int)) = false := by simp [hlen]
    have HL := Lib.hid hlen
    clear hlen
    go_enter Try.func19, Try.ntmps19
    go_wp2
    go_loopw [5] (fun t wr => ∃ k : Nat, k ≤ xs.length ∧ t = .int .i64 k ∧ Hid (xs.take k = ys.take k) ∧ Below w.heap.size w wr) (fun t _ => xs.length - (intOf t).toNat)
    case atStart => exact ⟨0, Nat.zero_le _, rfl, (by show _ = _; simp), Below.refl _ _⟩
    case round =>
      obtain ⟨k, hk, rfl, hT, hb⟩ := hrel
      by_cases hlt : k < xs.length
      · have hlt' : k < ys.length := by have := HL.out; omega
        obtain ⟨g, o, rfl, hg, c0, c1, c2, c3⟩ := hx k hlt
        obtain ⟨g', o', rfl, hg', d0, d1, d2, d3⟩ := hy k hlt'
        rw [← hb.cell (p := ⟨g, _, none⟩) hg] at c0 c1 c2 c3
        rw [← hb.cell (p := ⟨g', _, none⟩) hg'] at d0 d1 d2 d3
        have hI : (k : Int) < xs.length := by omega
        have hI' : (k : Int) < ys.length := by omega
        obtain ⟨bn, hbn⟩ : ∃ bn, bn = !decide (xs[k] = ys[k]) := ⟨_, rfl⟩
        have hne := fun w => neq60 xs[k] ys[k] w
        rw [← hbn] at hne
        have HB := Lib.hid hbn
        clear hbn
        go_wp2
        refine still_all (by kernel_rfl) (by kernel_rfl) ?_
        repeat still_step
        refine wpStill_nil ?_
        clear hne
        cases bn
        · have HX := Lib.hid (take_succ_eq hT.out hlt hlt' (by simpa using HB.out))
          clear HB
          go_wp2
          go_roundw
          case rel => exact ⟨k + 1, by omega, by go_num, HX, hb.drew⟩
          case measure => simp [intOf]; omega
        · have HX : Hid (decide (xs = ys) = false) := by
            show _ = _
            have hxy : xs[k] ≠ ys[k] := by simpa using HB.out
            simp only [decide_eq_false_iff_not]
            intro e; subst e; exact hxy rfl
          clear HB
          go_wp2
          go_ret
          exact ⟨ret_bool HX.out.symm, hb.drew⟩
      · have HX : Hid (decide (xs = ys) = true) := by
          show _ = _
          have h1 := hT.out
          have h2 := HL.out
          rw [List.take_of_length_le (by omega), List.take_of_length_le (by omega)] at h1
          simpa using h1
        go_wp2
        go_ret
        exact ⟨ret_bool HX.out.symm, hb⟩
  · have hq : ((xs.length : Int) != (ys.length : Int)) = true := by simp; omega
    have HX : Hid (decide (xs = ys) = false) := by
      show _ = _
      simp only [decide_eq_false_iff_not]
      intro e; subst e; exact hlen rfl
    clear hlen
    go_enter Try.func19, Try.ntmps19
    go_wp2
    go_ret
    exact ⟨ret_bool HX.out.symm, Below.refl _ _⟩
end Go.Proofs.Ytogabjlhecnbbaa

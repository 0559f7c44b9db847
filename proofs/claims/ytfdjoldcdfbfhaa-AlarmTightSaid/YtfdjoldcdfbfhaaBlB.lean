/- check, cause, and what is deferred. -/
import Derived.Test.YtfdjoldcdfbfhaaBlA
import Derived.RecoverIn
import Derived.WalkSmall
namespace Go.Proofs.Ytfdjoldcdfbfhaa
open Go.Shelf Go.RowKit
def sfv (s : Sf) : Value := .agg #[.int .i64 s.m, .int .i64 s.s, .int .i64 s.v]
def errv (n : Int) : Value := .iface 27 (.int .i64 n)
def badB (s : Sf) (n : Int) : Bool := decide (s.m < 0 ∨ 1048576 < s.m ∨ s.s < 0 ∨ n ≤ s.s)
def chkE (s : Sf) (before n : Int) : Int := if badB s n = true then 1 else if s.m < before then 7 else 0
def ChkPost (c : Int) (W : World) (e : Ending) (W' : World) : Prop :=
  Below W.heap.size W W' ∧ ((c = 0 ∧ e = .returned (.tuple #[])) ∨ (c ≠ 0 ∧ e = .panicked [{ v := errv c, recovered := false }]))
set_option maxRecDepth 100000 in
set_option maxHeartbeats 1000000 in
theorem check_any (s : Sf) (before n : Int) (W : World) : Calls Try.prog 62 #[sfv s, .int .i64 before, .int .i64 n] W (ChkPost (chkE s before n) W) := by
  have HB := Lib.hid (below_one W)
  unfold sfv
  have h5 : (s.m < 0) ∨ (¬ s.m < 0 ∧ 1048576 < s.m) ∨ (¬ s.m < 0 ∧ ¬ 1048576 < s.m ∧ s.s < 0) ∨ (¬ s.m < 0 ∧ ¬ 1048576 < s.m ∧ ¬ s.s < 0 ∧ n ≤ s.s) ∨ (¬ s.m < 0 ∧ ¬ 1048576 < s.m ∧ ¬ s.s < 0 ∧ ¬ n ≤ s.s) := by omega
  rcases h5 with h0 | ⟨h0, h1⟩ | ⟨h0, h1, h2⟩ | ⟨h0, h1, h2, h3⟩ | ⟨h0, h1, h2, h3⟩
  rotate_right
  · have hbad : badB s n = false := decide_eq_false (by omega)
    by_cases hlt : s.m < before
    · have HE := Lib.hid (show chkE s before n = 7 by unfold chkE; rw [hbad, if_neg (by simp), if_pos hlt])
      clear hbad
      go_enter Try.func62, Try.ntmps62
      go_wp2
      refine ⟨rfl, HB.out _, .inr ⟨?_, ?_⟩⟩ <;> rw [HE.out]
      · decide
      · rfl
    · have HE := Lib.hid (show chkE s before n = 0 by unfold chkE; rw [hbad, if_neg (by simp), if_neg hlt])
      clear hbad
      go_enter Try.func62, Try.ntmps62
      go_wp2
      go_end0
      exact ⟨HB.out _, .inl ⟨HE.out, rfl⟩⟩
  all_goals
    have HE := Lib.hid (show chkE s before n = 1 by unfold chkE badB; rw [if_pos (decide_eq_true (by omega))])
    go_enter Try.func62, Try.ntmps62
    go_wp2
    refine ⟨rfl, HB.out _, .inr ⟨?_, ?_⟩⟩ <;> rw [HE.out]
    · decide
    · rfl
set_option maxRecDepth 100000 in
theorem assert27 (n : Int) (w : World) : (Instr.typeAssert (.iface 27 (.int .i64 n)) 20 27 true).run Try.prog w = .ok (.tuple #[.int .i64 n, .bool true]) w := by kernel_rfl
theorem cause_any (n : Int) (w : World) : Calls Try.prog 51 #[errv n] w fun e w' => e = .returned (.int .i64 n) ∧ w = w' := by
  unfold errv
  have hta := assert27 n
  go_enter Try.func51, Try.ntmps51
  go_wp2
  go_ret
  exact ⟨rfl, rfl⟩
theorem catch_err_in (p q : Addr) (m : Int) (w : World) (n : Nat) (x y : Value) (hc : w.cell? p = some x) (hz : w.frozen? p = false) (hc2 : w.cell? q = some y) (hz2 : w.frozen? q = false) (hpq : ¬ p = q) (older : List PanicEntry) :
    CallsDIn Fence.wide n Try.prog 50 #[.pointer (some p), .pointer (some q)] (.panicking ({ v := errv m, recovered := false } :: older)) w fun e u' w' =>
      e = .returned (.tuple #[]) ∧ u' = .panicking ({ v := errv m, recovered := true } :: older) ∧ w' = (w.setCell p (.int .i64 0)).setCell q (.int .i64 m) := by
  have hcs := cause_any m w
  have hqp : ¬ q = p := fun h => hpq h.symm
  simp only [errv] at hcs ⊢
  refine callsDIn_of_wpSIn Try.func50 rfl trivial fun c₀ cs hu => ?_
  apply wpSIn_seq
  apply wpSIn_region
  simp [wpOpsSIn, go_sem, recoverD, hu, Try.ntmps50, Exit.thenS, Fence.wide]
  refine wpSIn_of_wpIn rfl (wpIn_wide.2 ?_)
  have HC := Lib.hid hcs
  clear hcs
  go_wp2_with fail
  refine HC.out.mono ?_
  rintro e w' ⟨rfl, rfl⟩
  go_wp2
  cases c₀
  simp_all [bodyPostS, results, Try.results50]
theorem catch_none_in (p q : Addr) (w : World) (n : Nat) :
    CallsDIn Fence.wide n Try.prog 50 #[.pointer (some p), .pointer (some q)] .returning w fun e u' w' => e = .returned (.tuple #[]) ∧ u' = .returning ∧ w' = w := by
  refine callsDIn_of_wpSIn Try.func50 rfl trivial fun c₀ cs hu => ?_
  apply wpSIn_seq
  apply wpSIn_region
  simp [wpOpsSIn, go_sem, recoverD, hu, Try.ntmps50, Exit.thenS, Fence.wide]
  refine wpSIn_of_wpIn rfl (wpIn_wide.2 ?_)
  have hne : ∀ w, (binOp .neq 20 .nilIface .nilIface).run Try.prog w = .ok (.bool false) w := fun _ => by kernel_rfl
  go_wp2
  cases c₀
  simp_all [bodyPostS, results, Try.results50]
end Go.Proofs.Ytfdjoldcdfbfhaa

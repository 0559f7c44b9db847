/- Contracts of the laws' closures one and add, and of inner. -/
import Derived.Test.YtogabjlhecnbbaaRefC
namespace Go.Proofs.Ytogabjlhecnbbaa
open Go.RowKit Go.Shelf
set_option maxHeartbeats 800000 in
theorem one_any (n : Int) (w : World) : Calls Try.prog 34 #[iv n] w fun e w' => e = .returned (sv n n) ∧ Below w.heap.size w w' := by
  go_enter Try.func34, Try.ntmps34
  go_wp2_with (go_at_call 28; refine (span_any _ _ _).mono ?_; rintro e w' ⟨rfl, rfl⟩)
  exact bodyPost_ret (v := sv n n) (by simp [results, Try.results34, go_sem]) rfl ⟨rfl, (below1 _ _).alloc (by simp) _⟩
set_option maxHeartbeats 800000 in
theorem addS_any (a b c d : Int) (w : World) (n1 : Near (a + c)) (n2 : Near (b + d)) : Calls Try.prog 35 #[sv a b, sv c d] w fun e w' => e = .returned (sv (a + c) (b + d)) ∧ Below w.heap.size w w' := by
  obtain ⟨h1, h2⟩ := n1
  obtain ⟨h3, h4⟩ := n2
  go_enter Try.func35, Try.ntmps35
  go_wp2_with (go_at_call 28; refine (span_any _ _ _).mono ?_; rintro e w' ⟨rfl, rfl⟩)
  exact bodyPost_ret (v := sv (a + c) (b + d)) (by simp [results, Try.results35, go_sem]) rfl ⟨rfl, (below3' _ _ _ _).alloc (by simp; omega) _⟩
set_option maxRecDepth 100000 in
set_option maxHeartbeats 800000 in
theorem inner_any (lo hi b : Int) (w : World) (h : 0 ≤ lo ∧ lo ≤ hi ∧ hi ≤ 20000) (hb : 0 ≤ b ∧ b ≤ 4294967295) : Calls Try.prog 30 #[sv lo hi, .int .u32 b] w fun e w' => e = .returned (iv (lo + b % (hi - lo + 1))) ∧ Below w.heap.size w w' := by
  have hm0 := Int.emod_nonneg b (show hi - lo + 1 ≠ 0 by omega)
  have hm1 := Int.emod_lt_of_pos b (show 0 < hi - lo + 1 by omega)
  have ht : b.tmod (hi - lo + 1) = b % (hi - lo + 1) := Int.tmod_eq_emod_of_nonneg hb.1
  obtain ⟨m, hm⟩ : ∃ m, m = b % (hi - lo + 1) := ⟨_, rfl⟩
  rw [← hm] at hm0 hm1 ht ⊢
  have w1 : IntKind.i64.wrap (hi - lo) = hi - lo := by rw [IntKind.wrap_i64]; omega
  have w2 : IntKind.i64.wrap (hi - lo + 1) = hi - lo + 1 := by rw [IntKind.wrap_i64]; omega
  have w3 : IntKind.i64.wrap b = b := by rw [IntKind.wrap_i64]; omega
  have w4 : IntKind.i64.wrap m = m := by rw [IntKind.wrap_i64]; omega
  have w5 : IntKind.i64.wrap (lo + m) = lo + m := by rw [IntKind.wrap_i64]; omega
  have hne : ¬ hi - lo + 1 = 0 := by omega
  clear hm hb
  go_enter Try.func30, Try.ntmps30
  go_wp2
  refine still_all (by kernel_rfl) (by kernel_rfl) ?_
  repeat still_step
  refine wpStill_nil ?_
  go_wp2
  go_ret
  exact ⟨rfl, (below1 _ _).drew⟩
end Go.Proofs.Ytogabjlhecnbbaa

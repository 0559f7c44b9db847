/- The laws' own small functions: has, plus, inside, pick. -/
import Derived.Test.YtdmpkeaanaoeaaaLwB
namespace Go.Proofs.Ytdmpkeaanaoeaaa
open Go.RowKit
def hasB (lo hi n : Int) : Bool := decide (lo ≤ n ∧ n ≤ hi)
set_option maxRecDepth 100000 in
set_option maxHeartbeats 1000000 in
theorem has_any (lo hi n : Int) (W : World) : Calls Try.prog 24 #[.agg #[.int .i64 lo, .int .i64 hi], .int .i64 n] W (BoolPost (hasB lo hi n) W) := by
  have hb := Lib.hid (below_one W (.cells #[.int .i64 lo, .int .i64 hi] 24))
  have hn : ∀ c, (decide (lo ≤ n ∧ n ≤ hi) = c) → hasB lo hi n = c := fun b h => h
  have h3 : ¬ lo ≤ n ∨ (lo ≤ n ∧ ¬ n ≤ hi) ∨ (lo ≤ n ∧ n ≤ hi) := by omega
  rcases h3 with h1 | ⟨h1, h2⟩ | ⟨h1, h2⟩
  · rw [hn false (decide_eq_false (by omega))]
    clear hn
    go_enter Try.func24, Try.ntmps24
    go_wp2_with fail
    go_ret
    exact ⟨rfl, hb.out⟩
  · rw [hn false (decide_eq_false (by omega))]
    clear hn
    go_enter Try.func24, Try.ntmps24
    go_wp2_with fail
    go_ret
    exact ⟨rfl, hb.out⟩
  · rw [hn true (decide_eq_true (by omega))]
    clear hn
    go_enter Try.func24, Try.ntmps24
    go_wp2_with fail
    go_ret
    exact ⟨rfl, hb.out⟩
/-- within: the first span within the second one -/
def insideB (x y lo hi : Int) : Bool := decide (lo ≤ x ∧ x ≤ y ∧ y ≤ hi)
theorem below_two (W : World) (o u : Obj) : Below W.heap.size W ((W.alloc o).alloc u) := (below_one W o).alloc (Nat.le_of_lt (by simp)) u
set_option maxRecDepth 100000 in
set_option maxHeartbeats 1000000 in
theorem inside_any (x y lo hi : Int) (W : World) : Calls Try.prog 27 #[.agg #[.int .i64 x, .int .i64 y], .agg #[.int .i64 lo, .int .i64 hi]] W (BoolPost (insideB x y lo hi) W) := by
  have hb := Lib.hid (below_two W (.cells #[.int .i64 x, .int .i64 y] 24) (.cells #[.int .i64 lo, .int .i64 hi] 24))
  have hn : ∀ c, (decide (lo ≤ x ∧ x ≤ y ∧ y ≤ hi) = c) → insideB x y lo hi = c := fun b h => h
  have h3 : ¬ lo ≤ x ∨ (lo ≤ x ∧ ¬ x ≤ y) ∨ (lo ≤ x ∧ x ≤ y ∧ ¬ y ≤ hi) ∨ (lo ≤ x ∧ x ≤ y ∧ y ≤ hi) := by omega
  rcases h3 with h1 | ⟨h1, h2⟩ | ⟨h1, h2, h3⟩ | ⟨h1, h2, h3⟩
  · rw [hn false (decide_eq_false (by omega))]
    clear hn
    go_enter Try.func27, Try.ntmps27
    go_wp2_with fail
    go_ret
    exact ⟨rfl, hb.out⟩
  · rw [hn false (decide_eq_false (by omega))]
    clear hn
    go_enter Try.func27, Try.ntmps27
    go_wp2_with fail
    go_ret
    exact ⟨rfl, hb.out⟩
  · rw [hn false (decide_eq_false (by omega))]
    clear hn
    go_enter Try.func27, Try.ntmps27
    go_wp2_with fail
    go_ret
    exact ⟨rfl, hb.out⟩
  · rw [hn true (decide_eq_true (by omega))]
    clear hn
    go_enter Try.func27, Try.ntmps27
    go_wp2_with fail
    go_ret
    exact ⟨rfl, hb.out⟩
set_option maxRecDepth 100000 in
set_option maxHeartbeats 1000000 in
theorem plus25_any (x y p q : Int) (W : World) (h1 : -4611686018427387904 ≤ x ∧ x ≤ 4611686018427387903) (h2 : -4611686018427387904 ≤ y ∧ y ≤ 4611686018427387903) (h3 : -4611686018427387904 ≤ p ∧ p ≤ 4611686018427387903) (h4 : -4611686018427387904 ≤ q ∧ q ≤ 4611686018427387903) :
    Calls Try.prog 25 #[.agg #[.int .i64 x, .int .i64 y], .agg #[.int .i64 p, .int .i64 q]] W (SpanPost (x + p) (y + q) W) := by
  go_enter Try.func25, Try.ntmps25
  go_wp2
  have hb := (below_two W (.cells #[.int .i64 x, .int .i64 y] 24) (.cells #[.int .i64 p, .int .i64 q] 24)).alloc (by simp; omega) (.cells #[.int .i64 (x + p), .int .i64 (y + q)] 24)
  have h0 := has_newAt (w := (W.alloc (.cells #[.int .i64 x, .int .i64 y] 24)).alloc (.cells #[.int .i64 p, .int .i64 q] 24)) (t := 24) (cs := #[.int .i64 (x + p), .int .i64 (y + q)]) (n := W.heap.size + 2) (by simp)
  generalize ((W.alloc (.cells #[.int .i64 x, .int .i64 y] 24)).alloc (.cells #[.int .i64 p, .int .i64 q] 24)).alloc (.cells #[.int .i64 (x + p), .int .i64 (y + q)] 24) = w0 at hb h0 ⊢
  have g0 : w0.cell? ⟨W.heap.size + 1 + 1, 0, none⟩ = some (.int .i64 (x + p)) := h0.cell 0
  have g1 : w0.cell? ⟨W.heap.size + 1 + 1, 1, none⟩ = some (.int .i64 (y + q)) := h0.cell 1
  refine bodyPost_ret (v := .agg #[.int .i64 (x + p), .int .i64 (y + q)]) (by simp [results, Try.results25, go_sem, g0, g1]) rfl ?_
  exact ⟨rfl, hb⟩
/-- a number of a span, by a remainder -/
def pickN (lo hi n : Int) : Int := lo + n % (hi - lo + 1)
theorem pickN_in {lo hi n : Int} (h : lo ≤ hi) : lo ≤ pickN lo hi n ∧ pickN lo hi n ≤ hi := by
  unfold pickN
  have h1 := Int.emod_nonneg n (show hi - lo + 1 ≠ 0 by omega)
  have h2 := Int.emod_lt_of_pos n (show 0 < hi - lo + 1 by omega)
  omega
set_option maxRecDepth 100000 in
set_option maxHeartbeats 1000000 in
theorem pick_any (lo hi n : Int) (W : World) (h : 0 ≤ lo ∧ lo ≤ hi ∧ hi ≤ 1099511627776) (hn : 0 ≤ n ∧ n ≤ 4294967295) : Calls Try.prog 22 #[.agg #[.int .i64 lo, .int .i64 hi], .int .u32 n] W (IntPost (pickN lo hi n) W) := by
  have hb := Lib.hid (below_one W (.cells #[.int .i64 lo, .int .i64 hi] 24))
  have hp := pickN_in (n := n) h.2.1
  go_enter Try.func22, Try.ntmps22
  go_upto_region 1 with fail
  have h0 := has_newAt (w := W) (t := 24) (cs := #[.int .i64 lo, .int .i64 hi]) (n := W.heap.size) rfl
  generalize W.alloc (.cells #[.int .i64 lo, .int .i64 hi] 24) = w0 at hb h0 ⊢
  have c0 : w0.cell? ⟨W.heap.size, 0, none⟩ = some (.int .i64 lo) := h0.cell 0
  have c1 : w0.cell? ⟨W.heap.size, 1, none⟩ = some (.int .i64 hi) := h0.cell 1
  have e1 : IntKind.i64.wrap n = n := IntWalk.i64_in _ (by omega)
  have e2 : IntKind.i64.wrap (hi - lo) = hi - lo := IntWalk.i64_in _ (by omega)
  have e3 : IntKind.i64.wrap (hi - lo + 1) = hi - lo + 1 := IntWalk.i64_in _ (by omega)
  have e4 : ¬ hi - lo + 1 = 0 := by omega
  obtain ⟨r, hr⟩ : ∃ r, r = n % (hi - lo + 1) := ⟨_, rfl⟩
  have e5 : n.tmod (hi - lo + 1) = r := by rw [hr, Int.tmod_eq_emod_of_nonneg hn.1]
  have hr2 : pickN lo hi n = lo + r := by rw [hr]; rfl
  have HR2 := Lib.hid hr2
  rw [hr2] at hp ⊢
  have e6 : IntKind.i64.wrap (lo + r) = lo + r := IntWalk.i64_in _ (by omega)
  have e7 : IntKind.i64.wrap r = r := IntWalk.i64_in _ (by omega)
  clear hr hr2 h hn
  go_quiet (fail)
  go_wp2_with fail
  go_ret
  exact ⟨by rw [HR2.out]; rfl, below_drN hb.out _⟩
end Go.Proofs.Ytdmpkeaanaoeaaa

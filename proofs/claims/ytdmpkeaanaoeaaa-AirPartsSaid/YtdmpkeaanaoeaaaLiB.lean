/- The example's results, plainly. -/
import Derived.Test.YtdmpkeaanaoeaaaMoA
import Derived.Test.YtdmpkeaanaoeaaaLiA
namespace Go.Proofs.Ytdmpkeaanaoeaaa
open Go.RowKit Go.Shelf
theorem sm_ins : insB smA 40000 41000 smL = true := by decide +kernel
theorem sm_holds : holdsR smA (-25) = (40000, 0) := by decide +kernel
theorem sm_fog : fogR smA 40000 41000 smL = (1, 0, 0) := by decide +kernel
theorem sm_rust : rustR smA 40000 41000 950 smL = (1, 2, 0) := by decide +kernel
theorem sm_least {r : Nat} (h : Least 41000 (msOf smA smL) r) : r = 6550 := by
  refine least_eq (ins_gl sm_ins) h ⟨by decide, fun _ => ?_, fun _ => ?_⟩
  · decide +kernel
  · decide +kernel
theorem sm_run : runE smA 40000 41000 smL = .tuple #[.agg #[.int .i64 30000, .int .i64 30000], .agg #[.int .i64 4700, .int .i64 6200, .int .i64 4000, .int .i64 4100, .int .i64 5000, .int .i64 5000, .int .i64 5700, .int .i64 8100], .int .i64 0] := by
  have h1 : (runL smA 40000 smL).w = 30000 ∧ (runL smA 40000 smL).came = 4700 ∧ (runL smA 40000 smL).out = 4000 ∧ (runL smA 40000 smL).dried = 5000 ∧ (runL smA 40000 smL).dew = 5700 := by decide +kernel
  have h2 : (runH smA 41000 smL).w = 30000 ∧ (runH smA 41000 smL).came = 6200 ∧ (runH smA 41000 smL).out = 4100 ∧ (runH smA 41000 smL).dried = 5000 ∧ (runH smA 41000 smL).dew = 8100 := by decide +kernel
  obtain ⟨a1, a2, a3, a4, a5⟩ := h1
  obtain ⟨b1, b2, b3, b4, b5⟩ := h2
  unfold runE
  rw [if_pos sm_ins, a1, b1]
  unfold moi
  rw [a2, a3, a4, a5, b2, b3, b4, b5]
theorem Try.stood24 : Try.prog.stoodInHeld 24 = false := by kernel_rfl
theorem Try.fields24 : Try.prog.underlying 24 = some (.struct (Try.prog.fieldsOf 24)) := by kernel_rfl
theorem Try.stood34 : Try.prog.stoodInHeld 34 = false := by kernel_rfl
theorem Try.fields34 : Try.prog.underlying 34 = some (.struct (Try.prog.fieldsOf 34)) := by kernel_rfl
theorem equal24 (n : Nat) (a b c d : Int) (w : World) : (Op.equalIn (n + 2) 24 (.agg #[.int .i64 a, .int .i64 b]) (.agg #[.int .i64 c, .int .i64 d])).run Try.prog w = .ok (decide (a = c ∧ b = d)) w := by
  rw [run_equalIn_struct w (n + 1) 24 _ _ Try.fields24 Try.stood24]
  simp [Program.fieldsOf, Try.underlying24, Op.eqFields, go_sem]
  split
  · split <;> simp_all
  · simp_all
theorem eql24 (a b c d : Int) (w : World) : (binOp .eql 24 (.agg #[.int .i64 a, .int .i64 b]) (.agg #[.int .i64 c, .int .i64 d])).run Try.prog w = .ok (.bool (decide (a = c ∧ b = d))) w := by
  rw [run_eql_struct, equal24 9998]; rfl
set_option maxRecDepth 100000 in
theorem neq24s (w : World) : (binOp .neq 24 (.agg #[.int .i64 30000, .int .i64 30000]) (.agg #[.int .i64 30000, .int .i64 30000])).run Try.prog w = .ok (.bool false) w := by
  kernel_rfl
set_option maxRecDepth 100000 in
theorem neq34s (w : World) : (binOp .neq 34 (.agg #[.int .i64 4700, .int .i64 6200, .int .i64 4000, .int .i64 4100, .int .i64 5000, .int .i64 5000, .int .i64 5700, .int .i64 8100]) (.agg #[.int .i64 4700, .int .i64 6200, .int .i64 4000, .int .i64 4100, .int .i64 5000, .int .i64 5000, .int .i64 5700, .int .i64 8100])).run Try.prog w = .ok (.bool false) w := by
  kernel_rfl
end Go.Proofs.Ytdmpkeaanaoeaaa

/- Equality of spans, sums and zones, as the model runs it. -/
import Derived.Test.YtogabjlhecnbbaaIceP
import Derived.Laws.StructEq
namespace Go.Proofs.Ytogabjlhecnbbaa
open Go.RowKit Go.Shelf
theorem Try.stood27 : Try.prog.stoodInHeld 27 = false := by kernel_rfl
theorem Try.stood29 : Try.prog.stoodInHeld 29 = false := by kernel_rfl
theorem Try.stood60 : Try.prog.stoodInHeld 60 = false := by kernel_rfl
theorem Try.fields27 : Try.prog.underlying 27 = some (.struct (Try.prog.fieldsOf 27)) := by kernel_rfl
theorem Try.fields29 : Try.prog.underlying 29 = some (.struct (Try.prog.fieldsOf 29)) := by kernel_rfl
theorem Try.fields60 : Try.prog.underlying 60 = some (.struct (Try.prog.fieldsOf 60)) := by kernel_rfl
theorem equal27 (n : Nat) (a b c d : Int) (w : World) : (Op.equalIn (n + 2) 27 (sv a b) (sv c d)).run Try.prog w = .ok (decide (a = c ∧ b = d)) w := by
  rw [run_equalIn_struct w (n + 1) 27 _ _ Try.fields27 Try.stood27]
  simp [Program.fieldsOf, Try.underlying27, Op.eqFields, go_sem]
  split
  · split <;> simp_all
  · simp_all
theorem eql27 (a b c d : Int) (w : World) : (binOp .eql 27 (sv a b) (sv c d)).run Try.prog w = .ok (.bool (decide (a = c ∧ b = d))) w := by
  rw [run_eql_struct, equal27 9998]; rfl
theorem neq27 (a b c d : Int) (w : World) : (binOp .neq 27 (sv a b) (sv c d)).run Try.prog w = .ok (.bool (!decide (a = c ∧ b = d))) w := by
  rw [run_neq_struct, equal27 9998]; rfl
theorem equal60 (n : Nat) (x y : Zn) (w : World) : (Op.equalIn (n + 3) 60 (zv x) (zv y)).run Try.prog w = .ok (decide (x = y)) w := by
  rw [run_equalIn_struct w (n + 2) 60 _ _ Try.fields60 Try.stood60]
  obtain ⟨a, b, c, d⟩ := x
  obtain ⟨a', b', c', d'⟩ := y
  simp [Program.fieldsOf, Try.underlying60, Op.eqFields, go_sem]
  repeat (split <;> simp_all)
theorem neq60 (x y : Zn) (w : World) : (binOp .neq 60 (zv x) (zv y)).run Try.prog w = .ok (.bool (!decide (x = y))) w := by
  rw [run_neq_struct, equal60 9997]; rfl
theorem eql60 (x y : Zn) (w : World) : (binOp .eql 60 (zv x) (zv y)).run Try.prog w = .ok (.bool (decide (x = y))) w := by
  rw [run_eql_struct, equal60 9997]; rfl
theorem equal29 (n : Nat) (x y : Sm) (w : World) : (Op.equalIn (n + 3) 29 (smv x) (smv y)).run Try.prog w = .ok (decide (x = y)) w := by
  rw [run_equalIn_struct w (n + 2) 29 _ _ Try.fields29 Try.stood29]
  obtain ⟨a, b, c, d, e, f⟩ := x
  obtain ⟨a', b', c', d', e', f'⟩ := y
  simp [Program.fieldsOf, Try.underlying29, Op.eqFields, go_sem]
  repeat (split <;> simp_all)
theorem eql29 (x y : Sm) (w : World) : (binOp .eql 29 (smv x) (smv y)).run Try.prog w = .ok (.bool (decide (x = y))) w := by
  rw [run_eql_struct, equal29 9997]; rfl
theorem neq29 (x y : Sm) (w : World) : (binOp .neq 29 (smv x) (smv y)).run Try.prog w = .ok (.bool (!decide (x = y))) w := by
  rw [run_neq_struct, equal29 9997]; rfl
end Go.Proofs.Ytogabjlhecnbbaa

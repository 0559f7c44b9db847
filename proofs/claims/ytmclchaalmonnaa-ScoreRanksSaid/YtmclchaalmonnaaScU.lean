/- Standings and spans in memory; what a judge marks is valid. -/
import Derived.Test.YtmclchaalmonnaaScT
import Derived.Laws.StructEq
namespace Go.Proofs.Ytmclchaalmonnaa
open Go.RowKit Go.Lib
abbrev spc (s : Sp) : Array Value := #[.int .i64 s.lo, .int .i64 s.hi]
/-- pairs of numbers in a block -/
def pra (l : List (Int × Int)) : Array Value := (l.flatMap fun p => [Value.int .i64 p.1, Value.int .i64 p.2]).toArray
theorem pra_get (l : List (Int × Int)) (k : Nat) (h : k < l.length) : (pra l)[k * 2]? = some (.int .i64 l[k].1) ∧ (pra l)[k * 2 + 1]? = some (.int .i64 l[k].2) := by
  have h1 := flat_get (fun p : Int × Int => [Value.int .i64 p.1, Value.int .i64 p.2]) 2 (fun _ => rfl) l k h
  unfold pra
  refine ⟨?_, ?_⟩
  · have := h1 0 (by omega)
    rw [Nat.add_zero] at this
    simpa using this
  · simpa using h1 1 (by omega)
theorem pra_size (l : List (Int × Int)) : (pra l).size = l.length * 2 := by
  have := flat_len (fun p : Int × Int => [Value.int .i64 p.1, Value.int .i64 p.2]) 2 (fun _ => rfl) l
  unfold pra; simpa using this
theorem pra_set (l : List (Int × Int)) (k : Nat) (_h : k < l.length) (a b : Int) : ((pra l).setIfInBounds (k * 2) (.int .i64 a)).setIfInBounds (k * 2 + 1) (.int .i64 b) = pra (l.set k (a, b)) := by
  apply Array.ext
  · simp [pra_size]
  · intro t h1 h2
    have ht : t < l.length * 2 := by rw [pra_size, List.length_set] at h2; exact h2
    have hi : t / 2 < l.length := by omega
    have e1 := pra_get (l.set k (a, b)) (t / 2) (by simpa using hi)
    have e2 := pra_get l (t / 2) hi
    have hs := pra_size l
    rw [List.getElem_set] at e1
    apply Option.some.inj
    rw [← Array.getElem?_eq_getElem h1, ← Array.getElem?_eq_getElem h2, Array.getElem?_setIfInBounds, Array.getElem?_setIfInBounds, Array.size_setIfInBounds, hs]
    rcases Nat.mod_two_eq_zero_or_one t with h0 | h0
    · rw [show t / 2 * 2 = t by omega] at e1 e2
      rw [e1.1, e2.1]
      by_cases hk : k = t / 2
      · rw [if_neg (by omega), if_pos (by omega), if_pos (by omega), if_pos hk]
      · rw [if_neg (by omega), if_neg (by omega), if_neg hk]
    · rw [show t / 2 * 2 + 1 = t by omega] at e1 e2
      rw [e1.2, e2.2]
      by_cases hk : k = t / 2
      · rw [if_pos (by omega), if_pos (by omega), if_pos hk]
      · rw [if_neg (by omega), if_neg (by omega), if_neg hk]
theorem pra_set2 (l : List (Int × Int)) (k : Nat) (h : k < l.length) (b : Int) : (pra l).setIfInBounds (k * 2 + 1) (.int .i64 b) = pra (l.set k (l[k].1, b)) := by
  rw [← pra_set l k h]
  congr 1
  have h1 := (pra_get l k h).1
  have h2 : k * 2 < (pra l).size := by rw [pra_size]; omega
  apply Array.ext_getElem?
  intro i
  rw [Array.getElem?_setIfInBounds]
  split
  · rename_i e
    subst e
    exact h1
  · rfl
def stp (s : St) : Int × Int := (s.total, s.elements)
def spp (s : Sp) : Int × Int := (s.lo, s.hi)
theorem strow_of {w : World} {p B : Nat} {l : List St} (h : Has w p 82 (pra (l.map stp))) (hB : p < B) : StRow w B (some ⟨p, 0, none⟩) l := fun k hk => by
  have h1 := pra_get (l.map stp) k (by simpa using hk)
  rw [List.getElem_map] at h1
  exact ⟨p, 0, rfl, hB, by rw [h.cell, Nat.zero_add]; exact h1.1, by rw [h.cell, Nat.zero_add]; exact h1.2⟩
theorem made_two (n : Nat) : madeCells #[.int .i64 0, .int .i64 0] (n * 2) = pra (List.replicate n (0, 0)) := by
  apply Array.ext
  · simp [madeCells, pra_size]
  · intro t h1 h2
    have ht : t < n * 2 := by rw [pra_size] at h2; simpa using h2
    have e1 := pra_get (List.replicate n ((0 : Int), (0 : Int))) (t / 2) (by simp; omega)
    rw [List.getElem_replicate] at e1
    apply Option.some.inj
    rw [← Array.getElem?_eq_getElem h2]
    rcases Nat.mod_two_eq_zero_or_one t with h0 | h0
    · rw [show t / 2 * 2 = t by omega] at e1
      rw [e1.1]
      simp [madeCells, h0]
    · rw [show t / 2 * 2 + 1 = t by omega] at e1
      rw [e1.2]
      simp [madeCells, h0]
theorem Try.info82 : (Try.prog.info? 82).map (fun i => (i.zero, i.size, i.bytes)) = some (some (.agg #[.int .i64 0, .int .i64 0]), 2, 16) := by kernel_rfl
theorem Try.info56 : (Try.prog.info? 56).map (fun i => (i.zero, i.size, i.bytes)) = some (some (.agg #[.int .i64 0, .int .i64 0]), 2, 16) := by kernel_rfl
theorem make_sts (n : Nat) (hn : n ≤ 1000000) (w : World) : (Instr.makeSlice 80 (.int .i64 n) (.int .i64 n)).run Try.prog w = .ok (.slice (some ⟨w.heap.size, 0, none⟩) n n) (w.alloc (.cells (pra (List.replicate n (0, 0))) 82)) := by
  obtain ⟨i, hi, hz0, hz1, hz2⟩ := info_parts Try.info82
  have := run_make (P := Try.prog) w 80 82 i _ Try.underlying80 hi hz0 .i64 .i64 n n (by omega) (by omega) (by rw [hz2]; omega) (by omega)
  rw [this, hz1, ← made_two]
  simp only [Int.toNat_natCast]
  rfl
theorem make_sps (n : Nat) (hn : n ≤ 1000000) (w : World) : (Instr.makeSlice 43 (.int .i64 n) (.int .i64 n)).run Try.prog w = .ok (.slice (some ⟨w.heap.size, 0, none⟩) n n) (w.alloc (.cells (pra (List.replicate n (0, 0))) 56)) := by
  obtain ⟨i, hi, hz0, hz1, hz2⟩ := info_parts Try.info56
  have := run_make (P := Try.prog) w 43 56 i _ Try.underlying43 hi hz0 .i64 .i64 n n (by omega) (by omega) (by rw [hz2]; omega) (by omega)
  rw [this, hz1, ← made_two]
  simp only [Int.toNat_natCast]
  rfl
theorem Try.stood82 : Try.prog.stoodInHeld 82 = false := by kernel_rfl
theorem Try.fields82 : Try.prog.underlying 82 = some (.struct (Try.prog.fieldsOf 82)) := by kernel_rfl
theorem Try.stood56 : Try.prog.stoodInHeld 56 = false := by kernel_rfl
theorem Try.fields56 : Try.prog.underlying 56 = some (.struct (Try.prog.fieldsOf 56)) := by kernel_rfl
theorem Try.stood33 : Try.prog.stoodInHeld 33 = false := by kernel_rfl
theorem Try.fields33 : Try.prog.underlying 33 = some (.struct (Try.prog.fieldsOf 33)) := by kernel_rfl
theorem equal82 (n : Nat) (a b c d : Int) (w : World) : (Op.equalIn (n + 2) 82 (.agg #[.int .i64 a, .int .i64 b]) (.agg #[.int .i64 c, .int .i64 d])).run Try.prog w = .ok (decide (a = c ∧ b = d)) w := by
  rw [run_equalIn_struct w (n + 1) 82 _ _ Try.fields82 Try.stood82]
  simp [Program.fieldsOf, Try.underlying82, Op.eqFields, go_sem]
  split
  · split <;> simp_all
  · simp_all
theorem neq82 (a b c d : Int) (w : World) : (binOp .neq 82 (.agg #[.int .i64 a, .int .i64 b]) (.agg #[.int .i64 c, .int .i64 d])).run Try.prog w = .ok (.bool (!decide (a = c ∧ b = d))) w := by
  rw [run_neq_struct, equal82 9998]; rfl
theorem equal56 (n : Nat) (a b c d : Int) (w : World) : (Op.equalIn (n + 2) 56 (.agg #[.int .i64 a, .int .i64 b]) (.agg #[.int .i64 c, .int .i64 d])).run Try.prog w = .ok (decide (a = c ∧ b = d)) w := by
  rw [run_equalIn_struct w (n + 1) 56 _ _ Try.fields56 Try.stood56]
  simp [Program.fieldsOf, Try.underlying56, Op.eqFields, go_sem]
  split
  · split <;> simp_all
  · simp_all
theorem neq56 (a b c d : Int) (w : World) : (binOp .neq 56 (.agg #[.int .i64 a, .int .i64 b]) (.agg #[.int .i64 c, .int .i64 d])).run Try.prog w = .ok (.bool (!decide (a = c ∧ b = d))) w := by
  rw [run_neq_struct, equal56 9998]; rfl
theorem equal33 (n : Nat) (a b c d a' b' c' d' : Int) (w : World) : (Op.equalIn (n + 2) 33 (.agg #[.int .i64 a, .int .i64 b, .int .i64 c, .int .i64 d]) (.agg #[.int .i64 a', .int .i64 b', .int .i64 c', .int .i64 d'])).run Try.prog w = .ok (decide (a = a' ∧ b = b' ∧ c = c' ∧ d = d')) w := by
  rw [run_equalIn_struct w (n + 1) 33 _ _ Try.fields33 Try.stood33]
  simp [Program.fieldsOf, Try.underlying33, Op.eqFields, go_sem]
  repeat (split <;> simp_all)
theorem eql33 (a b c d a' b' c' d' : Int) (w : World) : (binOp .eql 33 (.agg #[.int .i64 a, .int .i64 b, .int .i64 c, .int .i64 d]) (.agg #[.int .i64 a', .int .i64 b', .int .i64 c', .int .i64 d'])).run Try.prog w = .ok (.bool (decide (a = a' ∧ b = b' ∧ c = c' ∧ d = d'))) w := by
  rw [run_eql_struct, equal33 9998]; rfl
theorem neq33 (a b c d a' b' c' d' : Int) (w : World) : (binOp .neq 33 (.agg #[.int .i64 a, .int .i64 b, .int .i64 c, .int .i64 d]) (.agg #[.int .i64 a', .int .i64 b', .int .i64 c', .int .i64 d'])).run Try.prog w = .ok (.bool (!decide (a = a' ∧ b = b' ∧ c = c' ∧ d = d'))) w := by
  rw [run_neq_struct, equal33 9998]; rfl
theorem vs_mark {r : Ru} {s : Sk} {j : Nat} {g q : Int} (h : VS r s) (hg : -5 ≤ g ∧ g ≤ 5) (hq : 0 ≤ q ∧ q ≤ 40) : VS r (markP s j g q) := by
  refine ⟨by simpa [markP] using h.nc, by simpa [markP] using h.np, h.o, fun c hc => ?_, ?_, fun m hm => ?_⟩
  · obtain ⟨d, hd, rfl⟩ := List.mem_map.1 hc
    obtain ⟨a, b, e⟩ := h.c d hd
    refine ⟨⟨a.under, by simpa [markC] using a.l1, by simpa [markC] using a.l9, fun x hx => ?_⟩, b, e⟩
    rcases List.mem_or_eq_of_mem_set hx with hx | rfl
    · exact a.m x hx
    · exact hg
  · have : (markP s j g q).calls.map (·.place) = s.calls.map (·.place) := by simp [markP, markC, Function.comp_def]
    rw [this]; exact h.d
  · obtain ⟨d, hd, rfl⟩ := List.mem_map.1 hm
    obtain ⟨a, b, e⟩ := h.p d hd
    refine ⟨by simpa using a, by simpa using b, fun x hx => ?_⟩
    rcases List.mem_or_eq_of_mem_set hx with hx | rfl
    · exact e x hx
    · exact hq
end Go.Proofs.Ytmclchaalmonnaa

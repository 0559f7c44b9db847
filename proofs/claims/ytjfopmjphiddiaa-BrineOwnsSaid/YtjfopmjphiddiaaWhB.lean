/- Rows of pipes that a function makes itself: each pipe with slugs of its own. -/
import Derived.Test.YtjfopmjphiddiaaMgR
import Derived.Deep.AppendLies
namespace Go.Proofs.Ytjfopmjphiddiaa
open Go.RowKit Go.Shelf
section
variable {w w' : World} {base : Nat} {v : Value} {L : List (Pp × Value)} {e e' : TypeId} {s s' n n' : Nat} {xs xs' : List Value}
theorem own_ne {base' : Nat} {v' : Value} (h : w.ownsRow base e s v n xs) (h' : w.ownsRow base' e' s' v' n' xs') (hne : e ≠ e') : v.ownBlock = none ∨ v.ownBlock ≠ v'.ownBlock := by
  rcases h.2 with ⟨rfl, _⟩ | ⟨g, cap, cur, rfl, _, hg, _⟩
  · exact .inl rfl
  · right
    rcases h'.2 with ⟨rfl, _⟩ | ⟨g', cap', cur', rfl, _, hg', _⟩
    · simp [Value.ownBlock]
    · intro e0
      simp only [Value.ownBlock, Option.some.injEq] at e0
      subst e0
      rw [hg] at hg'
      simp only [Option.some.injEq, Obj.cells.injEq] at hg'
      exact hne hg'.2.1
theorem own_has {g : Nat} {t : TypeId} {cs : Array Value} (h : w.ownsRow base e s v n xs) (h' : Has w g t cs) (hne : e ≠ t) : v.ownBlock = none ∨ v.ownBlock ≠ some g := by
  rcases h.2 with ⟨rfl, _⟩ | ⟨g', cap, cur, rfl, _, hg, _⟩
  · exact .inl rfl
  · right
    intro e0
    simp only [Value.ownBlock, Option.some.injEq] at e0
    subst e0
    unfold Has at h'
    rw [hg] at h'
    simp only [Option.some.injEq, Obj.cells.injEq] at h'
    exact hne h'.2.1
theorem grown_below {B : Nat} (hb : Below B w w') (hB : w.heap.size ≤ B) (row : Option Nat) : w.grownBy w' row := ⟨hb.os, hb.tape, hb.output, hb.size, fun k hk _ => hb.block k (by omega)⟩
theorem grown_only {g : Nat} (h : Only (fun k => k = g) w w') : w.grownBy w' (some g) := ⟨h.os, h.tape, h.output, h.size, fun k hk hn => h.block k hk (fun e => hn (by rw [e]))⟩
theorem own_below (h : w.ownsRow base e s v n xs) (hb : Below w.heap.size w w') : w'.ownsRow base e s v n xs := h.kept (grown_below hb (Nat.le_refl _) none) (by cases v.ownBlock <;> simp)
theorem own_lower {base' : Nat} (h : w.ownsRow base e s v n xs) (hb : base' ≤ base) : w.ownsRow base' e s v n xs := by
  refine ⟨h.1, ?_⟩
  rcases h.2 with hn | ⟨g, cap, cur, rfl, hbb, rest⟩
  · exact .inl hn
  · exact .inr ⟨g, cap, cur, rfl, by omega, rest⟩
theorem own_srow {l : List Sl} (h : w.ownsRow base 23 2 v l.length (sfl l)) : ∃ A cap, v = .slice A l.length cap ∧ SRow w w.heap.size A l := by
  by_cases hl : 0 < l.length
  · obtain ⟨q, rfl, rfl, -, -, hq⟩ := qhas_of_own (room := 0) h hl
    exact ⟨_, _, rfl, srow_q hq⟩
  · have h0 : l = [] := List.eq_nil_of_length_eq_zero (by omega)
    subst h0
    rcases h.2 with ⟨rfl, _⟩ | ⟨g, cap, cur, rfl, _⟩
    · exact ⟨_, _, rfl, fun k hk => absurd hk (by simp)⟩
    · exact ⟨_, _, rfl, fun k hk => absurd hk (by simp)⟩
def pfl (L : List (Pp × Value)) : List Value := L.flatMap fun x => [iv x.1.room, x.2]
theorem pfl_len (L : List (Pp × Value)) : (pfl L).length = L.length * 2 := by
  unfold pfl
  induction L with
  | nil => rfl
  | cons s t ih => simp only [List.flatMap_cons, List.length_append, List.length_cons, List.length_nil, ih]; omega
structure POwn (w : World) (base : Nat) (v : Value) (L : List (Pp × Value)) : Prop where
  row : w.ownsRow base 51 2 v L.length (pfl L)
  sl : ∀ x ∈ L, w.ownsRow base 23 2 x.2 x.1.l.length (sfl x.1.l)
theorem POwn.nil (w : World) (base : Nat) : POwn w base (.slice none 0 0) [] := ⟨World.ownsRow_nil _ _ _ _, fun x hx => by cases hx⟩
theorem POwn.below (h : POwn w base v L) (hb : Below w.heap.size w w') : POwn w' base v L := ⟨own_below h.row hb, fun x hx => own_below (h.sl x hx) hb⟩
/-- .. where a block is stored to that is neither of pipes nor of slugs -/
theorem POwn.only {g : Nat} {t : TypeId} {cs : Array Value} (h : POwn w base v L) (hg : Has w g t cs) (h1 : 51 ≠ t) (h2 : 23 ≠ t) (ho : Only (fun k => k = g) w w') : POwn w' base v L :=
  ⟨h.row.kept (grown_only ho) (own_has h.row hg h1), fun x hx => (h.sl x hx).kept (grown_only ho) (own_has (h.sl x hx) hg h2)⟩
/-- .. where slugs were appended to that lie above all these -/
theorem POwn.grown {row : Option Nat} (h : POwn w base v L) (hg : w.grownBy w' row) (hr : ∀ k, row = some k → (∀ j, v.ownBlock = some j → j < k) ∧ ∀ x ∈ L, ∀ j, x.2.ownBlock = some j → j < k) : POwn w' base v L := by
  have ne : ∀ u : Value, (∀ k, row = some k → ∀ j, u.ownBlock = some j → j < k) → u.ownBlock = none ∨ u.ownBlock ≠ row := by
    intro u hu
    cases hb : u.ownBlock with
    | none => exact .inl rfl
    | some j =>
      right
      intro e0
      have := hu j e0.symm j hb
      omega
  exact ⟨h.row.kept hg (ne _ fun k hk => (hr k hk).1), fun x hx => (h.sl x hx).kept hg (ne _ fun k hk => (hr k hk).2 x hx)⟩
theorem POwn.push {p : Pp} {x : Value} (h : POwn w base v L) (hx : w.ownsRow base 23 2 x p.l.length (sfl p.l)) {v' : Value} (hr : w'.ownsRow base 51 2 v' (L.length + 1) (pfl L ++ [iv p.room, x])) (hg : w.grownBy w' v.ownBlock) : POwn w' base v' (L ++ [(p, x)]) := by
  have ne : ∀ {u : Value} {m : Nat} {ys : List Value}, w.ownsRow base 23 2 u m ys → u.ownBlock = none ∨ u.ownBlock ≠ v.ownBlock := fun hu => own_ne hu h.row (by decide)
  refine ⟨?_, fun y hy => ?_⟩
  · simpa [pfl] using hr
  · rcases List.mem_append.1 hy with hy | hy
    · exact (h.sl y hy).kept hg (ne (h.sl y hy))
    · obtain rfl : y = (p, x) := by simpa using hy
      exact hx.kept hg (ne hx)
theorem POwn.prow (h : POwn w base v L) : ∃ A cap, v = .slice A L.length cap ∧ PRow w w.heap.size A (L.map (·.1)) := by
  rcases h.row.2 with ⟨rfl, h0⟩ | ⟨g, cap, cur, rfl, hb, hg, h1, h2, h3, h4⟩
  · have h0' : L = [] := List.eq_nil_of_length_eq_zero h0
    subst h0'
    exact ⟨none, 0, rfl, fun k hk => absurd hk (by simp)⟩
  · refine ⟨some ⟨g, 0, none⟩, cap, rfl, fun k hk => ?_⟩
    have hk' : k < L.length := by simpa using hk
    have hg1 : Has w g 51 cur := hg
    have hc : ∀ j, j < L.length * 2 → cur[j]? = (pfl L)[j]? := fun j hj => by
      have := congrArg (fun l : List Value => l[j]?) h4
      simp only [List.getElem?_take_of_lt hj] at this
      simpa using this
    obtain ⟨A', c', e', hs⟩ := own_srow (h.sl _ (List.getElem_mem hk'))
    have g0 := flat_get (fun x : Pp × Value => [iv x.1.room, x.2]) 2 (fun _ => rfl) L k hk' 0 (by omega)
    have g1 := flat_get (fun x : Pp × Value => [iv x.1.room, x.2]) 2 (fun _ => rfl) L k hk' 1 (by omega)
    refine ⟨g, 0, A', c', rfl, hg1.lt, ?_, ?_, ?_⟩
    · rw [hg1.cell, Nat.zero_add, hc _ (by omega)]; simpa [pfl] using g0
    · rw [hg1.cell, Nat.zero_add, hc _ (by omega)]; simpa [pfl, e'] using g1
    · simpa using hs
end
end Go.Proofs.Ytjfopmjphiddiaa

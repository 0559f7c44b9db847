/- Rows of events that a law makes itself. -/
import Derived.Test.YtjfopmjphiddiaaWhA
import Derived.Test.YtjfopmjphiddiaaWhB
namespace Go.Proofs.Ytjfopmjphiddiaa
open Go.RowKit Go.Shelf
theorem Try.info56 : (Try.prog.info? 56).map (fun i => (i.zero, i.size, i.bytes)) = some (some (.agg #[iv 0, iv 0, iv 0, iv 0]), 4, 32) := by kernel_rfl
def eli (l : List Ev) : List Value := l.flatMap fun e => [iv e.k, iv e.p, iv e.a, iv e.h]
theorem eli_app (a b : List Ev) : eli (a ++ b) = eli a ++ eli b := by simp [eli]
theorem eli_len (l : List Ev) : (eli l).length = l.length * 4 := by
  unfold eli
  induction l with
  | nil => rfl
  | cons s t ih => simp only [List.flatMap_cons, List.length_append, List.length_cons, List.length_nil, ih]; omega
section
variable {w w' : World} {base : Nat} {v : Value}
theorem own_erow {l : List Ev} (h : w.ownsRow base 56 4 v l.length (eli l)) : ∃ A cap, v = .slice A l.length cap ∧ ERow w w.heap.size A l := by
  rcases h.2 with ⟨rfl, h0⟩ | ⟨g, cap, cur, rfl, hb, hg, h1, h2, h3, h4⟩
  · exact ⟨none, 0, by rw [h0], fun k hk => absurd hk (by omega)⟩
  · refine ⟨some ⟨g, 0, none⟩, cap, rfl, fun k hk => ?_⟩
    have hg1 : Has w g 56 cur := hg
    have hc : ∀ j, j < l.length * 4 → cur[j]? = (eli l)[j]? := fun j hj => by
      have := congrArg (fun l : List Value => l[j]?) h4
      simp only [List.getElem?_take_of_lt hj] at this
      simpa using this
    have y : ∀ j, j < 4 → cur[k * 4 + j]? = [iv l[k].k, iv l[k].p, iv l[k].a, iv l[k].h][j]? := fun j hj => (hc _ (by omega)).trans (flat_get (fun e : Ev => [iv e.k, iv e.p, iv e.a, iv e.h]) 4 (fun _ => rfl) l k hk j hj)
    refine ⟨g, 0, rfl, hg1.lt, ?_, ?_, ?_, ?_⟩ <;> simp only [Nat.zero_add] <;> rw [hg1.cell]
    · exact y 0 (by omega)
    · exact y 1 (by omega)
    · exact y 2 (by omega)
    · exact y 3 (by omega)
end
theorem cell_new4 (w : World) (a b c d : Value) (t : TypeId) : ∀ j u, [a, b, c, d][j]? = some u → (w.alloc (.cells #[a, b, c, d] t)).cell? ((⟨w.heap.size, 0, none⟩ : Addr).add j) = some u := fun j u hu =>
  World.news_of_block (cs := #[a, b, c, d]) (heap_alloc_new w _) j u hu
theorem cell_new2 (w : World) (a b : Value) (t : TypeId) : ∀ j u, [a, b][j]? = some u → (w.alloc (.cells #[a, b] t)).cell? ((⟨w.heap.size, 0, none⟩ : Addr).add j) = some u := fun j u hu =>
  World.news_of_block (cs := #[a, b]) (heap_alloc_new w _) j u hu
def isW (e : Ev) : Bool := decide (0 ≤ e.k ∧ e.k ≤ 3)
def warmE (l : List Ev) : List Ev := l.filter isW
theorem warmE_kind (l : List Ev) : ∀ e ∈ warmE l, 0 ≤ e.k ∧ e.k ≤ 3 := fun e he => by
  have := (List.mem_filter.1 he).2
  simpa [isW] using this
theorem warmE_len (l : List Ev) : (warmE l).length ≤ l.length := List.length_filter_le _ _
theorem warmE_yes {l : List Ev} {k : Nat} (hk : k < l.length) (h : isW l[k] = true) : warmE (l.take (k + 1)) = warmE (l.take k) ++ [l[k]] := by
  unfold warmE
  rw [List.take_succ_eq_append_getElem hk, List.filter_append]
  simp [h]
theorem warmE_no {l : List Ev} {k : Nat} (hk : k < l.length) (h : isW l[k] = false) : warmE (l.take (k + 1)) = warmE (l.take k) := by
  unfold warmE
  rw [List.take_succ_eq_append_getElem hk, List.filter_append]
  simp [h]
structure WhI (w1 W : World) (l : List Ev) (k : Nat) (a b : Value) : Prop where
  bl : Below w1.heap.size w1 W
  wa : W.ownsRow w1.heap.size 56 4 a (warmE (l.take k)).length (eli (warmE (l.take k)))
  no : W.ownsRow w1.heap.size 56 4 b (warmE (l.take k)).length (eli ((warmE (l.take k)).map coldE))
  ne : a.ownBlock = none ∨ a.ownBlock ≠ b.ownBlock
end Go.Proofs.Ytjfopmjphiddiaa

/- Maps that remember: keys that are places. -/
import Derived.Test.YtipejhfgfciabaaHrH
import Derived.Test.YtipejhfgfciabaaStays
import Derived.Maps.Own
import Derived.DeepKeys4
namespace Go.Proofs.Ytipejhfgfciabaa
open Go.RowKit Go.Maps Go.WideElems Go.MapKept
theorem law75 : Keyed Try.prog 75 := Keyed.of_law (deep_law_laid laidOut (m := 4) (by omega) (of_decide_eq_true (by kernel_rfl)) (by kernel_rfl) (by kernel_rfl))
/-- numbers that a place can hold -/
def Wf (n : Int) : Prop := -9223372036854775808 ≤ n ∧ n ≤ 9223372036854775807
theorem key_of (a b c d e f g : Int) (ha : Wf a) (hb : Wf b) (hc : Wf c) (hd : Wf d) (he : Wf e) (hf : Wf f) (hg : Wf g) :
    ∃ kl, keyOf Try.prog 75 (.agg #[.int .i64 a, .int .i64 b, .int .i64 c, .int .i64 d, .int .i64 e, .int .i64 f, .int .i64 g]) = some kl := by
  have h1 : Try.prog.keyType 75 = true := by kernel_rfl
  have u75 := Try.underlying75
  have u73 := Try.underlying73
  have u3 := Try.underlying3
  have c75 : Try.prog.cellsOf 75 = 7 := by kernel_rfl
  have c73 : Try.prog.cellsOf 73 = 5 := by kernel_rfl
  have c3 : Try.prog.cellsOf 3 = 1 := by kernel_rfl
  have hs : 3 ≤ Try.prog.types.size := of_decide_eq_true (by kernel_rfl)
  obtain ⟨D, hD⟩ : ∃ D, Try.prog.types.size + 1 = D + 1 + 1 + 1 := ⟨Try.prog.types.size - 2, by omega⟩
  have w1 := WalkArith.wf_i64 ha
  have w2 := WalkArith.wf_i64 hb
  have w3 := WalkArith.wf_i64 hc
  have w4 := WalkArith.wf_i64 hd
  have w5 := WalkArith.wf_i64 he
  have w6 := WalkArith.wf_i64 hf
  have w7 := WalkArith.wf_i64 hg
  unfold keyOf
  rw [u75]
  simp only [h1, Bool.true_and, Value.formed, u75, c75, hD]
  simp [Program.keyLits, u75, u73, u3, c75, c73, c3, w1, w2, w3, w4, w5, w6, w7, Value.cells, List.range_succ]
theorem key_pl {x : Tt} {p : Pl} (hp : VP x p) (hn : x.H.length ≤ 12) : ∃ kl, keyOf Try.prog 75 (plv p) = some kl := by
  have h := hp.g
  have hh := hp.h
  have hl := hp.last
  have g0 := h 0 (by omega); have g1 := h 1 (by omega); have g2 := h 2 (by omega); have g3 := h 3 (by omega); have g4 := h 4 (by omega)
  simp only [List.getD_eq_getElem?_getD] at g0 g1 g2 g3 g4
  exact key_of _ _ _ _ _ _ _ ⟨by omega, by omega⟩ ⟨by omega, by omega⟩ ⟨by omega, by omega⟩ ⟨by omega, by omega⟩ ⟨by omega, by omega⟩ ⟨by omega, by omega⟩ ⟨by omega, by omega⟩
theorem plv_inj {p q : Pl} (hp : p.given.length = 5) (hq : q.given.length = 5) (h : plv p = plv q) : p = q := by
  obtain ⟨a, b, c⟩ := p
  obtain ⟨a', b', c'⟩ := q
  match c, hp, c', hq with
  | [c0, c1, c2, c3, c4], _, [d0, d1, d2, d3, d4], _ =>
    simp [plv] at h
    obtain ⟨h1, h2, h3, h4, h5, h6, h7⟩ := h
    simp at *
    exact ⟨by omega, h2, h3, h4, h5, h6, h7⟩
/-- whatever the entries hold -/
def R0 : Value → Option (DataW Unit × List MemPlace) := fun _ => some (.lit (.bool true), [])
/-- block BM is a map of at most m entries, all of them as Inv says -/
def Memo (w : World) (BM m : Nat) (Inv : Value → Value → Prop) : Prop :=
  ∃ es clock, w.heap[BM]? = some (.map es clock) ∧ Fit Try.prog 75 R0 es clock ∧ es.size ≤ m ∧ ∀ e ∈ es.toList, Inv e.key e.val
theorem Memo.lt {w : World} {BM m : Nat} {Inv : Value → Value → Prop} (h : Memo w BM m Inv) : BM < w.heap.size := by
  obtain ⟨es, cl, h1, _⟩ := h
  exact (Array.getElem?_eq_some_iff.1 h1).1
theorem Memo.more {w : World} {BM m m' : Nat} {Inv : Value → Value → Prop} (h : Memo w BM m Inv) (hm : m ≤ m') : Memo w BM m' Inv := by
  obtain ⟨es, cl, h1, h2, h3, h4⟩ := h
  exact ⟨es, cl, h1, h2, Nat.le_trans h3 hm, h4⟩
theorem Memo.imp {w w' : World} {BM m : Nat} {Inv Inv' : Value → Value → Prop} (h : Memo w BM m Inv) (hw : w'.heap[BM]? = w.heap[BM]?) (hI : ∀ k v, Inv k v → Inv' k v) : Memo w' BM m Inv' := by
  obtain ⟨es, cl, h1, h2, h3, h4⟩ := h
  exact ⟨es, cl, hw.trans h1, h2, h3, fun e he => hI _ _ (h4 e he)⟩
theorem Memo.new (w : World) (Inv : Value → Value → Prop) : Memo (w.alloc (.map #[] 0)) w.heap.size 0 Inv :=
  ⟨#[], 0, (heap_alloc w _).1, ⟨by simp, stamped_empty 0, by simp⟩, Nat.le_refl _, by simp⟩
/-- a map's block is no row of cells -/
theorem Memo.ne {w : World} {BM m : Nat} {Inv : Value → Value → Prop} (h : Memo w BM m Inv) {g o : Nat} {v : Value} (hc : w.cell? ⟨g, o, none⟩ = some v) : g ≠ BM := by
  rintro rfl
  obtain ⟨es, cl, h1, _⟩ := h
  simp [World.cell?, h1] at hc
theorem Memo.ne_has {w : World} {BM m : Nat} {Inv : Value → Value → Prop} (h : Memo w BM m Inv) {g : Nat} {t : TypeId} {cs : Array Value} (hc : Has w g t cs) : g ≠ BM := by
  rintro rfl
  obtain ⟨es, cl, h1, _⟩ := h
  unfold Has at hc
  rw [h1] at hc; cases hc
/-- asked -/
theorem Memo.look {w : World} {BM m : Nat} {Inv : Value → Value → Prop} (h : Memo w BM m Inv) (c : Bool) {t e : TypeId} (ht : Try.prog.underlying t = some (.map 75 e)) {z : Value} (hz : (zeroValue e).run Try.prog w = .ok z w) {key : Value} {kl : Lit} (hk : keyOf Try.prog 75 key = some kl) :
    (Instr.lookup t (.map (some BM)) key c).run Try.prog w = .ok (if c then .tuple #[z, .bool false] else z) w ∨ ∃ v, (Instr.lookup t (.map (some BM)) key c).run Try.prog w = .ok (if c then .tuple #[v, .bool true] else v) w ∧ Inv key v := by
  obtain ⟨es, cl, h1, h2, h3, h4⟩ := h
  rcases fit_look c law75 ht hz h1 h2 hk with ⟨hr, _⟩ | ⟨e0, y, he, hke, hr, _⟩
  · exact .inl hr
  · exact .inr ⟨e0.val, hr, by rw [← hke]; exact h4 e0 he⟩
/-- written -/
theorem Memo.put {w : World} {BM m : Nat} {Inv : Value → Value → Prop} (h : Memo w BM m Inv) {t e : TypeId} (ht : Try.prog.underlying t = some (.map 75 e)) (hm : m < maxLen) {key val : Value} {kl : Lit} (hk : keyOf Try.prog 75 key = some kl) (hI : Inv key val) :
    ∃ w', (Instr.mapUpdate t (.map (some BM)) key val).run Try.prog w = .ok () w' ∧ Memo w' BM (m + 1) Inv ∧ Only (· = BM) w w' := by
  obtain ⟨es, cl, h1, h2, h3, h4⟩ := h
  obtain ⟨es', clock', hrun, F', hput, _, _, hwho⟩ := fit_store (R' := R0) law75 ht h1 h2 (Nat.lt_of_le_of_lt h3 hm) (fun _ _ _ _ hz => hz) hk (yv := (.lit (.bool true), [])) rfl
  refine ⟨_, hrun, ⟨es', clock', ChangeMaps.heap_setBlock_same h1 _, F', ?_, ?_⟩, ⟨rfl, rfl, rfl, by simp [ChangeMaps.setBlock], fun i _ hi => ChangeMaps.heap_setBlock_other h1 _ (fun e => hi e)⟩⟩
  · have e1 : es'.size = ((es'.toList.map (rg Try.prog 75 R0)).foldr DataW.insert []).length := by rw [length_sorted]; simp
    rw [e1, hput]
    unfold ChangeMaps.putKey
    rw [length_insert]
    have e2 := List.length_filter_le (ChangeMaps.notKey kl) ((es.toList.map (rg Try.prog 75 R0)).foldr DataW.insert [])
    rw [length_sorted] at e2
    simp at e2
    omega
  · intro x hx
    rcases hwho x hx with ⟨h5, _⟩ | ⟨h5, h6⟩
    · exact h4 x h5
    · rw [h5, h6]; exact hI
end Go.Proofs.Ytipejhfgfciabaa

/- The law of a loop over a function that yields a list of arguments one behind the other: an invariant for its rounds, and for its jumps. -/
import Derived.Test.YtljkgjfmambfoaaDoorMem
import Derived.Test.YtljkgjfmambfoaaDoorRange
import Derived.RangeFuncIn
import Derived.RangeFuncLeaves
import Derived.RangeFuncCalls
namespace Go.Proofs.YtljkgjfmambfoaaDoor
open Go.RowKit Go.Shelf
theorem wp_rangeFunc_wide {P : Program} {g : Operand} {ps : Array Tmp} {assign body : Code} {Q : Exit → Act → World → Prop} {a : Act} {w : World} {gf : Nat} {lb : Array Value} (hg : a.eval g = .func (.func gf) #[] lb) (eg : Enters P gf)
    (h : ∀ fn, CallsIn Fence.wide 2 P gf (#[.func (.yield (w.heap.size + 1)) #[] #[]] ++ lb) ((w.alloc (.deferred (some []))).alloc (.loop (loopRec fn a.tmps ps assign body w.heap.size .ready none)))
      (rangePost Fence.wide 3 P (w.heap.size + 1) Q { a with defers := { target := .collected w.heap.size, args := #[] } :: a.defers })) :
    (Code.rangeFunc g ps assign body).wp P Q a w := by
  refine (wpIn_wide (n := 3)).1 ?_
  have hres : ∀ fn, (resolve a.eval (rangeCall g (w.heap.size + 1)) 0).run P ((w.alloc (.deferred (some []))).alloc (.loop (loopRec fn a.tmps ps assign body w.heap.size .ready none))) =
      .ok { target := .fn (.func gf) lb, args := #[.func (.yield (w.heap.size + 1)) #[] #[]] } ((w.alloc (.deferred (some []))).alloc (.loop (loopRec fn a.tmps ps assign body w.heap.size .ready none))) := fun fn => by
    simp only [resolve, hg]
    simp [go_sem]
  have hinv : ∀ fn, (invoke (.fn (.func gf) lb) #[.func (.yield (w.heap.size + 1)) #[] #[]]).run P ((w.alloc (.deferred (some []))).alloc (.loop (loopRec fn a.tmps ps assign body w.heap.size .ready none))) =
      .ok (.enter gf (#[.func (.yield (w.heap.size + 1)) #[] #[]] ++ lb)) ((w.alloc (.deferred (some []))).alloc (.loop (loopRec fn a.tmps ps assign body w.heap.size .ready none))) := fun fn => by
    have := eg
    unfold Enters at this
    simp [invoke, go_sem, this]
  refine wpIn_rangeFunc (F := Fence.wide) (n := 3) ?_
  intro fn _
  have h1 := run_enterLoop_outer (P := P) (w := w) fn a.tmps ps assign body
  have h2 := hres fn
  have h3 := hinv fn
  have h4 := h fn
  obtain ⟨w1, hw1⟩ : ∃ w1, w1 = (w.alloc (.deferred (some []))).alloc (.loop (loopRec fn a.tmps ps assign body w.heap.size .ready none)) := ⟨_, rfl⟩
  rw [← hw1] at h2 h3 h4
  refine ⟨w.heap.size + 1, [{ target := .collected w.heap.size, args := #[] }], w1, { target := .fn (.func gf) lb, args := #[.func (.yield (w.heap.size + 1)) #[] #[]] }, w1, gf, #[.func (.yield (w.heap.size + 1)) #[] #[]] ++ lb, w1, ?_, h2, fun _ _ => trivial, h3, ?_, ?_⟩
  · rw [hw1]; exact h1
  · intro _; decide
  · exact h4
theorem below_two (W : World) (o u : Obj) : Below W.heap.size W ((W.alloc o).alloc u) := (below_one W o).alloc (Nat.le_of_lt (by simp)) u
theorem leave_ret00 {P : Program} {W : World} {fn : Func} {tmps : Array Value} {R : Ending → World → Prop} {v : Value} (hr : (results fn tmps).run P W = .ok v W) (hR : R (.returned v) W) :
    LeavesInM Fence.wide 3 P fn tmps R [] .returning W := ⟨v, hr, hR⟩
theorem leave_ret0 {P : Program} {W : World} {D : Nat} {fn : Func} {tmps : Array Value} {R : Ending → World → Prop} {v : Value} (hD : W.heap[D]? = some (.deferred (some [])))
    (hr : (results fn tmps).run P (W.putObj D (.deferred none)) = .ok v (W.putObj D (.deferred none))) (hR : R (.returned v) (W.putObj D (.deferred none))) :
    LeavesInM Fence.wide 3 P fn tmps R [{ target := .collected D, args := #[] }] .returning W := by
  refine ⟨by simp, .inl ⟨D, _, rfl, run_takeDeferred hD, ?_⟩⟩
  exact ⟨v, hr, hR⟩
theorem only_put {w : World} {l : Nat} (o : Obj) : Only (· = l) w (w.putObj l o) := ⟨rfl, rfl, rfl, by simp, fun _ _ hn => World.putObj_heap_other (fun e => hn e)⟩
theorem Only.weak {S S' : Nat → Prop} {w w' : World} (h : Only S w w') (hS : ∀ g, S g → S' g) : Only S' w w' := h.mono (fun g _ hg => hS g hg)
/-- the loop over a function in a piece of code -/
def loopParts : Code → Option (Code × Code)
  | .rangeFunc _ _ a b => some (a, b)
  | .seq a b => match loopParts a with | some p => some p | none => loopParts b
  | .block _ c => loopParts c
  | .loop c => loopParts c
  | _ => none
/-- the iterator yields xs, in whatever worlds a property is kept in which it can read -/
def IterOK (P : Program) (gf : Nat) (lb : Array Value) (xs : List (Array Value)) (Rd : World → Prop) : Prop :=
  ∀ (l : Nat) (W : World) (J S : Nat → World → Prop), (∀ k w, J k w → Rd w) → (∀ k w w', J k w → Below w.heap.size w w' → J k w') →
    (∀ k args w, xs[k]? = some args → J k w → YieldAt Fence.wide 2 P l args w fun e w' => (e = .returned (.bool true) ∧ J (k + 1) w') ∨ (e = .returned (.bool false) ∧ S k w')) → J 0 W →
    CallsIn Fence.wide 2 P gf (#[.func (.yield l) #[] #[]] ++ lb) W (fun e W' => (∃ v, e = .returned v) ∧ (J xs.length W' ∨ ∃ k, S k W'))
/-- how a round may end: it wrote S alone -/
def RQ (S : Nat → Prop) (I : Nat → World → Prop) (X : Code → World → Prop) (k : Nat) (w : World) : Exit → Act → World → Prop
  | .normal, _, w' => Only S w w' ∧ I (k + 1) w'
  | .ret, _, w' => Only S w w' ∧ X .ret w'
  | .exit id, _, w' => Only S w w' ∧ X (.exit id) w'
  | _, _, _ => False
section
variable {S : Nat → Prop} {I : Nat → World → Prop} {X : Code → World → Prop} {k : Nat} {w w' : World} {a : Act}
theorem RQ.next (h : Only S w w') (h' : I (k + 1) w') : RQ S I X k w .normal a w' := ⟨h, h'⟩
theorem RQ.left (h : Only S w w') (h' : X .ret w') : RQ S I X k w .ret a w' := ⟨h, h'⟩
theorem RQ.out {id : Nat} (h : Only S w w') (h' : X (.exit id) w') : RQ S I X k w (.exit id) a w' := ⟨h, h'⟩
end
theorem wp_range_seq {P : Program} {g : Operand} {ps : Array Tmp} {assign body : Code} {Q : Exit → Act → World → Prop} {a : Act} {w : World} {gf : Nat} {lb : Array Value} {xs : List (Array Value)} {Rd : World → Prop}
    (hg : a.eval g = .func (.func gf) #[] lb) (eg : Enters P gf) (hit : IterOK P gf lb xs Rd) (hps : ∀ x ∈ xs, x.size = ps.size)
    (S : Nat → Prop) (I : Nat → World → Prop) (X : Code → World → Prop) (hS : ∀ i, S i → i < w.heap.size)
    (hR : ∀ k w', I k w' → Rd w') (hB : ∀ k w' w'', I k w' → Below w'.heap.size w' w'' → I k w'')
    (hI : ∀ k l w' w'' rc, I k w' → w.heap.size ≤ l → w'.heap[l]? = some (.loop rc) → Only (· = l) w' w'' → I k w'')
    (hX : ∀ c l w' w'' rc, X c w' → w.heap.size ≤ l → w'.heap[l]? = some (.loop rc) → Only (· = l) w' w'' → X c w'')
    (h0 : I 0 w)
    (hround : ∀ k args l rc W1, xs[k]? = some args → I k W1 → w.heap.size < l → W1.heap[l]? = some (.loop rc) →
      assign.wpIn (Fence.wide.inRound l) 2 P (Exit.then (fun a1 w1 => Below W1.heap.size W1 w1 ∧ ∀ w2 rc', Only (· = l) w1 w2 → w2.heap[l]? = some (.loop rc') → body.wpIn (Fence.wide.inRound l) 2 P (RQ S I X k w2) a1 w2) (fun _ _ _ => False))
        { tmps := (ps.zip args).foldl (fun tmps (t, a) => tmps.setIfInBounds t a) a.tmps, defers := [] } W1)
    (hQ0 : ∀ w', I xs.length w' → w'.heap[w.heap.size]? = some (.deferred (some [])) → Q .normal { a with defers := { target := .collected w.heap.size, args := #[] } :: a.defers } w')
    (hQ1 : ∀ c w', X c w' → w'.heap[w.heap.size]? = some (.deferred (some [])) → c.wp P Q { a with defers := { target := .collected w.heap.size, args := #[] } :: a.defers } w') :
    (Code.rangeFunc g ps assign body).wp P Q a w := by
  refine wp_rangeFunc_wide hg eg fun fn => ?_
  have hl1 : w.heap.size < w.heap.size + 1 := Nat.lt_succ_self _
  have hput : ∀ {w' : World} {k : Nat} {rc : Loop} (o : Obj), I k w' → w'.heap[w.heap.size + 1]? = some (.loop rc) → I k (w'.putObj (w.heap.size + 1) o) := fun o h h' => hI _ _ _ _ _ h (by omega) h' (only_put o)
  refine (hit (w.heap.size + 1) _
    (fun k W => I k W ∧ W.heap[w.heap.size + 1]? = some (.loop (loopRec fn a.tmps ps assign body w.heap.size .ready none)) ∧ W.heap[w.heap.size]? = some (.deferred (some [])))
    (fun _ W => ∃ c, X c W ∧ W.heap[w.heap.size + 1]? = some (.loop (loopRec fn a.tmps ps assign body w.heap.size .done (some c))) ∧ W.heap[w.heap.size]? = some (.deferred (some [])))
    (fun k W h => hR k W h.1)
    (fun k W W' h hb => ⟨hB k W W' h.1 hb, (hb.block _ (Array.getElem?_eq_some_iff.1 h.2.1).1).trans h.2.1, (hb.block _ (Array.getElem?_eq_some_iff.1 h.2.2).1).trans h.2.2⟩)
    ?_ ?_).mono ?_
  · rintro k args W1 hk ⟨h1, h2, h3⟩
    have hsz := hps args (List.mem_of_getElem? hk)
    have hy := run_yield (P := P) (args := args) h2 hsz
    refine ⟨fn, _, assign, body, hy, roundIn_of_wpIn trivial ?_⟩
    refine wpIn_mono (hround k args (w.heap.size + 1) _ W1 hk h1 (by omega) h2) ?_
    rintro e a1 w1 he
    cases e with
    | normal =>
      obtain ⟨hb1, hbody⟩ := he
      have h2' : w1.heap[w.heap.size + 1]? = some (.loop (loopRec fn a.tmps ps assign body w.heap.size .ready none)) := (hb1.block _ (Array.getElem?_eq_some_iff.1 h2).1).trans h2
      have h3' : w1.heap[w.heap.size]? = some (.deferred (some [])) := (hb1.block _ (Array.getElem?_eq_some_iff.1 h3).1).trans h3
      have hbeg := run_beginRound (P := P) h2' rfl
      refine ⟨_, hbeg, ?_⟩
      have h4 : (w1.putObj (w.heap.size + 1) (.loop { loopRec fn a.tmps ps assign body w.heap.size .ready none with state := .busy })).heap[w.heap.size + 1]? = some (.loop (loopRec fn a.tmps ps assign body w.heap.size .busy none)) := by
        rw [World.putObj_heap_same (Array.getElem?_eq_some_iff.1 h2').1]
      have h5 : (w1.putObj (w.heap.size + 1) (.loop { loopRec fn a.tmps ps assign body w.heap.size .ready none with state := .busy })).heap[w.heap.size]? = some (.deferred (some [])) := (World.putObj_heap_other (by omega)).trans h3'
      refine wpIn_mono (hbody _ _ (only_put _) h4) ?_
      generalize w1.putObj (w.heap.size + 1) (.loop { loopRec fn a.tmps ps assign body w.heap.size .ready none with state := .busy }) = w2 at h4 h5 ⊢
      rintro e a3 w3 he
      have keep : Only S w2 w3 → w3.heap[w.heap.size + 1]? = some (.loop (loopRec fn a.tmps ps assign body w.heap.size .busy none)) ∧ w3.heap[w.heap.size]? = some (.deferred (some [])) := fun ho =>
        ⟨(ho.block _ (Array.getElem?_eq_some_iff.1 h4).1 (fun hs => by have := hS _ hs; omega)).trans h4, (ho.block _ (Array.getElem?_eq_some_iff.1 h5).1 (fun hs => by have := hS _ hs; omega)).trans h5⟩
      have jump : ∀ c, Only S w2 w3 ∧ X c w3 → ∃ v w', (Instr.endRound (w.heap.size + 1) (some c)).run P w3 = .ok v w' ∧ ((Ending.returned v = .returned (.bool true) ∧ I (k + 1) w' ∧ w'.heap[w.heap.size + 1]? = some (.loop (loopRec fn a.tmps ps assign body w.heap.size .ready none)) ∧ w'.heap[w.heap.size]? = some (.deferred (some []))) ∨ (Ending.returned v = .returned (.bool false) ∧ ∃ c, X c w' ∧ w'.heap[w.heap.size + 1]? = some (.loop (loopRec fn a.tmps ps assign body w.heap.size .done (some c))) ∧ w'.heap[w.heap.size]? = some (.deferred (some [])))) := fun c hc => by
        obtain ⟨k1, k2⟩ := keep hc.1
        refine ⟨_, _, run_endRound (P := P) (some c) k1, .inr ⟨rfl, c, hX _ _ _ _ _ hc.2 (by omega) k1 (only_put _), ?_, (World.putObj_heap_other (by omega)).trans k2⟩⟩
        rw [World.putObj_heap_same (Array.getElem?_eq_some_iff.1 k1).1]
        rfl
      cases e with
      | normal =>
        obtain ⟨k1, k2⟩ := keep he.1
        refine ⟨_, _, run_endRound (P := P) none k1, .inl ⟨rfl, hput _ he.2 k1, ?_, (World.putObj_heap_other (by omega)).trans k2⟩⟩
        rw [World.putObj_heap_same (Array.getElem?_eq_some_iff.1 k1).1]
        rfl
      | ret => exact jump .ret he
      | exit id => exact jump (.exit id) he
      | goto t => exact he.elim
      | panic c => exact he.elim
      | outgrown => exact he.elim
    | _ => exact he.elim
  · have hb := below_two w (.deferred (some [])) (.loop (loopRec fn a.tmps ps assign body w.heap.size .ready none))
    refine ⟨hB _ _ _ h0 hb, ?_, ?_⟩
    · have := World.alloc_heap_new (w.alloc (.deferred (some []))) (.loop (loopRec fn a.tmps ps assign body w.heap.size .ready none))
      rw [World.size_alloc] at this
      exact this
    · exact (Below.heap_alloc _ _ _ (by simp)).trans (World.alloc_heap_new w (.deferred (some [])))
  · rintro r W' ⟨⟨v, rfl⟩, (⟨hJ, hl, hd⟩ | ⟨k, c, hx, hl, hd⟩)⟩
    · exact ⟨none, _, run_endLoop (P := P) hl (by simp), hQ0 _ (hput _ hJ hl) ((World.putObj_heap_other (by omega)).trans hd)⟩
    · exact ⟨some c, _, run_endLoop (P := P) hl (by simp), wpIn_wide.2 (hQ1 c _ (hX _ _ _ _ _ hx (by omega) hl (only_put _)) ((World.putObj_heap_other (by omega)).trans hd))⟩
end Go.Proofs.YtljkgjfmambfoaaDoor

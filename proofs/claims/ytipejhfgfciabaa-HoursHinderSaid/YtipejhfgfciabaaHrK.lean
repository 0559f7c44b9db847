/- The best from a place on: the search. -/
import Derived.Test.YtipejhfgfciabaaHrJ
namespace Go.Proofs.Ytipejhfgfciabaa
open Go.RowKit Go.Shelf
attribute [local go_sem] Oper.semAt_some
/-- the loop over a function in a piece of code -/
def loopParts : Code → Option (Code × Code)
  | .rangeFunc _ _ a b => some (a, b)
  | .seq a b => match loopParts a with | some p => some p | none => loopParts b
  | .block _ c => loopParts c
  | .loop c => loopParts c
  | _ => none
theorem below_put (W : World) (l : Nat) (o : Obj) : Below l W (W.putObj l o) :=
  ⟨rfl, rfl, rfl, by simp, fun i hi => World.putObj_heap_other (by omega)⟩
theorem below_two (W : World) (o u : Obj) : Below W.heap.size W ((W.alloc o).alloc u) := (below_one W o).alloc (Nat.le_of_lt (by simp)) u
theorem leave_ret00 {W : World} {fn : Func} {tmps : Array Value} {R : Ending → World → Prop} {v : Value} (hr : (results fn tmps).run Try.prog W = .ok v W) (hR : R (.returned v) W) :
    LeavesInM Fence.wide 3 Try.prog fn tmps R [] .returning W := ⟨v, hr, hR⟩
theorem leave_ret0 {W : World} {D : Nat} {fn : Func} {tmps : Array Value} {R : Ending → World → Prop} {v : Value} (hD : W.heap[D]? = some (.deferred (some [])))
    (hr : (results fn tmps).run Try.prog (W.putObj D (.deferred none)) = .ok v (W.putObj D (.deferred none))) (hR : R (.returned v) (W.putObj D (.deferred none))) :
    LeavesInM Fence.wide 3 Try.prog fn tmps R [{ target := .collected D, args := #[] }] .returning W := by
  refine ⟨by simp, .inl ⟨D, _, rfl, run_takeDeferred hD, ?_⟩⟩
  exact ⟨v, hr, hR⟩
structure BS (S : Nat → Prop) (w0 w : World) (Bx BK BB BM : Nat) (x : Tt) (AH AG : Option Addr) (ch cg m : Nat) (p : Pl) (A : Option Addr) (c : Nat) (most : List Int) : Prop where
  mi : MI S w Bx BK BB BM x AH AG ch cg m
  o : Only (· = BM) w0 w
  fp : Has w w0.heap.size 75 (plc p)
  fm : Has w (w0.heap.size + 1) 26 #[.slice A most.length c]
  rm : IRowS S w A most
  lt : Bx < w0.heap.size ∧ BK < w0.heap.size ∧ BB < w0.heap.size ∧ BM < w0.heap.size
theorem BS.step {S : Nat → Prop} {w0 w w' : World} {Bx BK BB BM m : Nat} {x : Tt} {AH AG : Option Addr} {ch cg : Nat} {p : Pl} {A : Option Addr} {c : Nat} {most : List Int} (h : BS S w0 w Bx BK BB BM x AH AG ch cg m p A c most) (hb : Below w.heap.size w w') : BS S w0 w' Bx BK BB BM x AH AG ch cg m p A c most :=
  ⟨h.mi.step hb, h.o.andBelow hb, h.fp.below hb h.fp.lt, h.fm.below hb h.fm.lt, h.rm.step hb, h.lt⟩
/-- with the iterator's own -/
structure BL (S : Nat → Prop) (w0 w : World) (Bx BK BB BM : Nat) (x : Tt) (AH AG : Option Addr) (ch cg m : Nat) (p : Pl) (A : Option Addr) (c : Nat) (most : List Int) : Prop where
  s : BS S w0 w Bx BK BB BM x AH AG ch cg m p A c most
  ix : Has w (w0.heap.size + 2) 25 (ttc x AH AG ch cg)
  ip : Has w (w0.heap.size + 3) 75 (plc p)
  d : w.heap[w0.heap.size + 4]? = some (.deferred (some []))
theorem BL.step {S : Nat → Prop} {w0 w w' : World} {Bx BK BB BM m : Nat} {x : Tt} {AH AG : Option Addr} {ch cg : Nat} {p : Pl} {A : Option Addr} {c : Nat} {most : List Int} (h : BL S w0 w Bx BK BB BM x AH AG ch cg m p A c most) (hb : Below w.heap.size w w') : BL S w0 w' Bx BK BB BM x AH AG ch cg m p A c most :=
  ⟨h.s.step hb, h.ix.below hb h.ix.lt, h.ip.below hb h.ip.lt, (hb.block _ (Array.getElem?_eq_some_iff.1 h.d).1).trans h.d⟩
/-- a block that is no cells is written -/
theorem BL.put {S : Nat → Prop} {w0 w : World} {Bx BK BB BM m : Nat} {x : Tt} {AH AG : Option Addr} {ch cg : Nat} {p : Pl} {A : Option Addr} {c : Nat} {most : List Int} (h : BL S w0 w Bx BK BB BM x AH AG ch cg m p A c most) {l : Nat} (hl : w0.heap.size + 4 < l) {r : Loop} (hr : w.heap[l]? = some (.loop r)) (ob : Obj) : BL S w0 (w.putObj l ob) Bx BK BB BM x AH AG ch cg m p A c most := by
  have ho : Only (· = l) w (w.putObj l ob) := ⟨rfl, rfl, rfl, by simp, fun k _ hn => World.putObj_heap_other (fun e => hn e)⟩
  have hD : ∀ o n, w.cell? ⟨l, o, none⟩ ≠ some (.int .i64 n) := fun o n e => by simp [World.cell?, hr] at e
  have hlt := h.s.lt
  exact ⟨⟨h.s.mi.only ho ⟨by omega, by omega, by omega, by omega⟩ hD, h.s.o.from_ ho (fun i hi e => by have e' : i = l := e; omega), h.s.fp.only ho (by show ¬ w0.heap.size = l; omega), h.s.fm.only ho (by show ¬ w0.heap.size + 1 = l; omega), h.s.rm.only ho hD, hlt⟩, h.ix.only ho (by show ¬ w0.heap.size + 2 = l; omega), h.ip.only ho (by show ¬ w0.heap.size + 3 = l; omega), (ho.block _ (Array.getElem?_eq_some_iff.1 h.d).1 (by show ¬ w0.heap.size + 4 = l; omega)).trans h.d⟩
/-- what is most is written -/
theorem BL.setM {S : Nat → Prop} {w0 w : World} {Bx BK BB BM m : Nat} {x : Tt} {AH AG : Option Addr} {ch cg : Nat} {p : Pl} {A A' : Option Addr} {c c' : Nat} {most most' : List Int} (h : BL S w0 w Bx BK BB BM x AH AG ch cg m p A c most) (hr : IRowS S w A' most') : BL S w0 (w.setCell ⟨w0.heap.size + 1, 0, none⟩ (.slice A' most'.length c')) Bx BK BB BM x AH AG ch cg m p A' c' most' := by
  have ho : Only (· = w0.heap.size + 1) w (w.setCell ⟨w0.heap.size + 1, 0, none⟩ (.slice A' most'.length c')) := (Only.refl (· = w0.heap.size + 1) w).setCell (p := ⟨w0.heap.size + 1, 0, none⟩) (.inl rfl) _
  have hD : ∀ o n, w.cell? ⟨w0.heap.size + 1, o, none⟩ ≠ some (.int .i64 n) := fun o n e => by
    rw [h.s.fm.cell o] at e
    match o, e with
    | 0, e => simp at e
    | o + 1, e => simp at e
  have hlt := h.s.lt
  exact ⟨⟨h.s.mi.only ho ⟨by omega, by omega, by omega, by omega⟩ hD, h.s.o.from_ ho (fun i hi e => by have e' : i = w0.heap.size + 1 := e; omega), h.s.fp.only ho (by show ¬ w0.heap.size = w0.heap.size + 1; omega), h.s.fm.set 0 _, hr.only ho hD, hlt⟩, h.ix.only ho (by show ¬ w0.heap.size + 2 = w0.heap.size + 1; omega), h.ip.only ho (by show ¬ w0.heap.size + 3 = w0.heap.size + 1; omega), (ho.block _ (Array.getElem?_eq_some_iff.1 h.d).1 (by show ¬ w0.heap.size + 4 = w0.heap.size + 1; omega)).trans h.d⟩
/-- the map is written, and new blocks are made -/
theorem BL.wrote {S : Nat → Prop} {w0 w w' : World} {Bx BK BB BM m m' : Nat} {x : Tt} {AH AG : Option Addr} {ch cg : Nat} {p : Pl} {A : Option Addr} {c : Nat} {most : List Int} (h : BL S w0 w Bx BK BB BM x AH AG ch cg m p A c most) (ho : Only (· = BM) w w') (hm : MI S w' Bx BK BB BM x AH AG ch cg m') : BL S w0 w' Bx BK BB BM x AH AG ch cg m' p A c most := by
  have hlt := h.s.lt
  have hD := h.s.mi.notInt
  exact ⟨⟨hm, h.s.o.trans ho, h.s.fp.only ho (by show ¬ w0.heap.size = BM; omega), h.s.fm.only ho (by show ¬ w0.heap.size + 1 = BM; omega), h.s.rm.only ho hD, hlt⟩, h.ix.only ho (by show ¬ w0.heap.size + 2 = BM; omega), h.ip.only ho (by show ¬ w0.heap.size + 3 = BM; omega), (ho.block _ (Array.getElem?_eq_some_iff.1 h.d).1 (by show ¬ w0.heap.size + 4 = BM; omega)).trans h.d⟩
abbrev loopRec82 (tmps : Array Value) (assign body : Code) (D : Nat) (st : LoopState) (pe : Option Code) : Loop := loopRec 82 tmps #[33, 34] assign body D st pe
end Go.Proofs.Ytipejhfgfciabaa

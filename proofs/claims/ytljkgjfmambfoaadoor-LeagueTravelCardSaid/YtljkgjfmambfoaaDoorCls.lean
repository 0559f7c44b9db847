/- Regions that draw their order, walked once, in whatever worlds have a property that every callee keeps. -/
import Derived.Shelf.SlSortCmp.QuietGrown
import Derived.Test.YtljkgjfmambfoaaDoorMem
namespace Go.Proofs.YtljkgjfmambfoaaDoor
open Go
structure Cls (S : World → Prop) where
  w : World
  h : S w
theorem wp_region_cls {P : Program} {id : Nat} {Q : Exit → Act → World → Prop} {a : Act} {w : World} {l : List Oper} (S : World → Prop) (hm : P.follows .mixedOrders = true) (hB : Region.lexB .any l.toArray = true) (h0 : S w.drew)
    (h : wpQuiet P l.toArray (fun w' => ∃ p : Cls S, w' = p.w) (fun a' => ∀ w', (∃ p : Cls S, w' = p.w) → Q .normal a' w') l a) : (Code.region id l.toArray true).wp P Q a w :=
  wp_region_quiet (C := fun w' => ∃ p : Cls S, w' = p.w) hm hB ⟨⟨_, h0⟩, rfl⟩ (by simpa using h)
theorem cls_call {P : Program} {f : FuncId} {args : Array Value} {S : World → Prop} {v : Value} (h : ∀ w, S w → Calls P f args w fun e w' => e = .returned v ∧ S w') (p : Cls S) :
    Calls P f args p.w fun e w'' => e = .returned v ∧ ∃ p' : Cls S, w'' = p'.w :=
  (h p.w p.h).mono fun _ w' ⟨he, hs⟩ => ⟨he, ⟨w', hs⟩, rfl⟩
end Go.Proofs.YtljkgjfmambfoaaDoor

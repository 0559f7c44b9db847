/- The law of Less: its walk. -/
import Derived.Test.YtfdjoldcdfbfhaaLsA
import Derived.Deep.DeepCutAuto
import Derived.Deep.RegionHeld3
namespace Go.Proofs.Ytfdjoldcdfbfhaa
open Go.Shelf Go.RowKit
/-- the law's own block -/
structure Lb (W w : World) (cs : Array Value) : Prop where
  b : Below W.heap.size W w
  v : Has w W.heap.size 24 cs
theorem Lb.below {W w w' : World} {cs : Array Value} (h : Lb W w cs) (hb : Below w.heap.size w w') : Lb W w' cs := ⟨h.b.trans (hb.mono h.b.size), h.v.below hb h.v.lt⟩
/-- two blocks of one content, made one behind the other -/
structure Tw (w w' : World) (x y : Nat) (a : Array Value) : Prop where
  b : Below w.heap.size w w'
  h : Has w' x 24 a
  k : Has w' y 24 a
  n : x ≠ y
  hx : w.heap.size ≤ x
  hy : w.heap.size ≤ y
theorem Has.newAt {w : World} {t : TypeId} {cs : Array Value} {n : Nat} (h : w.heap.size = n) : Has (w.alloc (.cells cs t)) n t cs := by subst h; exact Has.new _ _ _
theorem below_dr {B : Nat} {w w' : World} (h : Below B w w') : Below B w w'.drew := ⟨h.os, h.tape, h.output, h.size, h.block⟩
theorem tw1 (w : World) (a : Array Value) : Tw w ((w.alloc (.cells a 24)).alloc (.cells a 24)).drew w.heap.size (w.heap.size + 1) a :=
  ⟨below_dr ((below_one _ _).alloc (by simp) _), ((Has.new _ _ _).alloc _).drew, (Has.newAt (by simp)).drew, by omega, by omega, by omega⟩
theorem tw2 (w : World) (a : Array Value) : Tw w ((w.alloc (.cells a 24)).alloc (.cells a 24)).drew (w.heap.size + 1) w.heap.size a :=
  ⟨below_dr ((below_one _ _).alloc (by simp) _), (Has.newAt (by simp)).drew, ((Has.new _ _ _).alloc _).drew, by omega, by omega, by omega⟩
theorem grown_copy {w w5 : World} {l : List Sn} {g1 cap1 : Nat} (hown : w5.ownsRow w.heap.size 56 3 (.slice (some ⟨g1, 0, none⟩) (0 + l.length) cap1) (0 + l.length) ([] ++ snl l)) (hgr : (w.alloc (.cells #[] 56)).grownBy w5 (Value.slice (some ⟨w.heap.size, 0, none⟩) 0 0).ownBlock)
    (hgg : (Value.slice (some ⟨w.heap.size, 0, none⟩) 0 0).ownBlock = some g1 ∨ g1 = (w.alloc (.cells #[] 56)).heap.size) : ∃ cur, Below w.heap.size w w5 ∧ w.heap.size ≤ g1 ∧ Has w5 g1 56 cur ∧ cur.toList.take (l.length * 3) = snl l := by
  have hgW : w.heap.size ≤ g1 := by
    rcases hgg with h | h
    · have : w.heap.size = g1 := Option.some.inj h
      omega
    · simp at h; omega
  obtain ⟨_, (⟨h, -⟩ | ⟨g2, cap2, cur, he, hB, hgc, q1, q2, q3, q4⟩)⟩ := hown
  · cases h
  · simp only [Value.slice.injEq, Option.some.injEq, Addr.mk.injEq, and_true] at he
    obtain ⟨rfl, -, rfl⟩ := he
    refine ⟨cur, ?_, hgW, hgc, by simpa using q4⟩
    have h1 := (below_one w (.cells #[] 56))
    exact ⟨hgr.os.trans h1.os, hgr.tape.trans h1.tape, hgr.output.trans h1.output, Nat.le_trans h1.size hgr.size, fun k hk => (hgr.block k (by simp; omega) (by simp only [Value.ownBlock, ne_eq, Option.some.injEq]; omega)).trans (h1.block k hk)⟩
theorem cur_cell {cur : Array Value} {l : List Sn} (h : cur.toList.take (l.length * 3) = snl l) {i j : Nat} (hi : i < l.length) (hj : j < 3) : cur[i * 3 + j]? = (sn3 l[i])[j]? := by
  have h1 := flat_get sn3 3 (fun _ => rfl) l i hi j hj
  have h2 : (cur.toList.take (l.length * 3))[i * 3 + j]? = cur[i * 3 + j]? := by
    rw [List.getElem?_take, if_pos (by omega)]; simp
  rw [← h2, h]; exact h1
theorem nrow_set {w : World} {g : Nat} {cur : Array Value} {l : List Sn} (h : cur.toList.take (l.length * 3) = snl l) {k : Nat} (hk : k < l.length) {r : Int} (hh : Has w g 56 (cur.setIfInBounds (k * 3 + 2) (.int .i64 r))) :
    NRow w w.heap.size (some ⟨g, 0, none⟩) (l.set k ⟨l[k].f, l[k].e, r⟩) := by
  intro i hi
  have hi' : i < l.length := by simpa using hi
  have hc := fun (j : Nat) (hj : j < 3) => cur_cell h hi' hj
  have hz : k * 3 + 2 < cur.size := by
    have := cur_cell h hk (j := 2) (by omega)
    rcases Nat.lt_or_ge (k * 3 + 2) cur.size with h' | h'
    · exact h'
    · rw [Array.getElem?_eq_none h'] at this; cases this
  refine ⟨g, 0, rfl, hh.lt, ?_, ?_, ?_⟩
  · rw [show 0 + i * 3 = i * 3 + 0 by omega, hh.cell, Array.getElem?_setIfInBounds_ne (by omega), hc 0 (by omega), List.getElem_set]
    split
    · rename_i e; subst e; rfl
    · rfl
  · rw [show 0 + i * 3 + 1 = i * 3 + 1 by omega, hh.cell, Array.getElem?_setIfInBounds_ne (by omega), hc 1 (by omega), List.getElem_set]
    split
    · rename_i e; subst e; rfl
    · rfl
  · rw [show 0 + i * 3 + 2 = i * 3 + 2 by omega, hh.cell, List.getElem_set]
    split
    · rename_i e; subst e; rw [Array.getElem?_setIfInBounds_self_of_lt hz]
    · rw [Array.getElem?_setIfInBounds_ne (by omega), hc 2 (by omega)]; rfl
end Go.Proofs.Ytfdjoldcdfbfhaa

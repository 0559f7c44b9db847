/- Rows of sensors; a copy of one; the sort; inOrder. -/
import Derived.Test.YtfdjoldcdfbfhaaSoB
import Derived.Deep.AppendLies
import Derived.OwnWalk
import Derived.StillTailTactics
import Derived.Lib.SliceRun
namespace Go.Proofs.Ytfdjoldcdfbfhaa
open Go.Shelf Go.RowKit Go.Lib Go.Sort
def sn3 (s : Sn) : List Value := [.int .i64 s.f, .int .i64 s.e, .int .i64 s.r]
def snl (l : List Sn) : List Value := l.flatMap sn3
theorem flat_get {α : Type} (f : α → List Value) (n : Nat) (hf : ∀ a, (f a).length = n) (l : List α) (i : Nat) (h : i < l.length) (j : Nat) (hj : j < n) : (l.flatMap f)[i * n + j]? = (f l[i])[j]? := by
  induction l generalizing i with
  | nil => exact absurd h (by simp)
  | cons a l ih =>
    cases i with
    | zero =>
      simp only [List.flatMap_cons, Nat.zero_mul, Nat.zero_add, List.getElem_cons_zero]
      rw [List.getElem?_append_left (by rw [hf]; exact hj)]
    | succ i =>
      simp only [List.flatMap_cons, List.getElem_cons_succ]
      rw [List.getElem?_append_right (by rw [hf, Nat.succ_mul]; omega), ← ih i (by simpa using h)]
      congr 1
      rw [hf, Nat.succ_mul]; omega
theorem flat_len {α : Type} (f : α → List Value) (n : Nat) (hf : ∀ a, (f a).length = n) (l : List α) : (l.flatMap f).length = l.length * n := by
  induction l with
  | nil => simp
  | cons a l ih => rw [List.flatMap_cons, List.length_append, ih, hf, List.length_cons, Nat.succ_mul]; omega
theorem snl_len (l : List Sn) : (snl l).length = l.length * 3 := flat_len sn3 3 (fun _ => rfl) l
theorem snl_one (l : List Sn) : ∀ u ∈ snl l, u.oneCell' = true := by
  intro u hu
  unfold snl at hu
  simp only [List.mem_flatMap] at hu
  obtain ⟨z, _, hz⟩ := hu
  simp only [sn3, List.mem_cons, List.not_mem_nil, or_false] at hz
  rcases hz with rfl | rfl | rfl <;> rfl
/-- a row of sensors that lies below B -/
def NRow (w : World) (B : Nat) (A : Option Addr) (l : List Sn) : Prop :=
  ∀ k (h : k < l.length), ∃ g o, A = some ⟨g, o, none⟩ ∧ g < B ∧ w.cell? ⟨g, o + k * 3, none⟩ = some (.int .i64 l[k].f) ∧ w.cell? ⟨g, o + k * 3 + 1, none⟩ = some (.int .i64 l[k].e) ∧ w.cell? ⟨g, o + k * 3 + 2, none⟩ = some (.int .i64 l[k].r)
theorem NRow.below {w w' : World} {B : Nat} {A : Option Addr} {l : List Sn} (h : NRow w B A l) (hb : Below B w w') : NRow w' B A l := fun k hk => by
  obtain ⟨g, o, e, hg, c0, c1, c2⟩ := h k hk
  exact ⟨g, o, e, hg, (hb.cell (p := ⟨g, _, none⟩) hg).trans c0, (hb.cell (p := ⟨g, _, none⟩) hg).trans c1, (hb.cell (p := ⟨g, _, none⟩) hg).trans c2⟩
theorem NRow.more {w : World} {B B' : Nat} {A : Option Addr} {l : List Sn} (h : NRow w B A l) (hB : B ≤ B') : NRow w B' A l := fun k hk => by
  obtain ⟨g, o, e, hg, c⟩ := h k hk
  exact ⟨g, o, e, by omega, c⟩
theorem NRow.step {w w' : World} {A : Option Addr} {l : List Sn} (h : NRow w w.heap.size A l) (hb : Below w.heap.size w w') : NRow w' w'.heap.size A l := (h.below hb).more hb.size
theorem addr_add (g o j : Nat) : (⟨g, o, none⟩ : Addr).add j = ⟨g, o + j, none⟩ := by unfold Addr.add; split <;> simp_all
theorem nrow_cells {w : World} {B : Nat} {A : Option Addr} {l : List Sn} (h : NRow w B A l) (ad : Addr) (hA : A = some ad) : ∀ j u, (snl l)[j]? = some u → w.cell? (ad.add j) = some u := by
  intro j u hu
  have hj : j < l.length * 3 := by have := (List.getElem?_eq_some_iff.1 hu).1; rwa [snl_len] at this
  have hk : j / 3 < l.length := by omega
  obtain ⟨g, o, e, _, x0, x1, x2⟩ := h (j / 3) hk
  rw [hA] at e; cases e
  rw [addr_add]
  have y : ∀ i, i < 3 → (snl l)[j / 3 * 3 + i]? = (sn3 l[j / 3])[i]? := fun i hi => flat_get sn3 3 (fun _ => rfl) l (j / 3) hk i hi
  have h3 : j = j / 3 * 3 ∨ j = j / 3 * 3 + 1 ∨ j = j / 3 * 3 + 2 := by omega
  rcases h3 with e | e | e
  · have y0 := y 0 (by omega); rw [Nat.add_zero, ← e, hu] at y0; cases y0; rw [show o + j = o + j / 3 * 3 by omega]; exact x0
  · have y0 := y 1 (by omega); rw [← e, hu] at y0; cases y0; rw [show o + j = o + j / 3 * 3 + 1 by omega]; exact x1
  · have y0 := y 2 (by omega); rw [← e, hu] at y0; cases y0; rw [show o + j = o + j / 3 * 3 + 2 by omega]; exact x2
theorem own_made (w : World) (e : TypeId) (size : Nat) : (w.alloc (.cells #[] e)).ownsRow w.heap.size e size (.slice (some ⟨w.heap.size, 0, none⟩) 0 0) 0 [] :=
  ⟨by simp, .inr ⟨w.heap.size, 0, #[], rfl, Nat.le_refl _, by have := Has.new w e #[]; simpa [Has] using this, Nat.le_refl _, by unfold maxLen; omega, by simp, by simp⟩⟩
theorem Try.info56 : (Try.prog.info? 56).map (fun i => (i.zero, i.size, i.bytes)) = some (some (.agg #[.int .i64 0, .int .i64 0, .int .i64 0]), 3, 24) := by kernel_rfl
/-- a copy of a row, in a block of its own -/
def CopyPost (l : List Sn) (W : World) (e : Ending) (W' : World) : Prop :=
  ∃ g cap cur, e = .returned (.slice (some ⟨g, 0, none⟩) l.length cap) ∧ Below W.heap.size W W' ∧ W.heap.size ≤ g ∧ Has W' g 56 cur ∧ cur.toList.take (l.length * 3) = snl l
set_option maxRecDepth 100000 in
set_option maxHeartbeats 1000000 in
theorem clone_any (l : List Sn) (A : Option Addr) (cap : Nat) (W : World) (hr : NRow W W.heap.size A l) (h1 : 1 ≤ l.length) (h12 : l.length ≤ 20) :
    Calls Try.prog 63 #[.slice A l.length cap] W (CopyPost l W) := by
  obtain ⟨i0, hi, hz0, hz1, hz2⟩ := info_parts Try.info56
  obtain ⟨g, o, rfl, hg, -⟩ := hr 0 (by omega)
  have HR := Lib.hid hr
  clear hr
  have hm := Lib.hid (own_made W 56 3)
  have hsl : ∀ w, (binOp .eql 22 (.slice (some ⟨g, o, none⟩) l.length cap) (.slice none 0 0)).run Try.prog w = .ok (.bool false) w := fun w => run_eql_slice_nil w 22 56 _ _ _ _ _ Try.underlying22
  go_enter Try.func63, Try.ntmps63
  go_wp2_with (at_builtin; refine wpList_append_lies _ rfl _ _ 22 rfl W.heap.size 56 i0 (.agg #[.int .i64 0, .int .i64 0, .int .i64 0]) 3 24 Try.underlying22 hi hz0 hz1 hz2 rfl (by decide) (.slice (some ⟨W.heap.size, 0, none⟩) 0 0) 0 [] rfl hm.out ⟨g, o, none⟩ l.length cap (snl l) rfl ?q1 ?q2 ?q3 ?q4 ?q5 ?q6 ?q7 _ rfl ?_)
  case q1 => exact snl_len l
  case q2 => exact nrow_cells (HR.out.below (below_one W _)) _ rfl
  case q3 => exact snl_one l
  case q4 => omega
  case q5 => unfold maxLen; omega
  case q6 => omega
  case q7 => simp
  rintro g1 cap1 w1 hown hgr hgg hlt
  have HO := Lib.hid (And.intro hown (And.intro hgr (And.intro hgg hlt)))
  clear hown hgr hgg hlt
  go_wp2_with fail
  go_ret
  obtain ⟨hown, hgr, hgg, hlt⟩ := HO.out
  have hgW : W.heap.size ≤ g1 := by
    rcases hgg with h | h
    · have : W.heap.size = g1 := Option.some.inj h
      omega
    · omega
  obtain ⟨_, (⟨h, -⟩ | ⟨g2, cap2, cur, he, hB, hgc, q1, q2, q3, q4⟩)⟩ := hown
  · cases h
  · simp only [Value.slice.injEq, Option.some.injEq, Addr.mk.injEq, and_true] at he
    obtain ⟨⟨rfl, -⟩, -, rfl⟩ := he
    refine ⟨g1, cap1, cur, rfl, ?_, hgW, hgc, by simpa using q4⟩
    have h1 := (below_one W (.cells #[] 56))
    exact ⟨hgr.os.trans h1.os, hgr.tape.trans h1.tape, hgr.output.trans h1.output, Nat.le_trans h1.size hgr.size, fun k hk => (hgr.block k (by simp; omega) (by simp only [Value.ownBlock, ne_eq, Option.some.injEq]; omega)).trans (h1.block k hk)⟩
/-- valid sensors -/
def VSn : Type := {s : Sn // vS s}
instance : Inhabited VSn := ⟨⟨⟨0, 1, 0⟩, by unfold vS; simp⟩⟩
def encV (x : VSn) : List Value := sn3 x.1
theorem encV_len (x : VSn) : (encV x).length = 3 := rfl
theorem encV_one (x : VSn) : ∀ v ∈ encV x, v.oneCell' = true := by
  intro v hv
  simp only [encV, sn3, List.mem_cons, List.not_mem_nil, or_false] at hv
  rcases hv with rfl | rfl | rfl <;> rfl
theorem ltOf_key (key : Sn → Int) (x y : VSn) : ltOf (fun x y : VSn => compareInt (key x.1) (key y.1)) x y = decide (key x.1 < key y.1) := by
  unfold ltOf compareInt
  by_cases h1 : key x.1 < key y.1
  · simp [h1]
  · by_cases h2 : key y.1 < key x.1 <;> simp [h1, h2]
theorem swo_key (key : Sn → Int) : SWO (ltOf fun x y : VSn => compareInt (key x.1) (key y.1)) where
  irrefl x := by rw [ltOf_key]; simp
  trans x y z h1 h2 := by rw [ltOf_key] at *; simp at *; omega
  ntrans x y z h1 h2 := by rw [ltOf_key] at *; simp at *; omega
theorem flatK_get (d : Array VSn) (j : Nat) (hj : j < d.size * 3) : (snl (d.toList.map (·.1)))[j]? = some (flatK encV 3 d)[j]! := by
  have hk : j / 3 < (d.toList.map (·.1)).length := by simp; omega
  have hk' : j / 3 < d.size := by omega
  have hm : j % 3 < 3 := Nat.mod_lt _ (by omega)
  have := flat_get sn3 3 (fun _ => rfl) (d.toList.map (·.1)) (j / 3) hk (j % 3) hm
  rw [show j / 3 * 3 + j % 3 = j by omega] at this
  unfold snl
  rw [this, get_flatK encV 3 d j hj, getElem!_pos d (j / 3) hk']
  simp only [List.getElem_map, Array.getElem_toList, encV]
  generalize d[j / 3].1 = s
  have h3 : j % 3 = 0 ∨ j % 3 = 1 ∨ j % 3 = 2 := by omega
  rcases h3 with h | h | h <;> rw [h] <;> rfl
theorem holds_of_has {W : World} {g : Nat} {cur : Array Value} (d : Array VSn) (h : Has W g 56 cur) (hc : cur.toList.take (d.size * 3) = snl (d.toList.map (·.1))) : HoldsK encV 3 W g 0 d := by
  intro j hj
  rw [size_flatK] at hj
  refine ⟨?_, h.frozen _⟩
  rw [h.cell, Nat.zero_add]
  have h1 := flatK_get d j hj
  rw [← hc, List.getElem?_take_of_lt hj] at h1
  simpa using h1
theorem nrow_of_holds {W : World} {g : Nat} {d : Array VSn} (h : HoldsK encV 3 W g 0 d) (hg : g < W.heap.size) : NRow W W.heap.size (some ⟨g, 0, none⟩) (d.toList.map (·.1)) := by
  intro k hk
  have hk' : k < d.size := by simpa using hk
  refine ⟨g, 0, rfl, hg, ?_, ?_, ?_⟩
  · have := (h.cell (i := k) (c := 0) hk' (by omega)).1
    rw [getElem!_pos d k hk'] at this
    simpa [encV, sn3] using this
  · have := (h.cell (i := k) (c := 1) hk' (by omega)).1
    rw [getElem!_pos d k hk'] at this
    simpa [encV, sn3] using this
  · have := (h.cell (i := k) (c := 2) hk' (by omega)).1
    rw [getElem!_pos d k hk'] at this
    simpa [encV, sn3] using this
theorem sortWorld_below (w : World) (blk off m : Nat) (dk : Array VSn) (os : Array Obj) (hb : blk < w.heap.size) : Below blk w (sortWorldK encV 3 w blk off m dk os) := by
  unfold sortWorldK
  refine ⟨rfl, rfl, rfl, by rw [size_grow, size_putRowK]; exact Nat.le_add_right _ _, fun k hk => ?_⟩
  show ((putRowK encV 3 (Sort.ahead w m) blk off dk).heap ++ os)[k]? = w.heap[k]?
  rw [Array.getElem?_append_left (by rw [size_putRowK]; show k < w.heap.size; omega)]
  show (w.heap.modify blk _)[k]? = _
  rw [Array.getElem?_modify, if_neg (by omega)]
theorem isAgg56 : ∀ w, (isAgg 56).run Try.prog w = .ok true w := Try.isAgg56
theorem sizeOf56 : ∀ w, (Go.sizeOf 56).run Try.prog w = .ok 3 w := Try.sizeOf56
end Go.Proofs.Ytfdjoldcdfbfhaa

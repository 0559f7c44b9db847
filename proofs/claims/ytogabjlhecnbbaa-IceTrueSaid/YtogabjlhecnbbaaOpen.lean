/- Arguments opened: rows of zones, events, bearings, numbers; spans. -/
import Derived.Test.YtogabjlhecnbbaaPost
import Derived.Test.YtogabjlhecnbbaaIceAlive
import Derived.Test.YtogabjlhecnbbaaIceBreak
import Derived.Carry
import Derived.Deep.Slices
namespace Go.Proofs.Ytogabjlhecnbbaa
open Go.ChangeShapes Go.WideShapes Go.ChangeAt Go.RowKit Go.Deep
def Wf (n : Int) : Prop := (Lit.int .i64 n).wf = true
theorem Wf.bd {n : Int} (h : Wf n) : -9223372036854775808 ≤ n ∧ n ≤ 9223372036854775807 := by
  have := Go.bounds_i64 h
  omega
theorem getD_at {xs : List Int} {j : Nat} (h : j < xs.length) : xs.getD j 0 = xs[j] := by simp [h]
theorem list1 {α : Type} {l : List α} (h : l.length = 1) : ∃ a, l = [a] := by
  match l, h with | [a], _ => exact ⟨a, rfl⟩
theorem list2 {α : Type} {l : List α} (h : l.length = 2) : ∃ a b, l = [a, b] := by
  match l, h with | [a, b], _ => exact ⟨a, b, rfl⟩
theorem list4 {α : Type} {l : List α} (h : l.length = 4) : ∃ a b c d, l = [a, b, c, d] := by
  match l, h with | [a, b, c, d], _ => exact ⟨a, b, c, d, rfl⟩
theorem list5 {α : Type} {l : List α} (h : l.length = 5) : ∃ a b c d e, l = [a, b, c, d, e] := by
  match l, h with | [a, b, c, d, e], _ => exact ⟨a, b, c, d, e, rfl⟩
section
variable {H : Type} {enc : TypeId × Value → H} {P : Program} {w : World} {base : Nat} {spare : Nat → Bool} {held : Bool}
theorem struct_field {fs : Array Field} {t : TypeId} {fuel : Nat} {cs : List Value} {x : DataW H × List MemPlace} (ht : P.underlying t = some (.struct fs)) (h : DataW.trod enc P w base spare held fuel t cs = some x) :
    cs.length = P.cellsOf t ∧ ∀ (i : Nat) (T : TypeId) (o c : Nat), (fs[i]?.map fun f => (f.type, f.offset)) = some (T, o) → P.cellsOf T = c → ∃ n y, DataW.trod enc P w base spare held n T ((cs.drop o).take c) = some y := by
  obtain ⟨xs, n, -, rfl, hl, hlen, hf⟩ := DataW.trod_struct ht h
  refine ⟨hl, fun i T o c hi hc => ?_⟩
  obtain ⟨f, hi', he⟩ := Option.map_eq_some_iff.1 hi
  simp only [Prod.mk.injEq] at he
  obtain ⟨rfl, rfl⟩ := he
  subst hc
  have h1 := hf i f hi'
  have hil : i < fs.size := (Array.getElem?_eq_some_iff.1 hi').1
  exact ⟨n, _, h1.trans (List.getElem?_eq_getElem (by omega))⟩
theorem int_cell {t : TypeId} {fuel : Nat} {c : Value} {x : DataW H × List MemPlace} (ht : P.underlying t = some (.int .i64)) (h : DataW.trod enc P w base spare held fuel t [c] = some x) : ∃ n, c = iv n ∧ Wf n := by
  obtain ⟨n, e, _, hw⟩ := DataW.trod_int ht h
  exact ⟨n, by simpa using e, hw⟩
/-- cells that are numbers -/
def Nums (cs : List Value) (xs : List Int) : Prop := cs = xs.map iv ∧ ∀ x ∈ xs, Wf x
/-- a row of k cells each -/
def RowL (w : World) (A : Option Addr) (k : Nat) (L : List (List Int)) : Prop :=
  ∀ i (h : i < L.length), ∃ g o, A = some ⟨g, o, none⟩ ∧ g < w.heap.size ∧ ∀ j (hj : j < L[i].length), w.cell? ⟨g, o + (i * k + j), none⟩ = some (iv L[i][j])
theorem cell_spot {a : Addr} {v : Value} (h : w.cell? a = some v) : a.spot = none ∧ a.block < w.heap.size := by
  unfold World.cell? at h
  cases hh : w.heap[a.block]? with
  | none => rw [hh] at h; cases h
  | some o =>
    rw [hh] at h
    refine ⟨?_, (Array.getElem?_eq_some_iff.1 hh).1⟩
    cases o with
    | cells c e f =>
      cases hs : a.spot with
      | none => rfl
      | some s => simp [hs] at h
    | _ => cases h
theorem add_some {a : Addr} (h : a.spot = none) (i : Nat) : a.add i = ⟨a.block, a.off + i, none⟩ := by
  obtain ⟨b, o, s⟩ := a
  cases h
  unfold Addr.add
  by_cases hi : i = 0
  · subst hi; rfl
  · simp [hi]
theorem open_row {t E : TypeId} {k : Nat} (hk0 : 0 < k) (ht : P.underlying t = some (.slice E)) (hk : P.cellsOf E = k)
    (he : ∀ n cs x, DataW.trod enc P w base spare held n E cs = some x → ∃ xs : List Int, Nums cs xs ∧ xs.length = k)
    {r : Reach} {b0 : Nat} {v : Value} {d : DataW H} {p : List MemPlace} (hv : Value.okWide P w r b0 t v) (h : DataW.Trod enc P w base spare held t v d p) :
    ∃ (L : List (List Int)) (A : Option Addr) (cap : Nat), v = .slice A L.length cap ∧ L.length ≤ cap ∧ cap ≤ maxLen ∧ (∀ xs ∈ L, xs.length = k ∧ ∀ x ∈ xs, Wf x) ∧ RowL w A k L := by
  obtain ⟨A0, len0, cap0, rfl⟩ := okWide_slice ht hv
  obtain ⟨fuel, hf⟩ := h
  rcases open_slice ht hf with ⟨h0, -⟩ | ⟨a, len, cap, m, n, D, Pl, hcs, -, hl, hm, hmm, -, hx⟩
  · simp [Value.cells] at h0
    obtain ⟨rfl, rfl, rfl⟩ := h0
    exact ⟨[], none, 0, rfl, by simp, by simp [maxLen], by simp, fun i h => absurd h (by simp)⟩
  · simp [Value.cells] at hcs
    obtain ⟨rfl, rfl, rfl⟩ := hcs
    have hlm : len0 ≤ m := by rw [hmm]; split <;> omega
    have hall : ∀ i, i < len0 → ∃ xs : List Int, (xs.length = k ∧ ∀ x ∈ xs, Wf x) ∧ ∀ j (hj : j < xs.length), w.cell? (a.add (i * k + j)) = some (iv xs[j]) := fun i hi => by
      obtain ⟨cs', hc, ht'⟩ := hx i (by omega)
      rw [hk] at hc
      obtain ⟨-, hcl, hat⟩ := World.cells?_some hc
      obtain ⟨xs, ⟨rfl, hw⟩, hxl⟩ := he _ _ _ ht'
      refine ⟨xs, ⟨hxl, hw⟩, fun j hj => ?_⟩
      have := hat j (by omega)
      rw [add_add] at this
      rw [this]
      simp [hj]
    obtain ⟨f, hfs⟩ := choose_lt hall
    refine ⟨(List.range len0).map f, some a, cap0, by simp, by simpa using hl, hm, ?_, ?_⟩
    · intro xs hxs
      obtain ⟨i, hi, rfl⟩ := List.mem_map.1 hxs
      exact (hfs i (List.mem_range.1 hi)).1
    · intro i hi
      have hi' : i < len0 := by simpa using hi
      have h00 := (hfs 0 (by omega)).2 0 (by have := (hfs 0 (by omega)).1.1; omega)
      rw [show 0 * k + 0 = 0 by omega, show a.add 0 = a from rfl] at h00
      obtain ⟨hs, hb⟩ := cell_spot h00
      refine ⟨a.block, a.off, by obtain ⟨_, _, _⟩ := a; cases hs; rfl, hb, fun j hj => ?_⟩
      simp only [List.getElem_map, List.getElem_range] at hj ⊢
      have := (hfs i hi').2 j hj
      rw [add_some hs] at this
      exact this
end
section
variable {H : Type} {enc : TypeId × Value → H} {w : World} {base : Nat} {spare : Nat → Bool} {held : Bool}
theorem cells27 : Try.prog.cellsOf 27 = 2 := by kernel_rfl
theorem cells60 : Try.prog.cellsOf 60 = 4 := by kernel_rfl
theorem cells54 : Try.prog.cellsOf 54 = 5 := by kernel_rfl
theorem cells51 : Try.prog.cellsOf 51 = 2 := by kernel_rfl
theorem cells3 : Try.prog.cellsOf 3 = 1 := by kernel_rfl
theorem span_cells {fuel : Nat} {cs : List Value} {x : DataW H × List MemPlace} (h : DataW.trod enc Try.prog w base spare held fuel 27 cs = some x) : ∃ a b, cs = [iv a, iv b] ∧ Wf a ∧ Wf b := by
  obtain ⟨hl, hf⟩ := struct_field Try.underlying27 h
  rw [cells27] at hl
  obtain ⟨c0, c1, rfl⟩ := list2 hl
  obtain ⟨n0, y0, h0⟩ := hf 0 3 0 1 rfl cells3
  obtain ⟨n1, y1, h1⟩ := hf 1 3 1 1 rfl cells3
  obtain ⟨a, rfl, ha⟩ := int_cell Try.underlying3 h0
  obtain ⟨b, rfl, hb⟩ := int_cell Try.underlying3 h1
  exact ⟨a, b, rfl, ha, hb⟩
theorem bearing_cells (n : Nat) (cs : List Value) (x : DataW H × List MemPlace) (h : DataW.trod enc Try.prog w base spare held n 51 cs = some x) : ∃ xs : List Int, Nums cs xs ∧ xs.length = 2 := by
  obtain ⟨hl, hf⟩ := struct_field Try.underlying51 h
  rw [cells51] at hl
  obtain ⟨c0, c1, rfl⟩ := list2 hl
  obtain ⟨n0, y0, h0⟩ := hf 0 3 0 1 rfl cells3
  obtain ⟨n1, y1, h1⟩ := hf 1 3 1 1 rfl cells3
  obtain ⟨a, rfl, ha⟩ := int_cell Try.underlying3 h0
  obtain ⟨b, rfl, hb⟩ := int_cell Try.underlying3 h1
  exact ⟨[a, b], ⟨rfl, by simp [ha, hb]⟩, rfl⟩
theorem zone_cells (n : Nat) (cs : List Value) (x : DataW H × List MemPlace) (h : DataW.trod enc Try.prog w base spare held n 60 cs = some x) : ∃ xs : List Int, Nums cs xs ∧ xs.length = 4 := by
  obtain ⟨hl, hf⟩ := struct_field Try.underlying60 h
  rw [cells60] at hl
  obtain ⟨c0, c1, c2, c3, rfl⟩ := list4 hl
  obtain ⟨n0, y0, h0⟩ := hf 0 27 0 2 rfl cells27
  obtain ⟨n1, y1, h1⟩ := hf 1 27 2 2 rfl cells27
  obtain ⟨a, b, e0, ha, hb⟩ := span_cells h0
  obtain ⟨c, d, e1, hc, hd⟩ := span_cells h1
  have e0' : [c0, c1] = [iv a, iv b] := e0
  have e1' : [c2, c3] = [iv c, iv d] := e1
  simp only [List.cons.injEq, and_true] at e0' e1'
  obtain ⟨rfl, rfl⟩ := e0'
  obtain ⟨rfl, rfl⟩ := e1'
  exact ⟨[a, b, c, d], ⟨rfl, by simp [ha, hb, hc, hd]⟩, rfl⟩
theorem event_cells (n : Nat) (cs : List Value) (x : DataW H × List MemPlace) (h : DataW.trod enc Try.prog w base spare held n 54 cs = some x) : ∃ xs : List Int, Nums cs xs ∧ xs.length = 5 := by
  obtain ⟨hl, hf⟩ := struct_field Try.underlying54 h
  rw [cells54] at hl
  obtain ⟨c0, c1, c2, c3, c4, rfl⟩ := list5 hl
  obtain ⟨n0, y0, h0⟩ := hf 0 3 0 1 rfl cells3
  obtain ⟨n1, y1, h1⟩ := hf 1 3 1 1 rfl cells3
  obtain ⟨n2, y2, h2⟩ := hf 2 3 2 1 rfl cells3
  obtain ⟨n3, y3, h3⟩ := hf 3 27 3 2 rfl cells27
  obtain ⟨a, rfl, ha⟩ := int_cell Try.underlying3 h0
  obtain ⟨b, rfl, hb⟩ := int_cell Try.underlying3 h1
  obtain ⟨c, rfl, hc⟩ := int_cell Try.underlying3 h2
  obtain ⟨d, e, e3, hd, he⟩ := span_cells h3
  have e3' : [c3, c4] = [iv d, iv e] := e3
  simp only [List.cons.injEq, and_true] at e3'
  obtain ⟨rfl, rfl⟩ := e3'
  exact ⟨[a, b, c, d, e], ⟨rfl, by simp [ha, hb, hc, hd, he]⟩, rfl⟩
theorem int_cells (n : Nat) (cs : List Value) (x : DataW H × List MemPlace) (h : DataW.trod enc Try.prog w base spare held n 3 cs = some x) : ∃ xs : List Int, Nums cs xs ∧ xs.length = 1 := by
  obtain ⟨a, rfl, _, hw⟩ := DataW.trod_int Try.underlying3 h
  exact ⟨[a], ⟨rfl, fun x hx => by simp at hx; subst hx; exact hw⟩, rfl⟩

def znOf (xs : List Int) : Zn := ⟨xs.getD 0 0, xs.getD 1 0, xs.getD 2 0, xs.getD 3 0⟩
def evOf (xs : List Int) : Ev := ⟨xs.getD 0 0, xs.getD 1 0, xs.getD 2 0, xs.getD 3 0, xs.getD 4 0⟩
def prOf (xs : List Int) : Int × Int := (xs.getD 0 0, xs.getD 1 0)
theorem Wf.zero : Wf 0 := by show _ = _; decide
theorem wf_getD {xs : List Int} (h : ∀ x ∈ xs, Wf x) (j : Nat) : Wf (xs.getD j 0) := by
  rw [List.getD_eq_getElem?_getD]
  cases hh : xs[j]? with
  | none => exact Wf.zero
  | some y => exact h y (List.mem_of_getElem? hh)
def Zn.Wf (z : Zn) : Prop := Ytogabjlhecnbbaa.Wf z.a ∧ Ytogabjlhecnbbaa.Wf z.b ∧ Ytogabjlhecnbbaa.Wf z.c ∧ Ytogabjlhecnbbaa.Wf z.d
def Ev.Wf (z : Ev) : Prop := Ytogabjlhecnbbaa.Wf z.k ∧ Ytogabjlhecnbbaa.Wf z.f ∧ Ytogabjlhecnbbaa.Wf z.t ∧ Ytogabjlhecnbbaa.Wf z.x ∧ Ytogabjlhecnbbaa.Wf z.y

set_option maxRecDepth 100000 in
theorem open_span {r : Reach} {b0 : Nat} {v : Value} {d : DataW H} {p : List MemPlace} (hv : Value.okWide Try.prog w r b0 27 v) (h : DataW.Trod enc Try.prog w base spare held 27 v d p) : ∃ a b, v = sv a b ∧ Wf a ∧ Wf b := by
  obtain ⟨cs, rfl, hsz⟩ := okWide_struct Try.underlying27 hv
  obtain ⟨fuel, hf⟩ := h
  obtain ⟨a, b, e, ha, hb⟩ := span_cells hf
  refine ⟨a, b, ?_, ha, hb⟩
  obtain ⟨l⟩ := cs
  have : l = [iv a, iv b] := by simpa [Value.cells] using e
  rw [this]
set_option maxRecDepth 100000 in
theorem open_zones {r : Reach} {b0 : Nat} {v : Value} {d : DataW H} {p : List MemPlace} (hv : Value.okWide Try.prog w r b0 22 v) (h : DataW.Trod enc Try.prog w base spare held 22 v d p) :
    ∃ (zs : List Zn) (A : Option Addr) (cap : Nat), v = .slice A zs.length cap ∧ zs.length ≤ 9223372036854775807 ∧ (∀ z ∈ zs, z.Wf) ∧ ZRow w w.heap.size A zs := by
  obtain ⟨L, A, cap, rfl, h1, h2, h3, h4⟩ := open_row (by omega) Try.underlying22 cells60 zone_cells hv h
  have h2' : cap ≤ 9223372036854775807 := h2
  refine ⟨L.map znOf, A, cap, by simp, by simp; omega, fun z hz => ?_, fun k hk => ?_⟩
  · obtain ⟨xs, hxs, rfl⟩ := List.mem_map.1 hz
    have := (h3 xs hxs).2
    exact ⟨wf_getD this _, wf_getD this _, wf_getD this _, wf_getD this _⟩
  · have hk' : k < L.length := by simpa using hk
    obtain ⟨g, o, e, hg, hc⟩ := h4 k hk'
    have hl := (h3 _ (List.getElem_mem hk')).1
    have hz : ∀ j, j < 4 → w.cell? ⟨g, o + k * 4 + j, none⟩ = some (iv (L[k].getD j 0)) := fun j hj => by
      have := hc j (by omega)
      rw [← Nat.add_assoc] at this
      rw [this, getD_at (by omega)]
    refine ⟨g, o, e, hg, ?_, ?_, ?_, ?_⟩ <;> simp only [List.getElem_map, znOf]
    · exact hz 0 (by omega)
    · exact hz 1 (by omega)
    · exact hz 2 (by omega)
    · exact hz 3 (by omega)
set_option maxRecDepth 100000 in
theorem open_events {r : Reach} {b0 : Nat} {v : Value} {d : DataW H} {p : List MemPlace} (hv : Value.okWide Try.prog w r b0 23 v) (h : DataW.Trod enc Try.prog w base spare held 23 v d p) :
    ∃ (es : List Ev) (A : Option Addr) (cap : Nat), v = .slice A es.length cap ∧ es.length ≤ 9223372036854775807 ∧ (∀ z ∈ es, z.Wf) ∧ ERow w w.heap.size A es := by
  obtain ⟨L, A, cap, rfl, h1, h2, h3, h4⟩ := open_row (by omega) Try.underlying23 cells54 event_cells hv h
  have h2' : cap ≤ 9223372036854775807 := h2
  refine ⟨L.map evOf, A, cap, by simp, by simp; omega, fun z hz => ?_, fun k hk => ?_⟩
  · obtain ⟨xs, hxs, rfl⟩ := List.mem_map.1 hz
    have := (h3 xs hxs).2
    exact ⟨wf_getD this _, wf_getD this _, wf_getD this _, wf_getD this _, wf_getD this _⟩
  · have hk' : k < L.length := by simpa using hk
    obtain ⟨g, o, e, hg, hc⟩ := h4 k hk'
    have hl := (h3 _ (List.getElem_mem hk')).1
    have hz : ∀ j, j < 5 → w.cell? ⟨g, o + k * 5 + j, none⟩ = some (iv (L[k].getD j 0)) := fun j hj => by
      have := hc j (by omega)
      rw [← Nat.add_assoc] at this
      rw [this, getD_at (by omega)]
    refine ⟨g, o, e, hg, ?_, ?_, ?_, ?_, ?_⟩ <;> simp only [List.getElem_map, evOf]
    · exact hz 0 (by omega)
    · exact hz 1 (by omega)
    · exact hz 2 (by omega)
    · exact hz 3 (by omega)
    · exact hz 4 (by omega)
set_option maxRecDepth 100000 in
theorem open_bearings {r : Reach} {b0 : Nat} {v : Value} {d : DataW H} {p : List MemPlace} (hv : Value.okWide Try.prog w r b0 39 v) (h : DataW.Trod enc Try.prog w base spare held 39 v d p) :
    ∃ (ts : List (Int × Int)) (A : Option Addr) (cap : Nat), v = .slice A ts.length cap ∧ ts.length ≤ 9223372036854775807 ∧ (∀ z ∈ ts, Wf z.1 ∧ Wf z.2) ∧ BRow w w.heap.size A ts := by
  obtain ⟨L, A, cap, rfl, h1, h2, h3, h4⟩ := open_row (by omega) Try.underlying39 cells51 bearing_cells hv h
  have h2' : cap ≤ 9223372036854775807 := h2
  refine ⟨L.map prOf, A, cap, by simp, by simp; omega, fun z hz => ?_, fun k hk => ?_⟩
  · obtain ⟨xs, hxs, rfl⟩ := List.mem_map.1 hz
    have := (h3 xs hxs).2
    exact ⟨wf_getD this _, wf_getD this _⟩
  · have hk' : k < L.length := by simpa using hk
    obtain ⟨g, o, e, hg, hc⟩ := h4 k hk'
    have hl := (h3 _ (List.getElem_mem hk')).1
    have hz : ∀ j, j < 2 → w.cell? ⟨g, o + k * 2 + j, none⟩ = some (iv (L[k].getD j 0)) := fun j hj => by
      have := hc j (by omega)
      rw [← Nat.add_assoc] at this
      rw [this, getD_at (by omega)]
    refine ⟨g, o, e, hg, ?_, ?_⟩ <;> simp only [List.getElem_map, prOf]
    · exact hz 0 (by omega)
    · exact hz 1 (by omega)
set_option maxRecDepth 100000 in
theorem open_nums {r : Reach} {b0 : Nat} {v : Value} {d : DataW H} {p : List MemPlace} (hv : Value.okWide Try.prog w r b0 33 v) (h : DataW.Trod enc Try.prog w base spare held 33 v d p) :
    ∃ (xs : List Int) (A : Option Addr) (cap : Nat), v = .slice A xs.length cap ∧ xs.length ≤ 9223372036854775807 ∧ (∀ x ∈ xs, Wf x) ∧ IRow w w.heap.size A xs := by
  obtain ⟨L, A, cap, rfl, h1, h2, h3, h4⟩ := open_row (by omega) Try.underlying33 cells3 int_cells hv h
  have h2' : cap ≤ 9223372036854775807 := h2
  refine ⟨L.map (fun xs => xs.getD 0 0), A, cap, by simp, by simp; omega, fun z hz => ?_, fun k hk => ?_⟩
  · obtain ⟨xs, hxs, rfl⟩ := List.mem_map.1 hz
    exact wf_getD (h3 xs hxs).2 _
  · have hk' : k < L.length := by simpa using hk
    obtain ⟨g, o, e, hg, hc⟩ := h4 k hk'
    have hl := (h3 _ (List.getElem_mem hk')).1
    refine ⟨g, o, e, hg, ?_⟩
    have := hc 0 (by omega)
    rw [show o + (k * 1 + 0) = o + k by omega] at this
    rw [this]
    simp only [List.getElem_map]
    rw [getD_at (by omega)]
end
end Go.Proofs.Ytogabjlhecnbbaa

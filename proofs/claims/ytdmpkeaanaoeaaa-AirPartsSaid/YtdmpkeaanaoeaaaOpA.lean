/- Arguments opened: air, spans, steps, rows of numbers. -/
import Derived.Test.YtdmpkeaanaoeaaaStays
import Derived.Test.YtdmpkeaanaoeaaaRfA
import Derived.Carry
import Derived.Deep.Slices
namespace Go.Proofs.Ytdmpkeaanaoeaaa
open Go.ChangeShapes Go.WideShapes Go.ChangeAt Go.RowKit Go.Deep
def Wf (n : Int) : Prop := (Lit.int .i64 n).wf = true
theorem Wf.bd {n : Int} (h : Wf n) : -9223372036854775808 ≤ n ∧ n ≤ 9223372036854775807 := by
  have := Go.bounds_i64 h
  omega
theorem len3 {α : Type} {l : List α} (h : l.length = 3) : ∃ a b c, l = [a, b, c] := by
  match l, h with | [a, b, c], _ => exact ⟨a, b, c, rfl⟩
theorem len2 {α : Type} {l : List α} (h : l.length = 2) : ∃ a b, l = [a, b] := by
  match l, h with | [a, b], _ => exact ⟨a, b, rfl⟩
theorem len4 {α : Type} {l : List α} (h : l.length = 4) : ∃ a b c d, l = [a, b, c, d] := by
  match l, h with | [a, b, c, d], _ => exact ⟨a, b, c, d, rfl⟩
theorem len5 {α : Type} {l : List α} (h : l.length = 5) : ∃ a b c d e, l = [a, b, c, d, e] := by
  match l, h with | [a, b, c, d, e], _ => exact ⟨a, b, c, d, e, rfl⟩
section
variable {H : Type} {enc : TypeId × Value → H} {P : Program} {w : World} {base : Nat} {spare : Nat → Bool} {held : Bool}
theorem struct_field {fs : Array Field} {t : TypeId} {fuel : Nat} {cs : List Value} {x : DataW H × List MemPlace} (ht : P.underlying t = some (.struct fs)) (h : DataW.trod enc P w base spare held fuel t cs = some x) :
    cs.length = P.cellsOf t ∧ ∀ (i : Nat) (T : TypeId) (o c : Nat), (fs[i]?.map fun f => (f.type, f.offset)) = some (T, o) → P.cellsOf T = c → ∃ n y, DataW.trod enc P w base spare held n T ((cs.drop o).take c) = some y := by
  obtain ⟨xs, n, -, rfl, hl, hlen, hf⟩ := DataW.trod_struct ht h
  refine ⟨hl, fun i T o c hi hc => ?_⟩
  obtain ⟨f, hi', he⟩ := Option.map_eq_some_iff.1 hi
  simp only [Prod.mk.injEq] at he
  obtain ⟨rfl, rfl⟩ := he
  subst hc
  have h1 := hf i f hi'
  have hil : i < fs.size := (Array.getElem?_eq_some_iff.1 hi').1
  exact ⟨n, _, h1.trans (List.getElem?_eq_getElem (by omega))⟩
theorem int_cell {t : TypeId} {fuel : Nat} {c : Value} {x : DataW H × List MemPlace} (ht : P.underlying t = some (.int .i64)) (h : DataW.trod enc P w base spare held fuel t [c] = some x) : ∃ n, c = .int .i64 n ∧ Wf n := by
  obtain ⟨n, e, _, hw⟩ := DataW.trod_int ht h
  exact ⟨n, by simpa using e, hw⟩
theorem cell_spot {a : Addr} {v : Value} (h : w.cell? a = some v) : a.spot = none ∧ a.block < w.heap.size := by
  unfold World.cell? at h
  cases hh : w.heap[a.block]? with
  | none => rw [hh] at h; cases h
  | some o =>
    rw [hh] at h
    refine ⟨?_, (Array.getElem?_eq_some_iff.1 hh).1⟩
    cases o with
    | cells c e f =>
      cases hs : a.spot with
      | none => rfl
      | some s => simp [hs] at h
    | _ => cases h
theorem add_some {a : Addr} (h : a.spot = none) (i : Nat) : a.add i = ⟨a.block, a.off + i, none⟩ := by
  obtain ⟨b, o, s⟩ := a
  cases h
  unfold Addr.add
  by_cases hi : i = 0
  · subst hi; rfl
  · simp [hi]
/-- a slice, whatever its elements read as -/
theorem open_rowT {t E : TypeId} {k : Nat} (hk0 : 0 < k) (ht : P.underlying t = some (.slice E)) (hk : P.cellsOf E = k) {α : Type} (f : α → List Value → Prop)
    (he : ∀ n cs x, DataW.trod enc P w base spare held n E cs = some x → ∃ a, f a cs ∧ cs.length = k)
    {fuel : Nat} {c : Value} {x : DataW H × List MemPlace} (h : DataW.trod enc P w base spare held fuel t [c] = some x) :
    ∃ (L : List α) (A : Option Addr) (cap : Nat), c = .slice A L.length cap ∧ L.length ≤ cap ∧ cap ≤ maxLen ∧ (A = none → L.length = 0 ∧ cap = 0) ∧ ∀ i (h : i < L.length), ∃ g o cs, A = some ⟨g, o, none⟩ ∧ g < w.heap.size ∧ f L[i] cs ∧ ∀ j, j < k → w.cell? ⟨g, o + (i * k + j), none⟩ = cs[j]? := by
  rcases open_slice ht h with ⟨h0, -⟩ | ⟨a, len, cap, m, n, D, Pl, hcs, -, hl, hm, hmm, -, hx⟩
  · simp at h0
    subst h0
    exact ⟨[], none, 0, rfl, by simp, by simp [maxLen], by simp, fun i h => absurd h (by simp)⟩
  · simp at hcs
    subst hcs
    have hlm : len ≤ m := by rw [hmm]; split <;> omega
    have hall : ∀ i, i < len → ∃ y : α × List Value, (f y.1 y.2 ∧ y.2.length = k) ∧ ∀ j (hj : j < k), w.cell? (a.add (i * k + j)) = y.2[j]? := fun i hi => by
      obtain ⟨cs', hc, ht'⟩ := hx i (by omega)
      rw [hk] at hc
      obtain ⟨-, hcl, hat⟩ := World.cells?_some hc
      obtain ⟨y, hf, hyl⟩ := he _ _ _ ht'
      refine ⟨(y, cs'), ⟨hf, hyl⟩, fun j hj => ?_⟩
      have := hat j (by omega)
      rw [add_add] at this
      rw [this]
    by_cases hl0 : len = 0
    · subst hl0
      exact ⟨[], some a, cap, rfl, by simp, hm, fun h => (by cases h), fun i h => absurd h (by simp)⟩
    haveI : Inhabited (α × List Value) := ⟨(hall 0 (by omega)).choose⟩
    obtain ⟨g, hfs⟩ := choose_lt hall
    refine ⟨(List.range len).map fun i => (g i).1, some a, cap, by simp, by simpa using hl, hm, fun h => (by cases h), ?_⟩
    intro i hi
    have hi' : i < len := by simpa using hi
    have h00 := (hfs 0 (by omega)).2 0 hk0
    rw [show 0 * k + 0 = 0 by omega, show a.add 0 = a from rfl, List.getElem?_eq_getElem (by have := (hfs 0 (by omega)).1.2; omega)] at h00
    obtain ⟨hs, hb⟩ := cell_spot h00
    refine ⟨a.block, a.off, (g i).2, by obtain ⟨_, _, _⟩ := a; cases hs; rfl, hb, ?_, fun j hj => ?_⟩
    · simp only [List.getElem_map, List.getElem_range]
      exact (hfs i hi').1.1
    · have := (hfs i hi').2 j hj
      rw [add_some hs] at this
      exact this
end
section
variable {H : Type} {enc : TypeId × Value → H} {w : World} {base : Nat} {spare : Nat → Bool} {held : Bool}
theorem cells3 : Try.prog.cellsOf 3 = 1 := by kernel_rfl
theorem cells22 : Try.prog.cellsOf 22 = 1 := by kernel_rfl
theorem cells24 : Try.prog.cellsOf 24 = 2 := by kernel_rfl
theorem cells26 : Try.prog.cellsOf 26 = 5 := by kernel_rfl
theorem cells46 : Try.prog.cellsOf 46 = 1 := by kernel_rfl
theorem cells50 : Try.prog.cellsOf 50 = 8 := by kernel_rfl
theorem len8 {α : Type} {l : List α} (h : l.length = 8) : ∃ a b c d e f g i, l = [a, b, c, d, e, f, g, i] := by
  match l, h with | [a, b, c, d, e, f, g, i], _ => exact ⟨a, b, c, d, e, f, g, i, rfl⟩
theorem int_cells (n : Nat) (cs : List Value) (x : DataW H × List MemPlace) (h : DataW.trod enc Try.prog w base spare held n 3 cs = some x) : ∃ a : Int, (cs = [.int .i64 a] ∧ Wf a) ∧ cs.length = 1 := by
  obtain ⟨a, rfl, _, hw⟩ := DataW.trod_int Try.underlying3 h
  exact ⟨a, ⟨rfl, hw⟩, rfl⟩
theorem ints_cell {fuel : Nat} {c : Value} {x : DataW H × List MemPlace} (h : DataW.trod enc Try.prog w base spare held fuel 22 [c] = some x) :
    ∃ (l : List Int) (A : Option Addr) (cap : Nat), c = .slice A l.length cap ∧ l.length ≤ 9223372036854775807 ∧ (∀ n ∈ l, Wf n) ∧ IRow w w.heap.size A l := by
  obtain ⟨L, A, cap, rfl, h1, h2, -, h4⟩ := open_rowT (by omega) Try.underlying22 cells3 (fun (s : Int) cs => cs = [.int .i64 s] ∧ Wf s) int_cells h
  have h2' : cap ≤ 9223372036854775807 := h2
  refine ⟨L, A, cap, rfl, by omega, fun s hs => ?_, fun k hk => ?_⟩
  · obtain ⟨i, hi, rfl⟩ := List.mem_iff_getElem.1 hs
    obtain ⟨g, o, cs, e, hg, ⟨-, hw⟩, -⟩ := h4 i hi
    exact hw
  · obtain ⟨g, o, cs, e, hg, ⟨rfl, -⟩, hc⟩ := h4 k hk
    exact ⟨g, o, e, hg, by simpa using hc 0 (by omega)⟩
theorem span_cells {fuel : Nat} {cs : List Value} {x : DataW H × List MemPlace} (h : DataW.trod enc Try.prog w base spare held fuel 24 cs = some x) : ∃ a b : Int, cs = [.int .i64 a, .int .i64 b] ∧ Wf a ∧ Wf b := by
  obtain ⟨hl, hf⟩ := struct_field Try.underlying24 h
  rw [cells24] at hl
  obtain ⟨c0, c1, rfl⟩ := len2 hl
  obtain ⟨n0, y0, h0⟩ := hf 0 3 0 1 rfl cells3
  obtain ⟨n1, y1, h1⟩ := hf 1 3 1 1 rfl cells3
  obtain ⟨a, rfl, ha⟩ := int_cell (c := c0) Try.underlying3 h0
  obtain ⟨b, rfl, hb⟩ := int_cell (c := c1) Try.underlying3 h1
  exact ⟨a, b, rfl, ha, hb⟩
/-- the air's own numbers -/
structure WA (a : Air) : Prop where
  R : Wf a.R
  T : ∀ n ∈ a.T, Wf n
  H : ∀ n ∈ a.H, Wf n
  b0 : Wf a.b0
  b1 : Wf a.b1
structure WS (s : Stp) : Prop where
  c : Wf s.cold
  p : Wf s.ppl
  g : Wf s.chg
  o0 : Wf s.o0
  o1 : Wf s.o1
  s0 : Wf s.s0
  s1 : Wf s.s1
  d : Wf s.dry
set_option maxRecDepth 100000 in
theorem open_air {r : Reach} {b0 : Nat} {v : Value} {d : DataW H} {p : List MemPlace} (hv : Value.okWide Try.prog w r b0 26 v) (h : DataW.Trod enc Try.prog w base spare held 26 v d p) :
    ∃ (a : Air) (A B : Option Addr) (ca cb : Nat), v = airv a A B ca cb ∧ AR w w.heap.size a A B ∧ WA a := by
  obtain ⟨cs, rfl, hsz⟩ := okWide_struct Try.underlying26 hv
  obtain ⟨fuel, hf0⟩ := h
  obtain ⟨cs⟩ := cs
  have hf1 : DataW.trod enc Try.prog w base spare held fuel 26 cs = some (d, p) := by simpa [Value.cells] using hf0
  obtain ⟨hl, hf⟩ := struct_field Try.underlying26 hf1
  rw [cells26] at hl
  obtain ⟨c0, c1, c2, c3, c4, rfl⟩ := len5 hl
  obtain ⟨n0, y0, h0⟩ := hf 0 3 0 1 rfl cells3
  obtain ⟨n1, y1, h1⟩ := hf 1 22 1 1 rfl cells22
  obtain ⟨n2, y2, h2⟩ := hf 2 22 2 1 rfl cells22
  obtain ⟨n3, y3, h3⟩ := hf 3 24 3 2 rfl cells24
  obtain ⟨R, e0, hR⟩ := int_cell (c := c0) Try.underlying3 h0
  obtain ⟨T, A, ca, e1, hT1, hT2, hT3⟩ := ints_cell (c := c1) h1
  obtain ⟨Hs, B, cb, e2, hH1, hH2, hH3⟩ := ints_cell (c := c2) h2
  obtain ⟨b0, b1, e3, hb0, hb1⟩ := span_cells h3
  simp at e3
  obtain ⟨e3, e4⟩ := e3
  subst e0 e1 e2 e3 e4
  exact ⟨⟨R, T, Hs, b0, b1⟩, A, B, ca, cb, rfl, ⟨hT3, hH3, hT1, hH1⟩, ⟨hR, hT2, hH2, hb0, hb1⟩⟩
set_option maxRecDepth 100000 in
theorem open_span {r : Reach} {b0 : Nat} {v : Value} {d : DataW H} {p : List MemPlace} (hv : Value.okWide Try.prog w r b0 24 v) (h : DataW.Trod enc Try.prog w base spare held 24 v d p) :
    ∃ lo hi : Int, v = .agg #[.int .i64 lo, .int .i64 hi] ∧ Wf lo ∧ Wf hi := by
  obtain ⟨cs, rfl, hsz⟩ := okWide_struct Try.underlying24 hv
  obtain ⟨fuel, hf0⟩ := h
  obtain ⟨cs⟩ := cs
  have hf1 : DataW.trod enc Try.prog w base spare held fuel 24 cs = some (d, p) := by simpa [Value.cells] using hf0
  obtain ⟨a, b, rfl, ha, hb⟩ := span_cells hf1
  exact ⟨a, b, rfl, ha, hb⟩
theorem step_cells (n : Nat) (cs : List Value) (x : DataW H × List MemPlace) (h : DataW.trod enc Try.prog w base spare held n 50 cs = some x) : ∃ s : Stp, (cs = (stpc s).toList ∧ WS s) ∧ cs.length = 8 := by
  obtain ⟨hl, hf⟩ := struct_field Try.underlying50 h
  rw [cells50] at hl
  obtain ⟨c0, c1, c2, c3, c4, c5, c6, c7, rfl⟩ := len8 hl
  obtain ⟨n0, y0, h0⟩ := hf 0 3 0 1 rfl cells3
  obtain ⟨n1, y1, h1⟩ := hf 1 3 1 1 rfl cells3
  obtain ⟨n2, y2, h2⟩ := hf 2 3 2 1 rfl cells3
  obtain ⟨n3, y3, h3⟩ := hf 3 24 3 2 rfl cells24
  obtain ⟨n4, y4, h4⟩ := hf 4 24 5 2 rfl cells24
  obtain ⟨n5, y5, h5⟩ := hf 5 3 7 1 rfl cells3
  obtain ⟨x0, rfl, w0⟩ := int_cell (c := c0) Try.underlying3 h0
  obtain ⟨x1, rfl, w1⟩ := int_cell (c := c1) Try.underlying3 h1
  obtain ⟨x2, rfl, w2⟩ := int_cell (c := c2) Try.underlying3 h2
  obtain ⟨x3, x4, e3, w3, w4⟩ := span_cells h3
  obtain ⟨x5, x6, e5, w5, w6⟩ := span_cells h4
  obtain ⟨x7, rfl, w7⟩ := int_cell (c := c7) Try.underlying3 h5
  simp at e3 e5
  obtain ⟨rfl, rfl⟩ := e3
  obtain ⟨rfl, rfl⟩ := e5
  exact ⟨⟨x0, x1, x2, x3, x4, x5, x6, x7⟩, ⟨rfl, w0, w1, w2, w3, w4, w5, w6, w7⟩, rfl⟩
set_option maxRecDepth 100000 in
theorem open_steps {r : Reach} {b0 : Nat} {v : Value} {d : DataW H} {p : List MemPlace} (hv : Value.okWide Try.prog w r b0 27 v) (h : DataW.Trod enc Try.prog w base spare held 27 v d p) :
    ∃ (l : List Stp) (A : Option Addr) (cap : Nat), v = .slice A l.length cap ∧ l.length ≤ 9223372036854775807 ∧ l.length ≤ cap ∧ cap ≤ 9223372036854775807 ∧ (A = none → l.length = 0 ∧ cap = 0) ∧ (∀ s ∈ l, WS s) ∧ SRow w w.heap.size A l := by
  obtain ⟨A0, len0, cap0, rfl⟩ := okWide_slice Try.underlying27 hv
  obtain ⟨fuel, hf⟩ := h
  obtain ⟨L, A, cap, e, h1, h2, h3, h4⟩ := open_rowT (by omega) Try.underlying27 cells50 (fun (s : Stp) cs => cs = (stpc s).toList ∧ WS s) step_cells (c := .slice A0 len0 cap0) hf
  have h2' : cap ≤ 9223372036854775807 := h2
  refine ⟨L, A, cap, e, by omega, h1, h2', h3, fun s hs => ?_, fun k hk => ?_⟩
  · obtain ⟨i, hi, rfl⟩ := List.mem_iff_getElem.1 hs
    obtain ⟨g, o, cs, e, hg, ⟨-, hw⟩, -⟩ := h4 i hi
    exact hw
  · obtain ⟨g, o, cs, e, hg, ⟨rfl, -⟩, hc⟩ := h4 k hk
    exact ⟨g, o, e, hg, fun j hj => by rw [Nat.add_assoc, hc j hj]; simp⟩
def URow (w : World) (B : Nat) (A : Option Addr) (l : List Int) : Prop :=
  ∀ k (h : k < l.length), ∃ g o, A = some ⟨g, o, none⟩ ∧ g < B ∧ w.cell? ⟨g, o + k, none⟩ = some (.int .u32 l[k])
theorem URow.below {w w' : World} {B : Nat} {A : Option Addr} {l : List Int} (h : URow w B A l) (hb : Below B w w') : URow w' B A l := fun k hk => by
  obtain ⟨g, o, e, hg, c⟩ := h k hk
  exact ⟨g, o, e, hg, (hb.cell (p := ⟨g, _, none⟩) hg).trans c⟩
theorem u32_cells (n : Nat) (cs : List Value) (x : DataW H × List MemPlace) (h : DataW.trod enc Try.prog w base spare held n 46 cs = some x) : ∃ a : Int, (cs = [.int .u32 a] ∧ 0 ≤ a ∧ a ≤ 4294967295) ∧ cs.length = 1 := by
  obtain ⟨a, rfl, _, hw⟩ := DataW.trod_int Try.underlying46 h
  exact ⟨a, ⟨rfl, Go.bounds_u32 hw⟩, rfl⟩
set_option maxRecDepth 100000 in
theorem open_u32s {r : Reach} {b0 : Nat} {v : Value} {d : DataW H} {p : List MemPlace} (hv : Value.okWide Try.prog w r b0 44 v) (h : DataW.Trod enc Try.prog w base spare held 44 v d p) :
    ∃ (l : List Int) (A : Option Addr) (cap : Nat), v = .slice A l.length cap ∧ l.length ≤ 9223372036854775807 ∧ (∀ s ∈ l, 0 ≤ s ∧ s ≤ 4294967295) ∧ URow w w.heap.size A l := by
  obtain ⟨A0, len0, cap0, rfl⟩ := okWide_slice Try.underlying44 hv
  obtain ⟨fuel, hf⟩ := h
  obtain ⟨L, A, cap, e, h1, h2, -, h4⟩ := open_rowT (by omega) Try.underlying44 cells46 (fun (s : Int) cs => cs = [.int .u32 s] ∧ 0 ≤ s ∧ s ≤ 4294967295) u32_cells (c := .slice A0 len0 cap0) hf
  have h2' : cap ≤ 9223372036854775807 := h2
  refine ⟨L, A, cap, e, by omega, fun s hs => ?_, fun k hk => ?_⟩
  · obtain ⟨i, hi, rfl⟩ := List.mem_iff_getElem.1 hs
    obtain ⟨g, o, cs, e, hg, ⟨-, hw⟩, -⟩ := h4 i hi
    exact hw
  · obtain ⟨g, o, cs, e, hg, ⟨rfl, -⟩, hc⟩ := h4 k hk
    exact ⟨g, o, e, hg, by simpa using hc 0 (by omega)⟩
end
end Go.Proofs.Ytdmpkeaanaoeaaa

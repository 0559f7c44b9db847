/- Arguments opened. -/
import Derived.Test.YtmclchaalmonnaaStays
import Derived.Test.YtmclchaalmonnaaScO
import Derived.Carry
import Derived.Deep.Slices
namespace Go.Proofs.Ytmclchaalmonnaa
open Go.ChangeShapes Go.WideShapes Go.ChangeAt Go.RowKit Go.Deep
theorem len3 {α : Type} {l : List α} (h : l.length = 3) : ∃ a b c, l = [a, b, c] := by
  match l, h with | [a, b, c], _ => exact ⟨a, b, c, rfl⟩
theorem len2 {α : Type} {l : List α} (h : l.length = 2) : ∃ a b, l = [a, b] := by
  match l, h with | [a, b], _ => exact ⟨a, b, rfl⟩
theorem len4 {α : Type} {l : List α} (h : l.length = 4) : ∃ a b c d, l = [a, b, c, d] := by
  match l, h with | [a, b, c, d], _ => exact ⟨a, b, c, d, rfl⟩
theorem len5 {α : Type} {l : List α} (h : l.length = 5) : ∃ a b c d e, l = [a, b, c, d, e] := by
  match l, h with | [a, b, c, d, e], _ => exact ⟨a, b, c, d, e, rfl⟩
theorem len6 {α : Type} {l : List α} (h : l.length = 6) : ∃ a b c d e f, l = [a, b, c, d, e, f] := by
  match l, h with | [a, b, c, d, e, f], _ => exact ⟨a, b, c, d, e, f, rfl⟩
section
variable {H : Type} {enc : TypeId × Value → H} {P : Program} {w : World} {base : Nat} {spare : Nat → Bool} {held : Bool}
theorem struct_field {fs : Array Field} {t : TypeId} {fuel : Nat} {cs : List Value} {x : DataW H × List MemPlace} (ht : P.underlying t = some (.struct fs)) (h : DataW.trod enc P w base spare held fuel t cs = some x) :
    cs.length = P.cellsOf t ∧ ∀ (i : Nat) (T : TypeId) (o c : Nat), (fs[i]?.map fun f => (f.type, f.offset)) = some (T, o) → P.cellsOf T = c → ∃ n y, DataW.trod enc P w base spare held n T ((cs.drop o).take c) = some y := by
  obtain ⟨xs, n, -, rfl, hl, hlen, hf⟩ := DataW.trod_struct ht h
  refine ⟨hl, fun i T o c hi hc => ?_⟩
  obtain ⟨f, hi', he⟩ := Option.map_eq_some_iff.1 hi
  simp only [Prod.mk.injEq] at he
  obtain ⟨rfl, rfl⟩ := he
  subst hc
  have h1 := hf i f hi'
  have hil : i < fs.size := (Array.getElem?_eq_some_iff.1 hi').1
  exact ⟨n, _, h1.trans (List.getElem?_eq_getElem (by omega))⟩
theorem int_cell {t : TypeId} {fuel : Nat} {c : Value} {x : DataW H × List MemPlace} (ht : P.underlying t = some (.int .i64)) (h : DataW.trod enc P w base spare held fuel t [c] = some x) : ∃ n, c = .int .i64 n := by
  obtain ⟨n, e, _, _⟩ := DataW.trod_int ht h
  exact ⟨n, by simpa using e⟩
theorem bool_cell {t : TypeId} {fuel : Nat} {c : Value} {x : DataW H × List MemPlace} (ht : P.underlying t = some .bool) (h : DataW.trod enc P w base spare held fuel t [c] = some x) : ∃ n, c = .bool n := by
  obtain ⟨n, e, _⟩ := DataW.trod_bool ht h
  exact ⟨n, by simpa using e⟩
theorem cell_spot {a : Addr} {v : Value} (h : w.cell? a = some v) : a.spot = none ∧ a.block < w.heap.size := by
  unfold World.cell? at h
  cases hh : w.heap[a.block]? with
  | none => rw [hh] at h; cases h
  | some o =>
    rw [hh] at h
    refine ⟨?_, (Array.getElem?_eq_some_iff.1 hh).1⟩
    cases o with
    | cells c e f =>
      cases hs : a.spot with
      | none => rfl
      | some s => simp [hs] at h
    | _ => cases h
theorem add_some {a : Addr} (h : a.spot = none) (i : Nat) : a.add i = ⟨a.block, a.off + i, none⟩ := by
  obtain ⟨b, o, s⟩ := a
  cases h
  unfold Addr.add
  by_cases hi : i = 0
  · subst hi; rfl
  · simp [hi]
/-- a slice, whatever its elements read as -/
theorem open_rowT {t E : TypeId} {k : Nat} (hk0 : 0 < k) (ht : P.underlying t = some (.slice E)) (hk : P.cellsOf E = k) {α : Type} (f : α → List Value → Prop)
    (he : ∀ n cs x, DataW.trod enc P w base spare held n E cs = some x → ∃ a, f a cs ∧ cs.length = k)
    {fuel : Nat} {c : Value} {x : DataW H × List MemPlace} (h : DataW.trod enc P w base spare held fuel t [c] = some x) :
    ∃ (L : List α) (A : Option Addr) (cap : Nat), c = .slice A L.length cap ∧ L.length ≤ cap ∧ cap ≤ maxLen ∧ (A = none → L.length = 0 ∧ cap = 0) ∧ ∀ i (h : i < L.length), ∃ g o cs, A = some ⟨g, o, none⟩ ∧ g < w.heap.size ∧ f L[i] cs ∧ ∀ j, j < k → w.cell? ⟨g, o + (i * k + j), none⟩ = cs[j]? := by
  rcases open_slice ht h with ⟨h0, -⟩ | ⟨a, len, cap, m, n, D, Pl, hcs, -, hl, hm, hmm, -, hx⟩
  · simp at h0
    subst h0
    exact ⟨[], none, 0, rfl, by simp, by simp [maxLen], by simp, fun i h => absurd h (by simp)⟩
  · simp at hcs
    subst hcs
    have hlm : len ≤ m := by rw [hmm]; split <;> omega
    have hall : ∀ i, i < len → ∃ y : α × List Value, (f y.1 y.2 ∧ y.2.length = k) ∧ ∀ j (hj : j < k), w.cell? (a.add (i * k + j)) = y.2[j]? := fun i hi => by
      obtain ⟨cs', hc, ht'⟩ := hx i (by omega)
      rw [hk] at hc
      obtain ⟨-, hcl, hat⟩ := World.cells?_some hc
      obtain ⟨y, hf, hyl⟩ := he _ _ _ ht'
      refine ⟨(y, cs'), ⟨hf, hyl⟩, fun j hj => ?_⟩
      have := hat j (by omega)
      rw [add_add] at this
      rw [this]
    by_cases hl0 : len = 0
    · subst hl0
      exact ⟨[], some a, cap, rfl, by simp, hm, fun h => (by cases h), fun i h => absurd h (by simp)⟩
    haveI : Inhabited (α × List Value) := ⟨(hall 0 (by omega)).choose⟩
    obtain ⟨g, hfs⟩ := choose_lt hall
    refine ⟨(List.range len).map fun i => (g i).1, some a, cap, by simp, by simpa using hl, hm, fun h => (by cases h), ?_⟩
    intro i hi
    have hi' : i < len := by simpa using hi
    have h00 := (hfs 0 (by omega)).2 0 hk0
    rw [show 0 * k + 0 = 0 by omega, show a.add 0 = a from rfl, List.getElem?_eq_getElem (by have := (hfs 0 (by omega)).1.2; omega)] at h00
    obtain ⟨hs, hb⟩ := cell_spot h00
    refine ⟨a.block, a.off, (g i).2, by obtain ⟨_, _, _⟩ := a; cases hs; rfl, hb, ?_, fun j hj => ?_⟩
    · simp only [List.getElem_map, List.getElem_range]
      exact (hfs i hi').1.1
    · have := (hfs i hi').2 j hj
      rw [add_some hs] at this
      exact this
end
section
variable {H : Type} {enc : TypeId × Value → H} {w : World} {base : Nat} {spare : Nat → Bool} {held : Bool}
theorem cells3 : Try.prog.cellsOf 3 = 1 := by kernel_rfl
theorem cells4 : Try.prog.cellsOf 4 = 1 := by kernel_rfl
theorem cells5 : Try.prog.cellsOf 5 = 1 := by kernel_rfl
theorem cells22 : Try.prog.cellsOf 22 = 1 := by kernel_rfl
theorem cells25 : Try.prog.cellsOf 25 = 1 := by kernel_rfl
theorem cells26 : Try.prog.cellsOf 26 = 1 := by kernel_rfl
theorem cells24 : Try.prog.cellsOf 24 = 3 := by kernel_rfl
theorem cells28 : Try.prog.cellsOf 28 = 3 := by kernel_rfl
theorem cells33 : Try.prog.cellsOf 33 = 4 := by kernel_rfl
theorem cells52 : Try.prog.cellsOf 52 = 6 := by kernel_rfl
theorem int_cells (n : Nat) (cs : List Value) (x : DataW H × List MemPlace) (h : DataW.trod enc Try.prog w base spare held n 3 cs = some x) : ∃ a : Int, cs = [.int .i64 a] ∧ cs.length = 1 := by
  obtain ⟨a, rfl, _, _⟩ := DataW.trod_int Try.underlying3 h
  exact ⟨a, rfl, rfl⟩
theorem u8_cells (n : Nat) (cs : List Value) (x : DataW H × List MemPlace) (h : DataW.trod enc Try.prog w base spare held n 5 cs = some x) : ∃ a : Int, (cs = [.int .u8 a] ∧ 0 ≤ a ∧ a ≤ 255) ∧ cs.length = 1 := by
  obtain ⟨a, rfl, _, hw⟩ := DataW.trod_int Try.underlying5 h
  exact ⟨a, ⟨rfl, Go.bounds_u8 hw⟩, rfl⟩
theorem ints_cell {fuel : Nat} {c : Value} {x : DataW H × List MemPlace} (h : DataW.trod enc Try.prog w base spare held fuel 22 [c] = some x) :
    ∃ (l : List Int) (A : Option Addr) (cap : Nat), c = .slice A l.length cap ∧ l.length ≤ big ∧ IRow w w.heap.size A l ∧ l.length ≤ cap := by
  obtain ⟨L, A, cap, rfl, h1, h2, -, h4⟩ := open_rowT (by omega) Try.underlying22 cells3 (fun (s : Int) cs => cs = [.int .i64 s]) int_cells h
  have h2' : cap ≤ 9223372036854775807 := h2
  refine ⟨L, A, cap, rfl, by unfold big; omega, fun k hk => ?_, h1⟩
  obtain ⟨g, o, cs, e, hg, rfl, hc⟩ := h4 k hk
  exact ⟨g, o, e, hg, by simpa using hc 0 (by omega)⟩
theorem call_cells (n : Nat) (cs : List Value) (x : DataW H × List MemPlace) (h : DataW.trod enc Try.prog w base spare held n 52 cs = some x) : ∃ s : Cl, (∃ M k, cs = (clc s M k).toList ∧ IRow w w.heap.size M s.marks ∧ s.marks.length ≤ big) ∧ cs.length = 6 := by
  obtain ⟨hl, hf⟩ := struct_field Try.underlying52 h
  rw [cells52] at hl
  obtain ⟨c0, c1, c2, c3, c4, c5, rfl⟩ := len6 hl
  obtain ⟨n0, y0, h0⟩ := hf 0 3 0 1 rfl cells3
  obtain ⟨n1, y1, h1⟩ := hf 1 3 1 1 rfl cells3
  obtain ⟨n2, y2, h2⟩ := hf 2 3 2 1 rfl cells3
  obtain ⟨n3, y3, h3⟩ := hf 3 4 3 1 rfl cells4
  obtain ⟨n4, y4, h4⟩ := hf 4 4 4 1 rfl cells4
  obtain ⟨n5, y5, h5⟩ := hf 5 22 5 1 rfl cells22
  obtain ⟨a, rfl⟩ := int_cell Try.underlying3 h0
  obtain ⟨b, rfl⟩ := int_cell Try.underlying3 h1
  obtain ⟨c, rfl⟩ := int_cell Try.underlying3 h2
  obtain ⟨d, rfl⟩ := bool_cell Try.underlying4 h3
  obtain ⟨e, rfl⟩ := bool_cell Try.underlying4 h4
  obtain ⟨l, M, k, rfl, hb, hm, -⟩ := ints_cell (c := c5) h5
  exact ⟨⟨a, b, c, d, e, l⟩, ⟨M, k, rfl, hm, hb⟩, rfl⟩
theorem calls_cell {fuel : Nat} {c : Value} {x : DataW H × List MemPlace} (h : DataW.trod enc Try.prog w base spare held fuel 25 [c] = some x) :
    ∃ (l : List Cl) (A : Option Addr) (cap : Nat), c = .slice A l.length cap ∧ l.length ≤ big ∧ CRow w w.heap.size A l ∧ l.length ≤ cap := by
  obtain ⟨L, A, cap, rfl, h1, h2, -, h4⟩ := open_rowT (by omega) Try.underlying25 cells52 (fun (s : Cl) cs => ∃ M k, cs = (clc s M k).toList ∧ IRow w w.heap.size M s.marks ∧ s.marks.length ≤ big) call_cells h
  have h2' : cap ≤ 9223372036854775807 := h2
  refine ⟨L, A, cap, rfl, by unfold big; omega, fun k hk => ?_, h1⟩
  obtain ⟨g, o, cs, e, hg, ⟨M, m, rfl, hm, hb⟩, hc⟩ := h4 k hk
  exact ⟨g, o, M, m, e, hg, fun j hj => by have := hc j hj; rw [← Nat.add_assoc] at this; rw [this]; simp, hm, hb⟩
theorem row_cells (n : Nat) (cs : List Value) (x : DataW H × List MemPlace) (h : DataW.trod enc Try.prog w base spare held n 22 cs = some x) : ∃ l : List Int, (∃ M k, cs = [.slice M l.length k] ∧ IRow w w.heap.size M l ∧ l.length ≤ big) ∧ cs.length = 1 := by
  have hl : cs.length = 1 := by
    rcases open_slice Try.underlying22 h with ⟨h0, -⟩ | ⟨a, len, cap, m, n, D, Pl, hcs, -⟩
    · simp [h0]
    · simp [hcs]
  obtain ⟨c, rfl⟩ : ∃ c, cs = [c] := by match cs, hl with | [c], _ => exact ⟨c, rfl⟩
  obtain ⟨l, M, k, rfl, hb, hm, -⟩ := ints_cell (c := c) h
  exact ⟨l, ⟨M, k, rfl, hm, hb⟩, rfl⟩
theorem rows_cell {fuel : Nat} {c : Value} {x : DataW H × List MemPlace} (h : DataW.trod enc Try.prog w base spare held fuel 26 [c] = some x) :
    ∃ (l : List (List Int)) (A : Option Addr) (cap : Nat), c = .slice A l.length cap ∧ l.length ≤ big ∧ PRow w w.heap.size A l ∧ l.length ≤ cap := by
  obtain ⟨L, A, cap, rfl, h1, h2, -, h4⟩ := open_rowT (by omega) Try.underlying26 cells22 (fun (s : List Int) cs => ∃ M k, cs = [.slice M s.length k] ∧ IRow w w.heap.size M s ∧ s.length ≤ big) row_cells h
  have h2' : cap ≤ 9223372036854775807 := h2
  refine ⟨L, A, cap, rfl, by unfold big; omega, fun k hk => ?_, h1⟩
  obtain ⟨g, o, cs, e, hg, ⟨M, m, rfl, hm, hb⟩, hc⟩ := h4 k hk
  exact ⟨g, o, M, m, e, hg, by simpa using hc 0 (by omega), hm, hb⟩
theorem skating_cells (n : Nat) (cs : List Value) (x : DataW H × List MemPlace) (h : DataW.trod enc Try.prog w base spare held n 28 cs = some x) : ∃ s : Sk, (∃ AC AP cc cp, cs = (skc s AC AP cc cp).toList ∧ SkR w w.heap.size s AC AP) ∧ cs.length = 3 := by
  obtain ⟨hl, hf⟩ := struct_field Try.underlying28 h
  rw [cells28] at hl
  obtain ⟨c0, c1, c2, rfl⟩ := len3 hl
  obtain ⟨n0, y0, h0⟩ := hf 0 25 0 1 rfl cells25
  obtain ⟨n1, y1, h1⟩ := hf 1 26 1 1 rfl cells26
  obtain ⟨n2, y2, h2⟩ := hf 2 3 2 1 rfl cells3
  obtain ⟨l, A, cap, rfl, hl2, hp, -⟩ := calls_cell (c := c0) h0
  obtain ⟨l', A', cap', rfl, hl2', hp', -⟩ := rows_cell (c := c1) h1
  obtain ⟨a, rfl⟩ := int_cell (c := c2) Try.underlying3 h2
  exact ⟨⟨l, l', a⟩, ⟨A, A', cap, cap', rfl, ⟨hp, hp', hl2, hl2'⟩⟩, rfl⟩
theorem rules_cells (n : Nat) (cs : List Value) (x : DataW H × List MemPlace) (h : DataW.trod enc Try.prog w base spare held n 24 cs = some x) : ∃ r : Ru, (∃ A c, cs = (ruc r A c).toList ∧ RuR w w.heap.size r A) ∧ cs.length = 3 := by
  obtain ⟨hl, hf⟩ := struct_field Try.underlying24 h
  rw [cells24] at hl
  obtain ⟨c0, c1, c2, rfl⟩ := len3 hl
  obtain ⟨n0, y0, h0⟩ := hf 0 22 0 1 rfl cells22
  obtain ⟨n1, y1, h1⟩ := hf 1 3 1 1 rfl cells3
  obtain ⟨n2, y2, h2⟩ := hf 2 3 2 1 rfl cells3
  obtain ⟨l, A, cap, rfl, hl2, hp, -⟩ := ints_cell (c := c0) h0
  obtain ⟨a, rfl⟩ := int_cell (c := c1) Try.underlying3 h1
  obtain ⟨b, rfl⟩ := int_cell (c := c2) Try.underlying3 h2
  exact ⟨⟨l, a, b⟩, ⟨A, cap, rfl, ⟨hp, hl2⟩⟩, rfl⟩
theorem score_cells (n : Nat) (cs : List Value) (x : DataW H × List MemPlace) (h : DataW.trod enc Try.prog w base spare held n 33 cs = some x) : ∃ s : Sc, cs = (scc s).toList ∧ cs.length = 4 := by
  obtain ⟨hl, hf⟩ := struct_field Try.underlying33 h
  rw [cells33] at hl
  obtain ⟨c0, c1, c2, c3, rfl⟩ := len4 hl
  obtain ⟨n0, y0, h0⟩ := hf 0 3 0 1 rfl cells3
  obtain ⟨n1, y1, h1⟩ := hf 1 3 1 1 rfl cells3
  obtain ⟨n2, y2, h2⟩ := hf 2 3 2 1 rfl cells3
  obtain ⟨n3, y3, h3⟩ := hf 3 3 3 1 rfl cells3
  obtain ⟨a, rfl⟩ := int_cell (c := c0) Try.underlying3 h0
  obtain ⟨b, rfl⟩ := int_cell (c := c1) Try.underlying3 h1
  obtain ⟨c, rfl⟩ := int_cell (c := c2) Try.underlying3 h2
  obtain ⟨d, rfl⟩ := int_cell (c := c3) Try.underlying3 h3
  exact ⟨⟨a, b, c, d⟩, rfl, rfl⟩
set_option maxRecDepth 100000 in
theorem open_ru {r : Reach} {b0 : Nat} {v : Value} {d : DataW H} {p : List MemPlace} (hv : Value.okWide Try.prog w r b0 24 v) (h : DataW.Trod enc Try.prog w base spare held 24 v d p) :
    ∃ (x : Ru) (A : Option Addr) (c : Nat), v = ruv x A c ∧ RuR w w.heap.size x A := by
  obtain ⟨cs, rfl, hsz⟩ := okWide_struct Try.underlying24 hv
  obtain ⟨fuel, hf0⟩ := h
  obtain ⟨cs⟩ := cs
  have hf1 : DataW.trod enc Try.prog w base spare held fuel 24 cs = some (d, p) := by simpa [Value.cells] using hf0
  obtain ⟨x, ⟨A, c, rfl, hr⟩, -⟩ := rules_cells _ _ _ hf1
  exact ⟨x, A, c, rfl, hr⟩
set_option maxRecDepth 100000 in
theorem open_sk {r : Reach} {b0 : Nat} {v : Value} {d : DataW H} {p : List MemPlace} (hv : Value.okWide Try.prog w r b0 28 v) (h : DataW.Trod enc Try.prog w base spare held 28 v d p) :
    ∃ (x : Sk) (AC AP : Option Addr) (cc cp : Nat), v = skv x AC AP cc cp ∧ SkR w w.heap.size x AC AP := by
  obtain ⟨cs, rfl, hsz⟩ := okWide_struct Try.underlying28 hv
  obtain ⟨fuel, hf0⟩ := h
  obtain ⟨cs⟩ := cs
  have hf1 : DataW.trod enc Try.prog w base spare held fuel 28 cs = some (d, p) := by simpa [Value.cells] using hf0
  obtain ⟨x, ⟨A, A', c, c', rfl, hr⟩, -⟩ := skating_cells _ _ _ hf1
  exact ⟨x, A, A', c, c', rfl, hr⟩
set_option maxRecDepth 100000 in
theorem open_sks {r : Reach} {b0 : Nat} {v : Value} {d : DataW H} {p : List MemPlace} (hv : Value.okWide Try.prog w r b0 30 v) (h : DataW.Trod enc Try.prog w base spare held 30 v d p) :
    ∃ (l : List Sk) (A : Option Addr) (cap : Nat), v = .slice A l.length cap ∧ l.length ≤ big ∧ SRow w w.heap.size A l ∧ l.length ≤ cap := by
  obtain ⟨A0, len0, cap0, rfl⟩ := okWide_slice Try.underlying30 hv
  obtain ⟨fuel, hf⟩ := h
  obtain ⟨L, A, cap, e, h1, h2, -, h4⟩ := open_rowT (by omega) Try.underlying30 cells28 (fun (s : Sk) cs => ∃ AC AP cc cp, cs = (skc s AC AP cc cp).toList ∧ SkR w w.heap.size s AC AP) skating_cells (c := .slice A0 len0 cap0) hf
  have h2' : cap ≤ 9223372036854775807 := h2
  refine ⟨L, A, cap, e, by unfold big; omega, fun k hk => ?_, h1⟩
  obtain ⟨g, o, cs, e, hg, ⟨AC, AP, cc, cp, rfl, hr⟩, hc⟩ := h4 k hk
  exact ⟨g, o, AC, AP, cc, cp, e, hg, fun j hj => by have := hc j hj; rw [← Nat.add_assoc] at this; rw [this]; simp, hr⟩
/-- a row of scores that lies below B -/
def ScRow (w : World) (B : Nat) (A : Option Addr) (l : List Sc) : Prop :=
  ∀ k (h : k < l.length), ∃ g o, A = some ⟨g, o, none⟩ ∧ g < B ∧ ∀ j, j < 4 → w.cell? ⟨g, o + k * 4 + j, none⟩ = (scc l[k])[j]?
theorem ScRow.below {w w' : World} {B : Nat} {A : Option Addr} {l : List Sc} (h : ScRow w B A l) (hb : Below B w w') : ScRow w' B A l := fun k hk => by
  obtain ⟨g, o, e, hg, c⟩ := h k hk
  exact ⟨g, o, e, hg, fun j hj => (hb.cell (p := ⟨g, _, none⟩) hg).trans (c j hj)⟩
set_option maxRecDepth 100000 in
theorem open_scs {r : Reach} {b0 : Nat} {v : Value} {d : DataW H} {p : List MemPlace} (hv : Value.okWide Try.prog w r b0 41 v) (h : DataW.Trod enc Try.prog w base spare held 41 v d p) :
    ∃ (l : List Sc) (A : Option Addr) (cap : Nat), v = .slice A l.length cap ∧ l.length ≤ big ∧ ScRow w w.heap.size A l ∧ l.length ≤ cap := by
  obtain ⟨A0, len0, cap0, rfl⟩ := okWide_slice Try.underlying41 hv
  obtain ⟨fuel, hf⟩ := h
  obtain ⟨L, A, cap, e, h1, h2, -, h4⟩ := open_rowT (by omega) Try.underlying41 cells33 (fun (s : Sc) cs => cs = (scc s).toList) score_cells (c := .slice A0 len0 cap0) hf
  have h2' : cap ≤ 9223372036854775807 := h2
  refine ⟨L, A, cap, e, by unfold big; omega, fun k hk => ?_, h1⟩
  obtain ⟨g, o, cs, e, hg, rfl, hc⟩ := h4 k hk
  exact ⟨g, o, e, hg, fun j hj => by have := hc j hj; rw [← Nat.add_assoc] at this; rw [this]; simp⟩
/-- a row of bytes that lies below B -/
def BRow (w : World) (B : Nat) (A : Option Addr) (l : List Int) : Prop :=
  ∀ k (h : k < l.length), ∃ g o, A = some ⟨g, o, none⟩ ∧ g < B ∧ w.cell? ⟨g, o + k, none⟩ = some (.int .u8 l[k])
theorem BRow.below {w w' : World} {B : Nat} {A : Option Addr} {l : List Int} (h : BRow w B A l) (hb : Below B w w') : BRow w' B A l := fun k hk => by
  obtain ⟨g, o, e, hg, c⟩ := h k hk
  exact ⟨g, o, e, hg, (hb.cell (p := ⟨g, _, none⟩) hg).trans c⟩
set_option maxRecDepth 100000 in
theorem open_u8s {r : Reach} {b0 : Nat} {v : Value} {d : DataW H} {p : List MemPlace} (hv : Value.okWide Try.prog w r b0 59 v) (h : DataW.Trod enc Try.prog w base spare held 59 v d p) :
    ∃ (l : List Int) (A : Option Addr) (cap : Nat), v = .slice A l.length cap ∧ l.length ≤ 9223372036854775807 ∧ (∀ s ∈ l, 0 ≤ s ∧ s ≤ 255) ∧ BRow w w.heap.size A l := by
  obtain ⟨A0, len0, cap0, rfl⟩ := okWide_slice Try.underlying59 hv
  obtain ⟨fuel, hf⟩ := h
  obtain ⟨L, A, cap, e, h1, h2, -, h4⟩ := open_rowT (by omega) Try.underlying59 cells5 (fun (s : Int) cs => cs = [.int .u8 s] ∧ 0 ≤ s ∧ s ≤ 255) u8_cells (c := .slice A0 len0 cap0) hf
  have h2' : cap ≤ 9223372036854775807 := h2
  refine ⟨L, A, cap, e, by omega, fun s hs => ?_, fun k hk => ?_⟩
  · obtain ⟨i, hi, rfl⟩ := List.mem_iff_getElem.1 hs
    obtain ⟨g, o, cs, e, hg, ⟨-, hw⟩, -⟩ := h4 i hi
    exact hw
  · obtain ⟨g, o, cs, e, hg, ⟨rfl, -⟩, hc⟩ := h4 k hk
    exact ⟨g, o, e, hg, by simpa using hc 0 (by omega)⟩
end
end Go.Proofs.Ytmclchaalmonnaa

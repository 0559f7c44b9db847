/- Arguments opened. -/
import Derived.Test.YtljkgjfmambfoaaDoorStays
import Derived.Test.YtljkgjfmambfoaaDoorLgC
import Derived.Carry
import Derived.Deep.Slices
namespace Go.Proofs.YtljkgjfmambfoaaDoor
open Go.ChangeShapes Go.WideShapes Go.ChangeAt Go.RowKit Go.Deep
theorem len3 {α : Type} {l : List α} (h : l.length = 3) : ∃ a b c, l = [a, b, c] := by
  match l, h with | [a, b, c], _ => exact ⟨a, b, c, rfl⟩
theorem len2 {α : Type} {l : List α} (h : l.length = 2) : ∃ a b, l = [a, b] := by
  match l, h with | [a, b], _ => exact ⟨a, b, rfl⟩
theorem len4 {α : Type} {l : List α} (h : l.length = 4) : ∃ a b c d, l = [a, b, c, d] := by
  match l, h with | [a, b, c, d], _ => exact ⟨a, b, c, d, rfl⟩
theorem len5 {α : Type} {l : List α} (h : l.length = 5) : ∃ a b c d e, l = [a, b, c, d, e] := by
  match l, h with | [a, b, c, d, e], _ => exact ⟨a, b, c, d, e, rfl⟩
theorem len6 {α : Type} {l : List α} (h : l.length = 6) : ∃ a b c d e f, l = [a, b, c, d, e, f] := by
  match l, h with | [a, b, c, d, e, f], _ => exact ⟨a, b, c, d, e, f, rfl⟩
section
variable {H : Type} {enc : TypeId × Value → H} {P : Program} {w : World} {base : Nat} {spare : Nat → Bool} {held : Bool}
theorem struct_field {fs : Array Field} {t : TypeId} {fuel : Nat} {cs : List Value} {x : DataW H × List MemPlace} (ht : P.underlying t = some (.struct fs)) (h : DataW.trod enc P w base spare held fuel t cs = some x) :
    cs.length = P.cellsOf t ∧ ∀ (i : Nat) (T : TypeId) (o c : Nat), (fs[i]?.map fun f => (f.type, f.offset)) = some (T, o) → P.cellsOf T = c → ∃ n y, DataW.trod enc P w base spare held n T ((cs.drop o).take c) = some y := by
  obtain ⟨xs, n, -, rfl, hl, hlen, hf⟩ := DataW.trod_struct ht h
  refine ⟨hl, fun i T o c hi hc => ?_⟩
  obtain ⟨f, hi', he⟩ := Option.map_eq_some_iff.1 hi
  simp only [Prod.mk.injEq] at he
  obtain ⟨rfl, rfl⟩ := he
  subst hc
  have h1 := hf i f hi'
  have hil : i < fs.size := (Array.getElem?_eq_some_iff.1 hi').1
  exact ⟨n, _, h1.trans (List.getElem?_eq_getElem (by omega))⟩
theorem int_cell {t : TypeId} {fuel : Nat} {c : Value} {x : DataW H × List MemPlace} (ht : P.underlying t = some (.int .i64)) (h : DataW.trod enc P w base spare held fuel t [c] = some x) : ∃ n, c = .int .i64 n := by
  obtain ⟨n, e, _, _⟩ := DataW.trod_int ht h
  exact ⟨n, by simpa using e⟩
theorem bool_cell {t : TypeId} {fuel : Nat} {c : Value} {x : DataW H × List MemPlace} (ht : P.underlying t = some .bool) (h : DataW.trod enc P w base spare held fuel t [c] = some x) : ∃ n, c = .bool n := by
  obtain ⟨n, e, _⟩ := DataW.trod_bool ht h
  exact ⟨n, by simpa using e⟩
theorem cell_spot {a : Addr} {v : Value} (h : w.cell? a = some v) : a.spot = none ∧ a.block < w.heap.size := by
  unfold World.cell? at h
  cases hh : w.heap[a.block]? with
  | none => rw [hh] at h; cases h
  | some o =>
    rw [hh] at h
    refine ⟨?_, (Array.getElem?_eq_some_iff.1 hh).1⟩
    cases o with
    | cells c e f =>
      cases hs : a.spot with
      | none => rfl
      | some s => simp [hs] at h
    | _ => cases h
theorem add_some {a : Addr} (h : a.spot = none) (i : Nat) : a.add i = ⟨a.block, a.off + i, none⟩ := by
  obtain ⟨b, o, s⟩ := a
  cases h
  unfold Addr.add
  by_cases hi : i = 0
  · subst hi; rfl
  · simp [hi]
/-- a slice, whatever its elements read as -/
theorem open_rowT {t E : TypeId} {k : Nat} (hk0 : 0 < k) (ht : P.underlying t = some (.slice E)) (hk : P.cellsOf E = k) {α : Type} (f : α → List Value → Prop)
    (he : ∀ n cs x, DataW.trod enc P w base spare held n E cs = some x → ∃ a, f a cs ∧ cs.length = k)
    {fuel : Nat} {c : Value} {x : DataW H × List MemPlace} (h : DataW.trod enc P w base spare held fuel t [c] = some x) :
    ∃ (L : List α) (A : Option Addr) (cap : Nat), c = .slice A L.length cap ∧ L.length ≤ cap ∧ cap ≤ maxLen ∧ (A = none → L.length = 0 ∧ cap = 0) ∧ ∀ i (h : i < L.length), ∃ g o cs, A = some ⟨g, o, none⟩ ∧ g < w.heap.size ∧ f L[i] cs ∧ ∀ j, j < k → w.cell? ⟨g, o + (i * k + j), none⟩ = cs[j]? := by
  rcases open_slice ht h with ⟨h0, -⟩ | ⟨a, len, cap, m, n, D, Pl, hcs, -, hl, hm, hmm, -, hx⟩
  · simp at h0
    subst h0
    exact ⟨[], none, 0, rfl, by simp, by simp [maxLen], by simp, fun i h => absurd h (by simp)⟩
  · simp at hcs
    subst hcs
    have hlm : len ≤ m := by rw [hmm]; split <;> omega
    have hall : ∀ i, i < len → ∃ y : α × List Value, (f y.1 y.2 ∧ y.2.length = k) ∧ ∀ j (hj : j < k), w.cell? (a.add (i * k + j)) = y.2[j]? := fun i hi => by
      obtain ⟨cs', hc, ht'⟩ := hx i (by omega)
      rw [hk] at hc
      obtain ⟨-, hcl, hat⟩ := World.cells?_some hc
      obtain ⟨y, hf, hyl⟩ := he _ _ _ ht'
      refine ⟨(y, cs'), ⟨hf, hyl⟩, fun j hj => ?_⟩
      have := hat j (by omega)
      rw [add_add] at this
      rw [this]
    by_cases hl0 : len = 0
    · subst hl0
      exact ⟨[], some a, cap, rfl, by simp, hm, fun h => (by cases h), fun i h => absurd h (by simp)⟩
    haveI : Inhabited (α × List Value) := ⟨(hall 0 (by omega)).choose⟩
    obtain ⟨g, hfs⟩ := choose_lt hall
    refine ⟨(List.range len).map fun i => (g i).1, some a, cap, by simp, by simpa using hl, hm, fun h => (by cases h), ?_⟩
    intro i hi
    have hi' : i < len := by simpa using hi
    have h00 := (hfs 0 (by omega)).2 0 hk0
    rw [show 0 * k + 0 = 0 by omega, show a.add 0 = a from rfl, List.getElem?_eq_getElem (by have := (hfs 0 (by omega)).1.2; omega)] at h00
    obtain ⟨hs, hb⟩ := cell_spot h00
    refine ⟨a.block, a.off, (g i).2, by obtain ⟨_, _, _⟩ := a; cases hs; rfl, hb, ?_, fun j hj => ?_⟩
    · simp only [List.getElem_map, List.getElem_range]
      exact (hfs i hi').1.1
    · have := (hfs i hi').2 j hj
      rw [add_some hs] at this
      exact this
end
section
variable {H : Type} {enc : TypeId × Value → H} {w : World} {base : Nat} {spare : Nat → Bool} {held : Bool}
theorem cells3 : Tryd.prog.cellsOf 3 = 1 := by kernel_rfl
theorem cells22 : Tryd.prog.cellsOf 22 = 1 := by kernel_rfl
theorem cells23 : Tryd.prog.cellsOf 23 = 1 := by kernel_rfl
theorem cells43 : Tryd.prog.cellsOf 43 = 1 := by kernel_rfl
theorem cells25 : Tryd.prog.cellsOf 25 = 2 := by kernel_rfl
theorem cells53 : Tryd.prog.cellsOf 53 = 6 := by kernel_rfl
theorem int_cells (n : Nat) (cs : List Value) (x : DataW H × List MemPlace) (h : DataW.trod enc Tryd.prog w base spare held n 3 cs = some x) : ∃ a : Int, cs = [.int .i64 a] ∧ cs.length = 1 := by
  obtain ⟨a, rfl, _, _⟩ := DataW.trod_int Tryd.underlying3 h
  exact ⟨a, rfl, rfl⟩
theorem ints_cell {fuel : Nat} {c : Value} {x : DataW H × List MemPlace} (h : DataW.trod enc Tryd.prog w base spare held fuel 43 [c] = some x) :
    ∃ (l : List Int) (A : Option Addr) (cap : Nat), c = .slice A l.length cap ∧ l.length ≤ big ∧ IRow w w.heap.size A l ∧ l.length ≤ cap := by
  obtain ⟨L, A, cap, rfl, h1, h2, -, h4⟩ := open_rowT (by omega) Tryd.underlying43 cells3 (fun (s : Int) cs => cs = [.int .i64 s]) int_cells h
  have h2' : cap ≤ 9223372036854775807 := h2
  refine ⟨L, A, cap, rfl, by unfold big; omega, fun k hk => ?_, h1⟩
  obtain ⟨g, o, cs, e, hg, rfl, hc⟩ := h4 k hk
  exact ⟨g, o, e, hg, by simpa using hc 0 (by omega)⟩
theorem row_cells (n : Nat) (cs : List Value) (x : DataW H × List MemPlace) (h : DataW.trod enc Tryd.prog w base spare held n 43 cs = some x) : ∃ l : List Int, (∃ M k, cs = [.slice M l.length k] ∧ IRow w w.heap.size M l ∧ l.length ≤ big) ∧ cs.length = 1 := by
  have hl : cs.length = 1 := by
    rcases open_slice Tryd.underlying43 h with ⟨h0, -⟩ | ⟨a, len, cap, m, n, D, Pl, hcs, -⟩
    · simp [h0]
    · simp [hcs]
  obtain ⟨c, rfl⟩ : ∃ c, cs = [c] := by match cs, hl with | [c], _ => exact ⟨c, rfl⟩
  obtain ⟨l, M, k, rfl, hb, hm, -⟩ := ints_cell (c := c) h
  exact ⟨l, ⟨M, k, rfl, hm, hb⟩, rfl⟩
theorem rows_cell {fuel : Nat} {c : Value} {x : DataW H × List MemPlace} (h : DataW.trod enc Tryd.prog w base spare held fuel 22 [c] = some x) :
    ∃ (l : List (List Int)) (A : Option Addr) (cap : Nat), c = .slice A l.length cap ∧ l.length ≤ big ∧ PRow w w.heap.size A l ∧ l.length ≤ cap := by
  obtain ⟨L, A, cap, rfl, h1, h2, -, h4⟩ := open_rowT (by omega) Tryd.underlying22 cells43 (fun (s : List Int) cs => ∃ M k, cs = [.slice M s.length k] ∧ IRow w w.heap.size M s ∧ s.length ≤ big) row_cells h
  have h2' : cap ≤ 9223372036854775807 := h2
  refine ⟨L, A, cap, rfl, by unfold big; omega, fun k hk => ?_, h1⟩
  obtain ⟨g, o, cs, e, hg, ⟨M, m, rfl, hm, hb⟩, hc⟩ := h4 k hk
  exact ⟨g, o, M, m, e, hg, by simpa using hc 0 (by omega), hm, hb⟩
theorem game_cells (n : Nat) (cs : List Value) (x : DataW H × List MemPlace) (h : DataW.trod enc Tryd.prog w base spare held n 53 cs = some x) : ∃ s : Gm, cs = (gmc s).toList ∧ cs.length = 6 := by
  obtain ⟨hl, hf⟩ := struct_field Tryd.underlying53 h
  rw [cells53] at hl
  obtain ⟨c0, c1, c2, c3, c4, c5, rfl⟩ := len6 hl
  obtain ⟨n0, y0, h0⟩ := hf 0 3 0 1 rfl cells3
  obtain ⟨n1, y1, h1⟩ := hf 1 3 1 1 rfl cells3
  obtain ⟨n2, y2, h2⟩ := hf 2 3 2 1 rfl cells3
  obtain ⟨n3, y3, h3⟩ := hf 3 3 3 1 rfl cells3
  obtain ⟨n4, y4, h4⟩ := hf 4 3 4 1 rfl cells3
  obtain ⟨n5, y5, h5⟩ := hf 5 3 5 1 rfl cells3
  obtain ⟨a, rfl⟩ := int_cell (c := c0) Tryd.underlying3 h0
  obtain ⟨b, rfl⟩ := int_cell (c := c1) Tryd.underlying3 h1
  obtain ⟨c, rfl⟩ := int_cell (c := c2) Tryd.underlying3 h2
  obtain ⟨d, rfl⟩ := int_cell (c := c3) Tryd.underlying3 h3
  obtain ⟨e, rfl⟩ := int_cell (c := c4) Tryd.underlying3 h4
  obtain ⟨f, rfl⟩ := int_cell (c := c5) Tryd.underlying3 h5
  exact ⟨⟨a, b, c, d, e, f⟩, rfl, rfl⟩
theorem games_cell {fuel : Nat} {c : Value} {x : DataW H × List MemPlace} (h : DataW.trod enc Tryd.prog w base spare held fuel 23 [c] = some x) :
    ∃ (l : List Gm) (A : Option Addr) (cap : Nat), c = .slice A l.length cap ∧ l.length ≤ big ∧ GRow w w.heap.size A l ∧ l.length ≤ cap := by
  obtain ⟨L, A, cap, rfl, h1, h2, -, h4⟩ := open_rowT (by omega) Tryd.underlying23 cells53 (fun (s : Gm) cs => cs = (gmc s).toList) game_cells h
  have h2' : cap ≤ 9223372036854775807 := h2
  refine ⟨L, A, cap, rfl, by unfold big; omega, fun k hk => ?_, h1⟩
  obtain ⟨g, o, cs, e, hg, rfl, hc⟩ := h4 k hk
  exact ⟨g, o, e, hg, fun j hj => by have := hc j hj; rw [← Nat.add_assoc] at this; rw [this]; simp⟩
theorem league_cells (n : Nat) (cs : List Value) (x : DataW H × List MemPlace) (h : DataW.trod enc Tryd.prog w base spare held n 25 cs = some x) : ∃ s : Lg, (∃ AF AG cf cg, cs = (lgc s AF AG cf cg).toList ∧ LgR w w.heap.size s AF AG ∧ s.F.length ≤ cf ∧ s.G.length ≤ cg) ∧ cs.length = 2 := by
  obtain ⟨hl, hf⟩ := struct_field Tryd.underlying25 h
  rw [cells25] at hl
  obtain ⟨c0, c1, rfl⟩ := len2 hl
  obtain ⟨n0, y0, h0⟩ := hf 0 22 0 1 rfl cells22
  obtain ⟨n1, y1, h1⟩ := hf 1 23 1 1 rfl cells23
  obtain ⟨l, A, cap, rfl, hl2, hp, hc⟩ := rows_cell (c := c0) h0
  obtain ⟨l', A', cap', rfl, hl2', hp', hc'⟩ := games_cell (c := c1) h1
  exact ⟨⟨l, l'⟩, ⟨A, A', cap, cap', rfl, ⟨hp, hp', hl2, hl2'⟩, hc, hc'⟩, rfl⟩
set_option maxRecDepth 100000 in
theorem open_league {r : Reach} {b0 : Nat} {v : Value} {d : DataW H} {p : List MemPlace} (hv : Value.okWide Tryd.prog w r b0 25 v) (h : DataW.Trod enc Tryd.prog w base spare held 25 v d p) :
    ∃ (x : Lg) (AF AG : Option Addr) (cf cg : Nat), v = lgv x AF AG cf cg ∧ LgR w w.heap.size x AF AG ∧ x.F.length ≤ cf ∧ x.G.length ≤ cg := by
  obtain ⟨cs, rfl, hsz⟩ := okWide_struct Tryd.underlying25 hv
  obtain ⟨fuel, hf0⟩ := h
  obtain ⟨cs⟩ := cs
  have hf1 : DataW.trod enc Tryd.prog w base spare held fuel 25 cs = some (d, p) := by simpa [Value.cells] using hf0
  obtain ⟨x, ⟨A, A', c, c', rfl, hr, h1, h2⟩, -⟩ := league_cells _ _ _ hf1
  exact ⟨x, A, A', c, c', rfl, hr, h1, h2⟩
end
end Go.Proofs.YtljkgjfmambfoaaDoor

/- Whether a set of groups can have what it needs: satisfied. -/
import Derived.Test.YtipejhfgfciabaaHrW
namespace Go.Proofs.Ytipejhfgfciabaa
open Go.RowKit Go.Shelf
attribute [local irreducible] wpQuiet
def zeroG : Gr := ⟨0, 0, 0, 0, 0⟩
/-- the groups of a set, with what they need as their most; the others can have nothing -/
def narG (x : Tt) (least s : List Int) : List Gr := x.G.mapIdx fun i g => if (i : Int) ∈ s then { g with most := least.getD i 0 } else zeroG
def narrow (x : Tt) (least s : List Int) : Tt := { x with G := narG x least s }
theorem narG_len (x : Tt) (least s : List Int) : (narG x least s).length = x.G.length := by simp [narG]
theorem narG_at (x : Tt) (least s : List Int) (i : Nat) (h : i < x.G.length) : (narG x least s)[i]'(by rw [narG_len]; exact h) = if (i : Int) ∈ s then { x.G[i] with most := least.getD i 0 } else zeroG := by
  unfold narG; rw [List.getElem_mapIdx]
theorem narG_nil (x : Tt) (least : List Int) : narG x least [] = List.replicate x.G.length zeroG := by
  refine List.ext_getElem (by simp [narG]) (fun i h1 h2 => ?_)
  rw [narG_at _ _ _ _ (by simpa [narG] using h1)]
  simp
theorem narG_snoc (x : Tt) (least s : List Int) (i : Nat) (h : i < x.G.length) : narG x least (s ++ [(i : Int)]) = (narG x least s).set i { x.G[i] with most := least.getD i 0 } := by
  refine List.ext_getElem (by simp [narG]) (fun j h1 h2 => ?_)
  rw [narG_len] at h1
  rw [narG_at _ _ _ _ h1, List.getElem_set]
  by_cases hij : i = j
  · subst hij; simp
  · rw [if_neg hij, narG_at _ _ _ _ h1]
    have : (j : Int) ≠ i := by omega
    simp [this]
def needT (least l : List Int) : Int := (l.map fun g => least.getD g.toNat 0).sum
def mostOf (x : Tt) (g : Int) : Int := match x.G[g.toNat]? with | some a => a.most | none => 0
def satP (x : Tt) (least l : List Int) : Bool := (l.all fun g => decide (least.getD g.toNat 0 ≤ mostOf x g)) && canP (narrow x least l) x.H.length startP (needT least l)
theorem needT_snoc (least l : List Int) (g : Int) : needT least (l ++ [g]) = needT least l + least.getD g.toNat 0 := by simp [needT]
theorem leastB_at {x : Tt} {least : List Int} (h : leastB x least = true) : least.length = x.G.length ∧ ∀ i, i < x.G.length → 0 ≤ least.getD i 0 ∧ least.getD i 0 ≤ 12 := by
  simp only [leastB, Bool.and_eq_true, decide_eq_true_eq] at h
  refine ⟨h.1, fun i hi => ?_⟩
  have := List.all_eq_true.1 h.2 (least[i]'(by omega)) (List.getElem_mem _)
  rw [show least.getD i 0 = least[i]'(by omega) by simp [List.getD, show i < least.length by omega]]
  simpa [inB] using this
theorem needT_bd {x : Tt} {least : List Int} (h : leastB x least = true) : ∀ (l : List Int), (∀ g ∈ l, ∃ i : Nat, g = (i : Int) ∧ i < x.G.length) → 0 ≤ needT least l ∧ needT least l ≤ 12 * l.length
  | [], _ => by simp [needT]
  | g :: l, hl => by
    have ih := needT_bd h l (fun g hg => hl g (by simp [hg]))
    obtain ⟨i, rfl, hi⟩ := hl g (by simp)
    have hb := (leastB_at h).2 i hi
    have : needT least ((i : Int) :: l) = least.getD i 0 + needT least l := by simp [needT]
    rw [this]
    simp only [List.length_cons]
    omega
theorem vt_narrow {x : Tt} {least l : List Int} (hv : VT x) (h : leastB x least = true) : VT (narrow x least l) := by
  refine ⟨hv.R, by show (narG x least l).length ≤ 5; rw [narG_len]; exact hv.ng, hv.nh, fun g hg => ?_, hv.h⟩
  obtain ⟨i, hi, rfl⟩ := List.getElem_of_mem (show g ∈ narG x least l from hg)
  rw [narG_len] at hi
  rw [narG_at _ _ _ _ hi]
  have hb := (leastB_at h).2 i hi
  have hg := hv.g _ (List.getElem_mem hi)
  split
  · exact ⟨hg.1, hg.2.1, hg.2.2.1, by simp only; omega, hg.2.2.2.2⟩
  · exact ⟨by decide, by decide, by decide, by decide, by decide⟩
/-- a row of groups in a block of its own -/
def GH (w : World) (BG : Nat) (L : List Gr) : Prop := ∃ cur, Has w BG 49 cur ∧ ∀ k (h : k < L.length) j, j < 5 → cur[k * 5 + j]? = (grc L[k])[j]?
theorem GH.below {w w' : World} {BG : Nat} {L : List Gr} (h : GH w BG L) (hb : Below w.heap.size w w') : GH w' BG L := by
  obtain ⟨cur, h1, h2⟩ := h
  exact ⟨cur, h1.below hb h1.lt, h2⟩
theorem GH.cell {w : World} {BG : Nat} {L : List Gr} (h : GH w BG L) {k : Nat} (hk : k < L.length) {j : Nat} (hj : j < 5) : w.cell? ⟨BG, k * 5 + j, none⟩ = (grc L[k])[j]? := by
  obtain ⟨cur, h1, h2⟩ := h
  exact (h1.cell _).trans (h2 k hk j hj)
theorem GH.lt {w : World} {BG : Nat} {L : List Gr} (h : GH w BG L) : BG < w.heap.size := by
  obtain ⟨cur, h1, h2⟩ := h
  exact h1.lt
theorem GH.frozen {w : World} {BG : Nat} {L : List Gr} (h : GH w BG L) (i : Nat) : w.frozen? ⟨BG, i, none⟩ = false := by
  obtain ⟨cur, h1, h2⟩ := h
  exact h1.frozen i
theorem GH.ne_int {w : World} {BG : Nat} {L : List Gr} {t : TypeId} {cs : Array Value} {D : Nat} (h : GH w BG L) (hD : Has w D t cs) (ht : t ≠ 49) : D ≠ BG := by
  obtain ⟨cur, h1, h2⟩ := h
  rintro rfl
  exact ht (has_type hD h1)
/-- one cell -/
theorem GH.set1 {w : World} {BG : Nat} {L L' : List Gr} (h : GH w BG L) (i j0 : Nat) (hj0 : j0 < 5) (v : Value) (hl : L'.length = L.length) (hL : ∀ k (hk : k < L.length) j, j < 5 → (grc (L'[k]'(by omega)))[j]? = if k = i ∧ j = j0 then some v else (grc L[k])[j]?) : GH (w.setCell ⟨BG, i * 5 + j0, none⟩ v) BG L' := by
  obtain ⟨cur, h1, h2⟩ := h
  refine ⟨_, h1.set (i * 5 + j0) v, fun k hk j hj => ?_⟩
  rw [hl] at hk
  rw [hL k hk j hj, Array.getElem?_setIfInBounds]
  have e := h2 k hk j hj
  by_cases he : k = i ∧ j = j0
  · obtain ⟨rfl, rfl⟩ := he
    have hs : k * 5 + j < cur.size := by
      rcases Nat.lt_or_ge (k * 5 + j) cur.size with h | h
      · exact h
      · rw [Array.getElem?_eq_none h] at e
        have : j < (grc L[k]).size := by simpa using hj
        rw [Array.getElem?_eq_getElem this] at e
        cases e
    simp [hs]
  · rw [if_neg he, if_neg (by omega), e]
def set5 (w : World) (D o : Nat) (a b c d e : Value) : World := ((((w.setCell ⟨D, o, none⟩ a).setCell ⟨D, o + 1, none⟩ b).setCell ⟨D, o + 2, none⟩ c).setCell ⟨D, o + 3, none⟩ d).setCell ⟨D, o + 4, none⟩ e
theorem gr_set {L : List Gr} {i : Nat} (g : Gr) (_ : i < L.length) : ∀ k (hk : k < L.length), (L.set i g)[k]'(by simpa using hk) = if k = i then g else L[k] := fun k hk => by
  rw [List.getElem_set]
  by_cases h : i = k
  · subst h; simp
  · rw [if_neg h, if_neg (fun e => h e.symm)]
theorem GH.put {w : World} {BG : Nat} {L : List Gr} (h : GH w BG L) {i : Nat} (hi : i < L.length) (g : Gr) : GH (set5 w BG (i * 5) (.int .i64 g.days) (.int .i64 g.early) (.int .i64 g.late) (.int .i64 g.most) (.int .i64 g.credit)) BG (L.set i g) := by
  obtain ⟨o, ho⟩ : ∃ o, o = L[i] := ⟨_, rfl⟩
  have h0 := h.set1 (L' := L.set i { o with days := g.days }) i 0 (by omega) (.int .i64 g.days) (by simp) (fun k hk j hj => by
    rw [gr_set _ hi k hk]
    by_cases hki : k = i
    · subst hki
      rw [if_pos rfl, ← ho]
      match j, hj with
      | 0, _ => simp
      | 1, _ => simp
      | 2, _ => simp
      | 3, _ => simp
      | 4, _ => simp
    · simp [hki])
  have h1 := h0.set1 (L' := L.set i { o with days := g.days, early := g.early }) i 1 (by omega) (.int .i64 g.early) (by simp) (fun k hk j hj => by
    simp only [List.length_set] at hk
    rw [gr_set _ hi k hk, gr_set _ hi k hk]
    by_cases hki : k = i
    · subst hki
      rw [if_pos rfl, if_pos rfl]
      match j, hj with
      | 0, _ => simp
      | 1, _ => simp
      | 2, _ => simp
      | 3, _ => simp
      | 4, _ => simp
    · simp [hki])
  have h2 := h1.set1 (L' := L.set i { o with days := g.days, early := g.early, late := g.late }) i 2 (by omega) (.int .i64 g.late) (by simp) (fun k hk j hj => by
    simp only [List.length_set] at hk
    rw [gr_set _ hi k hk, gr_set _ hi k hk]
    by_cases hki : k = i
    · subst hki
      rw [if_pos rfl, if_pos rfl]
      match j, hj with
      | 0, _ => simp
      | 1, _ => simp
      | 2, _ => simp
      | 3, _ => simp
      | 4, _ => simp
    · simp [hki])
  have h3 := h2.set1 (L' := L.set i { o with days := g.days, early := g.early, late := g.late, most := g.most }) i 3 (by omega) (.int .i64 g.most) (by simp) (fun k hk j hj => by
    simp only [List.length_set] at hk
    rw [gr_set _ hi k hk, gr_set _ hi k hk]
    by_cases hki : k = i
    · subst hki
      rw [if_pos rfl, if_pos rfl]
      match j, hj with
      | 0, _ => simp
      | 1, _ => simp
      | 2, _ => simp
      | 3, _ => simp
      | 4, _ => simp
    · simp [hki])
  have h4 := h3.set1 (L' := L.set i g) i 4 (by omega) (.int .i64 g.credit) (by simp) (fun k hk j hj => by
    simp only [List.length_set] at hk
    rw [gr_set _ hi k hk, gr_set _ hi k hk]
    by_cases hki : k = i
    · subst hki
      rw [if_pos rfl, if_pos rfl]
      match j, hj with
      | 0, _ => simp
      | 1, _ => simp
      | 2, _ => simp
      | 3, _ => simp
      | 4, _ => simp
    · simp [hki])
  exact h4
theorem GH.setMost {w : World} {BG : Nat} {L : List Gr} (h : GH w BG L) {i : Nat} (hi : i < L.length) (m : Int) : GH (w.setCell ⟨BG, i * 5 + 3, none⟩ (.int .i64 m)) BG (L.set i { L[i] with most := m }) :=
  h.set1 i 3 (by omega) (.int .i64 m) (by simp) (fun k hk j hj => by
    rw [gr_set _ hi k hk]
    by_cases hki : k = i
    · subst hki
      rw [if_pos rfl]
      match j, hj with
      | 0, _ => simp
      | 1, _ => simp
      | 2, _ => simp
      | 3, _ => simp
      | 4, _ => simp
    · simp [hki])
theorem Try.info49 : (Try.prog.info? 49).map (fun i => (i.zero, i.size, i.bytes)) = some (some (.agg #[.int .i64 0, .int .i64 0, .int .i64 0, .int .i64 0, .int .i64 0]), 5, 40) := by kernel_rfl
theorem make_groups (n : Nat) (hn : n ≤ 1000000) (w : World) : (Instr.makeSlice 23 (.int .i64 n) (.int .i64 n)).run Try.prog w = .ok (.slice (some ⟨w.heap.size, 0, none⟩) n n) (w.alloc (.cells (madeCells #[.int .i64 0, .int .i64 0, .int .i64 0, .int .i64 0, .int .i64 0] (n * 5)) 49)) := by
  obtain ⟨i, hi, hz0, hz1, hz2⟩ := info_parts Try.info49
  have := run_make (P := Try.prog) w 23 49 i _ Try.underlying23 hi hz0 .i64 .i64 n n (by omega) (by omega) (by rw [hz2]; omega) (by omega)
  rw [this, hz1]
  simp only [Int.toNat_natCast]
  rfl
theorem made_gh (w : World) (n : Nat) : GH (w.alloc (.cells (madeCells #[.int .i64 0, .int .i64 0, .int .i64 0, .int .i64 0, .int .i64 0] (n * 5)) 49)) w.heap.size (List.replicate n zeroG) := by
  refine ⟨_, Has.new w 49 _, fun k hk j hj => ?_⟩
  simp only [List.length_replicate] at hk
  rw [List.getElem_replicate]
  have e : k * 5 + j < n * 5 := by omega
  have e2 : (k * 5 + j) % 5 = j := by omega
  unfold madeCells
  simp [e, e2]
  match j, hj with
  | 0, _ => simp [zeroG]
  | 1, _ => simp [zeroG]
  | 2, _ => simp [zeroG]
  | 3, _ => simp [zeroG]
  | 4, _ => simp [zeroG]
end Go.Proofs.Ytipejhfgfciabaa

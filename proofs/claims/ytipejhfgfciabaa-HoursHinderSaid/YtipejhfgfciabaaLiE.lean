/- Good plans, hour by hour, and what Check goes through; plain. -/
import Derived.Test.YtipejhfgfciabaaHrR
namespace Go.Proofs.Ytipejhfgfciabaa
/-- how many hours a group has by the first k -/
def cntI (l : List Int) (k : Nat) (g : Int) : Int := ((l.take k).count g : Nat)
def ahd (l : List Int) (i : Nat) : Int := if i = 0 then -1 else l.getD (i - 1) (-1)
/-- the hour i is given as it may be, with those ahead -/
def goodI (x : Tt) (l : List Int) (i : Nat) : Bool :=
  match l[i]? with
  | none => true
  | some g => decide (g < 0) || (decide (cntI l (i + 1) g ≤ mostOf' x g) && (mayOf x g i && (decide (i = 0) || (decide (ahd l i < 0) || (decide (ahd l i = g) || !tightB x (i - 1))))))
where
  mostOf' (x : Tt) (g : Int) : Int := match x.G[g.toNat]? with | some a => a.most | none => 0
  mayOf (x : Tt) (g : Int) (i : Nat) : Bool := match x.G[g.toNat]?, x.H[i]? with | some a, some h => mayB a h | _, _ => false
def goodP (x : Tt) (l : List Int) : Bool := planB x l && (List.range l.length).all (goodI x l)
def lastOf (x : Tt) (l : List Int) (k : Nat) : Int := if k = 0 then -1 else if ahd l k = -1 then -1 else if tightB x (k - 1) then ahd l k else -1
/-- the place behind the first k hours -/
def placeOf (x : Tt) (l : List Int) (k : Nat) : Pl := ⟨k, lastOf x l k, (List.range 5).map fun (g : Nat) => cntI l k (g : Int)⟩
theorem cntI_zero (l : List Int) (g : Int) : cntI l 0 g = 0 := by simp [cntI]
theorem cntI_succ {l : List Int} {k : Nat} (hk : k < l.length) (g : Int) : cntI l (k + 1) g = cntI l k g + if l[k] = g then 1 else 0 := by
  unfold cntI
  rw [List.take_succ_eq_append_getElem hk, List.count_append]
  by_cases h : l[k] = g
  · simp [h]
  · simp [h]
theorem place_zero (x : Tt) (l : List Int) : placeOf x l 0 = startP := by
  unfold placeOf startP lastOf
  simp only [if_true, Pl.mk.injEq, true_and]
  refine List.ext_getElem (by simp) (fun i h1 h2 => ?_)
  simp only [List.getElem_map, cntI_zero, List.getElem_replicate]
theorem given_at (x : Tt) (l : List Int) (k : Nat) {g : Nat} (hg : g < 5) : (placeOf x l k).given.getD g 0 = cntI l k (g : Int) := by
  unfold placeOf
  simp [List.getD, hg]
theorem given_set {x : Tt} {l : List Int} {k : Nat} (hk : k < l.length) {g : Nat} (hg : g < 5) (h : l[k] = (g : Int)) : (placeOf x l k).given.set g ((placeOf x l k).given.getD g 0 + 1) = (placeOf x l (k + 1)).given := by
  rw [given_at _ _ _ hg]
  unfold placeOf
  simp only
  refine List.ext_getElem (by simp) (fun i h1 h2 => ?_)
  rw [List.getElem_set]
  simp only [List.length_map, List.length_range] at h2
  simp only [List.getElem_map, List.getElem_range]
  rw [cntI_succ hk, h]
  by_cases hi : g = i
  · subst hi; simp
  · rw [if_neg hi, if_neg (by omega)]; simp
theorem given_free {x : Tt} {l : List Int} {k : Nat} (hk : k < l.length) (h : l[k] = -1) : (placeOf x l k).given = (placeOf x l (k + 1)).given := by
  unfold placeOf
  simp only
  refine List.ext_getElem (by simp) (fun i h1 h2 => ?_)
  simp only [List.getElem_map, List.getElem_range]
  rw [cntI_succ hk, h, if_neg (by omega)]; simp
theorem ahd_succ {l : List Int} {k : Nat} (hk : k < l.length) : ahd l (k + 1) = l[k] := by
  unfold ahd; simp [List.getD, hk]
theorem goodI_at {x : Tt} {l : List Int} {k : Nat} (hk : k < l.length) {g : Nat} (h : l[k] = (g : Int)) (hg : g < x.G.length) (hh : k < x.H.length) :
    goodI x l k = (decide (cntI l (k + 1) (g : Int) ≤ x.G[g].most) && (mayB x.G[g] x.H[k] && (decide (k = 0) || (decide (ahd l k < 0) || (decide (ahd l k = g) || !tightB x (k - 1)))))) := by
  unfold goodI
  rw [List.getElem?_eq_getElem hk, h]
  simp only
  rw [decide_eq_false (show ¬ (g : Int) < 0 by omega), Bool.false_or]
  unfold goodI.mostOf' goodI.mayOf
  simp only [Int.toNat_natCast, List.getElem?_eq_getElem hg, List.getElem?_eq_getElem hh]
theorem goodI_neg {x : Tt} {l : List Int} {k : Nat} (hk : k < l.length) (h : l[k] < 0) : goodI x l k = true := by
  unfold goodI
  rw [List.getElem?_eq_getElem hk]
  simp only
  rw [decide_eq_true h, Bool.true_or]
/-- an hour, as give sees it -/
theorem give_place {x : Tt} {l : List Int} {k : Nat} (hv : VT x) (hp : planB x l = true) (hk : k < l.length) :
    (goodI x l k = true ∧ giveR x (placeOf x l k) l[k] = (0, placeOf x l (k + 1))) ∨ (goodI x l k = false ∧ (giveR x (placeOf x l k) l[k]).1 ≠ 0 ∧ (giveR x (placeOf x l k) l[k]).1 ≠ 1 ∧ (giveR x (placeOf x l k) l[k]).1 ≠ 2) := by
  obtain ⟨hlen, hall⟩ := plan_ok hp
  have hh : k < x.H.length := by omega
  have hng := hv.ng
  have hah : ∀ i, i < l.length → ahd l i = -1 ∨ 0 ≤ ahd l i := fun i hi => by
    unfold ahd
    split
    · exact .inl rfl
    · have : i - 1 < l.length := by omega
      have h := hall (l[i - 1]) (List.getElem_mem this)
      simp only [List.getD, List.getElem?_eq_getElem this, Option.getD_some]
      rcases h with h | ⟨j, h, _⟩
      · exact .inl h
      · exact .inr (by omega)
  rcases hall l[k] (List.getElem_mem hk) with h | ⟨g, h, hg⟩
  · refine .inl ⟨goodI_neg hk (by omega), ?_⟩
    rw [h, give_free]
    unfold placeOf
    simp only [Prod.mk.injEq, Pl.mk.injEq, true_and]
    refine ⟨?_, given_free (x := x) hk h⟩
    unfold lastOf
    rw [if_neg (by omega), ahd_succ hk, h, if_pos rfl]
  · have hg5 : g < 5 := by omega
    have e1 : (placeOf x l k).hour = k := rfl
    have e2 : (placeOf x l k).last = lastOf x l k := rfl
    have hG := goodI_at (x := x) hk h hg hh
    have hgv := nxt_of (x := x) (p := placeOf x l k) (g := g) hg (by rw [e1]; exact hh)
    rw [h, hgv, hG]
    simp only [e1, e2]
    rw [given_at _ _ _ hg5]
    have hc := cntI_succ hk (g : Int)
    rw [h, if_pos rfl] at hc
    by_cases hm : mayB x.G[g] x.H[k] = true
    rotate_left
    · have hm : mayB x.G[g] x.H[k] = false := by simpa using hm
      rw [if_pos hm, hm]
      exact .inr ⟨by simp, by decide, by decide, by decide⟩
    rw [if_neg (by simp [hm]), hm]
    by_cases hmo : x.G[g].most ≤ cntI l k (g : Int)
    · rw [if_pos hmo, decide_eq_false (show ¬ cntI l (k + 1) (g : Int) ≤ x.G[g].most by omega)]
      exact .inr ⟨by simp, by decide, by decide, by decide⟩
    rw [if_neg hmo, decide_eq_true (show cntI l (k + 1) (g : Int) ≤ x.G[g].most by omega)]
    simp only [Bool.true_and]
    have hla : lastOf x l k ≠ -1 ∧ lastOf x l k ≠ (g : Int) ↔ (decide (k = 0) || (decide (ahd l k < 0) || (decide (ahd l k = (g : Int)) || !tightB x (k - 1)))) = false := by
      unfold lastOf
      by_cases h0 : k = 0
      · simp [h0]
      · rw [if_neg h0]
        by_cases h1 : ahd l k = -1
        · simp [h1]
        · have h2 : 0 ≤ ahd l k := by rcases hah k hk with h | h <;> omega
          rw [if_neg h1]
          have h3 : ¬ ahd l k < 0 := by omega
          cases tightB x (k - 1) <;> simp [h0, h1, h3]
    by_cases hx : lastOf x l k ≠ -1 ∧ lastOf x l k ≠ (g : Int)
    · rw [if_pos hx]
      exact .inr ⟨hla.1 hx, by decide, by decide, by decide⟩
    · rw [if_neg hx]
      refine .inl ⟨by
        rcases hb : (decide (k = 0) || (decide (ahd l k < 0) || (decide (ahd l k = (g : Int)) || !tightB x (k - 1)))) with _ | _
        · exact absurd (hla.2 hb) hx
        · rfl, ?_⟩
      rw [show placeOf x l (k + 1) = ⟨k + 1, lastOf x l (k + 1), (placeOf x l (k + 1)).given⟩ from rfl, ← given_set (x := x) hk hg5 h, given_at _ _ _ hg5]
      simp only [Prod.mk.injEq, Pl.mk.injEq, true_and, and_true]
      unfold lastOf
      rw [if_neg (show ¬ k + 1 = 0 by omega), ahd_succ hk, h, if_neg (show ¬ (g : Int) = -1 by omega)]
      rfl
/-- what Check finds -/
theorem chk_good {x : Tt} {l : List Int} (hv : VT x) (hp : planB x l = true) : ∀ (d k : Nat), k + d = l.length →
    ((∀ i, k ≤ i → i < l.length → goodI x l i = true) ∧ chkR x (placeOf x l k) (l.drop k) = (0, l.length, placeOf x l l.length)) ∨
    ∃ e n, chkR x (placeOf x l k) (l.drop k) = (e, n, zeroP) ∧ e ≠ 0 ∧ e ≠ 1 ∧ e ≠ 2 ∧ k ≤ n ∧ n < l.length ∧ (∀ i, k ≤ i → i < n → goodI x l i = true) ∧ goodI x l n = false
  | 0, k, h => by
    have hk : k = l.length := by omega
    subst hk
    refine .inl ⟨fun i h1 h2 => absurd h1 (by omega), ?_⟩
    rw [List.drop_length]; rfl
  | d + 1, k, h => by
    have hk : k < l.length := by omega
    rw [List.drop_eq_getElem_cons hk]
    unfold chkR
    rcases give_place hv hp hk with ⟨hg, he⟩ | ⟨hg, h0, h1, h2⟩
    · rw [he]
      simp only [if_true]
      rcases chk_good hv hp d (k + 1) (by omega) with ⟨h1, h2⟩ | ⟨e, n, h1, h2, h3, h4, h5, h6, h7, h8⟩
      · refine .inl ⟨fun i hi hl => ?_, h2⟩
        rcases Nat.lt_or_ge k i with h | h
        · exact h1 i h hl
        · have : i = k := by omega
          subst this; exact hg
      · refine .inr ⟨e, n, h1, h2, h3, h4, by omega, h6, fun i hi hn => ?_, h8⟩
        rcases Nat.lt_or_ge k i with h | h
        · exact h7 i h hn
        · have : i = k := by omega
          subst this; exact hg
    · rw [if_neg h0]
      exact .inr ⟨_, k, rfl, h0, h1, h2, Nat.le_refl _, hk, fun i h1 h2 => absurd h1 (by omega), hg⟩
theorem goodI_take {x : Tt} {l m : List Int} {i : Nat} (h : l.take (i + 1) = m.take (i + 1)) : goodI x l i = goodI x m i := by
  have e : ∀ j, j ≤ i → l[j]? = m[j]? := fun j hj => by
    have := congrArg (fun t => t[j]?) h
    simpa [List.getElem?_take, show j < i + 1 by omega] using this
  have e1 := e i (Nat.le_refl _)
  have e2 : ahd l i = ahd m i := by
    unfold ahd
    split
    · rfl
    · simp only [List.getD]
      rw [e (i - 1) (by omega)]
  have e3 : ∀ g, cntI l (i + 1) g = cntI m (i + 1) g := fun g => by unfold cntI; rw [h]
  unfold goodI
  rw [e1]
  simp only [e2, e3]
def padP (l : List Int) (n : Nat) : List Int := l ++ List.replicate (n - l.length) (-1)
theorem goodP_of {x : Tt} {l : List Int} (h : planB x l = true) : goodP x l = true ↔ ∀ i, i < l.length → goodI x l i = true := by
  unfold goodP
  rw [h, Bool.true_and, List.all_eq_true]
  simp
theorem planB_pad {x : Tt} {l : List Int} (h : planB x l = true) (k : Nat) (hk : k ≤ l.length) : planB x (padP (l.take k) l.length) = true := by
  unfold planB at h ⊢
  simp only [Bool.and_eq_true, decide_eq_true_eq, List.all_eq_true] at h ⊢
  refine ⟨by unfold padP; simp; omega, fun g hg => ?_⟩
  unfold padP at hg
  rcases List.mem_append.1 hg with hg | hg
  · exact h.2 g (List.mem_of_mem_take hg)
  · rw [List.eq_of_mem_replicate hg]; rfl
theorem pad_len {l : List Int} {k : Nat} (hk : k ≤ l.length) : (padP (l.take k) l.length).length = l.length := by unfold padP; simp; omega
theorem pad_take {l : List Int} {k i : Nat} (hi : i ≤ k) (hk : k ≤ l.length) : (padP (l.take k) l.length).take i = l.take i := by
  unfold padP
  rw [List.take_append_of_le_length (by simp; omega), List.take_take, Nat.min_eq_left hi]
theorem pad_at {l : List Int} {k i : Nat} (hi : k ≤ i) (hl : i < l.length) : (padP (l.take k) l.length)[i]'(by rw [pad_len (by omega)]; exact hl) = -1 := by
  unfold padP
  rw [List.getElem_append_right (by simp; omega)]
  simp
/-- the hours ahead of the one that is told are a good plan; with this one they are none -/
theorem pad_good {x : Tt} {l : List Int} {n : Nat} (hp : planB x l = true) (hn : n < l.length) (h : ∀ i, i < n → goodI x l i = true) (h2 : goodI x l n = false) :
    goodP x (padP (l.take n) l.length) = true ∧ goodP x (padP (l.take (n + 1)) l.length) = false := by
  constructor
  · rw [goodP_of (planB_pad hp n (by omega))]
    intro i hi
    rw [pad_len (by omega)] at hi
    rcases Nat.lt_or_ge i n with hin | hin
    · rw [goodI_take (m := l) (pad_take (by omega) (by omega))]
      exact h i hin
    · exact goodI_neg (by rw [pad_len (by omega)]; exact hi) (by rw [pad_at hin hi]; decide)
  · cases hg : goodP x (padP (l.take (n + 1)) l.length) with
    | false => rfl
    | true =>
      rw [goodP_of (planB_pad hp (n + 1) (by omega))] at hg
      have := hg n (by rw [pad_len (by omega)]; exact hn)
      rw [goodI_take (m := l) (pad_take (by omega) (by omega)), h2] at this
      cases this
end Go.Proofs.Ytipejhfgfciabaa

/- Who hinders, and who does not; plain. -/
import Derived.Test.YtipejhfgfciabaaLiR
namespace Go.Proofs.Ytipejhfgfciabaa
theorem sat_nil (x : Tt) (least : List Int) : satP x least [] = true := by
  unfold satP
  have : needT least [] = 0 := rfl
  rw [this, can_yes]; rfl
theorem ahead_lt {l m : List Int} (h : l.length < m.length) : aheadB l m = true := by
  unfold aheadB aheadN Lib.compareInt
  rw [if_pos (show (l.length : Int) < m.length by omega), if_neg (by decide)]
  decide
theorem ahead_len {l m : List Int} (h : aheadB l m = true) : l.length ≤ m.length := by
  rcases Nat.lt_or_ge m.length l.length with h1 | h1
  · unfold aheadB aheadN Lib.compareInt at h
    rw [if_neg (show ¬ (l.length : Int) < m.length by omega), if_pos (show (m.length : Int) < l.length by omega), if_neg (by decide)] at h
    exact absurd h (by decide)
  · exact h1
theorem hTo_spec (x : Tt) (least : List Int) : ∀ k, (hTo x least k = [] ∧ ∀ s, s < k → satP x least (memL s) = true) ∨
    ∃ s0, s0 < k ∧ hTo x least k = memL s0 ∧ satP x least (memL s0) = false ∧ memL s0 ≠ [] ∧ ∀ s, s < k → (memL s).length < (memL s0).length → satP x least (memL s) = true
  | 0 => .inl ⟨rfl, fun s h => absurd h (by omega)⟩
  | k + 1 => by
    rw [hTo_succ]
    rcases hTo_spec x least k with ⟨h1, h2⟩ | ⟨s0, h1, h2, h3, h4, h5⟩
    · rw [h1]
      unfold stepH
      simp only [decide_true, Bool.true_or, Bool.true_and]
      cases hs : satP x least (memL k) with
      | true =>
        refine .inl ⟨rfl, fun s h => ?_⟩
        rcases Nat.lt_or_ge s k with h' | h'
        · exact h2 s h'
        · have : s = k := by omega
          subst this; exact hs
      | false =>
        refine .inr ⟨k, by omega, rfl, hs, fun e => ?_, fun s h hl => ?_⟩
        · rw [e, sat_nil] at hs; cases hs
        · rcases Nat.lt_or_ge s k with h' | h'
          · exact h2 s h'
          · have : s = k := by omega
            subst this; omega
    · rw [h2]
      unfold stepH
      rw [decide_eq_false h4, Bool.false_or]
      cases ha : aheadB (memL k) (memL s0) with
      | false =>
        refine .inr ⟨s0, by omega, rfl, h3, h4, fun s h hl => ?_⟩
        rcases Nat.lt_or_ge s k with h' | h'
        · exact h5 s h' hl
        · have : s = k := by omega
          subst this
          rw [ahead_lt hl] at ha; cases ha
      | true =>
        cases hs : satP x least (memL k) with
        | true =>
          refine .inr ⟨s0, by omega, rfl, h3, h4, fun s h hl => ?_⟩
          rcases Nat.lt_or_ge s k with h' | h'
          · exact h5 s h' hl
          · have : s = k := by omega
            subst this; exact hs
        | false =>
          have hle := ahead_len ha
          refine .inr ⟨k, by omega, rfl, hs, fun e => ?_, fun s h hl => ?_⟩
          · rw [e, sat_nil] at hs; cases hs
          · rcases Nat.lt_or_ge s k with h' | h'
            · exact h5 s h' (by omega)
            · have : s = k := by omega
              subst this; omega
theorem hind_nil {x : Tt} {least : List Int} (h : ∀ s, s < 2 ^ x.G.length → satP x least (memL s) = true) : hindP x least = [] := by
  rcases hTo_spec x least (2 ^ x.G.length) with ⟨h1, _⟩ | ⟨s0, h1, _, h3, _⟩
  · exact h1
  · rw [h s0 h1] at h3; cases h3
theorem memL_drop : ∀ s : Fin 32, ∀ i : Fin 5, s.1 / 2 ^ i.1 % 2 = 1 → memL (s.1 - 2 ^ i.1) = (memL s.1).filter (fun g => decide (g ≠ (i.1 : Int))) ∧ (memL (s.1 - 2 ^ i.1)).length + 1 = (memL s.1).length ∧ s.1 - 2 ^ i.1 < s.1 ∧ ∀ j : Fin 5, j ≠ i → s.1 / 2 ^ j.1 % 2 = 1 → (s.1 - 2 ^ i.1) / 2 ^ j.1 % 2 = 1 := by decide +kernel
theorem memL_rises : ∀ s : Fin 32, ∀ i : Fin 5, i.1 + 1 < (memL s.1).length → (memL s.1).getD i.1 0 < (memL s.1).getD (i.1 + 1) 0 := by decide +kernel
/-- without the i-th group of a set -/
def isFew (set : List Int) (i k : Nat) (g : Int) : Bool := (List.range k).any fun j => decide (j ≠ i) && decide (set.getD j (-1) = g)
def fewTo (least set : List Int) (i k : Nat) : List Int := (List.range least.length).map fun (g : Nat) => if isFew set i k (g : Int) then least.getD g 0 else 0
theorem fewTo_len (least set : List Int) (i k : Nat) : (fewTo least set i k).length = least.length := by simp [fewTo]
theorem fewTo_at (least set : List Int) (i k : Nat) {g : Nat} (hg : g < least.length) : (fewTo least set i k)[g]'(by rw [fewTo_len]; exact hg) = if isFew set i k (g : Int) then least.getD g 0 else 0 := by simp [fewTo]
theorem isFew_succ (set : List Int) (i k : Nat) (g : Int) : isFew set i (k + 1) g = (isFew set i k g || (decide (k ≠ i) && decide (set.getD k (-1) = g))) := by
  unfold isFew; rw [List.range_succ, List.any_append]; simp
theorem fewTo_zero (least set : List Int) (i : Nat) : fewTo least set i 0 = List.replicate least.length 0 := by
  refine List.ext_getElem (by simp [fewTo]) (fun g h1 h2 => ?_)
  rw [fewTo_len] at h1
  rw [fewTo_at _ _ _ _ h1, List.getElem_replicate]
  simp [isFew]
theorem fewTo_skip (least set : List Int) (i : Nat) : fewTo least set i (i + 1) = fewTo least set i i := by
  refine List.ext_getElem (by simp [fewTo]) (fun g h1 h2 => ?_)
  rw [fewTo_len] at h1
  rw [fewTo_at _ _ _ _ h1, fewTo_at _ _ _ _ h1, isFew_succ]
  simp
theorem fewTo_put {least set : List Int} {i k g : Nat} (hk : k ≠ i) (hs : set.getD k (-1) = (g : Int)) : (fewTo least set i k).set g (least.getD g 0) = fewTo least set i (k + 1) := by
  refine List.ext_getElem (by simp [fewTo]) (fun j h1 h2 => ?_)
  rw [fewTo_len] at h2
  rw [List.getElem_set, fewTo_at _ _ _ _ h2, fewTo_at _ _ _ _ h2, isFew_succ, hs]
  by_cases hj : g = j
  · subst hj; simp [hk]
  · rw [if_neg hj]
    have : ¬ (g : Int) = (j : Int) := by omega
    simp [this]
theorem few_least {x : Tt} {least : List Int} (hlb : leastB x least = true) (set : List Int) (i k : Nat) : leastB x (fewTo least set i k) = true := by
  obtain ⟨hl, hb⟩ := leastB_at hlb
  unfold leastB
  simp only [Bool.and_eq_true, decide_eq_true_eq, List.all_eq_true]
  refine ⟨by rw [fewTo_len]; exact hl, fun g hg => ?_⟩
  obtain ⟨j, hj, rfl⟩ := List.getElem_of_mem hg
  rw [fewTo_len] at hj
  rw [fewTo_at _ _ _ _ hj]
  unfold inB
  simp only [decide_eq_true_eq]
  have := hb j (by omega)
  split <;> omega
/-- without one of them the others can have what they need -/
theorem hind_few {x : Tt} {least : List Int} (hv : VT x) (hlb : leastB x least = true) {i : Nat} (hi : i < (hindP x least).length) : hindP x (fewTo least (hindP x least) i (hindP x least).length) = [] := by
  have hng := hv.ng
  have h32 := pow_le_32 hng
  rcases hTo_spec x least (2 ^ x.G.length) with ⟨h1, _⟩ | ⟨s0, h1, h2, h3, h4, h5⟩
  · have : hindP x least = [] := h1
    rw [this] at hi; simp at hi
  · have hh : hindP x least = memL s0 := h2
    rw [hh] at hi ⊢
    obtain ⟨g, hg, hgn⟩ := memL_lt h1 (memL s0)[i] (List.getElem_mem hi)
    have hg5 : g < 5 := by omega
    have hbit := (mem_memL hg5).1 (hg ▸ List.getElem_mem hi)
    obtain ⟨hd1, hd2, hd3, hd4⟩ := memL_drop ⟨s0, by omega⟩ ⟨g, hg5⟩ hbit
    simp only at hd1 hd2 hd3 hd4
    have hsat := h5 (s0 - 2 ^ g) (by omega) (by omega)
    obtain ⟨p, hp, hc⟩ := sat_plan hv hlb (by omega) hsat
    refine hind_nil (fun s hs => plan_sat hv (few_least hlb _ _ _) hs hp (fun j h5' hb => ?_))
    have hjn := bit_lt hs h5' hb
    have hll := (leastB_at hlb).1
    rw [show (fewTo least (memL s0) i (memL s0).length).getD j 0 = if isFew (memL s0) i (memL s0).length (j : Int) then least.getD j 0 else 0 by
      rw [← fewTo_at least (memL s0) i (memL s0).length (show j < least.length by omega)]
      simp [List.getD, show j < (fewTo least (memL s0) i (memL s0).length).length by rw [fewTo_len]; omega]]
    have hcb := (cntI_bd p p.length (j : Int)).1
    cases hf : isFew (memL s0) i (memL s0).length (j : Int) with
    | false => simp; exact hcb
    | true =>
      simp only [if_true]
      unfold isFew at hf
      rw [List.any_eq_true] at hf
      obtain ⟨k, hk, hf⟩ := hf
      simp only [Bool.and_eq_true, decide_eq_true_eq] at hf
      have hk' : k < (memL s0).length := List.mem_range.1 hk
      have hkj : (memL s0)[k] = (j : Int) := by
        have := hf.2
        simpa [List.getD, hk'] using this
      have hbj := (mem_memL h5').1 (hkj ▸ List.getElem_mem hk')
      have hjg : j ≠ g := by
        intro e
        subst e
        apply hf.1
        -- the numbers of a set are apart
        have hr : ∀ a b (hab : a < b) (hb : b < (memL s0).length), (memL s0)[a]'(by omega) < (memL s0)[b] := by
          intro a b
          induction b with
          | zero => intro hab; omega
          | succ b ih =>
            intro hab hb'
            have hb5 : b < 5 := by have : (memL s0).length ≤ 5 := memTo_len s0 5; omega
            have hs1 := memL_rises ⟨s0, by omega⟩ ⟨b, hb5⟩ hb'
            simp only [List.getD, List.getElem?_eq_getElem hb', List.getElem?_eq_getElem (show b < (memL s0).length by omega), Option.getD_some] at hs1
            rcases Nat.lt_or_ge a b with h | h
            · have := ih h (by omega); omega
            · have : a = b := by omega
              subst this; exact hs1
        rcases Nat.lt_trichotomy k i with h | h | h
        · have := hr k i h hi; omega
        · exact h
        · have := hr i k h hk'; omega
      exact hc j h5' (hd4 ⟨j, h5'⟩ (fun e => hjg (by simpa using congrArg Fin.val e)) hbj)
/-- no plan gives all of them what they need -/
theorem hind_not {x : Tt} {least : List Int} {p : List Int} (hv : VT x) (hlb : leastB x least = true) (hne : hindP x least ≠ []) (hp : goodP x p = true) : ∃ k, ∃ hk : k < (hindP x least).length, cntI p p.length (hindP x least)[k] < least.getD ((hindP x least)[k]).toNat 0 := by
  rcases hTo_spec x least (2 ^ x.G.length) with ⟨h1, _⟩ | ⟨s0, h1, h2, h3, h4, h5⟩
  · exact absurd h1 hne
  · have hh : hindP x least = memL s0 := h2
    have hng := hv.ng
    apply Classical.byContradiction
    intro hno
    have : satP x least (memL s0) = true := plan_sat hv hlb h1 hp (fun i h5' hb => by
      have hm := (mem_memL h5').2 hb
      obtain ⟨k, hk, he⟩ := List.getElem_of_mem hm
      apply Classical.byContradiction
      intro hlt
      refine hno ⟨k, by rw [hh]; exact hk, ?_⟩
      have e1 : (hindP x least)[k]'(by rw [hh]; exact hk) = (i : Int) := by
        have : ∀ (l : List Int) (h : l = memL s0) (hk' : k < l.length), l[k] = (i : Int) := by rintro l rfl hk'; exact he
        exact this _ hh _
      rw [e1]
      simp only [Int.toNat_natCast]
      omega)
    rw [h3] at this; cases this
theorem hind_at {x : Tt} {least : List Int} {k : Nat} (hk : k < (hindP x least).length) : ∃ g : Nat, (hindP x least)[k] = (g : Int) ∧ g < x.G.length := by
  rcases hTo_spec x least (2 ^ x.G.length) with ⟨h1, _⟩ | ⟨s0, h1, h2, _⟩
  · have : hindP x least = [] := h1
    rw [this] at hk; simp at hk
  · have hh : hindP x least = memL s0 := h2
    exact memL_lt h1 _ (hh ▸ List.getElem_mem hk)
theorem hind_rise {x : Tt} {least : List Int} (hv : VT x) {k : Nat} (hk : k + 1 < (hindP x least).length) : (hindP x least)[k]'(by omega) < (hindP x least)[k + 1] := by
  rcases hTo_spec x least (2 ^ x.G.length) with ⟨h1, _⟩ | ⟨s0, h1, h2, _⟩
  · have : hindP x least = [] := h1
    rw [this] at hk; simp at hk
  · have hh : hindP x least = memL s0 := h2
    have h32 := pow_le_32 hv.ng
    have hk0 : k + 1 < (memL s0).length := by rw [← hh]; exact hk
    have hb5 : k < 5 := by have : (memL s0).length ≤ 5 := memTo_len s0 5; omega
    have := memL_rises ⟨s0, by omega⟩ ⟨k, hb5⟩ hk0
    rw [← hh] at this
    simpa only [List.getD, List.getElem?_eq_getElem hk, List.getElem?_eq_getElem (show k < (hindP x least).length by omega), Option.getD_some] using this
/-- the least of a sorted list -/
theorem srt_head {l : List Int} {a : Int} {t : List Int} (h : srt l = a :: t) : a ∈ l ∧ ∀ b ∈ l, a ≤ b := by
  have hp := srt_perm l
  have hs := srt_sorted l
  rw [h] at hp hs
  refine ⟨hp.mem_iff.1 (by simp), fun b hb => ?_⟩
  rcases List.mem_cons.1 (hp.mem_iff.2 hb) with rfl | hb
  · exact Int.le_refl _
  · exact (List.pairwise_cons.1 hs).1 b hb
/-- if all need the same, and have the same credit, and none hinders, the fairest plan gives each as much -/
theorem fair_same {x : Tt} {least : List Int} {m c : Int} (hv : VT x) (hlb : leastB x least = true) (hno : hindP x least = []) (hm : ∀ i, i < x.G.length → least.getD i 0 = m) (hc : ∀ a ∈ x.G, a.credit = c) {i : Nat} (hi : i < x.G.length) :
    m ≤ cntI (fairP x) (fairP x).length (i : Int) := by
  have hng := hv.ng
  have hsat : satP x least (memL (2 ^ x.G.length - 1)) = true := by
    rcases hTo_spec x least (2 ^ x.G.length) with ⟨_, h2⟩ | ⟨s0, h1, h2, _, h4, _⟩
    · have := pow_le_32 hng; exact h2 _ (by omega)
    · have hh : hindP x least = memL s0 := h2
      rw [hno] at hh
      exact absurd hh.symm h4
  have h32 := pow_le_32 hng
  obtain ⟨p, hp, hpc⟩ := sat_plan hv hlb (by omega) hsat
  have hall : ∀ j, j < x.G.length → m ≤ cntI p p.length (j : Int) := fun j hj => by
    rw [← hm j hj]
    refine hpc j (by omega) ?_
    have : ∀ n : Fin 6, ∀ j : Fin 5, j.1 < n.1 → (2 ^ n.1 - 1) / 2 ^ j.1 % 2 = 1 := by decide +kernel
    exact this ⟨x.G.length, by omega⟩ ⟨j, by omega⟩ hj
  have hf := (fair_most hv hp).1
  have hl1 : (srt (hasL x p)).length = x.G.length := by rw [srt_length, hasL_len]
  have hl2 : (srt (hasL x (fairP x))).length = x.G.length := by rw [srt_length, hasL_len]
  cases h1 : srt (hasL x p) with
  | nil => rw [h1] at hl1; simp at hl1; omega
  | cons a t =>
    cases h2 : srt (hasL x (fairP x)) with
    | nil => rw [h2] at hl2; simp at hl2; omega
    | cons b u =>
      rw [h1, h2] at hf
      have hab : a ≤ b := by
        unfold cmpL at hf
        split at hf
        · omega
        · split at hf
          · omega
          · omega
      obtain ⟨ha, _⟩ := srt_head h1
      obtain ⟨_, hb⟩ := srt_head h2
      obtain ⟨j, hj, rfl⟩ := List.getElem_of_mem ha
      rw [hasL_len] at hj
      rw [hasL_at _ _ _ hj, hc _ (List.getElem_mem hj)] at hab
      have h3 := hall j hj
      have h4 := hb _ (List.getElem_mem (show i < (hasL x (fairP x)).length by rw [hasL_len]; exact hi))
      rw [hasL_at _ _ _ hi, hc _ (List.getElem_mem hi)] at h4
      omega
end Go.Proofs.Ytipejhfgfciabaa

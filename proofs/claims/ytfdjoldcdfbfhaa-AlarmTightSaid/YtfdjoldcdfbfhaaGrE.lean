/- The votes so far, and the first alarm, reading by reading; a group of readings has its end at its last one. -/
import Derived.Test.YtfdjoldcdfbfhaaGrD
namespace Go.Proofs.Ytfdjoldcdfbfhaa
def balN (t : Int) (L : List Sf) : Nat → Nat
  | 0 => 0
  | k + 1 => match L[k]? with | some s => setB (balN t L k) s.s.toNat (decide (t ≤ s.v)) | none => balN t L k
/-- reading i is the last one of its minute -/
def lastB (L : List Sf) (i : Nat) : Bool := decide (L[i + 1]?.map (·.m) ≠ L[i]?.map (·.m))
def stB (V t : Int) (L : List Sf) : Nat → Option Int
  | 0 => none
  | k + 1 => match stB V t L k with
    | some m => some m
    | none => if lastB L k = true ∧ V ≤ (cntB (balN t L (k + 1)) 12 : Int) then L[k]?.map (·.m) else none
theorem stB_next (V t : Int) (L : List Sf) (k : Nat) : stB V t L (k + 1) = match stB V t L k with
    | some m => some m
    | none => if lastB L k = true ∧ V ≤ (cntB (balN t L (k + 1)) 12 : Int) then L[k]?.map (·.m) else none := rfl
theorem bgn_step (L : List Sf) (i : Nat) : bgn L (i + 1) = bgn L i ∨ bgn L (i + 1) = i := by
  show (if _ then _ else _) = _ ∨ (if _ then _ else _) = _
  split
  · exact .inl rfl
  · exact .inr rfl
theorem bgn_mono (L : List Sf) {i j : Nat} (h : i ≤ j) : bgn L i ≤ bgn L j := by
  induction j with
  | zero => have : i = 0 := by omega
            subst this; exact Nat.le_refl _
  | succ j ih =>
    rcases Nat.eq_or_lt_of_le h with rfl | h
    · exact Nat.le_refl _
    · have := ih (by omega)
      have h2 := bgn_le L j
      rcases bgn_step L j with e | e <;> omega
/-- within a group nothing is the last of its minute but its end -/
theorem group_in {L : List Sf} {i k : Nat} (hi : i ≤ L.length) (hk : bgn L i ≤ k) (hki : k + 1 < i) : lastB L k = false := by
  have h1 := bgn_mono L (show k + 2 ≤ i by omega)
  have h2 := bgn_lt L k
  have hne : bgn L (k + 2) ≠ k + 1 := by omega
  have hkl : k + 1 < L.length := by omega
  have hb : bgn L (k + 1) < L.length := by omega
  have hn := bgn_next hkl hb
  obtain ⟨_, e⟩ := bgn_prev (L := L) (i := k) (by omega)
  by_cases hm : L[k + 1].m = (L[bgn L (k + 1)]'hb).m
  · unfold lastB
    rw [List.getElem?_eq_getElem hkl, List.getElem?_eq_getElem (show k < L.length by omega)]
    simp [hm, e]
  · rw [if_neg hm] at hn; exact absurd hn hne
theorem group_end {L : List Sf} {i : Nat} (h0 : 0 < i) (hi : i ≤ L.length) (h : i = L.length ∨ bgn L (i + 1) = i) : lastB L (i - 1) = true := by
  obtain ⟨k, rfl⟩ : ∃ k, i = k + 1 := ⟨i - 1, by omega⟩
  unfold lastB
  rw [show k + 1 - 1 = k by omega, List.getElem?_eq_getElem (show k < L.length by omega)]
  rcases h with h | h
  · rw [List.getElem?_eq_none (by omega)]; simp
  · by_cases hl : k + 1 < L.length
    · have hb : bgn L (k + 1) < L.length := by have := bgn_lt L k; omega
      have hn := bgn_next hl hb
      obtain ⟨_, e⟩ := bgn_prev (L := L) (i := k) (by omega)
      rw [List.getElem?_eq_getElem hl]
      by_cases hm : L[k + 1].m = (L[bgn L (k + 1)]'hb).m
      · rw [if_pos hm] at hn
        have := bgn_lt L k
        omega
      · rw [e] at hm; simpa using hm
    · rw [List.getElem?_eq_none (by omega)]; simp
theorem stB_in {V t : Int} {L : List Sf} {i : Nat} (hi : i ≤ L.length) : ∀ d : Nat, bgn L i + d < i → stB V t L (bgn L i + d) = stB V t L (bgn L i)
  | 0, _ => rfl
  | d + 1, h => by
    have ih := stB_in (V := V) (t := t) hi d (by omega)
    have hl := group_in hi (k := bgn L i + d) (by omega) (by omega)
    rw [show bgn L i + (d + 1) = (bgn L i + d) + 1 from rfl, stB_next, ih]
    cases hs : stB V t L (bgn L i) with
    | some m => rfl
    | none => simp [hl]
/-- the state behind a group -/
theorem stB_group {V t : Int} {L : List Sf} {i : Nat} (h0 : 0 < i) (hi : i ≤ L.length) (h : i = L.length ∨ bgn L (i + 1) = i) (hb : bgn L i < L.length) :
    stB V t L i = match stB V t L (bgn L i) with | some m => some m | none => if V ≤ (cntB (balN t L i) 12 : Int) then some (L[bgn L i]'hb).m else none := by
  obtain ⟨k, rfl⟩ : ∃ k, i = k + 1 := ⟨i - 1, by omega⟩
  have h1 := bgn_lt L k
  have hs := stB_in (V := V) (t := t) hi (k - bgn L (k + 1)) (by omega)
  rw [show bgn L (k + 1) + (k - bgn L (k + 1)) = k by omega] at hs
  have he := group_end h0 hi h
  rw [show k + 1 - 1 = k by omega] at he
  obtain ⟨_, e⟩ := bgn_prev (L := L) (i := k) (by omega)
  rw [stB_next, hs, List.getElem?_eq_getElem (show k < L.length by omega)]
  simp [he, e]
end Go.Proofs.Ytfdjoldcdfbfhaa

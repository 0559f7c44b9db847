/- Plain: when there is no alarm, and when there is one at once. -/
import Derived.Test.YtfdjoldcdfbfhaaRdB
namespace Go.Proofs.Ytfdjoldcdfbfhaa
theorem chk0_of {L : List Sf} {n : Int} (hs : ∀ j (h : j + 1 < L.length), L[j].m ≤ L[j + 1].m) (hr : ∀ r ∈ L, (0 ≤ r.m ∧ r.m ≤ 1048576) ∧ (0 ≤ r.s ∧ r.s < n)) : ∀ j, j < L.length → chkAt L n j = 0 := fun j hj => by
  rw [chk_doc hj]
  unfold docE
  have h1 := hr _ (List.getElem_mem hj)
  rw [if_neg (by unfold badB; simp; omega)]
  cases j with
  | zero => rw [if_neg (fun h => absurd h.1 (Nat.lt_irrefl 0))]
  | succ j =>
    rw [if_neg]
    intro h
    have h2 := hs j hj
    have h3 := h.2
    simp only [Nat.add_sub_cancel] at h3
    omega
theorem none_of {V t : Int} {L : List Sf} (h : ∀ k, k ≤ L.length → (cntB (balN t L k) 12 : Int) < V) : ∀ k, k ≤ L.length → stB V t L k = none
  | 0, _ => rfl
  | k + 1, hk => by
    rw [stB_next, none_of h k (by omega)]
    have := h (k + 1) hk
    simp only
    rw [if_neg (fun hh => by omega)]
theorem bit_of {t : Int} {L : List Sf} (hr : ∀ r ∈ L, 0 ≤ r.s ∧ r.s < 12) {i : Nat} (hi : i < 12) : ∀ k, k ≤ L.length → (balN t L k).testBit i = true → ∃ r ∈ L, r.s = i ∧ t ≤ r.v
  | 0, _, h => by
    have : (balN t L 0) = 0 := rfl
    rw [this] at h; simp at h
  | k + 1, hk, h => by
    have hkl : k < L.length := by omega
    have hm := List.getElem_mem hkl
    have hr1 := hr _ hm
    rw [balN_next hkl, setB_bit (by omega) hi] at h
    by_cases he : i = L[k].s.toNat
    · rw [if_pos he] at h
      exact ⟨L[k], hm, by omega, by simpa using h⟩
    · rw [if_neg he] at h
      exact bit_of hr hi k (by omega) h
theorem cntB_set {b k : Nat} (hk : k < 12) (hb : b.testBit k = false) (y : Bool) : ∀ m, m ≤ 12 → cntB (setB b k y) m = cntB b m + (if k < m ∧ y = true then 1 else 0)
  | 0, _ => by simp [cntB]
  | m + 1, hm => by
    have ih := cntB_set hk hb y m (by omega)
    show cntB (setB b k y) m + _ = cntB b m + _ + _
    rw [ih, setB_bit hk (by omega)]
    by_cases h : m = k
    · subst h
      rw [hb]
      cases y <;> simp
    · rw [if_neg h]
      generalize (if b.testBit m = true then 1 else 0) = z
      by_cases h2 : k < m ∧ y = true
      · rw [if_pos h2, if_pos ⟨by omega, h2.2⟩]; omega
      · rw [if_neg h2, if_neg (fun h3 => h2 ⟨by omega, h3.2⟩)]; omega
/-- those that say yes are among those that have failed and those that can say it -/
theorem cnt_two {b : Nat} {B : List Bool} {l : List Sn} {t calm : Int} (h : ∀ i (hi : i < l.length), b.testBit i = true → B[i]? = some true ∨ t ≤ calm + l[i].r) : ∀ k, k ≤ l.length → cntB b k ≤ cntT B k + says (l.take k) t calm
  | 0, _ => by simp [cntB]
  | k + 1, hk => by
    have ih := cnt_two h k (by omega)
    have hkl : k < l.length := by omega
    rw [says_take l t calm k hkl]
    show cntB b k + (if b.testBit k = true then 1 else 0) ≤ cntT B k + (if B[k]? = some true then 1 else 0) + _
    by_cases hb : b.testBit k = true
    · rw [if_pos hb]
      rcases h k hkl hb with h1 | h1
      · rw [if_pos h1]; omega
      · rw [if_pos h1]; omega
    · rw [if_neg hb]; omega
/-- a course that is quiet never gives an alarm -/
theorem quiet_none {V t calm F : Int} {L : List Sf} {l : List Sn} {B : List Bool} (h12 : l.length ≤ 12) (hs : ∀ j (h : j + 1 < L.length), L[j].m ≤ L[j + 1].m) (hr : ∀ r ∈ L, (0 ≤ r.m ∧ r.m ≤ 1048576) ∧ (0 ≤ r.s ∧ r.s < l.length))
    (hv : ∀ r ∈ L, ∀ i (hi : i < l.length), r.s = i → t ≤ r.v → B[i]? = some true ∨ t ≤ calm + l[i].r) (hB : (cntT B l.length : Int) ≤ F) (hq : F + (says l t calm : Int) < V) : lisR V t l.length L = (0, 4) := by
  have hg := chk0_of hs hr
  refine lisR_none hg (none_of (fun k hk => ?_) _ (Nat.le_refl _))
  have hlt := balN_lt2 (t := t) (n := l.length) h12 k hk (fun j hj => hg j (by omega))
  have h2 := cntB_hi hlt (12 - l.length)
  rw [show l.length + (12 - l.length) = 12 by omega] at h2
  rw [h2]
  have := cnt_two (b := balN t L k) (B := B) (l := l) (t := t) (calm := calm) (fun i hi hb => by
    obtain ⟨r, hrm, hri, hrv⟩ := bit_of (fun r hm => ⟨(hr r hm).2.1, by have := (hr r hm).2.2; omega⟩) (by omega) k hk hb
    exact hv r hrm i hi hri hrv) l.length (Nat.le_refl _)
  rw [List.take_length] at this
  omega
/-- one minute, in which all read -/
theorem bgn_flat {L : List Sf} (h : ∀ r ∈ L, r.m = 0) : ∀ k, k ≤ L.length → bgn L k = 0
  | 0, _ => rfl
  | k + 1, hk => by
    have ih := bgn_flat h k (by omega)
    have hkl : k < L.length := by omega
    have hb : bgn L k < L.length := by omega
    rw [bgn_next hkl hb, h _ (List.getElem_mem hkl), h _ (List.getElem_mem hb), if_pos rfl, ih]
theorem flat_hit {V t : Int} {n : Nat} {L : List Sf} (h0 : 0 < L.length) (h : ∀ r ∈ L, r.m = 0) (hr : ∀ r ∈ L, 0 ≤ r.s ∧ r.s < n) (hV : V ≤ (cntB (balN t L L.length) 12 : Int)) : lisR V t n L = (0, 0) := by
  have hb := bgn_flat h L.length (Nat.le_refl _)
  have hg : ∀ j, j < L.length → chkAt L n j = 0 := chk0_of (fun j hj => by rw [h _ (List.getElem_mem _), h _ (List.getElem_mem _)]; exact Int.le_refl _) (fun r hm => ⟨by rw [h r hm]; omega, hr r hm⟩)
  refine lisR_hit (Nat.le_refl _) hg ?_
  rw [stB_group h0 (Nat.le_refl _) (.inl rfl) (by rw [hb]; exact h0)]
  have e : stB V t L (bgn L L.length) = none := by rw [hb]; rfl
  rw [e]
  simp only
  rw [if_pos hV, h _ (List.getElem_mem _)]
def altC (l : List Sn) (t calm F : Int) : Nat → Nat
  | 0 => 0
  | k + 1 => match l[k]? with | some s => if calm + s.r < t ∧ (altC l t calm F k : Int) < F then altC l t calm F k + 1 else altC l t calm F k | none => altC l t calm F k
def altV (l : List Sn) (t calm F : Int) (k : Nat) : Int := match l[k]? with | some s => if calm + s.r < t ∧ (altC l t calm F k : Int) < F then t else calm + s.r | none => 0
def altL (l : List Sn) (t calm F : Int) (n : Nat) : List Sf := (List.range n).map (fun (k : Nat) => (⟨0, (k : Int), altV l t calm F k⟩ : Sf))
theorem altL_next (l : List Sn) (t calm F : Int) (n : Nat) : altL l t calm F (n + 1) = altL l t calm F n ++ [⟨0, n, altV l t calm F n⟩] := by
  unfold altL
  rw [List.range_succ, List.map_append]; rfl
theorem altL_len (l : List Sn) (t calm F : Int) (n : Nat) : (altL l t calm F n).length = n := by simp [altL]
theorem altC_next {l : List Sn} {t calm F : Int} {k : Nat} (hk : k < l.length) : altC l t calm F (k + 1) = if calm + l[k].r < t ∧ (altC l t calm F k : Int) < F then altC l t calm F k + 1 else altC l t calm F k := by
  show (match l[k]? with | some s => if calm + s.r < t ∧ (altC l t calm F k : Int) < F then altC l t calm F k + 1 else altC l t calm F k | none => altC l t calm F k) = _
  rw [List.getElem?_eq_getElem hk]
theorem altV_eq {l : List Sn} {t calm F : Int} {k : Nat} (hk : k < l.length) : altV l t calm F k = if calm + l[k].r < t ∧ (altC l t calm F k : Int) < F then t else calm + l[k].r := by
  unfold altV
  rw [List.getElem?_eq_getElem hk]
theorem alt_bd {l : List Sn} {t calm F : Int} (hF : 0 ≤ F) : ∀ k, k ≤ l.length → says (l.take k) t calm + altC l t calm F k ≤ k ∧ (altC l t calm F k : Int) ≤ F ∧ ((altC l t calm F k : Int) = F ∨ says (l.take k) t calm + altC l t calm F k = k)
  | 0, _ => ⟨by simp [says, altC], hF, .inr (by simp [says, altC])⟩
  | k + 1, hk => by
    have ih := alt_bd (l := l) (t := t) (calm := calm) hF k (by omega)
    have hkl : k < l.length := by omega
    rw [says_take l t calm k hkl, altC_next hkl]
    by_cases h1 : t ≤ calm + l[k].r
    · rw [if_pos h1, if_neg (fun h => by omega)]
      omega
    · rw [if_neg h1]
      by_cases h2 : (altC l t calm F k : Int) < F
      · rw [if_pos ⟨by omega, h2⟩]; omega
      · rw [if_neg (fun h => h2 h.2)]; omega
theorem alt_cnt {l : List Sn} {t calm F : Int} (h12 : l.length ≤ 12) : ∀ k, k ≤ l.length → cntB (balN t (altL l t calm F l.length) k) 12 = says (l.take k) t calm + altC l t calm F k ∧ balN t (altL l t calm F l.length) k < 2 ^ k
  | 0, _ => ⟨by simp [says, altC, balN]; decide, by simp [balN]⟩
  | k + 1, hk => by
    obtain ⟨ih, ib⟩ := alt_cnt (t := t) (calm := calm) (F := F) h12 k (by omega)
    have hkl : k < l.length := by omega
    have hk2 : k < (altL l t calm F l.length).length := by rw [altL_len]; exact hkl
    have hg : (altL l t calm F l.length)[k] = ⟨0, k, altV l t calm F k⟩ := by simp [altL]
    have hbt : (balN t (altL l t calm F l.length) k).testBit k = false := Nat.testBit_lt_two_pow ib
    rw [balN_next hk2, hg]
    simp only [Int.toNat_natCast]
    refine ⟨?_, setB_lt2 (n := k + 1) (by omega) (Nat.lt_of_lt_of_le ib (Nat.pow_le_pow_right (by omega) (by omega))) (by omega) _⟩
    rw [cntB_set (by omega) hbt _ 12 (Nat.le_refl _), ih, says_take l t calm k hkl, altC_next hkl, altV_eq hkl]
    by_cases h1 : t ≤ calm + l[k].r
    · rw [if_neg (show ¬ (calm + l[k].r < t ∧ (altC l t calm F k : Int) < F) from fun h => by omega), if_pos h1, if_pos ⟨by omega, by simpa using h1⟩, if_neg (fun h => by omega)]
      omega
    · rw [if_neg h1]
      by_cases h2 : (altC l t calm F k : Int) < F
      · have h3 : calm + l[k].r < t ∧ (altC l t calm F k : Int) < F := ⟨by omega, h2⟩
        rw [if_pos h3, if_pos ⟨by omega, by simp⟩, if_pos h3]; omega
      · have h3 : ¬ (calm + l[k].r < t ∧ (altC l t calm F k : Int) < F) := fun h => h2 h.2
        rw [if_neg h3, if_neg (fun h => h1 (by simpa using h.2)), if_neg h3]; omega
theorem alt_hit {l : List Sn} {V t calm F : Int} (hv : VV l V F) (hq : V ≤ F + (says l t calm : Int)) : lisR V t l.length (altL l t calm F l.length) = (0, 0) := by
  have h1 := hv.h1
  have h2 := alt_bd (l := l) (t := t) (calm := calm) hv.hF.1 l.length (Nat.le_refl _)
  have h3 := (alt_cnt (t := t) (calm := calm) (F := F) hv.h12 l.length (Nat.le_refl _)).1
  rw [List.take_length] at h2 h3
  have h4 := hv.hV
  refine flat_hit (by rw [altL_len]; omega) (fun r hr => ?_) (fun r hr => ?_) (by rw [altL_len, h3]; omega)
  · simp only [altL, List.mem_map, List.mem_range] at hr
    obtain ⟨k, _, rfl⟩ := hr; rfl
  · simp only [altL, List.mem_map, List.mem_range] at hr
    obtain ⟨k, hk, rfl⟩ := hr
    simp only
    omega
end Go.Proofs.Ytfdjoldcdfbfhaa

/- Plain: the steepest course that comes to what Worst tells gives no alarm. -/
import Derived.Test.YtfdjoldcdfbfhaaQtB
namespace Go.Proofs.Ytfdjoldcdfbfhaa
/-- how many of the first k have not failed, and say yes at c for sure -/
def gS (l : List Sn) (t rise m c : Int) (B : List Bool) : Nat → Nat
  | 0 => 0
  | k + 1 => gS l t rise m c B k + match l[k]? with | some s => if B[k]? ≠ some true ∧ num t rise m s ≤ c then 1 else 0 | none => 0
theorem gS_next {l : List Sn} {t rise m c : Int} {B : List Bool} {k : Nat} (hk : k < l.length) : gS l t rise m c B (k + 1) = gS l t rise m c B k + if B[k]? ≠ some true ∧ num t rise m l[k] ≤ c then 1 else 0 := by
  show gS l t rise m c B k + (match l[k]? with | some s => if B[k]? ≠ some true ∧ num t rise m s ≤ c then 1 else 0 | none => 0) = _
  rw [List.getElem?_eq_getElem hk]
theorem gS_zero {l : List Sn} {t rise m c : Int} {B : List Bool} (hB : ∀ i : Nat, B[i]? ≠ some true) : ∀ k, k ≤ l.length → gS l t rise m c B k = cnt c (nums t rise m (l.take k))
  | 0, _ => by simp [gS, nums, cnt]
  | k + 1, hk => by
    have hkl : k < l.length := by omega
    rw [gS_next hkl, gS_zero hB k (by omega)]
    unfold nums cnt
    rw [List.take_succ_eq_append_getElem hkl, List.map_append, List.countP_append]
    by_cases h : num t rise m l[k] ≤ c
    · rw [if_pos ⟨hB k, h⟩]; simp [h]
    · rw [if_neg (fun h2 => h h2.2)]; simp [h]
theorem gS_set {l : List Sn} {t rise m c : Int} {B : List Bool} {j : Nat} (hj : j < l.length) (hB : B[j]? = some false) (hn : num t rise m l[j] ≤ c) : ∀ k, k ≤ l.length → gS l t rise m c (B.set j true) k + (if j < k then 1 else 0) = gS l t rise m c B k
  | 0, _ => by simp [gS]
  | k + 1, hk => by
    have hkl : k < l.length := by omega
    have ih := gS_set hj hB hn k (by omega)
    have hjl := (List.getElem?_eq_some_iff.1 hB).1
    rw [gS_next hkl, gS_next hkl]
    by_cases h : j = k
    · subst h
      rw [if_neg (Nat.lt_irrefl j)] at ih
      rw [List.getElem?_set_self hjl, hB, if_neg (fun h2 => h2.1 rfl), if_pos (show j < j + 1 by omega), if_pos ⟨by simp, hn⟩]
      omega
    · rw [List.getElem?_set_ne h]
      generalize (if B[k]? ≠ some true ∧ num t rise m l[k] ≤ c then 1 else 0) = z
      by_cases h2 : j < k
      · rw [if_pos h2] at ih; rw [if_pos (by omega)]; omega
      · rw [if_neg h2] at ih; rw [if_neg (by omega)]; omega
theorem gS_mono {l : List Sn} {t rise m c : Int} {B : List Bool} {j : Nat} : ∀ k, k ≤ l.length → gS l t rise m c (B.set j true) k ≤ gS l t rise m c B k
  | 0, _ => Nat.le_refl _
  | k + 1, hk => by
    have hkl : k < l.length := by omega
    have ih := gS_mono (l := l) (t := t) (rise := rise) (m := m) (c := c) (B := B) (j := j) k (by omega)
    rw [gS_next hkl, gS_next hkl]
    by_cases h : (B.set j true)[k]? ≠ some true ∧ num t rise m l[k] ≤ c
    · rw [if_pos h]
      have h2 : B[k]? ≠ some true ∧ num t rise m l[k] ≤ c := by
        refine ⟨fun h3 => h.1 ?_, h.2⟩
        by_cases he : j = k
        · subst he
          exact List.getElem?_set_self (List.getElem?_eq_some_iff.1 h3).1
        · rw [List.getElem?_set_ne he]; exact h3
      rw [if_pos h2]; omega
    · rw [if_neg h]; omega
theorem gS_some {l : List Sn} {t rise m c : Int} {B : List Bool} : ∀ k, k ≤ l.length → gS l t rise m c B k ≠ 0 → ∃ i, ∃ hi : i < l.length, i < k ∧ B[i]? ≠ some true ∧ num t rise m l[i] ≤ c
  | 0, _, h => absurd rfl h
  | k + 1, hk, h => by
    have hkl : k < l.length := by omega
    rw [gS_next hkl] at h
    by_cases h2 : B[k]? ≠ some true ∧ num t rise m l[k] ≤ c
    · exact ⟨k, hkl, by omega, h2⟩
    · rw [if_neg h2] at h
      obtain ⟨i, hi, h3, h4⟩ := gS_some (l := l) k (by omega) (by omega)
      exact ⟨i, hi, by omega, h4⟩
/-- one that may be taken as failed -/
def Cand (l : List Sn) (m : Int) (B : List Bool) (i : Nat) : Prop := ∃ hi : i < l.length, l[i].f ≤ m ∧ B[i]? = some false
/-- the best of the first k -/
def BestP (l : List Sn) (t rise m : Int) (B : List Bool) (k : Nat) (best least : Int) : Prop :=
  (best = -1 ∧ ∀ i, i < k → ¬ Cand l m B i) ∨ (∃ j, ∃ hj : j < l.length, j < k ∧ best = j ∧ Cand l m B j ∧ least = num t rise m l[j] ∧ ∀ i (hi : i < l.length), i < k → Cand l m B i → least ≤ num t rise m l[i])
theorem best_skip {l : List Sn} {t rise m : Int} {B : List Bool} {k : Nat} {best least : Int} (h : BestP l t rise m B k best least) (hn : (∃ j : Nat, best = j) ∧ (∃ hk : k < l.length, least ≤ num t rise m l[k]) ∨ ¬ Cand l m B k) : BestP l t rise m B (k + 1) best least := by
  rcases h with ⟨h1, h2⟩ | ⟨j, hj, h1, h2, h3, h4, h5⟩
  · rcases hn with ⟨⟨j, hj⟩, -⟩ | hn
    · omega
    · refine .inl ⟨h1, fun i hi => ?_⟩
      rcases Nat.lt_succ_iff_lt_or_eq.1 hi with h | h
      · exact h2 i h
      · subst h; exact hn
  · refine .inr ⟨j, hj, by omega, h2, h3, h4, fun i hi hik hc => ?_⟩
    rcases Nat.lt_succ_iff_lt_or_eq.1 hik with h | h
    · exact h5 i hi h hc
    · subst h
      rcases hn with ⟨-, hk, hn⟩ | hn
      · exact hn
      · exact absurd hc hn
theorem best_take {l : List Sn} {t rise m : Int} {B : List Bool} {k : Nat} {best least : Int} (hk : k < l.length) (h : BestP l t rise m B k best least) (hc : Cand l m B k) (hn : best < 0 ∨ num t rise m l[k] < least) : BestP l t rise m B (k + 1) k (num t rise m l[k]) := by
  refine .inr ⟨k, hk, by omega, rfl, hc, rfl, fun i hi hik hci => ?_⟩
  rcases Nat.lt_succ_iff_lt_or_eq.1 hik with hlt | heq
  · rcases h with ⟨h1, h2⟩ | ⟨j, hj, h1, h2, h3, h4, h5⟩
    · exact absurd hci (h2 i hlt)
    · have := h5 i hi hlt hci
      omega
  · subst heq; exact Int.le_refl _
/-- a round of choosing -/
theorem round_none {l : List Sn} {t rise m c : Int} {B : List Bool} (hc : c ≤ 1048576) (hBl : B.length = l.length) (h : ∀ i, i < l.length → ¬ Cand l m B i) : gS l t rise m c B l.length = 0 := by
  refine Classical.byContradiction fun hne => ?_
  obtain ⟨i, hi, _, h1, h2⟩ := gS_some l.length (Nat.le_refl _) hne
  refine h i hi ⟨hi, ?_, ?_⟩
  · unfold num at h2
    split at h2 <;> omega
  · rw [List.getElem?_eq_getElem (show i < B.length by omega)] at h1 ⊢
    cases hb : B[i] with
    | true => rw [hb] at h1; exact absurd rfl h1
    | false => rfl
theorem round_take {l : List Sn} {t rise m c : Int} {B : List Bool} {j f N : Nat} (hc : c ≤ 1048576) (hBl : B.length = l.length) (hj : j < l.length) (hcj : Cand l m B j) (hmin : ∀ i (hi : i < l.length), Cand l m B i → num t rise m l[j] ≤ num t rise m l[i])
    (h : gS l t rise m c B l.length = 0 ∨ gS l t rise m c B l.length + f ≤ N) : gS l t rise m c (B.set j true) l.length = 0 ∨ gS l t rise m c (B.set j true) l.length + (f + 1) ≤ N := by
  by_cases h0 : gS l t rise m c B l.length = 0
  · left
    have := gS_mono (l := l) (t := t) (rise := rise) (m := m) (c := c) (B := B) (j := j) l.length (Nat.le_refl _)
    omega
  · right
    obtain ⟨i, hi, _, h1, h2⟩ := gS_some l.length (Nat.le_refl _) h0
    have hci : Cand l m B i := by
      refine ⟨hi, ?_, ?_⟩
      · unfold num at h2
        split at h2 <;> omega
      · rw [List.getElem?_eq_getElem (show i < B.length by omega)] at h1 ⊢
        cases hb : B[i] with
        | true => rw [hb] at h1; exact absurd rfl h1
        | false => rfl
    have h3 := hmin i hi hci
    obtain ⟨_, _, hbj⟩ := hcj
    have h4 := gS_set hj hbj (show num t rise m l[j] ≤ c by omega) l.length (Nat.le_refl _)
    rw [if_pos hj] at h4
    omega
theorem num_hit {t rise c : Int} {s : Sn} {m j : Nat} (hv : vS s) (ht : 0 ≤ t) (hr : 0 ≤ rise) (hc : 0 ≤ c) (hj : j ≤ m) (hh : hitB s j = true) (h : t + s.r ≤ max 0 (c - rise * ((m : Int) - j))) : num t rise m s ≤ c := by
  obtain ⟨h1, h2, h3⟩ := hv
  unfold hitB at hh
  simp only [Bool.and_eq_true, decide_eq_true_eq, beq_iff_eq] at hh
  unfold num
  rw [if_neg (by omega)]
  by_cases h0 : t + s.r = 0
  · rw [if_pos h0]; exact hc
  · rw [if_neg h0]
    have ha : (0 : Int) ≤ (m : Int) - s.f := by omega
    have hb : (0 : Int) ≤ (j : Int) - s.f := by omega
    have hm : ((m : Int) - s.f).tmod s.e ≤ (m : Int) - j := by
      rw [Int.tmod_eq_emod_of_nonneg ha]
      rw [Int.tmod_eq_emod_of_nonneg hb] at hh
      have g3 := Int.emod_add_mul_ediv ((j : Int) - s.f) s.e
      rw [hh.2] at g3
      have e1 : (m : Int) - s.f = ((m : Int) - j) + s.e * (((j : Int) - s.f) / s.e) := by omega
      rw [e1, Int.add_mul_emod_self_left]
      have g := (tmod_bd (a := (m : Int) - j) (b := s.e) (by omega) h2.1).2.2
      rw [Int.tmod_eq_emod_of_nonneg (by omega)] at g
      exact g
    have hmul := Int.mul_le_mul_of_nonneg_left hm hr
    omega
theorem cnt_gs {b : Nat} {B : List Bool} {l : List Sn} {t rise m c : Int} (h : ∀ i (hi : i < l.length), b.testBit i = true → B[i]? ≠ some true ∧ num t rise m l[i] ≤ c) : ∀ k, k ≤ l.length → cntB b k ≤ gS l t rise m c B k
  | 0, _ => Nat.le_refl _
  | k + 1, hk => by
    have ih := cnt_gs h k (by omega)
    have hkl : k < l.length := by omega
    rw [gS_next hkl]
    show cntB b k + (if b.testBit k = true then 1 else 0) ≤ _
    by_cases hb : b.testBit k = true
    · rw [if_pos hb, if_pos (h k hkl hb)]; omega
    · rw [if_neg hb]; omega
/-- no alarm on that course -/
theorem tight_none {V F t rise c : Int} {l : List Sn} {tl : Int → Int → Int → Int} {cs : List Int} {B : List Bool} {m : Nat} (hv : VV l V F) (ht : 0 ≤ t) (hr : 0 ≤ rise) (hc : 0 ≤ c) (hcl : cs.length = m + 1) (hm : m ≤ 60)
    (hcs : ∀ j (h : j < cs.length), cs[j] = max 0 (c - rise * ((m : Int) - j)))
    (htl : ∀ i (hi : i < l.length) j (h : j < cs.length), t ≤ tl i j cs[j] → B[i]? ≠ some true ∧ t + l[i].r ≤ cs[j])
    (hg : (gS l t rise m c B l.length : Int) < V) : lisR V t l.length (readN l tl cs cs.length) = (0, 4) := by
  have h12 := hv.h12
  have hg0 : ∀ j, j < (readN l tl cs cs.length).length → chkAt (readN l tl cs cs.length) l.length j = 0 := chk0_of readN_sorted (readN_in (by omega))
  refine lisR_none hg0 (none_of (fun k hk => ?_) _ (Nat.le_refl _))
  have hlt := balN_lt2 (t := t) (n := l.length) h12 k hk (fun j hj => hg0 j (by omega))
  have h2 := cntB_hi hlt (12 - l.length)
  rw [show l.length + (12 - l.length) = 12 by omega] at h2
  rw [h2]
  have hin := readN_in (l := l) (tl := tl) (cs := cs) (by omega)
  have := cnt_gs (b := balN t (readN l tl cs cs.length) k) (B := B) (l := l) (t := t) (rise := rise) (m := m) (c := c) (fun i hi hb => by
    obtain ⟨r, hrm, hri, hrv⟩ := bit_of (fun r hm => ⟨(hin r hm).2.1, by have := (hin r hm).2.2; omega⟩) (by omega) k hk hb
    obtain ⟨j, hj, _, i', hi', hh, rfl⟩ := readN_mem _ (Nat.le_refl _) hrm
    simp only at hri hrv
    have hii : i' = i := by omega
    subst hii
    obtain ⟨h3, h4⟩ := htl i' hi j hj hrv
    rw [hcs j hj] at h4
    exact ⟨h3, num_hit (hv.hL _ (List.getElem_mem hi)) ht hr hc (by omega) hh h4⟩) l.length (Nat.le_refl _)
  omega
end Go.Proofs.Ytfdjoldcdfbfhaa

/- Plain: the ballot behind the minutes of a course; an alarm comes in time. -/
import Derived.Test.YtfdjoldcdfbfhaaQtB
namespace Go.Proofs.Ytfdjoldcdfbfhaa
def stepB (t : Int) (b : Nat) (r : Sf) : Nat := setB b r.s.toNat (decide (t ≤ r.v))
theorem balN_fold {t : Int} {L : List Sf} : ∀ k, k ≤ L.length → balN t L k = (L.take k).foldl (stepB t) 0
  | 0, _ => by simp [balN]
  | k + 1, hk => by
    have hkl : k < L.length := by omega
    rw [balN_next hkl, balN_fold k (by omega), List.take_succ_eq_append_getElem hkl, List.foldl_append]
    rfl
/-- what sensor i said last, behind k minutes -/
def bitN (l : List Sn) (tl : Int → Int → Int → Int) (cs : List Int) (t : Int) (i : Nat) : Nat → Bool
  | 0 => false
  | m + 1 => match l[i]?, cs[m]? with | some s, some c => if hitB s m = true then decide (t ≤ tl i m c) else bitN l tl cs t i m | _, _ => bitN l tl cs t i m
theorem bitN_next {l : List Sn} {tl : Int → Int → Int → Int} {cs : List Int} {t : Int} {i m : Nat} (hi : i < l.length) (hm : m < cs.length) : bitN l tl cs t i (m + 1) = if hitB l[i] m = true then decide (t ≤ tl i m cs[m]) else bitN l tl cs t i m := by
  show (match l[i]?, cs[m]? with | some s, some c => if hitB s m = true then decide (t ≤ tl i m c) else bitN l tl cs t i m | _, _ => bitN l tl cs t i m) = _
  rw [List.getElem?_eq_getElem hi, List.getElem?_eq_getElem hm]
theorem row_bit {l : List Sn} {tl : Int → Int → Int → Int} {t m c : Int} {b i : Nat} (h12 : l.length ≤ 12) (hi : i < l.length) : ∀ k, k ≤ l.length → ((rowN l tl m c k).foldl (stepB t) b).testBit i = if i < k ∧ hitB l[i] m = true then decide (t ≤ tl i m c) else b.testBit i
  | 0, _ => by simp [rowN]
  | k + 1, hk => by
    have hkl : k < l.length := by omega
    have ih := row_bit (tl := tl) (t := t) (m := m) (c := c) (b := b) h12 hi k (by omega)
    rw [rowN_next hkl]
    by_cases hh : hitB l[k] m = true
    · rw [if_pos hh, List.foldl_append]
      show (setB _ ((k : Int)).toNat _).testBit i = _
      rw [Int.toNat_natCast, setB_bit (by omega) (by omega), ih]
      by_cases he : i = k
      · subst he
        rw [if_pos rfl, if_pos ⟨by omega, hh⟩]
      · rw [if_neg he]
        by_cases h2 : i < k ∧ hitB l[i] m = true
        · rw [if_pos h2, if_pos ⟨by omega, h2.2⟩]
        · rw [if_neg h2, if_neg (fun h => h2 ⟨by omega, h.2⟩)]
    · rw [if_neg hh, ih]
      by_cases h2 : i < k ∧ hitB l[i] m = true
      · rw [if_pos h2, if_pos ⟨by omega, h2.2⟩]
      · rw [if_neg h2, if_neg]
        rintro ⟨h3, h4⟩
        by_cases he : i = k
        · subst he; exact hh h4
        · exact h2 ⟨by omega, h4⟩
theorem read_bit {l : List Sn} {tl : Int → Int → Int → Int} {cs : List Int} {t : Int} {i : Nat} (h12 : l.length ≤ 12) (hi : i < l.length) : ∀ k, k ≤ cs.length → ((readN l tl cs k).foldl (stepB t) 0).testBit i = bitN l tl cs t i k
  | 0, _ => by simp [readN, bitN]
  | k + 1, hk => by
    have hkl : k < cs.length := by omega
    rw [readN_next hkl, List.foldl_append, row_bit h12 hi _ (Nat.le_refl _), bitN_next hi hkl, read_bit h12 hi k (by omega)]
    by_cases hh : hitB l[i] k = true
    · rw [if_pos ⟨hi, hh⟩, if_pos hh]
    · rw [if_neg (fun h => hh h.2), if_neg hh]
/-- the first minutes' readings are the first readings -/
theorem read_take {l : List Sn} {tl : Int → Int → Int → Int} {cs : List Int} {k : Nat} : ∀ d, k + d ≤ cs.length → ∃ R, readN l tl cs (k + d) = readN l tl cs k ++ R
  | 0, _ => ⟨[], by simp⟩
  | d + 1, h => by
    obtain ⟨R, hR⟩ := read_take (l := l) (tl := tl) (cs := cs) (k := k) d (by omega)
    refine ⟨R ++ rowN l tl ((k + d : Nat) : Int) (cs[k + d]'(by omega)) l.length, ?_⟩
    show readN l tl cs ((k + d) + 1) = _
    rw [readN_next (show k + d < cs.length by omega), hR, List.append_assoc]
theorem read_pre {l : List Sn} {tl : Int → Int → Int → Int} {cs : List Int} {k : Nat} (hk : k ≤ cs.length) : ∃ R, readN l tl cs cs.length = readN l tl cs k ++ R := by
  have := read_take (l := l) (tl := tl) (cs := cs) (k := k) (cs.length - k) (by omega)
  rwa [show k + (cs.length - k) = cs.length by omega] at this
theorem bal_read {l : List Sn} {tl : Int → Int → Int → Int} {cs : List Int} {t : Int} {k i : Nat} (h12 : l.length ≤ 12) (hi : i < l.length) (hk : k ≤ cs.length) : (balN t (readN l tl cs cs.length) (readN l tl cs k).length).testBit i = bitN l tl cs t i k := by
  obtain ⟨R, hR⟩ := read_pre (l := l) (tl := tl) hk
  rw [balN_fold _ (by rw [hR, List.length_append]; omega), hR, List.take_left, read_bit h12 hi k hk]
theorem stB_mem {V t : Int} {L : List Sf} {a : Int} : ∀ k, k ≤ L.length → stB V t L k = some a → ∃ j, ∃ hj : j < L.length, j < k ∧ L[j].m = a
  | 0, _, h => by cases h
  | k + 1, hk, h => by
    have hkl : k < L.length := by omega
    rw [stB_next] at h
    cases hs : stB V t L k with
    | some m =>
      rw [hs] at h
      simp only [Option.some.injEq] at h
      subst h
      obtain ⟨j, hj, h1, h2⟩ := stB_mem k (by omega) hs
      exact ⟨j, hj, by omega, h2⟩
    | none =>
      rw [hs] at h
      simp only at h
      split at h
      · rw [List.getElem?_eq_getElem hkl] at h
        simp only [Option.map_some, Option.some.injEq] at h
        exact ⟨k, hkl, by omega, h⟩
      · cases h
/-- enough votes at the end of a minute: there is an alarm by then -/
theorem hit_by {V t : Int} {l : List Sn} {tl : Int → Int → Int → Int} {cs : List Int} {m : Nat} (hm : m < cs.length) (hV : 1 ≤ V) (hcl : cs.length ≤ 1048576)
    (hc : V ≤ (cntB (balN t (readN l tl cs cs.length) (readN l tl cs (m + 1)).length) 12 : Int)) : ∃ a, lisR V t l.length (readN l tl cs cs.length) = (a, 0) ∧ a ≤ m := by
  obtain ⟨R, hR⟩ := read_pre (l := l) (tl := tl) (cs := cs) (k := m + 1) (by omega)
  obtain ⟨p, hp⟩ : ∃ p, p = (readN l tl cs (m + 1)).length := ⟨_, rfl⟩
  rw [← hp] at hc
  have hg : ∀ j, j < (readN l tl cs cs.length).length → chkAt (readN l tl cs cs.length) l.length j = 0 := chk0_of readN_sorted (readN_in hcl)
  have hpl : p ≤ (readN l tl cs cs.length).length := by rw [hR, List.length_append]; omega
  have hlow : ∀ j (hj : j < (readN l tl cs cs.length).length), j < p → (readN l tl cs cs.length)[j].m ≤ m := fun j hj hjp => by
    have hmem : (readN l tl cs cs.length)[j] ∈ readN l tl cs (m + 1) := by
      have h1 : (readN l tl cs cs.length)[j] = (readN l tl cs (m + 1))[j]'(by omega) := by
        simp only [hR]; rw [List.getElem_append_left]
      rw [h1]; exact List.getElem_mem _
    obtain ⟨m', _, h1, _, _, _, h2⟩ := readN_mem _ (by omega) hmem
    rw [h2]; simp only; omega
  have hhigh : ∀ j (hj : j < (readN l tl cs cs.length).length), p ≤ j → (m : Int) < (readN l tl cs cs.length)[j].m := fun j hj hjp => by
    have hdec : readN l tl cs cs.length = readN l tl cs (m + 1) ++ R := hR
    have hRm : ∀ r ∈ R, (m : Int) < r.m := by
      have key : ∀ d, m + 1 + d ≤ cs.length → ∀ R', readN l tl cs (m + 1 + d) = readN l tl cs (m + 1) ++ R' → ∀ r ∈ R', (m : Int) < r.m := by
        intro d
        induction d with
        | zero =>
          intro _ R' h r hr
          have : R' = [] := by simpa using h
          subst this; simp at hr
        | succ d ih =>
          intro hd R' h r hr
          obtain ⟨R2, hR2⟩ := read_take (l := l) (tl := tl) (cs := cs) (k := m + 1) d (by omega)
          have h3 : readN l tl cs (m + 1 + d + 1) = readN l tl cs (m + 1) ++ R' := h
          rw [readN_next (show m + 1 + d < cs.length by omega), hR2, List.append_assoc] at h3
          have h4 := List.append_cancel_left h3
          rw [← h4, List.mem_append] at hr
          rcases hr with hr | hr
          · exact ih (by omega) R2 hR2 r hr
          · obtain ⟨_, _, _, _, rfl⟩ := rowN_mem _ (Nat.le_refl _) hr
            simp only; omega
      have h5 := key (cs.length - (m + 1)) (by omega) R (by rw [show m + 1 + (cs.length - (m + 1)) = cs.length by omega]; exact hR)
      exact h5
    have hmem : (readN l tl cs cs.length)[j] ∈ R := by
      have h1 : (readN l tl cs cs.length)[j] = R[j - p]'(by rw [hdec, List.length_append] at hj; omega) := by
        simp only [hdec]; rw [List.getElem_append_right (by omega)]; simp only [hp]
      rw [h1]; exact List.getElem_mem _
    exact hRm _ hmem
  have hp0 : 0 < p := by
    rcases Nat.eq_zero_or_pos p with h | h
    · rw [h] at hc
      have : cntB (balN t (readN l tl cs cs.length) 0) 12 = 0 := by show cntB 0 12 = 0; decide
      rw [this] at hc; omega
    · exact h
  obtain ⟨q, rfl⟩ : ∃ q, p = q + 1 := ⟨p - 1, by omega⟩
  have hql : q < (readN l tl cs cs.length).length := by omega
  have hlast : lastB (readN l tl cs cs.length) q = true := by
    unfold lastB
    rw [List.getElem?_eq_getElem hql]
    by_cases h : q + 1 < (readN l tl cs cs.length).length
    · rw [List.getElem?_eq_getElem h]
      have h1 := hlow q hql (by omega)
      have h2 := hhigh (q + 1) h (Nat.le_refl _)
      simp; omega
    · rw [List.getElem?_eq_none (by omega)]; simp
  have hst := stB_next V t (readN l tl cs cs.length) q
  have hsome : ∃ a, stB V t (readN l tl cs cs.length) (q + 1) = some a := by
    rw [hst]
    cases stB V t (readN l tl cs cs.length) q with
    | some a => exact ⟨a, rfl⟩
    | none =>
      simp only
      rw [if_pos ⟨hlast, hc⟩, List.getElem?_eq_getElem hql]
      exact ⟨_, rfl⟩
  obtain ⟨a, ha⟩ := hsome
  obtain ⟨j, hj, hjq, hja⟩ := stB_mem _ hpl ha
  exact ⟨a, lisR_hit hpl hg ha, by rw [← hja]; exact hlow j hj hjq⟩
/-- a reading that is certain -/
theorem sure_bit {l : List Sn} {tl : Int → Int → Int → Int} {cs : List Int} {t rise : Int} {i : Nat} (hi : i < l.length) (hv : vS l[i]) (ht : 0 ≤ t) (hcs : ∀ m (h : m < cs.length), 0 ≤ cs[m]) (hup : ∀ m (h : m + 1 < cs.length), cs[m + 1] ≤ cs[m] + rise)
    (htl : ∀ m (h : m < cs.length), cs[m] - l[i].r ≤ tl i m cs[m]) : ∀ m (h : m < cs.length), l[i].f ≤ m → num t rise m l[i] ≤ cs[m] → bitN l tl cs t i (m + 1) = true := by
  intro m
  induction m with
  | zero =>
    intro h hf hn
    obtain ⟨h1, h2, h3⟩ := hv
    have hf0 : l[i].f = 0 := by omega
    have hh : hitB l[i] ((0 : Nat) : Int) = true := by unfold hitB; rw [hf0]; simp
    rw [bitN_next hi h, if_pos hh]
    have := htl 0 h
    have hc := hcs 0 h
    unfold num at hn
    rw [if_neg (by omega), hf0] at hn
    rw [decide_eq_true_eq]
    by_cases h0 : t + l[i].r = 0
    · omega
    · rw [if_neg h0] at hn
      have e : (((0 : Nat) : Int) - 0).tmod l[i].e = 0 := by simp
      rw [e] at hn; omega
  | succ m ih =>
    intro h hf hn
    have hv' := hv
    obtain ⟨h1, h2, h3⟩ := hv
    rw [bitN_next hi h]
    by_cases hh : hitB l[i] ((m + 1 : Nat) : Int) = true
    · rw [if_pos hh, decide_eq_true_eq]
      have := htl (m + 1) h
      have hc := hcs (m + 1) h
      unfold hitB at hh
      simp only [Bool.and_eq_true, decide_eq_true_eq, beq_iff_eq] at hh
      unfold num at hn
      rw [if_neg (by omega)] at hn
      by_cases h0 : t + l[i].r = 0
      · omega
      · rw [if_neg h0, hh.2] at hn; omega
    · rw [if_neg hh]
      have hz : ((m + 1 : Nat) : Int) - l[i].f ≠ 0 := fun e => by
        apply hh
        unfold hitB
        rw [e]; simp; omega
      have hq0 : (((m + 1 : Nat) : Int) - l[i].f).tmod l[i].e ≠ 0 := fun e => by
        apply hh
        unfold hitB
        rw [e]; simp; omega
      have ha : (0 : Int) ≤ ((m + 1 : Nat) : Int) - l[i].f := by omega
      have hb : (0 : Int) ≤ (m : Int) - l[i].f := by omega
      have hmod : ((m : Int) - l[i].f).tmod l[i].e = (((m + 1 : Nat) : Int) - l[i].f).tmod l[i].e - 1 := by
        rw [Int.tmod_eq_emod_of_nonneg ha] at hq0 ⊢
        rw [Int.tmod_eq_emod_of_nonneg hb]
        have e1 : ((m : Int) - l[i].f) = (((m + 1 : Nat) : Int) - l[i].f) - 1 := by omega
        rw [e1]
        have g1 := Int.emod_nonneg (((m + 1 : Nat) : Int) - l[i].f) (show l[i].e ≠ 0 by omega)
        have g2 := Int.emod_lt_of_pos (((m + 1 : Nat) : Int) - l[i].f) (show 0 < l[i].e by omega)
        have g3 := Int.emod_add_mul_ediv (((m + 1 : Nat) : Int) - l[i].f) l[i].e
        rw [show (((m + 1 : Nat) : Int) - l[i].f) - 1 = ((((m + 1 : Nat) : Int) - l[i].f) % l[i].e - 1) + l[i].e * ((((m + 1 : Nat) : Int) - l[i].f) / l[i].e) by omega, Int.add_mul_emod_self_left]
        exact Int.emod_eq_of_lt (by omega) (by omega)
      refine ih (by omega) (by omega) ?_
      have hu := hup m h
      have hc := hcs m (by omega)
      unfold num at hn ⊢
      rw [if_neg (by omega)] at hn ⊢
      by_cases h0 : t + l[i].r = 0
      · rw [if_pos h0]; exact hc
      · rw [if_neg h0] at hn ⊢
        rw [hmod, Int.mul_sub, Int.mul_one]
        omega
/-- those that surely say yes are among those that have failed and those that say it -/
theorem cnt_sure {b : Nat} {B : List Bool} {l : List Sn} {t rise m c : Int} (h : ∀ i (hi : i < l.length), num t rise m l[i] ≤ c → B[i]? = some true ∨ b.testBit i = true) : ∀ k, k ≤ l.length → cnt c (nums t rise m (l.take k)) ≤ cntT B k + cntB b k
  | 0, _ => by simp [nums, cnt]
  | k + 1, hk => by
    have ih := cnt_sure h k (by omega)
    have hkl : k < l.length := by omega
    have e : cnt c (nums t rise m (l.take (k + 1))) = cnt c (nums t rise m (l.take k)) + if num t rise m l[k] ≤ c then 1 else 0 := by
      unfold nums cnt
      rw [List.take_succ_eq_append_getElem hkl, List.map_append, List.countP_append]
      simp
    rw [e]
    show _ ≤ cntT B k + (if B[k]? = some true then 1 else 0) + (cntB b k + (if b.testBit k = true then 1 else 0))
    by_cases hn : num t rise m l[k] ≤ c
    · rw [if_pos hn]
      rcases h k hkl hn with h1 | h1
      · rw [if_pos h1]; omega
      · rw [if_pos h1]; omega
    · rw [if_neg hn]; omega
/-- more than Worst tells gives an alarm in time -/
theorem sure_alarm {V F t rise : Int} {l : List Sn} {tl : Int → Int → Int → Int} {cs : List Int} {B : List Bool} (hv : VV l V F) (ht : 0 ≤ t) (hcs : ∀ m (h : m < cs.length), 0 ≤ cs[m] ∧ cs[m] ≤ 1048576) (hup : ∀ m (h : m + 1 < cs.length), cs[m + 1] ≤ cs[m] + rise) (hcl : cs.length ≤ 61)
    (hB : (cntT B l.length : Int) ≤ F) (htl : ∀ i (hi : i < l.length) m (h : m < cs.length), B[i]? ≠ some true → cs[m] - l[i].r ≤ tl i m cs[m])
    {m : Nat} (hm : m < cs.length) (hat : atN l (V + F).toNat t rise m ≤ cs[m]) : ∃ a, lisR V t l.length (readN l tl cs cs.length) = (a, 0) ∧ a ≤ m := by
  have hV := hv.hV; have hF := hv.hF
  refine hit_by hm hV.1 (by omega) ?_
  have h1 := (atN_le (L := l) (K := (V + F).toNat) (t := t) (rise := rise) (m := m) (by omega) (hcs m hm).2).1 hat
  have h2 := cnt_sure (b := balN t (readN l tl cs cs.length) (readN l tl cs (m + 1)).length) (B := B) (l := l) (t := t) (rise := rise) (m := m) (c := cs[m]) (fun i hi hn => by
    by_cases hb : B[i]? = some true
    · exact .inl hb
    · right
      rw [bal_read hv.h12 hi (by omega)]
      have hfm : l[i].f ≤ (m : Int) := by
        have := (hcs m hm).2
        unfold num at hn
        split at hn <;> omega
      exact sure_bit hi (hv.hL _ (List.getElem_mem hi)) ht (fun m h => (hcs m h).1) hup (fun m h => htl i hi m h hb) m hm hfm hn) l.length (Nat.le_refl _)
  rw [List.take_length] at h2
  have h3 : cntB (balN t (readN l tl cs cs.length) (readN l tl cs (m + 1)).length) l.length ≤ cntB (balN t (readN l tl cs cs.length) (readN l tl cs (m + 1)).length) 12 := by
    have hmono : ∀ (b a d : Nat), cntB b a ≤ cntB b (a + d) := fun b a d => by
      induction d with
      | zero => exact Nat.le_refl _
      | succ d ih => show _ ≤ cntB b (a + d) + _; omega
    have := hmono (balN t (readN l tl cs cs.length) (readN l tl cs (m + 1)).length) l.length (12 - l.length)
    have hh := hv.h12
    rwa [show l.length + (12 - l.length) = 12 by omega] at this
  omega
end Go.Proofs.Ytfdjoldcdfbfhaa

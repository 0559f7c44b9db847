/- What a set of groups can have, in terms of plans; plain. -/
import Derived.Test.YtipejhfgfciabaaLiP
import Derived.Test.YtipejhfgfciabaaHrZ
namespace Go.Proofs.Ytipejhfgfciabaa
theorem sum_free (p : Pl) : sumG (freeP p) = sumG p := rfl
theorem run_free (y : Tt) : ∀ (n : Nat) (p : Pl), ∃ q, runP y p (List.replicate n (-1)) = some q ∧ sumG q = sumG p
  | 0, p => ⟨p, rfl, rfl⟩
  | n + 1, p => by
    obtain ⟨q, h1, h2⟩ := run_free y n (freeP p)
    refine ⟨q, ?_, h2⟩
    rw [List.replicate_succ]
    simp only [runP]
    rw [if_pos ⟨mem_choices.2 (.inl rfl), by rw [give_free]⟩, give_free]
    exact h1
theorem can_plan {y : Tt} (hv : VT y) : ∀ (n : Nat) (p : Pl) (m : Int), VP y p → p.hour + n = y.H.length → canP y n p m = true → ∃ l q, l.length = n ∧ runP y p l = some q ∧ sumG q = sumG p + m
  | 0, p, m, _, _, h => by
    simp only [canP, decide_eq_true_eq] at h
    exact ⟨[], p, rfl, rfl, by omega⟩
  | n + 1, p, m, hp, hn, h => by
    by_cases h0 : m = 0
    · obtain ⟨q, h1, h2⟩ := run_free y (n + 1) p
      exact ⟨_, q, by simp, h1, by omega⟩
    · rw [can_succ, decide_eq_false h0, Bool.false_or, Bool.and_eq_true, List.any_eq_true] at h
      obtain ⟨_, ⟨g, q'⟩, hm, hc⟩ := h
      obtain ⟨hvq, hhq⟩ := next_vp hv hp (by omega) hm
      have hs := next_sum hv hp (by omega) hm
      obtain ⟨l, q, hl, hr, hq⟩ := can_plan hv n q' _ hvq (by omega) hc
      obtain ⟨hgc, hgv⟩ := mem_nexts.1 hm
      refine ⟨g :: l, q, by simp [hl], ?_, ?_⟩
      · simp only [runP]
        rw [if_pos ⟨hgc, by rw [hgv]⟩, hgv]
        exact hr
      · rw [hq, hs]
        by_cases hg : g = -1
        · simp only [hg, if_true]
        · simp only [hg, if_false]; omega
theorem run_sum {y : Tt} (hv : VT y) : ∀ (l : List Int) (p q : Pl), VP y p → p.hour + l.length = y.H.length → runP y p l = some q → sumG p ≤ sumG q ∧ sumG q ≤ sumG p + l.length
  | [], p, q, _, _, h => by
    simp only [runP, Option.some.injEq] at h
    subst h; simp
  | g :: l, p, q, hp, hn, h => by
    simp only [List.length_cons] at hn
    simp only [runP] at h
    split at h
    · rename_i hc
      have hm : (g, (giveR y p g).2) ∈ nexts y p := mem_nexts.2 ⟨hc.1, by rw [← hc.2]⟩
      obtain ⟨hvq, hhq⟩ := next_vp hv hp (by omega) hm
      have hs := next_sum hv hp (by omega) hm
      have ih := run_sum hv l _ q hvq (by omega) h
      simp only [List.length_cons]
      split at hs <;> omega
    · cases h
theorem plan_can {y : Tt} (hv : VT y) : ∀ (l : List Int) (p q : Pl) (m : Int), VP y p → p.hour + l.length = y.H.length → runP y p l = some q → sumG q = sumG p + m → canP y l.length p m = true
  | [], p, q, m, _, _, h, hs => by
    simp only [runP, Option.some.injEq] at h
    subst h
    simp [canP]; omega
  | g :: l, p, q, m, hp, hn, h, hs => by
    have hb := run_sum hv (g :: l) p q hp hn h
    simp only [List.length_cons] at hn hb ⊢
    rw [can_succ]
    by_cases h0 : m = 0
    · simp [h0]
    · rw [decide_eq_false h0, Bool.false_or, Bool.and_eq_true, List.any_eq_true]
      refine ⟨decide_eq_true (by omega), ?_⟩
      simp only [runP] at h
      split at h
      · rename_i hc
        have hm : (g, (giveR y p g).2) ∈ nexts y p := mem_nexts.2 ⟨hc.1, by rw [← hc.2]⟩
        obtain ⟨hvq, hhq⟩ := next_vp hv hp (by omega) hm
        have hs2 := next_sum hv hp (by omega) hm
        refine ⟨_, hm, plan_can hv l (giveR y p g).2 q _ hvq (by omega) h ?_⟩
        simp only
        split at hs2
        · rename_i hg; rw [if_pos hg]; omega
        · rename_i hg; rw [if_neg hg]; omega
      · cases h
theorem can_iff {y : Tt} (hv : VT y) (T : Int) : canP y y.H.length startP T = true ↔ ∃ l, goodP y l = true ∧ sumG (placeOf y l l.length) = T := by
  constructor
  · intro h
    obtain ⟨l, q, hl, hr, hq⟩ := can_plan hv _ startP T (vp_start y) (by simp [startP]) h
    obtain ⟨h1, h2⟩ := run_is hv hl hr
    exact ⟨l, h1, by rw [← h2, hq, sum_start]; omega⟩
  · rintro ⟨l, hg, hs⟩
    have hl := (plan_mem.1 (good_plan hg)).1
    have := plan_can hv l startP _ T (vp_start y) (by simp [startP, hl]) (good_run hv hg) (by rw [hs, sum_start]; omega)
    rwa [hl] at this
theorem sum_place (x : Tt) (l : List Int) (k : Nat) : sumG (placeOf x l k) = cntI l k 0 + cntI l k 1 + cntI l k 2 + cntI l k 3 + cntI l k 4 := by
  have : (List.range 5) = [0, 1, 2, 3, 4] := rfl
  unfold sumG placeOf
  rw [this]
  simp
  omega
/-- what a set needs of the group i -/
def bitN (least : List Int) (s i : Nat) : Int := if s / 2 ^ i % 2 = 1 then least.getD i 0 else 0
theorem need_step (least : List Int) (s k : Nat) : needT least (memTo s (k + 1)) = needT least (memTo s k) + bitN least s k := by
  unfold bitN
  by_cases h : s / 2 ^ k % 2 = 1
  · rw [memTo_yes h, needT_snoc, if_pos h]; simp
  · rw [memTo_no h, if_neg h]; simp
theorem need_bits (least : List Int) (s : Nat) : needT least (memL s) = bitN least s 0 + bitN least s 1 + bitN least s 2 + bitN least s 3 + bitN least s 4 := by
  unfold memL
  rw [need_step, need_step, need_step, need_step, need_step]
  have : needT least (memTo s 0) = 0 := rfl
  omega
theorem mem_memL {s i : Nat} (h : i < 5) : ((i : Int) ∈ memL s) ↔ s / 2 ^ i % 2 = 1 := by
  unfold memL memTo
  rw [List.mem_map]
  constructor
  · rintro ⟨j, hj, e⟩
    have : j = i := by omega
    subst this
    simpa using (List.mem_filter.1 hj).2
  · intro hb
    exact ⟨i, List.mem_filter.2 ⟨List.mem_range.2 h, by simpa using hb⟩, rfl⟩
end Go.Proofs.Ytipejhfgfciabaa

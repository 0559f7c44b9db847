/- The fairest plan is good, and none is fairer; plain. -/
import Derived.Test.YtipejhfgfciabaaLiJ
namespace Go.Proofs.Ytipejhfgfciabaa
theorem mem_choices {x : Tt} {g : Int} : g ∈ choices x ↔ g = -1 ∨ ∃ i : Nat, g = (i : Int) ∧ i < x.G.length := by
  unfold choices
  rw [List.mem_append, List.mem_map]
  constructor
  · rintro (⟨i, hi, rfl⟩ | h)
    · exact .inr ⟨i, rfl, List.mem_range.1 hi⟩
    · exact .inl (by simpa using h)
  · rintro (rfl | ⟨i, rfl, hi⟩)
    · exact .inr (by simp)
    · exact .inl ⟨i, List.mem_range.2 hi, rfl⟩
theorem plan_mem {x : Tt} {l : List Int} : planB x l = true ↔ l.length = x.H.length ∧ ∀ g ∈ l, g ∈ choices x := by
  constructor
  · intro h
    obtain ⟨h1, h2⟩ := plan_ok h
    exact ⟨h1, fun g hg => mem_choices.2 (h2 g hg)⟩
  · rintro ⟨h1, h2⟩
    unfold planB
    simp only [Bool.and_eq_true, decide_eq_true_eq, List.all_eq_true, Bool.or_eq_true, inB]
    refine ⟨h1, fun g hg => ?_⟩
    rcases mem_choices.1 (h2 g hg) with h | ⟨i, h, hi⟩
    · exact .inl h
    · exact .inr (by omega)
theorem run_mem {x : Tt} : ∀ {l : List Int} {p q : Pl}, runP x p l = some q → ∀ g ∈ l, g ∈ choices x
  | [], _, _, _, g, hg => by simp at hg
  | a :: l, p, q, h, g, hg => by
    simp only [runP] at h
    split at h
    · rename_i hc
      rcases List.mem_cons.1 hg with rfl | hg
      · exact hc.1
      · exact run_mem h g hg
    · cases h
/-- a plan is good just if it can be run -/
theorem run_good {x : Tt} {l : List Int} (hv : VT x) (hp : planB x l = true) : ∀ (d k : Nat), k + d = l.length →
    ((∀ i, k ≤ i → i < l.length → goodI x l i = true) ↔ ∃ q, runP x (placeOf x l k) (l.drop k) = some q) ∧ ∀ q, runP x (placeOf x l k) (l.drop k) = some q → q = placeOf x l l.length
  | 0, k, h => by
    have hk : k = l.length := by omega
    subst hk
    rw [List.drop_length]
    refine ⟨⟨fun _ => ⟨_, rfl⟩, fun _ i h1 h2 => absurd h1 (by omega)⟩, fun q hq => ?_⟩
    simp only [runP, Option.some.injEq] at hq
    exact hq.symm
  | d + 1, k, h => by
    have hk : k < l.length := by omega
    have ih := run_good hv hp d (k + 1) (by omega)
    have hc : l[k] ∈ choices x := (plan_mem.1 hp).2 _ (List.getElem_mem hk)
    rw [List.drop_eq_getElem_cons hk]
    simp only [runP]
    rcases give_place hv hp hk with ⟨hg, he⟩ | ⟨hg, h0, _, _⟩
    · rw [he]
      simp only [hc, true_and, if_true]
      refine ⟨⟨fun h => ih.1.1 (fun i hi hl => h i (by omega) hl), fun h i hi hl => ?_⟩, ih.2⟩
      rcases Nat.lt_or_ge k i with h' | h'
      · exact ih.1.2 h i h' hl
      · have : i = k := by omega
        subst this; exact hg
    · simp only [h0, and_false, if_false]
      refine ⟨⟨fun h => ?_, fun ⟨q, hq⟩ => by cases hq⟩, fun q hq => by cases hq⟩
      rw [h k (Nat.le_refl _) hk] at hg
      cases hg
theorem good_run {x : Tt} {l : List Int} (hv : VT x) (h : goodP x l = true) : runP x startP l = some (placeOf x l l.length) := by
  have hp : planB x l = true := by unfold goodP at h; simp only [Bool.and_eq_true] at h; exact h.1
  have := run_good hv hp l.length 0 (by omega)
  rw [place_zero, List.drop_zero] at this
  obtain ⟨q, hq⟩ := this.1.1 (fun i _ hi => (goodP_of hp).1 h i hi)
  rw [hq, this.2 q hq]
theorem good_plan {x : Tt} {l : List Int} (h : goodP x l = true) : planB x l = true := by unfold goodP at h; simp only [Bool.and_eq_true] at h; exact h.1
theorem run_is {x : Tt} {l : List Int} {q : Pl} (hv : VT x) (hl : l.length = x.H.length) (h : runP x startP l = some q) : goodP x l = true ∧ q = placeOf x l l.length := by
  have hp : planB x l = true := plan_mem.2 ⟨hl, run_mem h⟩
  have := run_good hv hp l.length 0 (by omega)
  rw [place_zero, List.drop_zero] at this
  exact ⟨(goodP_of hp).2 (fun i hi => this.1.2 ⟨q, h⟩ i (Nat.zero_le _) hi), this.2 q h⟩
theorem fair_good {x : Tt} (hv : VT x) : goodP x (fairP x) = true := by
  obtain ⟨h1, q, h2, _⟩ := fair_spec x
  exact (run_is hv h1 h2).1
theorem fair_most {x : Tt} {l : List Int} (hv : VT x) (h : goodP x l = true) : cmpL (srt (hasL x l)) (srt (hasL x (fairP x))) ≤ 0 ∧ (srt (hasL x l) = srt (hasL x (fairP x)) → lexLe x (fairP x) l) := by
  obtain ⟨h1, q, h2, h3⟩ := fair_spec x
  have hq := (run_is hv h1 h2).2
  have hl := (plan_mem.1 (good_plan h)).1
  have := h3 l _ hl (good_run hv h)
  rw [hq, hasL_owned hv, hasL_owned hv] at this
  exact this
theorem check_good {x : Tt} {l : List Int} (hT : ttB x = true) (h : goodP x l = true) : checkR x l = (hasL x l, l.length, 0) := by
  have hv := ttB_vt hT
  have hp := good_plan h
  have hC := chk_good hv hp l.length 0 (by omega)
  rw [place_zero, List.drop_zero] at hC
  rcases hC with ⟨_, hC⟩ | ⟨e, n, _, _, _, _, _, hn, _, hb⟩
  · unfold checkR
    simp only [hT, hp, Bool.true_eq_false, if_false, hC, if_true]
    rw [hasL_owned hv]
  · rw [(goodP_of hp).1 h n hn] at hb; cases hb
theorem comp_good {x : Tt} {a b : List Int} (hT : ttB x = true) (ha : goodP x a = true) (hb : goodP x b = true) : compR x a b = (cmpL (srt (hasL x a)) (srt (hasL x b)), 0) := by
  unfold compR
  rw [check_good hT ha, check_good hT hb]
  simp
theorem lex_at {x : Tt} : ∀ {l m : List Int} {i : Nat}, lexLe x l m → ∀ (hl : i < l.length) (hm : i < m.length), (∀ j (h1 : j < l.length) (h2 : j < m.length), j < i → l[j] = m[j]) → l[i] ≠ m[i] → key x l[i] < key x m[i]
  | [], _, _, _, hl, _, _, _ => by simp at hl
  | _ :: _, [], _, _, _, hm, _, _ => by simp at hm
  | a :: l, b :: m, 0, h, _, _, _, hne => by
    rcases h with h | ⟨h, _⟩
    · exact h
    · exact absurd h hne
  | a :: l, b :: m, i + 1, h, hl, hm, hj, hne => by
    have h0 := hj 0 (by simp) (by simp) (by omega)
    simp at h0
    subst h0
    rcases h with h | ⟨_, h⟩
    · omega
    · exact lex_at h (by simpa using hl) (by simpa using hm) (fun j h1 h2 h3 => by
        have := hj (j + 1) (by simpa using h1) (by simpa using h2) (by omega)
        simpa using this) (by simpa using hne)
theorem lex_ahead {x : Tt} {l m : List Int} {i : Nat} (hp : planB x l = true) (hq : planB x m = true) (h : lexLe x l m) (hl : i < l.length) (hm : i < m.length) (hj : ∀ j (h1 : j < l.length) (h2 : j < m.length), j < i → l[j] = m[j]) (hne : l[i] ≠ m[i]) :
    m[i] < 0 ∨ (0 ≤ l[i] ∧ l[i] < m[i]) := by
  have hk := lex_at h hl hm hj hne
  rcases (plan_ok hp).2 l[i] (List.getElem_mem hl) with h1 | ⟨a, h1, ha⟩
  · rcases (plan_ok hq).2 m[i] (List.getElem_mem hm) with h2 | ⟨b, h2, hb⟩
    · omega
    · rw [h1, h2] at hk
      unfold key at hk
      rw [if_pos rfl, if_neg (show ¬ (b : Int) = -1 by omega)] at hk
      omega
  · rcases (plan_ok hq).2 m[i] (List.getElem_mem hm) with h2 | ⟨b, h2, hb⟩
    · exact .inl (by omega)
    · rw [h1, h2] at hk
      unfold key at hk
      rw [if_neg (show ¬ (a : Int) = -1 by omega), if_neg (show ¬ (b : Int) = -1 by omega)] at hk
      exact .inr (by omega)
end Go.Proofs.Ytipejhfgfciabaa

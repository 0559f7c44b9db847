/- A set of groups can have what it needs just if a good plan gives it; plain. -/
import Derived.Test.YtipejhfgfciabaaLiQ
namespace Go.Proofs.Ytipejhfgfciabaa
theorem cnt_most {x : Tt} {l : List Int} (hv : VT x) (h : goodP x l = true) {i : Nat} (hi : i < x.G.length) : ∀ k, k ≤ l.length → cntI l k (i : Int) ≤ x.G[i].most
  | 0, _ => by rw [cntI_zero]; have := hv.g _ (List.getElem_mem hi); omega
  | k + 1, hk => by
    have ih := cnt_most hv h hi k (by omega)
    have hp := good_plan h
    have hkl : k < l.length := by omega
    by_cases hg : l[k] = (i : Int)
    · have hI := (goodP_of hp).1 h k hkl
      rw [goodI_at hkl hg hi (by have := (plan_mem.1 hp).1; omega)] at hI
      simp only [Bool.and_eq_true, decide_eq_true_eq] at hI
      exact hI.1
    · rw [cntI_succ hkl, if_neg hg]; omega
theorem cnt_none {x : Tt} {l : List Int} (h : goodP x l = true) {i : Nat} (hi : i < x.G.length) (hm : ∀ b, mayB x.G[i] b = false) : ∀ k, k ≤ l.length → cntI l k (i : Int) = 0
  | 0, _ => cntI_zero _ _
  | k + 1, hk => by
    have ih := cnt_none h hi hm k (by omega)
    have hp := good_plan h
    have hkl : k < l.length := by omega
    by_cases hg : l[k] = (i : Int)
    · have hI := (goodP_of hp).1 h k hkl
      rw [goodI_at hkl hg hi (by have := (plan_mem.1 hp).1; omega), hm] at hI
      simp at hI
    · rw [cntI_succ hkl, if_neg hg]; omega
theorem cnt_out {x : Tt} {l : List Int} (h : planB x l = true) {i : Nat} (hi : x.G.length ≤ i) : ∀ k, k ≤ l.length → cntI l k (i : Int) = 0
  | 0, _ => cntI_zero _ _
  | k + 1, hk => by
    have ih := cnt_out h hi k (by omega)
    have hkl : k < l.length := by omega
    rw [cntI_succ hkl, if_neg, ih]
    · rfl
    · intro e
      rcases (plan_ok h).2 l[k] (List.getElem_mem hkl) with h1 | ⟨j, h1, h2⟩ <;> omega
theorem may_zero (b : Hr) : mayB zeroG b = false := by unfold mayB zeroG; simp
theorem narrow_at (x : Tt) (least : List Int) {s i : Nat} (hi : i < x.G.length) (h5 : i < 5) : ∃ h : i < (narrow x least (memL s)).G.length, (narrow x least (memL s)).G[i] = if s / 2 ^ i % 2 = 1 then { x.G[i] with most := least.getD i 0 } else zeroG := by
  refine ⟨by show i < (narG x least (memL s)).length; rw [narG_len]; exact hi, ?_⟩
  refine (narG_at x least (memL s) i hi).trans ?_
  by_cases hb : s / 2 ^ i % 2 = 1
  · rw [if_pos ((mem_memL h5).2 hb), if_pos hb]
  · rw [if_neg (fun h => hb ((mem_memL h5).1 h)), if_neg hb]
theorem tight_narrow (x : Tt) (least l : List Int) (i : Nat) : tightB (narrow x least l) i = tightB x i := rfl
theorem may_most (a : Gr) (m : Int) (b : Hr) : mayB { a with most := m } b = mayB a b := rfl
theorem bit_lt {s n i : Nat} (hs : s < 2 ^ n) (h5 : i < 5) (hb : s / 2 ^ i % 2 = 1) : i < n := by
  obtain ⟨j, hj, hn⟩ := memL_lt hs (i : Int) ((mem_memL h5).2 hb)
  omega
/-- what can be, a plan gives -/
theorem sat_plan {x : Tt} {least : List Int} {s : Nat} (hv : VT x) (hlb : leastB x least = true) (hs : s < 2 ^ x.G.length) (h : satP x least (memL s) = true) :
    ∃ p, goodP x p = true ∧ ∀ i : Nat, i < 5 → s / 2 ^ i % 2 = 1 → least.getD i 0 ≤ cntI p p.length (i : Int) := by
  unfold satP at h
  simp only [Bool.and_eq_true, List.all_eq_true, decide_eq_true_eq] at h
  obtain ⟨hm, hc⟩ := h
  have hvn := vt_narrow (l := memL s) hv hlb
  have hc' : canP (narrow x least (memL s)) (narrow x least (memL s)).H.length startP (needT least (memL s)) = true := hc
  obtain ⟨l, hg, hsum⟩ := (can_iff hvn _).1 hc'
  have hp := good_plan hg
  have hgl : (narrow x least (memL s)).G.length = x.G.length := narG_len x least (memL s)
  have hle : ∀ i : Nat, i < 5 → cntI l l.length (i : Int) ≤ bitN least s i := fun i h5 => by
    unfold bitN
    by_cases hi : i < x.G.length
    · obtain ⟨hi', he⟩ := narrow_at x least (s := s) hi h5
      by_cases hb : s / 2 ^ i % 2 = 1
      · rw [if_pos hb]
        have := cnt_most hvn hg hi' l.length (Nat.le_refl _)
        rw [he, if_pos hb] at this
        exact this
      · rw [if_neg hb]
        rw [if_neg hb] at he
        have := cnt_none hg hi' (fun b => by rw [he]; exact may_zero b) l.length (Nat.le_refl _)
        omega
    · rw [cnt_out hp (by rw [hgl]; omega) l.length (Nat.le_refl _)]
      rw [if_neg (fun hb => hi (bit_lt hs h5 hb))]
      exact Int.le_refl _
  rw [sum_place, need_bits] at hsum
  have h0 := hle 0 (by omega); have h1 := hle 1 (by omega); have h2 := hle 2 (by omega); have h3 := hle 3 (by omega); have h4 := hle 4 (by omega)
  have hpx : planB x l = true := by
    unfold planB at hp ⊢
    rw [hgl] at hp
    exact hp
  refine ⟨l, ?_, fun i h5 hb => ?_⟩
  · rw [goodP_of hpx]
    intro k hk
    have hI := (goodP_of hp).1 hg k hk
    rcases (plan_ok hpx).2 l[k] (List.getElem_mem hk) with h | ⟨i, h, hi⟩
    · exact goodI_neg hk (by omega)
    · have h5 : i < 5 := by have := hv.ng; omega
      obtain ⟨hi', he⟩ := narrow_at x least (s := s) hi h5
      have hh : k < x.H.length := by have := (plan_mem.1 hpx).1; omega
      rw [goodI_at hk h hi' hh, he] at hI
      rw [goodI_at hk h hi hh]
      by_cases hb : s / 2 ^ i % 2 = 1
      · rw [if_pos hb] at hI
        have hmo := hm (i : Int) ((mem_memL h5).2 hb)
        unfold mostOf at hmo
        simp only [Int.toNat_natCast, List.getElem?_eq_getElem hi] at hmo
        simp only [Bool.and_eq_true, decide_eq_true_eq] at hI ⊢
        exact ⟨by have := hI.1; omega, hI.2.1, hI.2.2⟩
      · rw [if_neg hb] at hI
        rw [may_zero] at hI
        simp at hI
  · have hb' : bitN least s i = least.getD i 0 := by unfold bitN; rw [if_pos hb]
    rw [← hb']
    have h5' : i = 0 ∨ i = 1 ∨ i = 2 ∨ i = 3 ∨ i = 4 := by omega
    have e0 : ((0 : Nat) : Int) = 0 := rfl
    have e1 : ((1 : Nat) : Int) = 1 := rfl
    have e2 : ((2 : Nat) : Int) = 2 := rfl
    have e3 : ((3 : Nat) : Int) = 3 := rfl
    have e4 : ((4 : Nat) : Int) = 4 := rfl
    rw [e0] at h0; rw [e1] at h1; rw [e2] at h2; rw [e3] at h3; rw [e4] at h4
    rcases h5' with rfl | rfl | rfl | rfl | rfl
    · rw [e0]; omega
    · rw [e1]; omega
    · rw [e2]; omega
    · rw [e3]; omega
    · rw [e4]; omega
/-- what is beyond the needs is left free -/
def keepAt (least : List Int) (s : Nat) (p : List Int) (i : Nat) : Int :=
  if 0 ≤ p.getD i (-1) ∧ s / 2 ^ (p.getD i (-1)).toNat % 2 = 1 ∧ cntI p (i + 1) (p.getD i (-1)) ≤ least.getD (p.getD i (-1)).toNat 0 then p.getD i (-1) else -1
def prune (least : List Int) (s : Nat) (p : List Int) : List Int := (List.range p.length).map (keepAt least s p)
theorem prune_len (least : List Int) (s : Nat) (p : List Int) : (prune least s p).length = p.length := by simp [prune]
theorem prune_at {least : List Int} {s : Nat} {p : List Int} {i : Nat} (hi : i < p.length) : (prune least s p)[i]'(by rw [prune_len]; exact hi) = keepAt least s p i := by simp [prune]
theorem keep_or (least : List Int) (s : Nat) {p : List Int} {i : Nat} (hi : i < p.length) : keepAt least s p i = -1 ∨ (keepAt least s p i = p[i] ∧ 0 ≤ p[i] ∧ s / 2 ^ (p[i]).toNat % 2 = 1 ∧ cntI p (i + 1) p[i] ≤ least.getD (p[i]).toNat 0) := by
  unfold keepAt
  rw [show p.getD i (-1) = p[i] by simp [List.getD, hi]]
  split
  · rename_i h; exact .inr ⟨rfl, h⟩
  · exact .inl rfl
theorem keep_is {least : List Int} {s : Nat} {p : List Int} {i g : Nat} (hi : i < p.length) (hp : p[i] = (g : Int)) (hb : s / 2 ^ g % 2 = 1) (hc : cntI p (i + 1) (g : Int) ≤ least.getD g 0) : keepAt least s p i = (g : Int) := by
  unfold keepAt
  rw [show p.getD i (-1) = p[i] by simp [List.getD, hi], hp]
  rw [if_pos ⟨by omega, by simpa using hb, by simpa using hc⟩]
theorem prune_cnt {least : List Int} {s : Nat} {p : List Int} {g : Nat} (hl : 0 ≤ least.getD g 0) (hb : s / 2 ^ g % 2 = 1) : ∀ k, k ≤ p.length → cntI (prune least s p) k (g : Int) = min (cntI p k (g : Int)) (least.getD g 0)
  | 0, _ => by rw [cntI_zero, cntI_zero]; omega
  | k + 1, hk => by
    have ih := prune_cnt (p := p) hl hb k (by omega)
    have hkp : k < p.length := by omega
    rw [cntI_succ (by rw [prune_len]; exact hkp), prune_at hkp, ih]
    have hcs := cntI_succ hkp (g : Int)
    by_cases hg : p[k] = (g : Int)
    · rw [if_pos hg] at hcs
      by_cases hc : cntI p (k + 1) (g : Int) ≤ least.getD g 0
      · rw [if_pos (keep_is hkp hg hb hc)]; omega
      · rw [if_neg]
        · omega
        · intro e
          rcases keep_or least s hkp with h | ⟨_, _, _, h4⟩
          · omega
          · rw [hg] at h4; simp only [Int.toNat_natCast] at h4; omega
    · rw [if_neg hg] at hcs
      rw [if_neg]
      · omega
      · intro e
        rcases keep_or least s hkp with h | ⟨h, _⟩
        · omega
        · exact hg (h ▸ e)
theorem prune_none {least : List Int} {s : Nat} {p : List Int} {g : Nat} (hb : ¬ s / 2 ^ g % 2 = 1) : ∀ k, k ≤ p.length → cntI (prune least s p) k (g : Int) = 0
  | 0, _ => cntI_zero _ _
  | k + 1, hk => by
    have ih := prune_none (least := least) (p := p) hb k (by omega)
    have hkp : k < p.length := by omega
    rw [cntI_succ (by rw [prune_len]; exact hkp), prune_at hkp, ih, if_neg]
    · rfl
    · intro e
      rcases keep_or least s hkp with h | ⟨h, _, h3, _⟩
      · omega
      · rw [← h, e] at h3
        exact hb (by simpa using h3)
/-- what a plan gives, can be -/
theorem plan_sat {x : Tt} {least : List Int} {s : Nat} {p : List Int} (hv : VT x) (hlb : leastB x least = true) (hs : s < 2 ^ x.G.length) (hg : goodP x p = true) (hc : ∀ i : Nat, i < 5 → s / 2 ^ i % 2 = 1 → least.getD i 0 ≤ cntI p p.length (i : Int)) :
    satP x least (memL s) = true := by
  have hp := good_plan hg
  have hvn := vt_narrow (l := memL s) hv hlb
  have hgl : (narrow x least (memL s)).G.length = x.G.length := narG_len x least (memL s)
  have hng := hv.ng
  unfold satP
  simp only [Bool.and_eq_true, List.all_eq_true, decide_eq_true_eq]
  refine ⟨fun g hgm => ?_, ?_⟩
  · obtain ⟨i, rfl, hi⟩ := memL_lt hs g hgm
    have hb := (mem_memL (show i < 5 by omega)).1 hgm
    have h1 := hc i (by omega) hb
    have h2 := cnt_most hv hg hi p.length (Nat.le_refl _)
    unfold mostOf
    simp only [Int.toNat_natCast, List.getElem?_eq_getElem hi]
    omega
  · show canP (narrow x least (memL s)) (narrow x least (memL s)).H.length startP (needT least (memL s)) = true
    rw [can_iff hvn]
    have hpl : (prune least s p).length = x.H.length := by rw [prune_len]; exact (plan_mem.1 hp).1
    have hpy : planB (narrow x least (memL s)) (prune least s p) = true := by
      rw [plan_mem]
      refine ⟨hpl, fun g hgm => ?_⟩
      obtain ⟨i, hi, rfl⟩ := List.getElem_of_mem hgm
      have hi' : i < p.length := by rw [← prune_len least s p]; exact hi
      rw [prune_at hi']
      rcases keep_or least s hi' with h | ⟨h, _⟩
      · rw [h]; exact mem_choices.2 (.inl rfl)
      · rw [h]
        have := (plan_mem.1 hp).2 _ (List.getElem_mem hi')
        rw [mem_choices] at this ⊢
        rw [hgl]; exact this
    refine ⟨prune least s p, ?_, ?_⟩
    · rw [goodP_of hpy]
      intro k hk
      have hk' : k < p.length := by rw [← prune_len least s p]; exact hk
      have hh : k < x.H.length := by have := (plan_mem.1 hp).1; omega
      have hat := prune_at (least := least) (s := s) hk'
      rcases keep_or least s hk' with h | ⟨h, h0, hb, hcn⟩
      · exact goodI_neg hk (by rw [hat, h]; decide)
      · rcases (plan_ok hp).2 p[k] (List.getElem_mem hk') with hm | ⟨i, hi0, hi⟩
        · omega
        · rw [hi0] at h hb hcn
          simp only [Int.toNat_natCast] at hb hcn
          have h5 : i < 5 := by omega
          obtain ⟨hi', he⟩ := narrow_at x least (s := s) hi h5
          rw [if_pos hb] at he
          have hI := (goodP_of hp).1 hg k hk'
          rw [goodI_at hk' hi0 hi hh] at hI
          rw [goodI_at hk (hat.trans h) hi' hh, he]
          simp only [Bool.and_eq_true, decide_eq_true_eq] at hI ⊢
          have hl0 := ((leastB_at hlb).2 i hi).1
          refine ⟨?_, hI.2.1, ?_⟩
          · rw [prune_cnt hl0 hb (k + 1) (by omega)]
            omega
          · have h3 := hI.2.2
            rw [tight_narrow]
            simp only [Bool.or_eq_true, decide_eq_true_eq] at h3 ⊢
            rcases h3 with h3 | h3
            · exact .inl h3
            · refine .inr ?_
              by_cases hk0 : k = 0
              · refine .inl ?_
                unfold ahd; rw [if_pos hk0]; decide
              · have ha : ahd (prune least s p) k = keepAt least s p (k - 1) := by
                  unfold ahd
                  rw [if_neg hk0]
                  have : k - 1 < p.length := by omega
                  have h9 : k - 1 < (prune least s p).length := by rw [prune_len]; exact this
                  simp only [List.getD, List.getElem?_eq_getElem h9, Option.getD_some]
                  exact prune_at this
                have hb' : ahd p k = p[k - 1]'(by omega) := by
                  unfold ahd
                  rw [if_neg hk0]
                  simp [List.getD, show k - 1 < p.length by omega]
                rw [ha]
                rcases keep_or least s (show k - 1 < p.length by omega) with h4 | ⟨h4, _⟩
                · exact .inl (by omega)
                · rw [h4, ← hb']; exact h3
    · rw [prune_len, sum_place, need_bits]
      have he : ∀ i : Nat, i < 5 → cntI (prune least s p) p.length (i : Int) = bitN least s i := fun i h5 => by
        unfold bitN
        by_cases hb : s / 2 ^ i % 2 = 1
        · rw [if_pos hb]
          have hi := bit_lt hs h5 hb
          rw [prune_cnt ((leastB_at hlb).2 i hi).1 hb p.length (Nat.le_refl _)]
          have := hc i h5 hb
          omega
        · rw [if_neg hb]
          exact prune_none hb p.length (Nat.le_refl _)
      have h0 := he 0 (by omega); have h1 := he 1 (by omega); have h2 := he 2 (by omega); have h3 := he 3 (by omega); have h4 := he 4 (by omega)
      have e0 : ((0 : Nat) : Int) = 0 := rfl
      have e1 : ((1 : Nat) : Int) = 1 := rfl
      have e2 : ((2 : Nat) : Int) = 2 := rfl
      have e3 : ((3 : Nat) : Int) = 3 := rfl
      have e4 : ((4 : Nat) : Int) = 4 := rfl
      rw [e0] at h0; rw [e1] at h1; rw [e2] at h2; rw [e3] at h3; rw [e4] at h4
      omega
end Go.Proofs.Ytipejhfgfciabaa

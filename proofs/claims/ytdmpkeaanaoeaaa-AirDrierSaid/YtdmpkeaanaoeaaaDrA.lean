/- AirDrier (plain): stronger dryers, the least one, one milligram less. -/
import Derived.Test.YtdmpkeaanaoeaaaTrA
namespace Go.Proofs.Ytdmpkeaanaoeaaa
def dryS (s : Stp) (d : Int) : Stp := { s with dry := d }
/-- the steps, each with a dryer of its own -/
def dryL (f : Stp → Int) (L : List Stp) : List Stp := L.map fun s => dryS s (f s)
def strF (more : Int) (s : Stp) : Int := min 68719476736 (s.dry + more)
theorem dryL_len (f : Stp → Int) (L : List Stp) : (dryL f L).length = L.length := by simp [dryL]
theorem dryL_take (f : Stp → Int) (L : List Stp) {k : Nat} (h : k < L.length) : dryL f (L.take (k + 1)) = dryL f (L.take k) ++ [dryS L[k] (f L[k])] := by
  unfold dryL
  rw [List.take_succ_eq_append_getElem h, List.map_append]; rfl
theorem dryL_ins {a : Air} {lo hi : Int} {L : List Stp} {f : Stp → Int} (h : insB a lo hi L = true) (hf : ∀ s ∈ L, 0 ≤ f s ∧ f s ≤ 68719476736) : insB a lo hi (dryL f L) = true := by
  obtain ⟨h1, h2, h3, h4⟩ := (insB_iff a lo hi L).1 h
  refine (insB_iff _ _ _ _).2 ⟨h1, h2, by rw [dryL_len]; exact h3, fun s hs => ?_⟩
  obtain ⟨t, ht, rfl⟩ := List.mem_map.1 hs
  obtain ⟨q1, q2, q3, q4, q5, q6⟩ := h4 t ht
  exact ⟨q1, q2, q3, q4, q5, hf t ht⟩
theorem mo_dry (a : Air) (s : Stp) (d : Int) : moOf a (dryS s d) = sd d (moOf a s) := rfl
theorem ms_dry (a : Air) (L : List Stp) (x : Int) : msOf a (dryL (fun _ => x) L) = wd x (msOf a L) := by
  unfold msOf dryL wd
  rw [List.map_map, List.map_map]
  rfl
theorem ms_strong {a : Air} {L : List Stp} {more : Int} (h : ∀ s ∈ L, s.dry ≤ 68719476736) (hm : 0 ≤ more) : Stronger (msOf a L) (msOf a (dryL (strF more) L)) := by
  refine ⟨by rw [msOf_len, msOf_len, dryL_len], fun k hk => ?_⟩
  have hk' : k < L.length := by rw [msOf_len] at hk; exact hk
  refine ⟨strF more L[k], ?_, ?_⟩
  · simp only [msOf, List.getElem_map, moOf, strF]
    have := h _ (List.getElem_mem hk')
    omega
  · simp only [msOf, dryL, List.getElem_map]
    exact mo_dry _ _ _
theorem ins_dry {a : Air} {lo hi : Int} {L : List Stp} (h : insB a lo hi L = true) : ∀ s ∈ L, 0 ≤ s.dry ∧ s.dry ≤ 68719476736 := fun s hs => (((insB_iff a lo hi L).1 h).2.2.2 s hs).d
theorem strong_ins {a : Air} {lo hi : Int} {L : List Stp} {more : Int} (h : insB a lo hi L = true) (hm : 0 ≤ more) : insB a lo hi (dryL (strF more) L) = true :=
  dryL_ins h (fun s hs => by have := ins_dry h s hs; unfold strF; omega)
/-- no more dew -/
theorem strong_dew {a : Air} {lo hi : Int} {L : List Stp} {more : Int} (h : insB a lo hi L = true) (hm : 0 ≤ more) :
    (runL a lo (dryL (strF more) L)).dew ≤ (runL a lo L).dew ∧ (runH a hi (dryL (strF more) L)).dew ≤ (runH a hi L).dew := by
  have hs := ms_strong (a := a) (fun s hs => (ins_dry h s hs).2) hm
  have hg := (ins_gl h).g
  unfold runL runH
  rw [dryL_len]
  exact ⟨(stronger_le hs hg lo (·.c0) (fun _ _ => rfl) L.length (by rw [msOf_len]; exact Nat.le_refl _)).2, (stronger_le hs hg hi (·.c1) (fun _ _ => rfl) L.length (by rw [msOf_len]; exact Nat.le_refl _)).2⟩
theorem wet_mono {l l' : List Mo} (h : Stronger l l') (hg : ∀ m ∈ l, GM m) (w lim : Int) (f : Mo → Int) (hf : ∀ d m, f (sd d m) = f m) {k : Nat} (hk : k < l.length) (hw : wetAt w f lim l' k = true) : wetAt w f lim l k = true := by
  obtain ⟨d, hd, he⟩ := h.m k hk
  rw [wetAt_eq (show k < l'.length by rw [h.n]; exact hk), he] at hw
  rw [wetAt_eq hk]
  have h1 := (stronger_le h hg w f hf (k + 1) (by omega)).1
  unfold wetB at hw ⊢
  have h2 := of_decide_eq_true hw
  refine decide_eq_true ?_
  have h3 : (sd d l[k]).ho = l[k].ho := rfl
  rw [h3] at h2
  omega
/-- no more rust -/
theorem strong_rust {a : Air} {lo hi : Int} {L : List Stp} {more : Int} (lim : Int) (h : insB a lo hi L = true) (hm : 0 ≤ more) :
    rustL lo lim (msOf a (dryL (strF more) L)) (dryL (strF more) L).length ≤ rustL lo lim (msOf a L) L.length ∧ rustH hi lim (msOf a (dryL (strF more) L)) (dryL (strF more) L).length ≤ rustH hi lim (msOf a L) L.length := by
  have hs := ms_strong (a := a) (fun s hs => (ins_dry h s hs).2) hm
  have hg := (ins_gl h).g
  rw [dryL_len]
  exact ⟨cntI_le _ fun i hi' hw => wet_mono hs hg lo lim (·.c0) (fun _ _ => rfl) (by rw [msOf_len]; exact hi') hw, cntI_le _ fun i hi' hw => wet_mono hs hg hi lim (·.c1) (fun _ _ => rfl) (by rw [msOf_len]; exact hi') hw⟩
theorem dew_up {w : Int} {f : Mo → Int} {l : List Mo} (hw : 0 ≤ w ∧ w ≤ 274877906944) (hl : ∀ m ∈ l, GM m) (hf : ∀ m, GM m → 0 ≤ f m ∧ f m ≤ 274877906944) : ∀ d k, k + d ≤ l.length → (crs w f l k).dew ≤ (crs w f l (k + d)).dew
  | 0, _, _ => Int.le_refl _
  | d + 1, k, h => by
    have ih := dew_up hw hl hf d k (by omega)
    have hk : k + d < l.length := by omega
    have hg := crs_good hw hl hf (k + d) (by omega)
    have hm := hl _ (List.getElem_mem hk)
    have hx := hf _ hm
    have hp := part_bd (w := (crs w f l (k + d)).w) (th := 1000 - l[k + d].ch) hg.w.1 (by have := hm.ch; omega) (by have := hm.ch; omega)
    have hd := hm.dr
    rw [← Nat.add_assoc, crs_step hk]
    refine Int.le_trans ih ?_
    unfold passP
    simp only
    omega
/-- with a dryer x there is no dew just if it is one that does -/
theorem dry_dew {a : Air} {lo hi : Int} {L : List Stp} {x : Int} (h : insB a lo hi L = true) (hx : 0 ≤ x ∧ x ≤ 68719476736) : ((runH a hi (dryL (fun _ => x) L)).dew = 0 ↔ dryB hi (msOf a L) x = true) ∧ 0 ≤ (runH a hi (dryL (fun _ => x) L)).dew := by
  have hg := wd_good (ins_gl h) hx
  have hgc := crs_good (f := (·.c1)) hg.hi hg.g hi_ok
  unfold runH
  rw [ms_dry, dryL_len]
  have hl : (wd x (msOf a L)).length = L.length := by rw [wd_len, msOf_len]
  refine ⟨?_, (hgc L.length (by omega)).dew.1⟩
  unfold dryB
  rw [decide_eq_true_eq, fogP_neg, msOf_len]
  constructor
  · intro h0 i hi'
    have := dew_up (f := (·.c1)) hg.hi hg.g hi_ok (L.length - (i + 1)) (i + 1) (by omega)
    rw [show i + 1 + (L.length - (i + 1)) = L.length by omega] at this
    omega
  · intro h0
    rcases Nat.eq_zero_or_pos L.length with hz | hz
    · rw [hz]; rfl
    · have h1 := h0 (L.length - 1) (by omega)
      rw [show L.length - 1 + 1 = L.length by omega] at h1
      have h2 := (hgc L.length (by omega)).dew.1
      omega
end Go.Proofs.Ytdmpkeaanaoeaaa

/- AirParts: plain facts, rows of steps, what the law holds of memory. -/
import Derived.Deep.AppendLies
import Derived.Deep.LoopGhost
import Derived.Deep.MidRow
import Derived.Lib.SliceRun
import Derived.Shelf.SlSortCmp.QuietGrown
import Derived.Test.YtdmpkeaanaoeaaaLwB
import Derived.Test.YtdmpkeaanaoeaaaLwD
import Derived.Test.YtdmpkeaanaoeaaaTrA
import Derived.Test.YtdmpkeaanaoeaaaTrD
namespace Go.Proofs.Ytdmpkeaanaoeaaa
def dryS (s : Stp) (d : Int) : Stp := { s with dry := d }
/-- the steps, each with a dryer of its own -/
def dryL (f : Stp → Int) (L : List Stp) : List Stp := L.map fun s => dryS s (f s)
def strF (more : Int) (s : Stp) : Int := min 68719476736 (s.dry + more)
theorem dryL_len (f : Stp → Int) (L : List Stp) : (dryL f L).length = L.length := by simp [dryL]
theorem dryL_take (f : Stp → Int) (L : List Stp) {k : Nat} (h : k < L.length) : dryL f (L.take (k + 1)) = dryL f (L.take k) ++ [dryS L[k] (f L[k])] := by
  unfold dryL
  rw [List.take_succ_eq_append_getElem h, List.map_append]; rfl
theorem dryL_ins {a : Air} {lo hi : Int} {L : List Stp} {f : Stp → Int} (h : insB a lo hi L = true) (hf : ∀ s ∈ L, 0 ≤ f s ∧ f s ≤ 68719476736) : insB a lo hi (dryL f L) = true := by
  obtain ⟨h1, h2, h3, h4⟩ := (insB_iff a lo hi L).1 h
  refine (insB_iff _ _ _ _).2 ⟨h1, h2, by rw [dryL_len]; exact h3, fun s hs => ?_⟩
  obtain ⟨t, ht, rfl⟩ := List.mem_map.1 hs
  obtain ⟨q1, q2, q3, q4, q5, q6⟩ := h4 t ht
  exact ⟨q1, q2, q3, q4, q5, hf t ht⟩
theorem mo_dry (a : Air) (s : Stp) (d : Int) : moOf a (dryS s d) = sd d (moOf a s) := rfl
theorem ms_dry (a : Air) (L : List Stp) (x : Int) : msOf a (dryL (fun _ => x) L) = wd x (msOf a L) := by
  unfold msOf dryL wd
  rw [List.map_map, List.map_map]
  rfl
theorem ms_strong {a : Air} {L : List Stp} {more : Int} (h : ∀ s ∈ L, s.dry ≤ 68719476736) (hm : 0 ≤ more) : Stronger (msOf a L) (msOf a (dryL (strF more) L)) := by
  refine ⟨by rw [msOf_len, msOf_len, dryL_len], fun k hk => ?_⟩
  have hk' : k < L.length := by rw [msOf_len] at hk; exact hk
  refine ⟨strF more L[k], ?_, ?_⟩
  · simp only [msOf, List.getElem_map, moOf, strF]
    have := h _ (List.getElem_mem hk')
    omega
  · simp only [msOf, dryL, List.getElem_map]
    exact mo_dry _ _ _
theorem ins_dry {a : Air} {lo hi : Int} {L : List Stp} (h : insB a lo hi L = true) : ∀ s ∈ L, 0 ≤ s.dry ∧ s.dry ≤ 68719476736 := fun s hs => (((insB_iff a lo hi L).1 h).2.2.2 s hs).d
theorem strong_ins {a : Air} {lo hi : Int} {L : List Stp} {more : Int} (h : insB a lo hi L = true) (hm : 0 ≤ more) : insB a lo hi (dryL (strF more) L) = true :=
  dryL_ins h (fun s hs => by have := ins_dry h s hs; unfold strF; omega)
/-- no more dew -/
theorem strong_dew {a : Air} {lo hi : Int} {L : List Stp} {more : Int} (h : insB a lo hi L = true) (hm : 0 ≤ more) :
    (runL a lo (dryL (strF more) L)).dew ≤ (runL a lo L).dew ∧ (runH a hi (dryL (strF more) L)).dew ≤ (runH a hi L).dew := by
  have hs := ms_strong (a := a) (fun s hs => (ins_dry h s hs).2) hm
  have hg := (ins_gl h).g
  unfold runL runH
  rw [dryL_len]
  exact ⟨(stronger_le hs hg lo (·.c0) (fun _ _ => rfl) L.length (by rw [msOf_len]; exact Nat.le_refl _)).2, (stronger_le hs hg hi (·.c1) (fun _ _ => rfl) L.length (by rw [msOf_len]; exact Nat.le_refl _)).2⟩
theorem wet_mono {l l' : List Mo} (h : Stronger l l') (hg : ∀ m ∈ l, GM m) (w lim : Int) (f : Mo → Int) (hf : ∀ d m, f (sd d m) = f m) {k : Nat} (hk : k < l.length) (hw : wetAt w f lim l' k = true) : wetAt w f lim l k = true := by
  obtain ⟨d, hd, he⟩ := h.m k hk
  rw [wetAt_eq (show k < l'.length by rw [h.n]; exact hk), he] at hw
  rw [wetAt_eq hk]
  have h1 := (stronger_le h hg w f hf (k + 1) (by omega)).1
  unfold wetB at hw ⊢
  have h2 := of_decide_eq_true hw
  refine decide_eq_true ?_
  have h3 : (sd d l[k]).ho = l[k].ho := rfl
  rw [h3] at h2
  omega
/-- no more rust -/
theorem strong_rust {a : Air} {lo hi : Int} {L : List Stp} {more : Int} (lim : Int) (h : insB a lo hi L = true) (hm : 0 ≤ more) :
    rustL lo lim (msOf a (dryL (strF more) L)) (dryL (strF more) L).length ≤ rustL lo lim (msOf a L) L.length ∧ rustH hi lim (msOf a (dryL (strF more) L)) (dryL (strF more) L).length ≤ rustH hi lim (msOf a L) L.length := by
  have hs := ms_strong (a := a) (fun s hs => (ins_dry h s hs).2) hm
  have hg := (ins_gl h).g
  rw [dryL_len]
  exact ⟨cntI_le _ fun i hi' hw => wet_mono hs hg lo lim (·.c0) (fun _ _ => rfl) (by rw [msOf_len]; exact hi') hw, cntI_le _ fun i hi' hw => wet_mono hs hg hi lim (·.c1) (fun _ _ => rfl) (by rw [msOf_len]; exact hi') hw⟩
theorem dew_up {w : Int} {f : Mo → Int} {l : List Mo} (hw : 0 ≤ w ∧ w ≤ 274877906944) (hl : ∀ m ∈ l, GM m) (hf : ∀ m, GM m → 0 ≤ f m ∧ f m ≤ 274877906944) : ∀ d k, k + d ≤ l.length → (crs w f l k).dew ≤ (crs w f l (k + d)).dew
  | 0, _, _ => Int.le_refl _
  | d + 1, k, h => by
    have ih := dew_up hw hl hf d k (by omega)
    have hk : k + d < l.length := by omega
    have hg := crs_good hw hl hf (k + d) (by omega)
    have hm := hl _ (List.getElem_mem hk)
    have hx := hf _ hm
    have hp := part_bd (w := (crs w f l (k + d)).w) (th := 1000 - l[k + d].ch) hg.w.1 (by have := hm.ch; omega) (by have := hm.ch; omega)
    have hd := hm.dr
    rw [← Nat.add_assoc, crs_step hk]
    refine Int.le_trans ih ?_
    unfold passP
    simp only
    omega
/-- with a dryer x there is no dew just if it is one that does -/
theorem dry_dew {a : Air} {lo hi : Int} {L : List Stp} {x : Int} (h : insB a lo hi L = true) (hx : 0 ≤ x ∧ x ≤ 68719476736) : ((runH a hi (dryL (fun _ => x) L)).dew = 0 ↔ dryB hi (msOf a L) x = true) ∧ 0 ≤ (runH a hi (dryL (fun _ => x) L)).dew := by
  have hg := wd_good (ins_gl h) hx
  have hgc := crs_good (f := (·.c1)) hg.hi hg.g hi_ok
  unfold runH
  rw [ms_dry, dryL_len]
  have hl : (wd x (msOf a L)).length = L.length := by rw [wd_len, msOf_len]
  refine ⟨?_, (hgc L.length (by omega)).dew.1⟩
  unfold dryB
  rw [decide_eq_true_eq, fogP_neg, msOf_len]
  constructor
  · intro h0 i hi'
    have := dew_up (f := (·.c1)) hg.hi hg.g hi_ok (L.length - (i + 1)) (i + 1) (by omega)
    rw [show i + 1 + (L.length - (i + 1)) = L.length by omega] at this
    omega
  · intro h0
    rcases Nat.eq_zero_or_pos L.length with hz | hz
    · rw [hz]; rfl
    · have h1 := h0 (L.length - 1) (by omega)
      rw [show L.length - 1 + 1 = L.length by omega] at h1
      have h2 := (hgc L.length (by omega)).dew.1
      omega
end Go.Proofs.Ytdmpkeaanaoeaaa
namespace Go.Proofs.Ytdmpkeaanaoeaaa
/-- what two courses have together -/
def addC (c d : Co) : Co := ⟨d.w, c.came + d.came, c.out + d.out, c.dried + d.dried, c.dew + d.dew⟩
theorem pass_add (c d : Co) (m : Mo) (x : Int) : passP (addC c d) m x = addC c (passP d m x) := by
  unfold passP addC
  simp only [Co.mk.injEq, true_and]
  omega
theorem crs_split (w : Int) (f : Mo → Int) (l : List Mo) (k : Nat) : ∀ j, k + j ≤ l.length → crs w f l (k + j) = addC (crs w f l k) (crs (crs w f l k).w f (l.drop k) j)
  | 0, _ => by simp [crs, addC]
  | j + 1, h => by
    have hk : k + j < l.length := by omega
    have hj : j < (l.drop k).length := by rw [List.length_drop]; omega
    rw [← Nat.add_assoc, crs_step hk, crs_step hj, crs_split w f l k j (by omega), List.getElem_drop, pass_add]
theorem crs_take (w : Int) (f : Mo → Int) (l : List Mo) (n : Nat) : ∀ k, k ≤ n → k ≤ l.length → crs w f (l.take n) k = crs w f l k
  | 0, _, _ => rfl
  | k + 1, h, hl => by
    have h1 : k < l.length := by omega
    have h2 : k < (l.take n).length := by rw [List.length_take]; omega
    rw [crs_step h1, crs_step h2, crs_take w f l n k (by omega) (by omega), List.getElem_take]
theorem crs_le {lo hi : Int} {l : List Mo} (hw : lo ≤ hi) (hg : ∀ m ∈ l, GM m) : ∀ k, k ≤ l.length → LE (crs lo (·.c0) l k) (crs hi (·.c1) l k)
  | 0, _ => ⟨hw, Int.le_refl _, Int.le_refl _, Int.le_refl _, Int.le_refl _⟩
  | k + 1, hk => by
    have hk' : k < l.length := by omega
    have hm := hg _ (List.getElem_mem hk')
    rw [crs_step hk', crs_step hk']
    exact pass_mono (crs_le hw hg k (by omega)) hm hm.c.2.1
theorem ms_take (a : Air) (L : List Stp) (k : Nat) : msOf a (L.take k) = (msOf a L).take k := by simp [msOf, List.map_take]
theorem ms_drop (a : Air) (L : List Stp) (k : Nat) : msOf a (L.drop k) = (msOf a L).drop k := by simp [msOf, List.map_drop]
theorem ins_take {a : Air} {lo hi : Int} {L : List Stp} (h : insB a lo hi L = true) (k : Nat) : insB a lo hi (L.take k) = true := by
  obtain ⟨h1, h2, h3, h4⟩ := (insB_iff a lo hi L).1 h
  exact (insB_iff _ _ _ _).2 ⟨h1, h2, by rw [List.length_take]; omega, fun s hs => h4 s (List.mem_of_mem_take hs)⟩
theorem run_take {a : Air} {L : List Stp} {k : Nat} (hk : k ≤ L.length) (w : Int) (f : Mo → Int) : crs w f (msOf a (L.take k)) (L.take k).length = crs w f (msOf a L) k := by
  rw [ms_take, List.length_take, Nat.min_eq_left hk, crs_take w f _ k k (Nat.le_refl _) (by rw [msOf_len]; exact hk)]
theorem run_split {a : Air} {L : List Stp} {k : Nat} (hk : k ≤ L.length) (w : Int) (f : Mo → Int) : crs w f (msOf a L) L.length = addC (crs w f (msOf a L) k) (crs (crs w f (msOf a L) k).w f (msOf a (L.drop k)) (L.drop k).length) := by
  have := crs_split w f (msOf a L) k (L.length - k) (by rw [msOf_len]; omega)
  rw [show k + (L.length - k) = L.length by omega] at this
  rw [this, ms_drop, List.length_drop]
theorem ins_drop {a : Air} {lo hi : Int} {L : List Stp} (h : insB a lo hi L = true) {k : Nat} (hk : k ≤ L.length) : insB a (runL a lo (L.take k)).w (runH a hi (L.take k)).w (L.drop k) = true := by
  obtain ⟨h1, h2, h3, h4⟩ := (insB_iff a lo hi L).1 h
  have hg := ins_gl h
  unfold runL runH
  rw [run_take hk, run_take hk]
  have hle := crs_le h2.2.1 hg.g k (by rw [msOf_len]; exact hk)
  have g0 := crs_good (f := (·.c0)) hg.lo hg.g lo_ok k (by rw [msOf_len]; exact hk)
  have g1 := crs_good (f := (·.c1)) hg.hi hg.g hi_ok k (by rw [msOf_len]; exact hk)
  exact (insB_iff _ _ _ _).2 ⟨h1, ⟨g0.w.1, hle.w, g1.w.2⟩, by rw [List.length_drop]; omega, fun s hs => h4 s (List.mem_of_mem_drop hs)⟩
/-- both parts together are the whole -/
theorem parts_sum {a : Air} (lo hi : Int) {L : List Stp} {k : Nat} (hk : k ≤ L.length) :
    runL a lo L = addC (runL a lo (L.take k)) (runL a (runL a lo (L.take k)).w (L.drop k)) ∧ runH a hi L = addC (runH a hi (L.take k)) (runH a (runH a hi (L.take k)).w (L.drop k)) := by
  unfold runL runH
  rw [run_take hk, run_take hk]
  exact ⟨run_split hk _ _, run_split hk _ _⟩
/-- narrower spans -/
structure Narrow (l l' : List Mo) : Prop where
  n : l'.length = l.length
  m : ∀ k (h : k < l.length) (h' : k < l'.length), l'[k].ch = l[k].ch ∧ l'[k].dr = l[k].dr ∧ l'[k].ho = l[k].ho ∧ l[k].c0 ≤ l'[k].c0 ∧ l'[k].c0 ≤ l'[k].c1 ∧ l'[k].c1 ≤ l[k].c1
theorem pass_congr {c : Co} {m m' : Mo} {x : Int} (h1 : m'.ch = m.ch) (h2 : m'.dr = m.dr) (h3 : m'.ho = m.ho) : passP c m' x = passP c m x := by
  unfold passP; rw [h1, h2, h3]
theorem narrow_lo {lo lo' : Int} {l l' : List Mo} (hw : lo ≤ lo') (hg : ∀ m ∈ l, GM m) (h : Narrow l l') : ∀ k, k ≤ l.length → LE (crs lo (·.c0) l k) (crs lo' (·.c0) l' k)
  | 0, _ => ⟨hw, Int.le_refl _, Int.le_refl _, Int.le_refl _, Int.le_refl _⟩
  | k + 1, hk => by
    have hk' : k < l.length := by omega
    have hk2 : k < l'.length := by rw [h.n]; exact hk'
    obtain ⟨e1, e2, e3, e4, e5, e6⟩ := h.m k hk' hk2
    rw [crs_step hk', crs_step hk2, pass_congr e1 e2 e3]
    exact pass_mono (narrow_lo hw hg h k (by omega)) (hg _ (List.getElem_mem hk')) e4
theorem narrow_hi {hi hi' : Int} {l l' : List Mo} (hw : hi' ≤ hi) (hg : ∀ m ∈ l, GM m) (h : Narrow l l') : ∀ k, k ≤ l.length → LE (crs hi' (·.c1) l' k) (crs hi (·.c1) l k)
  | 0, _ => ⟨hw, Int.le_refl _, Int.le_refl _, Int.le_refl _, Int.le_refl _⟩
  | k + 1, hk => by
    have hk' : k < l.length := by omega
    have hk2 : k < l'.length := by rw [h.n]; exact hk'
    obtain ⟨e1, e2, e3, e4, e5, e6⟩ := h.m k hk' hk2
    rw [crs_step hk', crs_step hk2, pass_congr e1 e2 e3]
    exact pass_mono (narrow_hi hw hg h k (by omega)) (hg _ (List.getElem_mem hk')) e6
/-- the air, and a step, with narrower spans -/
structure NarA (a b : Air) : Prop where
  R : b.R = a.R
  T : b.T = a.T
  H : b.H = a.H
  b0 : a.b0 ≤ b.b0
  bb : b.b0 ≤ b.b1
  b1 : b.b1 ≤ a.b1
structure NarS (s t : Stp) : Prop where
  c : t.cold = s.cold
  p : t.ppl = s.ppl
  g : t.chg = s.chg
  d : t.dry = s.dry
  o0 : s.o0 ≤ t.o0
  oo : t.o0 ≤ t.o1
  o1 : t.o1 ≤ s.o1
  s0 : s.s0 ≤ t.s0
  ss : t.s0 ≤ t.s1
  s1 : t.s1 ≤ s.s1
theorem nar_va {a b : Air} (h : NarA a b) (hv : VA a) : VA b := by
  obtain ⟨h1, h2, h3, h4, h5, h6⟩ := h
  obtain ⟨v1, v2, v3, v4, v5, v6, v7⟩ := hv
  refine ⟨by rw [h1]; exact v1, by omega, by rw [h2]; exact v3, by rw [h2, h3]; exact v4, ?_, ?_, ?_⟩
  · rw [h2]; exact v5
  · rw [h2, h3]; exact v6
  · rw [h2, h3]; exact v7
theorem nar_hold {a b : Air} (h : NarA a b) (t : Int) : holdsP b t = holdsP a t := by
  unfold holdsP; rw [h.R, h.T, h.H]
theorem nar_vs {a b : Air} {s t : Stp} (h : NarA a b) (hs : NarS s t) (hv : VS a s) : VS b t := by
  obtain ⟨v1, v2, v3, v4, v5, v6⟩ := hv
  obtain ⟨q1, q2, q3, q4, q5, q6, q7, q8, q9, q10⟩ := hs
  refine ⟨?_, by rw [q2]; exact v2, by rw [q3]; exact v3, by omega, by omega, by rw [q4]; exact v6⟩
  unfold onB at v1 ⊢
  rw [h.T, q1]; exact v1
theorem nar_mo {a b : Air} {s t : Stp} (h : NarA a b) (hs : NarS s t) (hv : VA a) (hvs : VS a s) : (moOf b t).ch = (moOf a s).ch ∧ (moOf b t).dr = (moOf a s).dr ∧ (moOf b t).ho = (moOf a s).ho ∧ (moOf a s).c0 ≤ (moOf b t).c0 ∧ (moOf b t).c0 ≤ (moOf b t).c1 ∧ (moOf b t).c1 ≤ (moOf a s).c1 := by
  have hb := comes_bd (nar_va h hv) (nar_vs h hs hvs)
  refine ⟨hs.g, hs.d, ?_, ?_, hb.2.1, ?_⟩
  · show holdsP b t.cold = holdsP a s.cold
    rw [hs.c, nar_hold h]
  · show comesLo a s ≤ comesLo b t
    have m1 : a.R * s.o0 ≤ a.R * t.o0 := Int.mul_le_mul_of_nonneg_left hs.o0 (by have := hv.R; omega)
    have b1 : s.ppl * a.b0 ≤ s.ppl * b.b0 := Int.mul_le_mul_of_nonneg_left h.b0 hvs.p.1
    have q := part_mono m1 hvs.g.1 hvs.g.2
    have e := hs.s0
    unfold comesLo
    rw [h.R, hs.g, hs.p]
    omega
  · show comesHi b t ≤ comesHi a s
    have m1 : a.R * t.o1 ≤ a.R * s.o1 := Int.mul_le_mul_of_nonneg_left hs.o1 (by have := hv.R; omega)
    have b1 : s.ppl * b.b1 ≤ s.ppl * a.b1 := Int.mul_le_mul_of_nonneg_left h.b1 hvs.p.1
    have q := part_mono m1 hvs.g.1 hvs.g.2
    have e := hs.s1
    unfold comesHi
    rw [h.R, hs.g, hs.p]
    omega
structure NarL (L M : List Stp) : Prop where
  n : M.length = L.length
  m : ∀ k (h : k < L.length) (h' : k < M.length), NarS L[k] M[k]
theorem nar_ins {a b : Air} {lo hi lo' hi' : Int} {L M : List Stp} (h : insB a lo hi L = true) (ha : NarA a b) (hL : NarL L M) (h0 : lo ≤ lo') (h1 : lo' ≤ hi') (h2 : hi' ≤ hi) : insB b lo' hi' M = true := by
  obtain ⟨q1, q2, q3, q4⟩ := (insB_iff a lo hi L).1 h
  refine (insB_iff _ _ _ _).2 ⟨nar_va ha q1, by omega, by rw [hL.n]; exact q3, fun t ht => ?_⟩
  obtain ⟨k, hk, rfl⟩ := List.getElem_of_mem ht
  have hk' : k < L.length := by rw [← hL.n]; exact hk
  exact nar_vs ha (hL.m k hk' hk) (q4 _ (List.getElem_mem hk'))
/-- narrower spans leave narrower ones -/
theorem nar_run {a b : Air} {lo hi lo' hi' : Int} {L M : List Stp} (h : insB a lo hi L = true) (ha : NarA a b) (hL : NarL L M) (h0 : lo ≤ lo') (h1 : lo' ≤ hi') (h2 : hi' ≤ hi) :
    LE (runL a lo L) (runL b lo' M) ∧ LE (runL b lo' M) (runH b hi' M) ∧ LE (runH b hi' M) (runH a hi L) := by
  obtain ⟨q1, q2, q3, q4⟩ := (insB_iff a lo hi L).1 h
  have hg := (ins_gl h).g
  have hgn := (ins_gl (nar_ins h ha hL h0 h1 h2)).g
  have hn : Narrow (msOf a L) (msOf b M) := ⟨by rw [msOf_len, msOf_len, hL.n], fun k hk hk' => by
    have i1 : k < L.length := by rw [msOf_len] at hk; exact hk
    have i2 : k < M.length := by rw [msOf_len] at hk'; exact hk'
    simp only [msOf, List.getElem_map]
    exact nar_mo ha (hL.m k i1 i2) q1 (q4 _ (List.getElem_mem i1))⟩
  unfold runL runH
  rw [hL.n]
  exact ⟨narrow_lo h0 hg hn L.length (by rw [msOf_len]; exact Nat.le_refl _), crs_le h1 hgn L.length (by rw [msOf_len, hL.n]; exact Nat.le_refl _), narrow_hi h2 hg hn L.length (by rw [msOf_len]; exact Nat.le_refl _)⟩
end Go.Proofs.Ytdmpkeaanaoeaaa
namespace Go.Proofs.Ytdmpkeaanaoeaaa
open Go.RowKit
theorem Try.info50 : (Try.prog.info? 50).map (fun i => (i.zero, i.size, i.bytes)) = some (some (.agg #[.int .i64 0, .int .i64 0, .int .i64 0, .int .i64 0, .int .i64 0, .int .i64 0, .int .i64 0, .int .i64 0]), 8, 64) := by kernel_rfl
theorem fs_get {α : Type} (f : α → List Value) (n : Nat) (hf : ∀ a, (f a).length = n) (l : List α) (i : Nat) (h : i < l.length) (j : Nat) (hj : j < n) : (l.flatMap f)[i * n + j]? = (f l[i])[j]? := by
  induction l generalizing i with
  | nil => exact absurd h (by simp)
  | cons a l ih =>
    cases i with
    | zero =>
      simp only [List.flatMap_cons, Nat.zero_mul, Nat.zero_add, List.getElem_cons_zero]
      rw [List.getElem?_append_left (by rw [hf]; exact hj)]
    | succ i =>
      simp only [List.flatMap_cons, List.getElem_cons_succ]
      rw [List.getElem?_append_right (by rw [hf, Nat.succ_mul]; omega), ← ih i (by simpa using h)]
      congr 1
      rw [hf, Nat.succ_mul]; omega
def sfl (l : List Stp) : List Value := l.flatMap fun s => (stpc s).toList
theorem sfl_app (l m : List Stp) : sfl (l ++ m) = sfl l ++ sfl m := by unfold sfl; rw [List.flatMap_append]
theorem sfl_one (l : List Stp) : ∀ u ∈ sfl l, u.oneCell' = true := by
  intro u hu
  obtain ⟨s, -, hs⟩ := List.mem_flatMap.1 hu
  simp only [List.mem_cons, List.not_mem_nil, or_false] at hs
  rcases hs with rfl | rfl | rfl | rfl | rfl | rfl | rfl | rfl <;> rfl
theorem row_step {w w' : World} {base size n : Nat} {e : TypeId} {v : Value} {xs : List Value} (h : w.ownsRow base e size v n xs) (hb : Below w.heap.size w w') : w'.ownsRow base e size v n xs := by
  obtain ⟨hl, h0 | ⟨g, cap, cur, rfl, hB, hgc, h1, h2, h3, h4⟩⟩ := h
  · exact ⟨hl, .inl h0⟩
  · have hh : Has w g e cur := hgc
    exact ⟨hl, .inr ⟨g, cap, cur, rfl, hB, hh.below hb hh.lt, h1, h2, h3, h4⟩⟩
theorem row_nil (w : World) (base size : Nat) (e : TypeId) : w.ownsRow base e size (.slice none 0 0) 0 [] := ⟨by simp, .inl ⟨rfl, rfl⟩⟩
theorem row_grown {w w' : World} {o : Option Nat} {B : Nat} (hg : w.grownBy w' o) (hB : B ≤ w.heap.size) (ho : ∀ b, o = some b → B ≤ b) : Below B w w' :=
  ⟨hg.os, hg.tape, hg.output, hg.size, fun k hk => hg.block k (by omega) (fun e => by have := ho k e.symm; omega)⟩
theorem row_block {w : World} {base size n : Nat} {e : TypeId} {v : Value} {xs : List Value} (h : w.ownsRow base e size v n xs) : ∀ b, v.ownBlock = some b → base ≤ b ∧ b < w.heap.size := by
  intro b hb
  obtain ⟨hl, ⟨rfl, -⟩ | ⟨g, cap, cur, rfl, hB, hgc, h1, h2, h3, h4⟩⟩ := h
  · cases hb
  · have hh : Has w g e cur := hgc
    cases hb
    exact ⟨hB, hh.lt⟩
theorem row_slice {w : World} {base size n : Nat} {e : TypeId} {v : Value} {xs : List Value} (h : w.ownsRow base e size v n xs) : ∃ A cap, v = .slice A n cap := by
  obtain ⟨hl, ⟨rfl, rfl⟩ | ⟨g, cap, cur, rfl, -⟩⟩ := h
  · exact ⟨_, _, rfl⟩
  · exact ⟨_, _, rfl⟩
theorem row_ne {w w' : World} {base size n : Nat} {e : TypeId} {v : Value} {xs : List Value} {o : Option Nat} (h : w.ownsRow base e size v n xs) (hg : w.grownBy w' o) (ho : ∀ b, o = some b → v.ownBlock ≠ some b) : w'.ownsRow base e size v n xs := by
  obtain ⟨h0, (h1 | ⟨g, cap, cur, rfl, hb, hgc, h2⟩)⟩ := h
  · exact ⟨h0, .inl h1⟩
  · have hg1 : Has w g e cur := hgc
    have hg2 : Has w' g e cur := by
      have := hg.block g hg1.lt (fun e => ho g e.symm rfl)
      unfold Has at hg1 ⊢
      rw [this]; exact hg1
    exact ⟨h0, .inr ⟨g, cap, cur, rfl, hb, hg2, h2⟩⟩
theorem row_set {w : World} {base size n : Nat} {e : TypeId} {v : Value} {xs : List Value} (h : w.ownsRow base e size v n xs) {p : Addr} (hp : v.ownBlock ≠ some p.block) (u : Value) : (w.setCell p u).ownsRow base e size v n xs := by
  obtain ⟨h0, (h1 | ⟨g, cap, cur, rfl, hb, hgc, h2⟩)⟩ := h
  · exact ⟨h0, .inl h1⟩
  · have hg1 : Has w g e cur := hgc
    have hg2 : Has (w.setCell p u) g e cur := hg1.far (fun e => hp (by rw [← e]; rfl)) u
    exact ⟨h0, .inr ⟨g, cap, cur, rfl, hb, hg2, h2⟩⟩
theorem row_steps {w : World} {base : Nat} {v : Value} {l : List Stp} (h : w.ownsRow base 50 8 v l.length (sfl l)) : ∃ A cap, v = .slice A l.length cap ∧ SRow w w.heap.size A l := by
  obtain ⟨_, (⟨rfl, h0⟩ | ⟨g, cap, cur, rfl, hb, hg, h1, h2, h3, h4⟩)⟩ := h
  · exact ⟨none, 0, by rw [h0], fun k hk => by omega⟩
  · refine ⟨some ⟨g, 0, none⟩, cap, rfl, fun k hk => ⟨g, 0, rfl, ?_, fun j hj => ?_⟩⟩
    · have hg1 : Has w g 50 cur := hg
      exact hg1.lt
    · have hg1 : Has w g 50 cur := hg
      rw [Nat.zero_add, hg1.cell]
      have hlt : k * 8 + j < l.length * 8 := by omega
      have := congrArg (fun l : List Value => l[k * 8 + j]?) h4
      simp only [List.getElem?_take_of_lt hlt] at this
      unfold sfl at this
      rw [fs_get (fun s => (stpc s).toList) 8 (fun _ => rfl) l k hk j hj] at this
      simpa using this
/-- a row of steps, apart from the blocks of B -/
structure RowS (w : World) (base : Nat) (B : List (Option Nat)) (v : Value) (l : List Stp) : Prop where
  o : w.ownsRow base 50 8 v l.length (sfl l)
  ne : ∀ b, v.ownBlock = some b → some b ∉ B
/-- three rows side by side, and the step that is being written -/
structure T3 (w1 w : World) (D : Nat) (s : Stp) (v1 v2 v3 : Value) (l1 l2 l3 : List Stp) : Prop where
  b : Below w1.heap.size w1 w
  d : Has w D 50 (stpc s)
  hD : w1.heap.size ≤ D
  o1 : w.ownsRow w1.heap.size 50 8 v1 l1.length (sfl l1)
  o2 : w.ownsRow w1.heap.size 50 8 v2 l2.length (sfl l2)
  o3 : w.ownsRow w1.heap.size 50 8 v3 l3.length (sfl l3)
  d1 : v1.ownBlock ≠ some D
  d2 : v2.ownBlock ≠ some D
  d3 : v3.ownBlock ≠ some D
  n12 : ∀ b, v1.ownBlock = some b → v2.ownBlock ≠ some b
  n13 : ∀ b, v1.ownBlock = some b → v3.ownBlock ≠ some b
  n23 : ∀ b, v2.ownBlock = some b → v3.ownBlock ≠ some b
/-- .. without the step -/
structure T0 (w1 w : World) (v1 v2 v3 : Value) (l1 l2 l3 : List Stp) : Prop where
  b : Below w1.heap.size w1 w
  o1 : w.ownsRow w1.heap.size 50 8 v1 l1.length (sfl l1)
  o2 : w.ownsRow w1.heap.size 50 8 v2 l2.length (sfl l2)
  o3 : w.ownsRow w1.heap.size 50 8 v3 l3.length (sfl l3)
  n12 : ∀ b, v1.ownBlock = some b → v2.ownBlock ≠ some b
  n13 : ∀ b, v1.ownBlock = some b → v3.ownBlock ≠ some b
  n23 : ∀ b, v2.ownBlock = some b → v3.ownBlock ≠ some b
section
variable {w1 w w' : World} {D g cap H : Nat} {s x : Stp} {v1 v2 v3 : Value} {l1 l2 l3 : List Stp}
theorem T0.start (w1 : World) : T0 w1 w1 (.slice none 0 0) (.slice none 0 0) (.slice none 0 0) [] [] [] := ⟨Below.refl _ _, row_nil _ _ _ _, row_nil _ _ _ _, row_nil _ _ _ _, fun b hb => (by cases hb), fun b hb => (by cases hb), fun b hb => (by cases hb)⟩
theorem T0.step (h : T0 w1 w v1 v2 v3 l1 l2 l3) (hb : Below w.heap.size w w') : T0 w1 w' v1 v2 v3 l1 l2 l3 := ⟨h.b.trans (hb.mono h.b.size), row_step h.o1 hb, row_step h.o2 hb, row_step h.o3 hb, h.n12, h.n13, h.n23⟩
theorem T0.box (h : T0 w1 w v1 v2 v3 l1 l2 l3) (s : Stp) : T3 w1 (w.alloc (.cells (stpc s) 50)) w.heap.size s v1 v2 v3 l1 l2 l3 := by
  have h1 := h.step (below_one w (.cells (stpc s) 50))
  refine ⟨h1.b, Has.new _ _ _, h.b.size, h1.o1, h1.o2, h1.o3, fun e => ?_, fun e => ?_, fun e => ?_, h.n12, h.n13, h.n23⟩
  · have := (row_block h.o1 _ e).2; omega
  · have := (row_block h.o2 _ e).2; omega
  · have := (row_block h.o3 _ e).2; omega
theorem T3.t0 (h : T3 w1 w D s v1 v2 v3 l1 l2 l3) : T0 w1 w v1 v2 v3 l1 l2 l3 := ⟨h.b, h.o1, h.o2, h.o3, h.n12, h.n13, h.n23⟩
theorem T3.step (h : T3 w1 w D s v1 v2 v3 l1 l2 l3) (hb : Below w.heap.size w w') : T3 w1 w' D s v1 v2 v3 l1 l2 l3 :=
  ⟨h.b.trans (hb.mono h.b.size), h.d.below hb h.d.lt, h.hD, row_step h.o1 hb, row_step h.o2 hb, row_step h.o3 hb, h.d1, h.d2, h.d3, h.n12, h.n13, h.n23⟩
/-- the step is written to -/
theorem T3.set (h : T3 w1 w D s v1 v2 v3 l1 l2 l3) (i : Nat) (u : Value) (t : Stp) (he : (stpc s).setIfInBounds i u = stpc t) : T3 w1 (w.setCell ⟨D, i, none⟩ u) D t v1 v2 v3 l1 l2 l3 := by
  have hd := h.d.set i u
  rw [he] at hd
  exact ⟨h.b.setCell h.hD _, hd, h.hD, row_set h.o1 h.d1 _, row_set h.o2 h.d2 _, row_set h.o3 h.d3 _, h.d1, h.d2, h.d3, h.n12, h.n13, h.n23⟩
theorem new_ne {u : Value} {base n size : Nat} {e : TypeId} {xs : List Value} {k : Option Nat} (hu : w.ownsRow base e size u n xs) (hH : w.heap.size = H) (hg : k = some g ∨ g = H) (hk : ∀ b, k = some b → u.ownBlock ≠ some b) : u.ownBlock ≠ some g := by
  rcases hg with hg | hg
  · exact hk g hg
  · intro e
    have := (row_block hu _ e).2
    omega
theorem T3.app_b (h : T3 w1 w D s v1 v2 v3 l1 l2 l3) {k : Option Nat} (hgr : w.grownBy w' k) (hk : ∀ b, k = some b → w1.heap.size ≤ b) (hd : k ≠ some D) : Below w1.heap.size w1 w' ∧ Has w' D 50 (stpc s) := by
  refine ⟨h.b.trans (row_grown hgr h.b.size hk), ?_⟩
  have h1 := h.d
  have := hgr.block D h1.lt (fun e => hd e.symm)
  unfold Has at h1 ⊢
  rw [this]; exact h1
theorem T3.app1 (h : T3 w1 w D s v1 v2 v3 l1 l2 l3) (hH : w.heap.size = H) (hown : w'.ownsRow w1.heap.size 50 8 (.slice (some ⟨g, 0, none⟩) (l1.length + 1) cap) (l1.length + 1) (sfl l1 ++ sfl [x])) (hgr : w.grownBy w' v1.ownBlock) (hg : v1.ownBlock = some g ∨ g = H) :
    T3 w1 w' D s (.slice (some ⟨g, 0, none⟩) (l1.length + 1) cap) v2 v3 (l1 ++ [x]) l2 l3 := by
  obtain ⟨hb, hd⟩ := h.app_b hgr (fun b hb => (row_block h.o1 b hb).1) h.d1
  have q2 := new_ne h.o2 hH hg (fun b hb => h.n12 b hb)
  have q3 := new_ne h.o3 hH hg (fun b hb => h.n13 b hb)
  refine ⟨hb, hd, h.hD, by rw [sfl_app, List.length_append]; exact hown, row_ne h.o2 hgr (fun b hb => h.n12 b hb), row_ne h.o3 hgr (fun b hb => h.n13 b hb), ?_, h.d2, h.d3, fun b hb => ?_, fun b hb => ?_, h.n23⟩
  · intro e
    have e2 : g = D := Option.some.inj e
    rcases hg with hg | hg
    · exact h.d1 (by rw [hg, e2])
    · have := h.d.lt; omega
  · cases hb; exact q2
  · cases hb; exact q3
theorem T3.app2 (h : T3 w1 w D s v1 v2 v3 l1 l2 l3) (hH : w.heap.size = H) (hown : w'.ownsRow w1.heap.size 50 8 (.slice (some ⟨g, 0, none⟩) (l2.length + 1) cap) (l2.length + 1) (sfl l2 ++ sfl [x])) (hgr : w.grownBy w' v2.ownBlock) (hg : v2.ownBlock = some g ∨ g = H) :
    T3 w1 w' D s v1 (.slice (some ⟨g, 0, none⟩) (l2.length + 1) cap) v3 l1 (l2 ++ [x]) l3 := by
  obtain ⟨hb, hd⟩ := h.app_b hgr (fun b hb => (row_block h.o2 b hb).1) h.d2
  have q1 := new_ne h.o1 hH hg (fun b hb e => h.n12 b e hb)
  have q3 := new_ne h.o3 hH hg (fun b hb => h.n23 b hb)
  refine ⟨hb, hd, h.hD, row_ne h.o1 hgr (fun b hb e => h.n12 b e hb), by rw [sfl_app, List.length_append]; exact hown, row_ne h.o3 hgr (fun b hb => h.n23 b hb), h.d1, ?_, h.d3, fun b hb e => ?_, h.n13, fun b hb => ?_⟩
  · intro e
    have e2 : g = D := Option.some.inj e
    rcases hg with hg | hg
    · exact h.d2 (by rw [hg, e2])
    · have := h.d.lt; omega
  · cases e; exact q1 hb
  · cases hb; exact q3
theorem T3.app3 (h : T3 w1 w D s v1 v2 v3 l1 l2 l3) (hH : w.heap.size = H) (hown : w'.ownsRow w1.heap.size 50 8 (.slice (some ⟨g, 0, none⟩) (l3.length + 1) cap) (l3.length + 1) (sfl l3 ++ sfl [x])) (hgr : w.grownBy w' v3.ownBlock) (hg : v3.ownBlock = some g ∨ g = H) :
    T3 w1 w' D s v1 v2 (.slice (some ⟨g, 0, none⟩) (l3.length + 1) cap) l1 l2 (l3 ++ [x]) := by
  obtain ⟨hb, hd⟩ := h.app_b hgr (fun b hb => (row_block h.o3 b hb).1) h.d3
  have q1 := new_ne h.o1 hH hg (fun b hb e => h.n13 b e hb)
  have q2 := new_ne h.o2 hH hg (fun b hb e => h.n23 b e hb)
  refine ⟨hb, hd, h.hD, row_ne h.o1 hgr (fun b hb e => h.n13 b e hb), row_ne h.o2 hgr (fun b hb e => h.n23 b e hb), by rw [sfl_app, List.length_append]; exact hown, h.d1, h.d2, ?_, h.n12, fun b hb e => ?_, fun b hb e => ?_⟩
  · intro e
    have e2 : g = D := Option.some.inj e
    rcases hg with hg | hg
    · exact h.d3 (by rw [hg, e2])
    · have := h.d.lt; omega
  · cases e; exact q1 hb
  · cases e; exact q2 hb
end
theorem addr_plus (g o j : Nat) : (⟨g, o, none⟩ : Addr).add j = ⟨g, o + j, none⟩ := by unfold Addr.add; split <;> simp_all
theorem step_new {w : World} {b : Nat} {s : Stp} (h : Has w b 50 (stpc s)) : ∀ i u, (sfl [s])[i]? = some u → w.cell? ((⟨b, 0, none⟩ : Addr).add i) = some u := fun i u hu => by
  rw [show (⟨b, 0, none⟩ : Addr).add i = ⟨b, 0 + i, none⟩ from addr_plus b 0 i, h.cell, Nat.zero_add, ← hu]
  simp [sfl]
end Go.Proofs.Ytdmpkeaanaoeaaa
namespace Go.Proofs.Ytdmpkeaanaoeaaa
open Go.RowKit
theorem runE_yes {a : Air} {lo hi : Int} {L : List Stp} (h : insB a lo hi L = true) : runE a lo hi L = .tuple #[.agg #[.int .i64 (runL a lo L).w, .int .i64 (runH a hi L).w], .agg (moi (runL a lo L) (runH a hi L)), .int .i64 0] := by unfold runE; rw [if_pos h]
theorem runE_no {a : Air} {lo hi : Int} {L : List Stp} (h : insB a lo hi L = false) : runE a lo hi L = .tuple #[.agg #[.int .i64 0, .int .i64 0], .agg (moi ⟨0, 0, 0, 0, 0⟩ ⟨0, 0, 0, 0, 0⟩), .int .i64 1] := by unfold runE; rw [if_neg (by simp [h])]
/-- all that the law asks, of a dryer n that is told with an errno f: j is the dryer of 'just' -/
structure DrF (a : Air) (hi : Int) (L : List Stp) (n f j : Int) : Prop where
  n0 : 0 ≤ n ∧ n ≤ 68719476736
  j0 : 0 ≤ j ∧ j ≤ 68719476736
  p0 : 0 ≤ (runH a hi (dryL (fun _ => j) L)).dew
  p : f = 0 → (runH a hi (dryL (fun _ => j) L)).dew = 0
  p4 : f ≠ 0 → (runH a hi (dryL (fun _ => j) L)).dew ≠ 0
  q : f = 0 → n ≠ 0 → 0 < (runH a hi (dryL (fun _ => max 0 (n - 1)) L)).dew
theorem drf_none {a : Air} {lo hi : Int} {L : List Stp} (h : insB a lo hi L = true) (hr : Least hi (msOf a L) 68719476737) : DrF a hi L 0 4 68719476736 := by
  have h1 := dry_dew (x := 68719476736) h (by omega)
  have h2 : dryB hi (msOf a L) 68719476736 = false := hr.no (by omega)
  refine ⟨by omega, by omega, h1.2, fun e => by omega, fun _ e => ?_, fun e => by omega⟩
  rw [h1.1.1 e] at h2
  cases h2
theorem drf_some {a : Air} {lo hi : Int} {L : List Stp} {r : Nat} (h : insB a lo hi L = true) (hr : Least hi (msOf a L) r) (hne : r ≠ 68719476737) : DrF a hi L r 0 r := by
  have hle := hr.le
  have h1 := dry_dew (x := (r : Int)) h (by omega)
  have h2 := hr.yes (by omega)
  refine ⟨by omega, by omega, h1.2, fun _ => h1.1.2 h2, fun e => absurd rfl e, fun _ hn => ?_⟩
  have h3 := hr.no (by omega)
  have e : max 0 ((r : Int) - 1) = (r : Int) - 1 := by omega
  rw [e]
  have h4 := dry_dew (x := (r : Int) - 1) h (by omega)
  have h5 : (runH a hi (dryL (fun _ => (r : Int) - 1) L)).dew ≠ 0 := fun e => by rw [h4.1.1 e] at h3; cases h3
  omega
theorem rust_same {a : Air} {lo hi lim : Int} {L : List Stp} {more : Int} (h : insB a lo hi L = true) (hm : 0 ≤ more) : ∃ x y x' y' e, rustR a lo hi lim L = (x, y, e) ∧ rustR a lo hi lim (dryL (strF more) L) = (x', y', e) ∧ x' ≤ x ∧ y' ≤ y ∧ (e = 0 ∨ e = 2) := by
  have hr := strong_rust (lo := lo) (hi := hi) lim h hm
  unfold rustR
  rw [if_pos h, if_pos (strong_ins h hm)]
  by_cases hl : inB lim 0 1000 = true
  · rw [if_pos hl, if_pos hl]
    exact ⟨_, _, _, _, _, rfl, rfl, hr.1, hr.2, .inl rfl⟩
  · rw [if_neg hl, if_neg hl]
    exact ⟨_, _, _, _, _, rfl, rfl, Int.le_refl _, Int.le_refl _, .inr rfl⟩
end Go.Proofs.Ytdmpkeaanaoeaaa
namespace Go.Proofs.Ytdmpkeaanaoeaaa
open Go.RowKit
attribute [local irreducible] wpQuiet
structure Cls (S : World → Prop) where
  w : World
  h : S w
theorem wp_region_cls {P : Program} {id : Nat} {Q : Exit → Act → World → Prop} {a : Act} {w : World} {l : List Oper} (S : World → Prop) (hm : P.follows .mixedOrders = true) (hB : Region.lexB .any l.toArray = true) (h0 : S w.drew)
    (h : wpQuiet P l.toArray (fun w' => ∃ p : Cls S, w' = p.w) (fun a' => ∀ w', (∃ p : Cls S, w' = p.w) → Q .normal a' w') l a) : (Code.region id l.toArray true).wp P Q a w :=
  wp_region_quiet (C := fun w' => ∃ p : Cls S, w' = p.w) hm hB ⟨⟨_, h0⟩, rfl⟩ (by simpa using h)
theorem cls_call {P : Program} {f : FuncId} {args : Array Value} {S : World → Prop} {v : Value} (h : ∀ w, S w → Calls P f args w fun e w' => e = .returned v ∧ S w') (p : Cls S) :
    Calls P f args p.w fun e w'' => e = .returned v ∧ ∃ p' : Cls S, w'' = p'.w :=
  (h p.w p.h).mono fun _ w' ⟨he, hs⟩ => ⟨he, ⟨w', hs⟩, rfl⟩
/-- the ends of a span that is made narrower -/
def narA (x0 x1 : Int) (U : List Int) (z : Nat) : Int := pickN x0 x1 (atU U z)
def narLo (x0 x1 : Int) (U : List Int) (z : Nat) : Int := min (narA x0 x1 U z) (narA x0 x1 U (z + 1))
def narHi (x0 x1 : Int) (U : List Int) (z : Nat) : Int := max (narA x0 x1 U z) (narA x0 x1 U (z + 1))
theorem nar_in {x0 x1 : Int} (h : x0 ≤ x1) (U : List Int) (z : Nat) : x0 ≤ narLo x0 x1 U z ∧ narLo x0 x1 U z ≤ narHi x0 x1 U z ∧ narHi x0 x1 U z ≤ x1 := by
  have h1 := pickN_in (n := atU U z) h
  have h2 := pickN_in (n := atU U (z + 1)) h
  unfold narLo narHi narA
  omega
/-- what narrow has boxed -/
structure NB (W w : World) (x0 x1 : Int) : Prop where
  b : Below W.heap.size W w
  f : Has w W.heap.size 24 #[.int .i64 x0, .int .i64 x1]
  r : Has w (W.heap.size + 1) 24 #[.int .i64 0, .int .i64 0]
theorem NB.step {W w w' : World} {x0 x1 : Int} (h : NB W w x0 x1) (hb : Below w.heap.size w w') : NB W w' x0 x1 := ⟨h.b.trans (hb.mono h.b.size), h.f.below hb h.f.lt, h.r.below hb h.r.lt⟩
set_option maxRecDepth 100000 in
set_option maxHeartbeats 2000000 in
theorem narrow_any (x0 x1 : Int) (U : List Int) (gu ou cu z : Nat) (W : World) (hx : 0 ≤ x0 ∧ x0 ≤ x1 ∧ x1 ≤ 1099511627776) (hu : URow W W.heap.size (some ⟨gu, ou, none⟩) U) (h0 : 0 < U.length) (hl : U.length ≤ 9223372036854775807) (hb : ∀ n ∈ U, 0 ≤ n ∧ n ≤ 4294967295) (hz : z ≤ 1000000) :
    Calls Try.prog 26 #[.agg #[.int .i64 x0, .int .i64 x1], .slice (some ⟨gu, ou, none⟩) U.length cu, .int .i64 z] W (SpanPost (narLo x0 x1 U z) (narHi x0 x1 U z) W) := by
  have hmix : Try.prog.follows .mixedOrders = true := by kernel_rfl
  have HB : Hid (NB W ((W.alloc (.cells #[.int .i64 x0, .int .i64 x1] 24)).alloc (.cells #[.int .i64 0, .int .i64 0] 24)) x0 x1) := Lib.hid ⟨below_two _ _ _, (Has.new _ _ _).alloc _, has_newAt (by simp)⟩
  obtain ⟨i1, ht1, hi1, hc1⟩ := urow_at hu h0 z
  obtain ⟨i2, ht2, hi2, hc2⟩ := urow_at hu h0 (z + 1)
  have hn1 := atU_bd hb h0 z
  have hn2 := atU_bd hb h0 (z + 1)
  obtain ⟨n1, hn1e⟩ : ∃ x, x = atU U z := ⟨_, rfl⟩
  obtain ⟨n2, hn2e⟩ : ∃ x, x = atU U (z + 1) := ⟨_, rfl⟩
  rw [← hn1e] at hc1 hn1
  rw [← hn2e] at hc2 hn2
  obtain ⟨p1, hp1⟩ : ∃ x, x = narA x0 x1 U z := ⟨_, rfl⟩
  obtain ⟨p2, hp2⟩ : ∃ x, x = narA x0 x1 U (z + 1) := ⟨_, rfl⟩
  have HP1 := Lib.hid (fun w' (h : NB W w' x0 x1) => (pick_any x0 x1 n1 w' hx hn1).mono (fun e w'' h' => (show e = .returned (.int .i64 p1) ∧ NB W w'' x0 x1 from ⟨by rw [h'.1, hp1, hn1e]; rfl, h.step h'.2⟩)))
  have HP2 := Lib.hid (fun w' (h : NB W w' x0 x1) => (pick_any x0 x1 n2 w' hx hn2).mono (fun e w'' h' => (show e = .returned (.int .i64 p2) ∧ NB W w'' x0 x1 from ⟨by rw [h'.1, hp2, hn2e]; rfl, h.step h'.2⟩)))
  have HR := Lib.hid (show narLo x0 x1 U z = min p1 p2 ∧ narHi x0 x1 U z = max p1 p2 by rw [hp1, hp2]; exact ⟨rfl, rfl⟩)
  have HC1 := Lib.hid hc1
  have HC2 := Lib.hid hc2
  obtain ⟨lo, hlo⟩ : ∃ x, x = narLo x0 x1 U z := ⟨_, rfl⟩
  obtain ⟨hi, hhi⟩ : ∃ x, x = narHi x0 x1 U z := ⟨_, rfl⟩
  rw [← hlo, ← hhi] at HR ⊢
  clear hc1 hc2 hn1e hn2e hp1 hp2 hu hb hlo hhi hn1 hn2
  go_enter Try.func26, Try.ntmps26
  go_upto_region 1 with fail
  generalize (W.alloc (.cells #[.int .i64 x0, .int .i64 x1] 24)).alloc (.cells #[.int .i64 0, .int .i64 0] 24) = w0 at HB ⊢
  have e1 : ((z : Int)).tmod (U.length : Int) = (i1 : Int) := ht1
  have e2 : ((z : Int) + 1).tmod (U.length : Int) = (i2 : Int) := ht2
  have e4 : IntKind.i64.wrap ((z : Int) + 1) = (z : Int) + 1 := IntWalk.i64_in _ (by omega)
  have e6 : IntKind.i64.wrap (i1 : Int) = i1 := IntWalk.i64_in _ (by omega)
  have e7 : IntKind.i64.wrap (i2 : Int) = i2 := IntWalk.i64_in _ (by omega)
  have hj1 : (i1 : Int) < U.length := by omega
  have hj2 : (i2 : Int) < U.length := by omega
  have hUz : ¬ (U.length : Int) = 0 := by omega
  have hUe : ¬ U = [] := by intro h; subst h; exact absurd h0 (by simp)
  clear ht1 ht2
  haveI hne : Nonempty (Cls (fun w' => NB W w' x0 x1)) := ⟨⟨_, HB.out.step ((Below.refl _ _).drew)⟩⟩
  have hx0 : ∀ pc : Cls (fun w' => NB W w' x0 x1), pc.w.cell? ⟨W.heap.size, 0, none⟩ = some (.int .i64 x0) := fun pc => pc.h.f.cell 0
  have hx1 : ∀ pc : Cls (fun w' => NB W w' x0 x1), pc.w.cell? ⟨W.heap.size, 1, none⟩ = some (.int .i64 x1) := fun pc => pc.h.f.cell 1
  have hu1 : ∀ pc : Cls (fun w' => NB W w' x0 x1), pc.w.cell? ⟨gu, ou + i1, none⟩ = some (.int .u32 n1) := fun pc => HC1.out _ pc.h.b
  have hu2 : ∀ pc : Cls (fun w' => NB W w' x0 x1), pc.w.cell? ⟨gu, ou + i2, none⟩ = some (.int .u32 n2) := fun pc => HC2.out _ pc.h.b
  have q1 := HP1.out
  have q2 := HP2.out
  refine wp_region_cls (fun w' => NB W w' x0 x1) hmix (by kernel_rfl) (HB.out.step ((Below.refl _ _).drew)) ?_
  repeat (quiet_step (first | (with_reducible exact cls_call q1 _) | (with_reducible exact cls_call q2 _)))
  refine wpQuiet_nil ?_
  rintro w7 ⟨⟨_, hw7⟩, rfl⟩
  try simp only []
  have H7 := Lib.hid hw7
  clear hw7 hne hx0 hx1 hu1 hu2 q1 q2 HP1 HP2 e1 e2 e4 e6 e7 hj1 hj2 hUz hUe HB hz h0 hl hi1 hi2
  have r0 : w7.cell? ⟨W.heap.size + 1, 0, none⟩ = some (.int .i64 0) := H7.out.r.cell 0
  have r1 : w7.cell? ⟨W.heap.size + 1, 1, none⟩ = some (.int .i64 0) := H7.out.r.cell 1
  have f0 := H7.out.r.frozen 0
  have f1 := H7.out.r.frozen 1
  have HF : Hid (∀ x y, Below W.heap.size W ((w7.setCell ⟨W.heap.size + 1, 0, none⟩ (.int .i64 x)).setCell ⟨W.heap.size + 1, 1, none⟩ (.int .i64 y)) ∧ Has ((w7.setCell ⟨W.heap.size + 1, 0, none⟩ (.int .i64 x)).setCell ⟨W.heap.size + 1, 1, none⟩ (.int .i64 y)) (W.heap.size + 1) 24 #[.int .i64 x, .int .i64 y]) := Lib.hid fun x y => ⟨(H7.out.b.setCell (by simp only; omega) _).setCell (by simp only; omega) _, (H7.out.r.set 0 _).set 1 _⟩
  go_wp2_with fail
  · obtain ⟨e1, e2⟩ : lo = p2 ∧ hi = p1 := by have := HR.out; omega
    have HL := HF.out p2 p1
    rw [e1, e2]
    generalize (w7.setCell ⟨W.heap.size + 1, 0, none⟩ (.int .i64 p2)).setCell ⟨W.heap.size + 1, 1, none⟩ (.int .i64 p1) = w9 at HL ⊢
    have g0 : w9.cell? ⟨W.heap.size + 1, 0, none⟩ = some (.int .i64 p2) := HL.2.cell 0
    have g1 : w9.cell? ⟨W.heap.size + 1, 1, none⟩ = some (.int .i64 p1) := HL.2.cell 1
    refine bodyPost_ret (v := .agg #[.int .i64 p2, .int .i64 p1]) (by simp [results, Try.results26, go_sem, g0, g1]) rfl ?_
    exact ⟨rfl, HL.1⟩
  · obtain ⟨e1, e2⟩ : lo = p1 ∧ hi = p2 := by have := HR.out; omega
    have HL := HF.out p1 p2
    rw [e1, e2]
    generalize (w7.setCell ⟨W.heap.size + 1, 0, none⟩ (.int .i64 p1)).setCell ⟨W.heap.size + 1, 1, none⟩ (.int .i64 p2) = w9 at HL ⊢
    have g0 : w9.cell? ⟨W.heap.size + 1, 0, none⟩ = some (.int .i64 p1) := HL.2.cell 0
    have g1 : w9.cell? ⟨W.heap.size + 1, 1, none⟩ = some (.int .i64 p2) := HL.2.cell 1
    refine bodyPost_ret (v := .agg #[.int .i64 p1, .int .i64 p2]) (by simp [results, Try.results26, go_sem, g0, g1]) rfl ?_
    exact ⟨rfl, HL.1⟩
  · obtain ⟨e1, e2⟩ : lo = p1 ∧ hi = p1 := by have := HR.out; omega
    have HL := HF.out p1 p1
    rw [e1, e2]
    generalize (w7.setCell ⟨W.heap.size + 1, 0, none⟩ (.int .i64 p1)).setCell ⟨W.heap.size + 1, 1, none⟩ (.int .i64 p1) = w9 at HL ⊢
    have g0 : w9.cell? ⟨W.heap.size + 1, 0, none⟩ = some (.int .i64 p1) := HL.2.cell 0
    have g1 : w9.cell? ⟨W.heap.size + 1, 1, none⟩ = some (.int .i64 p1) := HL.2.cell 1
    refine bodyPost_ret (v := .agg #[.int .i64 p1, .int .i64 p1]) (by simp [results, Try.results26, go_sem, g0, g1]) rfl ?_
    exact ⟨rfl, HL.1⟩
/-- between the operations of 'x, m, e := f(..)': whichever blocks there are -/
structure TG (w0 w : World) (D1 D2 : Option Nat) : Prop where
  b : Below w0.heap.size w0 w
  d1 : ∀ x, D1 = some x → w0.heap.size ≤ x ∧ Has w x 24 #[.int .i64 0, .int .i64 0]
  d2 : ∀ x, D2 = some x → w0.heap.size ≤ x ∧ Has w x 34 (moi ⟨0, 0, 0, 0, 0⟩ ⟨0, 0, 0, 0, 0⟩)
  ne : ∀ x y, D1 = some x → D2 = some y → x ≠ y
section
variable {w0 w w' : World} {D1 D2 : Option Nat}
theorem TG.start (w : World) : TG w w.drew none none := ⟨⟨rfl, rfl, rfl, Nat.le_refl _, fun _ _ => rfl⟩, fun _ h => (by cases h), fun _ h => (by cases h), fun _ _ h => (by cases h)⟩
theorem TG.call (h : TG w0 w D1 D2) (hb : Below w.heap.size w w') : TG w0 w' D1 D2 :=
  ⟨h.b.trans (hb.mono h.b.size), fun x e => ⟨(h.d1 x e).1, (h.d1 x e).2.below hb (h.d1 x e).2.lt⟩, fun x e => ⟨(h.d2 x e).1, (h.d2 x e).2.below hb (h.d2 x e).2.lt⟩, h.ne⟩
theorem TG.al1 (h : TG w0 w none D2) : TG w0 (w.alloc (.cells #[.int .i64 0, .int .i64 0] 24)) (some w.heap.size) D2 :=
  ⟨h.b.alloc h.b.size _, fun x e => by cases e; exact ⟨h.b.size, Has.new _ _ _⟩, fun x e => ⟨(h.d2 x e).1, (h.d2 x e).2.alloc _⟩, fun x y e f => by cases e; have := (h.d2 y f).2.lt; omega⟩
theorem TG.al2 (h : TG w0 w D1 none) : TG w0 (w.alloc (.cells (moi ⟨0, 0, 0, 0, 0⟩ ⟨0, 0, 0, 0, 0⟩) 34)) D1 (some w.heap.size) :=
  ⟨h.b.alloc h.b.size _, fun x e => ⟨(h.d1 x e).1, (h.d1 x e).2.alloc _⟩, fun x e => by cases e; exact ⟨h.b.size, Has.new _ _ _⟩, fun x y e f => by cases f; have := (h.d1 x e).2.lt; omega⟩
end
/-- behind it -/
structure TH (w0 w : World) (D1 D2 : Nat) (x : Array Value) (c d : Co) : Prop where
  b : Below w0.heap.size w0 w
  d1 : w0.heap.size ≤ D1 ∧ Has w D1 24 x
  d2 : w0.heap.size ≤ D2 ∧ Has w D2 34 (moi c d)
  ne : D1 ≠ D2
theorem TG.fin {w0 w : World} {D1 D2 : Nat} (h : TG w0 w (some D1) (some D2)) : TH w0 w D1 D2 #[.int .i64 0, .int .i64 0] ⟨0, 0, 0, 0, 0⟩ ⟨0, 0, 0, 0, 0⟩ := ⟨h.b, h.d1 _ rfl, h.d2 _ rfl, h.ne _ _ rfl rfl⟩
theorem TH.put1 {w0 w : World} {D1 D2 : Nat} {x y x' y' : Value} {c d : Co} (h : TH w0 w D1 D2 #[x, y] c d) : TH w0 ((w.setCell ⟨D1, 0, none⟩ x').setCell ⟨D1, 1, none⟩ y') D1 D2 #[x', y'] c d :=
  ⟨(h.b.setCell h.d1.1 _).setCell h.d1.1 _, ⟨h.d1.1, (h.d1.2.set 0 _).set 1 _⟩, ⟨h.d2.1, (h.d2.2.far (fun e => h.ne e.symm) _).far (fun e => h.ne e.symm) _⟩, h.ne⟩
theorem TH.put2 {w0 w : World} {D1 D2 : Nat} {x : Array Value} {c d c' d' : Co} (h : TH w0 w D1 D2 x c d) : TH w0 (set8 w D2 c' d') D1 D2 x c' d' := by
  have ho := set8_only w D2 c' d'
  exact ⟨h.b.trans (ho.below h.b.size (fun i hi => by have := h.d2.1; omega)), ⟨h.d1.1, h.d1.2.only ho h.ne⟩, ⟨h.d2.1, set8_has h.d2.2⟩, h.ne⟩
end Go.Proofs.Ytdmpkeaanaoeaaa
namespace Go.Proofs.Ytdmpkeaanaoeaaa
open Go.RowKit
theorem srow_take {w : World} {B : Nat} {A : Option Addr} {l : List Stp} (h : SRow w B A l) (k : Nat) : SRow w B A (l.take k) := fun i hi => by
  have hi2 : i < l.length := by simp at hi; omega
  obtain ⟨g, o, e, hg, c⟩ := h i hi2
  exact ⟨g, o, e, hg, fun j hj => by rw [List.getElem_take]; exact c j hj⟩
theorem srow_drop {w : World} {B g o : Nat} {l : List Stp} (h : SRow w B (some ⟨g, o, none⟩) l) (k : Nat) : SRow w B (Option.map (fun x => x.add (k * 8)) (some (⟨g, o, none⟩ : Addr))) (l.drop k) := fun i hi => by
  rw [Option.map_some, addr_plus]
  have hi2 : k + i < l.length := by simp at hi; omega
  obtain ⟨g', o', e, hg, c⟩ := h (k + i) hi2
  cases e
  refine ⟨g, o + k * 8, rfl, hg, fun j hj => ?_⟩
  rw [List.getElem_drop, ← c j hj]
  congr 2
  omega
theorem srow_rest {w : World} {B cl k : Nat} {A : Option Addr} {l : List Stp} (h : SRow w B A l) (hl : l.length ≤ cl) : SRow w B (if cl = k then A else Option.map (fun x => x.add (k * 8)) A) (l.drop k) := fun i hi => by
  have hi2 : k + i < l.length := by simp at hi; omega
  obtain ⟨g, o, rfl, hg, c⟩ := h (k + i) hi2
  rw [if_neg (by omega)]
  exact srow_drop h k i hi
theorem srow_none {w : World} {B : Nat} {A : Option Addr} {l : List Stp} (h : l.length = 0) : SRow w B A l := fun i hi => by omega
/-- what a course of at most 200 steps adds up to -/
def CB (c : Co) : Prop := (0 ≤ c.came ∧ c.came ≤ 200 * 274877906944) ∧ (0 ≤ c.out ∧ c.out ≤ 200 * 274877906944) ∧ (0 ≤ c.dried ∧ c.dried ≤ 200 * 274877906944) ∧ (0 ≤ c.dew ∧ c.dew ≤ 200 * 549755813888)
theorem cb_of {c : Co} {k : Nat} (h : GC c k) (hk : k ≤ 200) : CB c := by
  obtain ⟨-, h2, h3, h4, h5⟩ := h
  unfold CB
  omega
theorem run_cb {a : Air} {lo hi : Int} {L : List Stp} (h : insB a lo hi L = true) : CB (runL a lo L) ∧ CB (runH a hi L) := by
  have hg := ins_gl h
  have hl := ((insB_iff _ _ _ _).1 h).2.2.1
  exact ⟨cb_of (crs_good (f := (·.c0)) hg.lo hg.g lo_ok L.length (by rw [msOf_len]; exact Nat.le_refl _)) hl, cb_of (crs_good (f := (·.c1)) hg.hi hg.g hi_ok L.length (by rw [msOf_len]; exact Nat.le_refl _)) hl⟩
theorem parts_bd {a : Air} {lo hi : Int} {L : List Stp} (h : insB a lo hi L = true) {k : Nat} (hk : k ≤ L.length) : (CB (runL a lo (L.take k)) ∧ CB (runH a hi (L.take k))) ∧ CB (runL a (runL a lo (L.take k)).w (L.drop k)) ∧ CB (runH a (runH a hi (L.take k)).w (L.drop k)) :=
  ⟨run_cb (ins_take h k), run_cb (ins_drop h hk)⟩
/-- the arguments, and what the first run gave -/
structure PL (W w : World) (a : Air) (A B : Option Addr) (ca cb : Nat) (lo hi : Int) (L : List Stp) (AL : Option Addr) (DM : Nat) (xL xH : Co) : Prop where
  l : LB W w a A B ca cb lo hi L AL
  s : Has w DM 24 #[.int .i64 xL.w, .int .i64 xH.w]
  m : Has w (DM + 1) 34 (moi xL xH)
theorem PL.step {W w w' : World} {a : Air} {A B : Option Addr} {ca cb : Nat} {lo hi : Int} {L : List Stp} {AL : Option Addr} {DM : Nat} {xL xH : Co} (h : PL W w a A B ca cb lo hi L AL DM xL xH) (hb : Below w.heap.size w w') : PL W w' a A B ca cb lo hi L AL DM xL xH :=
  ⟨h.l.step hb, h.s.below hb h.s.lt, h.m.below hb h.m.lt⟩
theorem neq24 (a b : Int) (w : World) : (binOp .neq 24 (.agg #[.int .i64 a, .int .i64 b]) (.agg #[.int .i64 a, .int .i64 b])).run Try.prog w = .ok (.bool false) w := by
  rw [run_neq_struct, equal24 9998]
  simp [Result.andThen]
/-- .. and what both parts gave -/
structure P6 (W w : World) (a : Air) (A B : Option Addr) (ca cb : Nat) (lo hi : Int) (L : List Stp) (AL : Option Addr) (DM : Nat) (xL xH : Co) (D2 E1 E2 : Nat) (pL pH qL qH : Co) : Prop where
  p : PL W w a A B ca cb lo hi L AL DM xL xH
  d : Has w D2 34 (moi pL pH)
  e : Has w E1 24 #[.int .i64 xL.w, .int .i64 xH.w]
  f : Has w E2 34 (moi qL qH)
theorem P6.step {W w w' : World} {a : Air} {A B : Option Addr} {ca cb : Nat} {lo hi : Int} {L : List Stp} {AL : Option Addr} {DM : Nat} {xL xH : Co} {D2 E1 E2 : Nat} {pL pH qL qH : Co} (h : P6 W w a A B ca cb lo hi L AL DM xL xH D2 E1 E2 pL pH qL qH) (hb : Below w.heap.size w w') : P6 W w' a A B ca cb lo hi L AL DM xL xH D2 E1 E2 pL pH qL qH :=
  ⟨h.p.step hb, h.d.below hb h.d.lt, h.e.below hb h.e.lt, h.f.below hb h.f.lt⟩
/-- the air with a narrower breath -/
def narB (a : Air) (U : List Int) : Air := { a with b0 := narLo a.b0 a.b1 U 0, b1 := narHi a.b0 a.b1 U 0 }
theorem narB_nar {a : Air} (h : VA a) (U : List Int) : NarA a (narB a U) := by
  have := nar_in h.b.2.1 U 0
  exact ⟨rfl, rfl, rfl, this.1, this.2.1, this.2.2⟩
/-- a step with narrower spans -/
def narT (s : Stp) (U : List Int) (z : Nat) : Stp := { s with o0 := narLo s.o0 s.o1 U (z + 2), o1 := narHi s.o0 s.o1 U (z + 2), s0 := narLo s.s0 s.s1 U (z + 4), s1 := narHi s.s0 s.s1 U (z + 4) }
theorem narT_nar {a : Air} {s : Stp} (h : VS a s) (U : List Int) (z : Nat) : NarS s (narT s U z) := by
  have h1 := nar_in h.o.2.1 U (z + 2)
  have h2 := nar_in h.st.2.1 U (z + 4)
  exact ⟨rfl, rfl, rfl, rfl, h1.1, h1.2.1, h1.2.2, h2.1, h2.2.1, h2.2.2⟩
theorem narL_app {L M : List Stp} {t : Stp} {k : Nat} (hk : k < L.length) (h : NarL (L.take k) M) (ht : NarS L[k] t) : NarL (L.take (k + 1)) (M ++ [t]) := by
  have hn : M.length = k := by rw [h.n, List.length_take]; omega
  refine ⟨by rw [List.length_append, hn, List.length_take, List.length_cons, List.length_nil]; omega, fun i h1 h2 => ?_⟩
  rw [List.length_take] at h1
  rw [List.getElem_take]
  rcases Nat.lt_or_ge i k with hi | hi
  · rw [List.getElem_append_left (by omega)]
    have := h.m i (by rw [List.length_take]; omega) (by omega)
    rwa [List.getElem_take] at this
  · have e : i = k := by omega
    subst e
    rw [List.getElem_append_right (by omega)]
    simpa [hn] using ht
theorem urow_up {W w : World} {A : Option Addr} {U : List Int} (h : URow W W.heap.size A U) (hb : Below W.heap.size W w) : URow w w.heap.size A U := fun k hk => by
  obtain ⟨g, o, e, hg, c⟩ := h k hk
  exact ⟨g, o, e, Nat.lt_of_lt_of_le hg hb.size, (hb.cell (p := ⟨g, _, none⟩) hg).trans c⟩
theorem inside_yes {x y lo hi : Int} (h1 : lo ≤ x) (h2 : x ≤ y) (h3 : y ≤ hi) (W : World) : Calls Try.prog 27 #[.agg #[.int .i64 x, .int .i64 y], .agg #[.int .i64 lo, .int .i64 hi]] W (BoolPost true W) := by
  have h := inside_any x y lo hi W
  rwa [show insideB x y lo hi = true from decide_eq_true ⟨h1, h2, h3⟩] at h
/-- .. the narrower air, and the row of the arguments -/
structure P8 (W w : World) (a : Air) (A B : Option Addr) (ca cb : Nat) (lo hi : Int) (L : List Stp) (AL : Option Addr) (DM : Nat) (xL xH : Co) (F : Nat) (bl bh : Int) : Prop where
  p : PL W w a A B ca cb lo hi L AL DM xL xH
  f : Has w F 26 #[.int .i64 a.R, .slice A a.T.length ca, .slice B a.H.length cb, .int .i64 bl, .int .i64 bh]
theorem P8.step {W w w' : World} {a : Air} {A B : Option Addr} {ca cb : Nat} {lo hi : Int} {L : List Stp} {AL : Option Addr} {DM : Nat} {xL xH : Co} {F : Nat} {bl bh : Int} (h : P8 W w a A B ca cb lo hi L AL DM xL xH F bl bh) (hb : Below w.heap.size w w') : P8 W w' a A B ca cb lo hi L AL DM xL xH F bl bh :=
  ⟨h.p.step hb, h.f.below hb h.f.lt⟩
/-- .. and the last run -/
structure P9 (W w : World) (a : Air) (A B : Option Addr) (ca cb : Nat) (lo hi : Int) (L : List Stp) (AL : Option Addr) (DM : Nat) (xL xH : Co) (G1 G2 : Nat) (rL rH : Co) : Prop where
  p : PL W w a A B ca cb lo hi L AL DM xL xH
  g : Has w G1 24 #[.int .i64 rL.w, .int .i64 rH.w]
  h : Has w G2 34 (moi rL rH)
theorem P9.step {W w w' : World} {a : Air} {A B : Option Addr} {ca cb : Nat} {lo hi : Int} {L : List Stp} {AL : Option Addr} {DM : Nat} {xL xH : Co} {G1 G2 : Nat} {rL rH : Co} (h : P9 W w a A B ca cb lo hi L AL DM xL xH G1 G2 rL rH) (hb : Below w.heap.size w w') : P9 W w' a A B ca cb lo hi L AL DM xL xH G1 G2 rL rH :=
  ⟨h.p.step hb, h.g.below hb h.g.lt, h.h.below hb h.h.lt⟩
theorem air_same {w : World} {n : Nat} {a : Air} {A B : Option Addr} (U : List Int) (h : AR w n a A B) : AR w n (narB a U) A B := ⟨h.t, h.h, h.lt, h.lh⟩
end Go.Proofs.Ytdmpkeaanaoeaaa
namespace Go.Proofs.Ytdmpkeaanaoeaaa
open Go.RowKit
theorem sz24 : (Try.prog.info? 24).map (·.size) = some 2 := by kernel_rfl
theorem sz34 : (Try.prog.info? 34).map (·.size) = some 8 := by kernel_rfl
theorem there_of {w : World} {b : Nat} {t : TypeId} {cs : Array Value} (h : Has w b t cs) {n : Nat} (hn : n ≤ cs.size) : w.there b 0 n := by
  intro j hj
  have hc : w.cell? ⟨b, j, none⟩ = some (cs[j]'(by omega)) := by
    have := h.cell j
    simpa [Array.getElem?_eq_getElem (show j < cs.size by omega)] using this
  rw [Nat.zero_add]
  exact ⟨by rw [hc]; rfl, h.frozen j⟩
theorem set8_cells (w : World) (b : Nat) (c d : Co) : w.setCells b 0 (moi c d).toList = set8 w b c d := rfl
theorem moi_one (c d : Co) : (moi c d).all (·.oneCell') = true := by simp [moi, Value.oneCell']
theorem TH.store1 {w0 w : World} {D1 D2 : Nat} {x y : Value} {c d : Co} {op : Oper} {a : Act} {K : Act → World → Prop} {Q : Exit → Act → World → Prop} {s t : Operand} {m n : Int} (h : TH w0 w D1 D2 #[x, y] c d)
    (ho : op.op = .store 24 s t) (hs : a.eval s = .pointer (some ⟨D1, 0, none⟩)) (ht : a.eval t = .agg #[.int .i64 m, .int .i64 n])
    (hK : K (a.put op.dst undef) ((w.setCell ⟨D1, 0, none⟩ (.int .i64 m)).setCell ⟨D1, 1, none⟩ (.int .i64 n))) : op.wp Try.prog a w K Q :=
  wp_store_mid 24 s t ho D1 0 #[.int .i64 m, .int .i64 n] hs ht (there_of h.d1.2 (Nat.le_refl 2)) sz24 (by simp [Value.oneCell']) hK
theorem TH.store2 {w0 w : World} {D1 D2 : Nat} {x : Array Value} {c d c' d' : Co} {op : Oper} {a : Act} {K : Act → World → Prop} {Q : Exit → Act → World → Prop} {s t : Operand} (h : TH w0 w D1 D2 x c d)
    (ho : op.op = .store 34 s t) (hs : a.eval s = .pointer (some ⟨D2, 0, none⟩)) (ht : a.eval t = .agg (moi c' d'))
    (hK : K (a.put op.dst undef) (set8 w D2 c' d')) : op.wp Try.prog a w K Q :=
  wp_store_mid 34 s t ho D2 0 (moi c' d') hs ht (there_of h.d2.2 (Nat.le_refl 8)) sz34 (moi_one c' d') hK
end Go.Proofs.Ytdmpkeaanaoeaaa

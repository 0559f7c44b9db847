/- AirParts (plain): steps in two parts; narrower spans. -/
import Derived.Test.YtdmpkeaanaoeaaaDrA
namespace Go.Proofs.Ytdmpkeaanaoeaaa
/-- what two courses have together -/
def addC (c d : Co) : Co := ⟨d.w, c.came + d.came, c.out + d.out, c.dried + d.dried, c.dew + d.dew⟩
theorem pass_add (c d : Co) (m : Mo) (x : Int) : passP (addC c d) m x = addC c (passP d m x) := by
  unfold passP addC
  simp only [Co.mk.injEq, true_and]
  omega
theorem crs_split (w : Int) (f : Mo → Int) (l : List Mo) (k : Nat) : ∀ j, k + j ≤ l.length → crs w f l (k + j) = addC (crs w f l k) (crs (crs w f l k).w f (l.drop k) j)
  | 0, _ => by simp [crs, addC]
  | j + 1, h => by
    have hk : k + j < l.length := by omega
    have hj : j < (l.drop k).length := by rw [List.length_drop]; omega
    rw [← Nat.add_assoc, crs_step hk, crs_step hj, crs_split w f l k j (by omega), List.getElem_drop, pass_add]
theorem crs_take (w : Int) (f : Mo → Int) (l : List Mo) (n : Nat) : ∀ k, k ≤ n → k ≤ l.length → crs w f (l.take n) k = crs w f l k
  | 0, _, _ => rfl
  | k + 1, h, hl => by
    have h1 : k < l.length := by omega
    have h2 : k < (l.take n).length := by rw [List.length_take]; omega
    rw [crs_step h1, crs_step h2, crs_take w f l n k (by omega) (by omega), List.getElem_take]
theorem crs_le {lo hi : Int} {l : List Mo} (hw : lo ≤ hi) (hg : ∀ m ∈ l, GM m) : ∀ k, k ≤ l.length → LE (crs lo (·.c0) l k) (crs hi (·.c1) l k)
  | 0, _ => ⟨hw, Int.le_refl _, Int.le_refl _, Int.le_refl _, Int.le_refl _⟩
  | k + 1, hk => by
    have hk' : k < l.length := by omega
    have hm := hg _ (List.getElem_mem hk')
    rw [crs_step hk', crs_step hk']
    exact pass_mono (crs_le hw hg k (by omega)) hm hm.c.2.1
theorem ms_take (a : Air) (L : List Stp) (k : Nat) : msOf a (L.take k) = (msOf a L).take k := by simp [msOf, List.map_take]
theorem ms_drop (a : Air) (L : List Stp) (k : Nat) : msOf a (L.drop k) = (msOf a L).drop k := by simp [msOf, List.map_drop]
theorem ins_take {a : Air} {lo hi : Int} {L : List Stp} (h : insB a lo hi L = true) (k : Nat) : insB a lo hi (L.take k) = true := by
  obtain ⟨h1, h2, h3, h4⟩ := (insB_iff a lo hi L).1 h
  exact (insB_iff _ _ _ _).2 ⟨h1, h2, by rw [List.length_take]; omega, fun s hs => h4 s (List.mem_of_mem_take hs)⟩
theorem run_take {a : Air} {L : List Stp} {k : Nat} (hk : k ≤ L.length) (w : Int) (f : Mo → Int) : crs w f (msOf a (L.take k)) (L.take k).length = crs w f (msOf a L) k := by
  rw [ms_take, List.length_take, Nat.min_eq_left hk, crs_take w f _ k k (Nat.le_refl _) (by rw [msOf_len]; exact hk)]
theorem run_split {a : Air} {L : List Stp} {k : Nat} (hk : k ≤ L.length) (w : Int) (f : Mo → Int) : crs w f (msOf a L) L.length = addC (crs w f (msOf a L) k) (crs (crs w f (msOf a L) k).w f (msOf a (L.drop k)) (L.drop k).length) := by
  have := crs_split w f (msOf a L) k (L.length - k) (by rw [msOf_len]; omega)
  rw [show k + (L.length - k) = L.length by omega] at this
  rw [this, ms_drop, List.length_drop]
theorem ins_drop {a : Air} {lo hi : Int} {L : List Stp} (h : insB a lo hi L = true) {k : Nat} (hk : k ≤ L.length) : insB a (runL a lo (L.take k)).w (runH a hi (L.take k)).w (L.drop k) = true := by
  obtain ⟨h1, h2, h3, h4⟩ := (insB_iff a lo hi L).1 h
  have hg := ins_gl h
  unfold runL runH
  rw [run_take hk, run_take hk]
  have hle := crs_le h2.2.1 hg.g k (by rw [msOf_len]; exact hk)
  have g0 := crs_good (f := (·.c0)) hg.lo hg.g lo_ok k (by rw [msOf_len]; exact hk)
  have g1 := crs_good (f := (·.c1)) hg.hi hg.g hi_ok k (by rw [msOf_len]; exact hk)
  exact (insB_iff _ _ _ _).2 ⟨h1, ⟨g0.w.1, hle.w, g1.w.2⟩, by rw [List.length_drop]; omega, fun s hs => h4 s (List.mem_of_mem_drop hs)⟩
/-- both parts together are the whole -/
theorem parts_sum {a : Air} (lo hi : Int) {L : List Stp} {k : Nat} (hk : k ≤ L.length) :
    runL a lo L = addC (runL a lo (L.take k)) (runL a (runL a lo (L.take k)).w (L.drop k)) ∧ runH a hi L = addC (runH a hi (L.take k)) (runH a (runH a hi (L.take k)).w (L.drop k)) := by
  unfold runL runH
  rw [run_take hk, run_take hk]
  exact ⟨run_split hk _ _, run_split hk _ _⟩
/-- narrower spans -/
structure Narrow (l l' : List Mo) : Prop where
  n : l'.length = l.length
  m : ∀ k (h : k < l.length) (h' : k < l'.length), l'[k].ch = l[k].ch ∧ l'[k].dr = l[k].dr ∧ l'[k].ho = l[k].ho ∧ l[k].c0 ≤ l'[k].c0 ∧ l'[k].c0 ≤ l'[k].c1 ∧ l'[k].c1 ≤ l[k].c1
theorem pass_congr {c : Co} {m m' : Mo} {x : Int} (h1 : m'.ch = m.ch) (h2 : m'.dr = m.dr) (h3 : m'.ho = m.ho) : passP c m' x = passP c m x := by
  unfold passP; rw [h1, h2, h3]
theorem narrow_lo {lo lo' : Int} {l l' : List Mo} (hw : lo ≤ lo') (hg : ∀ m ∈ l, GM m) (h : Narrow l l') : ∀ k, k ≤ l.length → LE (crs lo (·.c0) l k) (crs lo' (·.c0) l' k)
  | 0, _ => ⟨hw, Int.le_refl _, Int.le_refl _, Int.le_refl _, Int.le_refl _⟩
  | k + 1, hk => by
    have hk' : k < l.length := by omega
    have hk2 : k < l'.length := by rw [h.n]; exact hk'
    obtain ⟨e1, e2, e3, e4, e5, e6⟩ := h.m k hk' hk2
    rw [crs_step hk', crs_step hk2, pass_congr e1 e2 e3]
    exact pass_mono (narrow_lo hw hg h k (by omega)) (hg _ (List.getElem_mem hk')) e4
theorem narrow_hi {hi hi' : Int} {l l' : List Mo} (hw : hi' ≤ hi) (hg : ∀ m ∈ l, GM m) (h : Narrow l l') : ∀ k, k ≤ l.length → LE (crs hi' (·.c1) l' k) (crs hi (·.c1) l k)
  | 0, _ => ⟨hw, Int.le_refl _, Int.le_refl _, Int.le_refl _, Int.le_refl _⟩
  | k + 1, hk => by
    have hk' : k < l.length := by omega
    have hk2 : k < l'.length := by rw [h.n]; exact hk'
    obtain ⟨e1, e2, e3, e4, e5, e6⟩ := h.m k hk' hk2
    rw [crs_step hk', crs_step hk2, pass_congr e1 e2 e3]
    exact pass_mono (narrow_hi hw hg h k (by omega)) (hg _ (List.getElem_mem hk')) e6
/-- the air, and a step, with narrower spans -/
structure NarA (a b : Air) : Prop where
  R : b.R = a.R
  T : b.T = a.T
  H : b.H = a.H
  b0 : a.b0 ≤ b.b0
  bb : b.b0 ≤ b.b1
  b1 : b.b1 ≤ a.b1
structure NarS (s t : Stp) : Prop where
  c : t.cold = s.cold
  p : t.ppl = s.ppl
  g : t.chg = s.chg
  d : t.dry = s.dry
  o0 : s.o0 ≤ t.o0
  oo : t.o0 ≤ t.o1
  o1 : t.o1 ≤ s.o1
  s0 : s.s0 ≤ t.s0
  ss : t.s0 ≤ t.s1
  s1 : t.s1 ≤ s.s1
theorem nar_va {a b : Air} (h : NarA a b) (hv : VA a) : VA b := by
  obtain ⟨h1, h2, h3, h4, h5, h6⟩ := h
  obtain ⟨v1, v2, v3, v4, v5, v6, v7⟩ := hv
  refine ⟨by rw [h1]; exact v1, by omega, by rw [h2]; exact v3, by rw [h2, h3]; exact v4, ?_, ?_, ?_⟩
  · rw [h2]; exact v5
  · rw [h2, h3]; exact v6
  · rw [h2, h3]; exact v7
theorem nar_hold {a b : Air} (h : NarA a b) (t : Int) : holdsP b t = holdsP a t := by
  unfold holdsP; rw [h.R, h.T, h.H]
theorem nar_vs {a b : Air} {s t : Stp} (h : NarA a b) (hs : NarS s t) (hv : VS a s) : VS b t := by
  obtain ⟨v1, v2, v3, v4, v5, v6⟩ := hv
  obtain ⟨q1, q2, q3, q4, q5, q6, q7, q8, q9, q10⟩ := hs
  refine ⟨?_, by rw [q2]; exact v2, by rw [q3]; exact v3, by omega, by omega, by rw [q4]; exact v6⟩
  unfold onB at v1 ⊢
  rw [h.T, q1]; exact v1
theorem nar_mo {a b : Air} {s t : Stp} (h : NarA a b) (hs : NarS s t) (hv : VA a) (hvs : VS a s) : (moOf b t).ch = (moOf a s).ch ∧ (moOf b t).dr = (moOf a s).dr ∧ (moOf b t).ho = (moOf a s).ho ∧ (moOf a s).c0 ≤ (moOf b t).c0 ∧ (moOf b t).c0 ≤ (moOf b t).c1 ∧ (moOf b t).c1 ≤ (moOf a s).c1 := by
  have hb := comes_bd (nar_va h hv) (nar_vs h hs hvs)
  refine ⟨hs.g, hs.d, ?_, ?_, hb.2.1, ?_⟩
  · show holdsP b t.cold = holdsP a s.cold
    rw [hs.c, nar_hold h]
  · show comesLo a s ≤ comesLo b t
    have m1 : a.R * s.o0 ≤ a.R * t.o0 := Int.mul_le_mul_of_nonneg_left hs.o0 (by have := hv.R; omega)
    have b1 : s.ppl * a.b0 ≤ s.ppl * b.b0 := Int.mul_le_mul_of_nonneg_left h.b0 hvs.p.1
    have q := part_mono m1 hvs.g.1 hvs.g.2
    have e := hs.s0
    unfold comesLo
    rw [h.R, hs.g, hs.p]
    omega
  · show comesHi b t ≤ comesHi a s
    have m1 : a.R * t.o1 ≤ a.R * s.o1 := Int.mul_le_mul_of_nonneg_left hs.o1 (by have := hv.R; omega)
    have b1 : s.ppl * b.b1 ≤ s.ppl * a.b1 := Int.mul_le_mul_of_nonneg_left h.b1 hvs.p.1
    have q := part_mono m1 hvs.g.1 hvs.g.2
    have e := hs.s1
    unfold comesHi
    rw [h.R, hs.g, hs.p]
    omega
structure NarL (L M : List Stp) : Prop where
  n : M.length = L.length
  m : ∀ k (h : k < L.length) (h' : k < M.length), NarS L[k] M[k]
theorem nar_ins {a b : Air} {lo hi lo' hi' : Int} {L M : List Stp} (h : insB a lo hi L = true) (ha : NarA a b) (hL : NarL L M) (h0 : lo ≤ lo') (h1 : lo' ≤ hi') (h2 : hi' ≤ hi) : insB b lo' hi' M = true := by
  obtain ⟨q1, q2, q3, q4⟩ := (insB_iff a lo hi L).1 h
  refine (insB_iff _ _ _ _).2 ⟨nar_va ha q1, by omega, by rw [hL.n]; exact q3, fun t ht => ?_⟩
  obtain ⟨k, hk, rfl⟩ := List.getElem_of_mem ht
  have hk' : k < L.length := by rw [← hL.n]; exact hk
  exact nar_vs ha (hL.m k hk' hk) (q4 _ (List.getElem_mem hk'))
/-- narrower spans leave narrower ones -/
theorem nar_run {a b : Air} {lo hi lo' hi' : Int} {L M : List Stp} (h : insB a lo hi L = true) (ha : NarA a b) (hL : NarL L M) (h0 : lo ≤ lo') (h1 : lo' ≤ hi') (h2 : hi' ≤ hi) :
    LE (runL a lo L) (runL b lo' M) ∧ LE (runL b lo' M) (runH b hi' M) ∧ LE (runH b hi' M) (runH a hi L) := by
  obtain ⟨q1, q2, q3, q4⟩ := (insB_iff a lo hi L).1 h
  have hg := (ins_gl h).g
  have hgn := (ins_gl (nar_ins h ha hL h0 h1 h2)).g
  have hn : Narrow (msOf a L) (msOf b M) := ⟨by rw [msOf_len, msOf_len, hL.n], fun k hk hk' => by
    have i1 : k < L.length := by rw [msOf_len] at hk; exact hk
    have i2 : k < M.length := by rw [msOf_len] at hk'; exact hk'
    simp only [msOf, List.getElem_map]
    exact nar_mo ha (hL.m k i1 i2) q1 (q4 _ (List.getElem_mem i1))⟩
  unfold runL runH
  rw [hL.n]
  exact ⟨narrow_lo h0 hg hn L.length (by rw [msOf_len]; exact Nat.le_refl _), crs_le h1 hgn L.length (by rw [msOf_len, hL.n]; exact Nat.le_refl _), narrow_hi h2 hg hn L.length (by rw [msOf_len]; exact Nat.le_refl _)⟩
end Go.Proofs.Ytdmpkeaanaoeaaa

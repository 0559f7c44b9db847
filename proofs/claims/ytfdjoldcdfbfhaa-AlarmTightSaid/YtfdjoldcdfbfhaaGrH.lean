/- listen's loop over the minutes, whole. -/
import Derived.Test.YtfdjoldcdfbfhaaGrG
namespace Go.Proofs.Ytfdjoldcdfbfhaa
open Go.RowKit Go.Shelf
def fx (V t : Int) (L : List Sf) (k : Nat) : Int := (stB V t L k).getD 0
def ey (V t : Int) (L : List Sf) (k : Nat) : Int := if (stB V t L k).isSome then 0 else 4
theorem good_s {L : List Sf} {n : Int} {j : Nat} (hj : j < L.length) (h : chkAt L n j = 0) : 0 ≤ L[j].s ∧ L[j].s < n := by
  have hb : bgn L j < L.length := by have := bgn_le L j; omega
  rw [chkAt_eq hj hb] at h
  unfold chkE at h
  split at h
  · exact absurd h (by decide)
  · rename_i hbad
    unfold badB at hbad
    simp only [decide_eq_true_eq] at hbad
    omega
theorem good_part {L : List Sf} {n : Int} {b m : Nat} (hn : n ≤ 12) (hb : b ≤ m) (hm : m ≤ L.length) (h : ∀ j, j < m → chkAt L n j = 0) : ∀ r ∈ (L.drop b).take (m - b), 0 ≤ r.s ∧ r.s < 12 := fun r hr => by
  obtain ⟨k, hk, rfl⟩ := List.mem_iff_getElem.1 hr
  have hk' : b + k < m := by simp at hk; omega
  have := good_s (L := L) (n := n) (j := b + k) (by omega) (h _ hk')
  simp only [List.getElem_take, List.getElem_drop]
  omega
theorem balN_lt' {t : Int} {L : List Sf} {n : Int} {m : Nat} (hn : n ≤ 12) (hm : m ≤ L.length) (h : ∀ j, j < m → chkAt L n j = 0) : balN t L m < 4096 := by
  have h1 := balN_part (t := t) (L := L) (b := 0) (m := m) m (Nat.le_refl _) (by omega)
  rw [Nat.zero_add] at h1
  rw [h1]
  exact balF_lt (show (0 : Nat) < 4096 by decide) (by have := good_part (b := 0) hn (Nat.zero_le _) hm h; simpa using this) m
theorem fe_group {V t : Int} {L : List Sf} {i : Nat} (h0 : 0 < i) (hi : i ≤ L.length) (h : i = L.length ∨ bgn L (i + 1) = i) (hb : bgn L i < L.length) :
    fx V t L i = (if ey V t L (bgn L i) = 4 ∧ V ≤ cntB (balN t L i) 12 then (L[bgn L i]'hb).m else fx V t L (bgn L i)) ∧
    ey V t L i = (if ey V t L (bgn L i) = 4 ∧ V ≤ cntB (balN t L i) 12 then 0 else ey V t L (bgn L i)) := by
  have hg := stB_group (V := V) (t := t) h0 hi h hb
  unfold fx ey
  rw [hg]
  cases hs : stB V t L (bgn L i) with
  | some m => simp
  | none =>
    by_cases hv : V ≤ (cntB (balN t L i) 12 : Int)
    · simp [hv]
    · simp [hv]
def Jl (w0 : World) (q : Lq) (p : Lp) (rc : LoopState → Option Code → Loop) (k : Nat) (W : World) : Prop :=
  LS w0 W q p (fx p.V p.t p.L k) (ey p.V p.t p.L k) (balN p.t p.L k) ∧ W.heap[q.l]? = some (.loop (rc .ready none))
theorem lloop_any (w0 W : World) (q : Lq) (p : Lp) {assign body : Code} (hab : some (assign, body) = Try.f37.body.bind loopParts) (hn : p.n0 ≤ 12) (hc : p.L.length ≤ p.cap) (hL : p.L.length ≤ 9223372036854775807)
    (hl : W.heap[q.l]? = some (.loop (loopRec 37 (lTmps q p) #[19, 20] assign body q.D .ready none))) (hS : LS w0 W q p 0 4 0) :
    CallsIn Fence.wide 3 Try.prog 61 #[.func (.yield q.l) #[] #[], .pointer (some ⟨q.T0, 0, none⟩), .pointer (some ⟨q.T1, 0, none⟩)] W (IterPost p.L p.n0 (Jl w0 q p (loopRec 37 (lTmps q p) #[19, 20] assign body q.D))) := by
  refine iter_any q.l q.T0 q.T1 p.A p.cap p.n0 p.L hc hL _ ?_ ?_ ?_ W ?_
  · rintro b W' ⟨h, -⟩
    exact ⟨h.m0.cell 0, h.m1.cell 0, h.r.more h.b.size⟩
  · rintro b W' W'' ⟨h, hw⟩ hb
    have hlt := (Array.getElem?_eq_some_iff.1 hw).1
    exact ⟨h.under (hb.mono (Nat.le_of_lt hlt)), (hb.block _ hlt).trans hw⟩
  · rintro i W' h0 hi hend hgood ⟨h, hw⟩ hb
    have hble := bgn_le p.L i
    have hlen : ((p.L.drop (bgn p.L i)).take (i - bgn p.L i)).length = i - bgn p.L i := by simp; omega
    have hs : balN p.t p.L (bgn p.L i) < 4096 := balN_lt' (n := p.n0) (by omega) (by omega) (fun j hj => hgood j (by omega))
    have hfe := fe_group (V := p.V) (t := p.t) h0 hi hend hb
    have hbal := balN_part (t := p.t) (L := p.L) (b := bgn p.L i) (m := i - bgn p.L i) (i - bgn p.L i) (Nat.le_refl _) (by omega)
    rw [show bgn p.L i + (i - bgn p.L i) = i by omega] at hbal
    have hr := lround_any w0 W' q p (off3 p.A p.cap (bgn p.L i)) (p.cap - bgn p.L i) ((p.L.drop (bgn p.L i)).take (i - bgn p.L i)) (p.L[bgn p.L i]'hb).m _ _ _ hab hw h
      (h.r.part hc _ _) (good_part (n := p.n0) (by omega) hble hi hgood) hs (by rw [hlen]; omega)
    rw [hlen] at hr
    obtain ⟨fn, tmps, asg, bdy, hy, hR⟩ := hr
    refine ⟨fn, tmps, asg, bdy, hy, hR.mono ?_⟩
    rintro e W'' ⟨rfl, h1, h2⟩
    rw [← hbal, ← hfe.1, ← hfe.2] at h1
    exact ⟨rfl, h1, h2⟩
  · exact ⟨hS, hl⟩
end Go.Proofs.Ytfdjoldcdfbfhaa

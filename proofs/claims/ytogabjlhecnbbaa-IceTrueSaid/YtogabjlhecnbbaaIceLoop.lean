/- take's loop over the touched zones, whole; how take is left. -/
import Derived.Test.YtogabjlhecnbbaaIceR
namespace Go.Proofs.Ytogabjlhecnbbaa
open Go.RowKit Go.Shelf

theorem loopE_bd_step {e : Ev} {zs : List Zn} {s : Sm} {i : Nat} {c : Int} (hi : i < zs.length) (hok : ∀ z ∈ zs, z.ok = true) (hs : s.Bd c) (hk : 0 ≤ e.k ∧ e.k < 5) (hw : e.k = 4 ∨ win e.x e.y = true) (he : zErr e (zs.getD i zd) = 0) :
    (zStep e i (zs, s)).1.length = zs.length ∧ (∀ z ∈ (zStep e i (zs, s)).1, z.ok = true) ∧ (zStep e i (zs, s)).2.Bd (c + 20000) := by
  have hg : zs.getD i zd = zs[i] := by simp [hi]
  have hzi := hok zs[i] (List.getElem_mem hi)
  rw [hg] at he
  refine ⟨by simp [zStep], fun z hz => ?_, ?_⟩
  · simp only [zStep, hg] at hz
    rcases List.mem_or_eq_of_mem_set hz with h | h
    · exact hok z h
    · rw [h]; exact zDo_ok hzi hk hw he
  · simp only [zStep, hg]; exact zDo_bd hzi hw hk hs

structure LoopIn (w : World) (q : Pl) (e : Ev) (last : Nat) (zs : List Zn) (s : Sm) (c : Int) : Prop where
  ok : e.ok zs.length = true
  lst : e.last = last
  len : zs.length ≤ 24
  zok : ∀ z ∈ zs, z.ok = true
  bd : s.Bd c
  hc : c ≤ 500000000

def LoopPost (w : World) (q : Pl) (e : Ev) (last l : Nat) (zs : List Zn) (s : Sm) (r : Ending) (W' : World) : Prop :=
  (∃ v, r = .returned v ∧ ∃ w4, (Instr.endLoop l).run Try.prog W' = .ok none w4 ∧ TS w w4 q e last ∧ (evDo e (zs, s)).2 = 0 ∧ KIn w4 q.Bk q.Bz (evDo e (zs, s)).1.1 (evDo e (zs, s)).1.2) ∨
  (∃ v, r = .returned v ∧ ∃ w4, (Instr.endLoop l).run Try.prog W' = .ok (some .ret) w4 ∧ TS w w4 q e last ∧ Has w4 q.Be 30 #[iv 12] ∧ (evDo e (zs, s)).2 = 12) ∨
  (r = .panicked [{ v := holeMsg, recovered := false }] ∧ TS w W' q e last ∧ (evDo e (zs, s)).2 = 6)

theorem loop_any (w W : World) (q : Pl) (e : Ev) (last l : Nat) (zs : List Zn) (s : Sm) (c : Int) (u7 u8 u9 u10 u11 u12 u13 u14 u15 u16 u17 u18 u19 u20 u21 u22 : Value) {assign body : Code}
    (hab : some (assign, body) = Try.f39.body.bind loopParts) (hl : W.heap[l]? = some (.loop (loopRec 39 (takeTmps q e u7 u8 u9 u10 u11 u12 u13 u14 u15 u16 u17 u18 u19 u20 u21 u22) #[24] assign body q.D .ready none)))
    (hts : TS w W q e last) (hK : KIn W q.Bk q.Bz zs s) (hin : LoopIn w q e last zs s c) (gl : w.heap.size ≤ l) :
    CallsIn Fence.wide 3 Try.prog 80 #[.func (.yield l) #[] #[], .pointer (some ⟨q.T1, 0, none⟩), .pointer (some ⟨q.T2, 0, none⟩), .pointer (some ⟨q.T0, 0, none⟩)] W (LoopPost w q e last l zs s) := by
  obtain ⟨rc, hrc⟩ : ∃ rc, rc = loopRec 39 (takeTmps q e u7 u8 u9 u10 u11 u12 u13 u14 u15 u16 u17 u18 u19 u20 u21 u22) #[24] assign body q.D := ⟨_, rfl⟩
  have hok := hin.ok
  simp only [Ev.ok, Bool.and_eq_true, decide_eq_true_eq, Bool.or_eq_true] at hok
  obtain ⟨⟨⟨hk1, hk2, hf1, hf2⟩, hto⟩, hwin⟩ := hok
  have hlst := hin.lst
  have hl1 : e.f ≤ e.last ∧ e.last < zs.length := by
    unfold Ev.last
    split
    · omega
    · omega
  obtain ⟨frm, hfrm⟩ := Int.eq_ofNat_of_zero_le hf1
  have hev : evDo e (zs, s) = loopE e frm (last + 1 - frm) (zs, s) := by
    simp only [evDo, hin.ok, if_true]
    rw [hlst, hfrm]; simp
  refine (iter_any l q.T1 q.T2 q.T0 q.Bk q.Bz zs.length e frm last hfrm (by omega) (by omega) hin.len
    (fun i W' => ∃ zs' s', KIn W' q.Bk q.Bz zs' s' ∧ zs'.length = zs.length ∧ (∀ z ∈ zs', z.ok = true) ∧ s'.Bd (c + 20000 * ((i : Int) - frm)) ∧ loopE e frm (last + 1 - frm) (zs, s) = loopE e i (last + 1 - i) (zs', s') ∧ TS w W' q e last ∧ W'.heap[l]? = some (.loop (rc .ready none)))
    (fun W' => (evDo e (zs, s)).2 = 12 ∧ TS w W' q e last ∧ Has W' q.Be 30 #[iv 12] ∧ W'.heap[l]? = some (.loop (rc .done (some .ret))))
    (fun ch W' => ch = [{ v := holeMsg, recovered := false }] ∧ (evDo e (zs, s)).2 = 6 ∧ TS w W' q e last) ?_ ?_ W ⟨zs, s, hK, rfl, hin.zok, by have := hin.bd; simpa using this, rfl, hts, by rw [hrc]; exact hl⟩).mono ?_
  · rintro i W' ⟨zs', s', hK', hlen, _, _, _, hT, _⟩
    refine ⟨hT.t1.cell 1, hT.t2.cell 0, hT.t0.cell 0, ?_⟩
    rw [← hlen]; exact hK'.k.cell 0
  · rintro i W' hi1 hi2 ⟨zs', s', hK', hlen, hzok, hbd, hE, hT, hl'⟩
    have hii : i < zs'.length := by omega
    have hkk : 0 ≤ e.k ∧ e.k < 5 := ⟨hk1, hk2⟩
    have hww : e.k = 4 ∨ win e.x e.y = true := hwin
    have hcc : c + 20000 * ((i : Int) - frm) ≤ 1000000000 := by have := hin.hc; have := hin.len; omega
    have hE' : loopE e i (last + 1 - i) (zs', s') = if zErr e (zs'.getD i zd) = 0 then loopE e (i + 1) (last + 1 - (i + 1)) (zStep e i (zs', s')) else ((zs', s'), zErr e (zs'.getD i zd)) := by
      rw [show last + 1 - i = (last - i) + 1 by omega, show last + 1 - (i + 1) = last - i by omega]; rfl
    rw [hrc] at hl'
    obtain ⟨fn, tmps, asg, bdy, hy, hR⟩ := round_any w W' q e last i l zs' s' _ u7 u8 u9 u10 u11 u12 u13 u14 u15 u16 u17 u18 u19 u20 u21 u22 hab hl' hT hK' hii hkk hww (hzok _ (List.getElem_mem hii)) hbd hcc gl
    refine ⟨fn, tmps, asg, bdy, hy, hR.mono ?_⟩
    rintro r W'' (⟨rfl, h0, hT'', hK'', hl''⟩ | ⟨rfl, h12, hT'', hBe, hl''⟩ | ⟨ch, rfl, rfl, h6, hT''⟩)
    · refine .inl ⟨rfl, (zStep e i (zs', s')).1, (zStep e i (zs', s')).2, hK'', ?_, ?_, ?_, ?_, hT'', by rw [hrc]; exact hl''⟩
      · rw [(loopE_bd_step hii hzok hbd hkk hww h0).1, hlen]
      · exact (loopE_bd_step hii hzok hbd hkk hww h0).2.1
      · have := (loopE_bd_step hii hzok hbd hkk hww h0).2.2
        rw [show c + 20000 * (((i + 1 : Nat) : Int) - frm) = c + 20000 * ((i : Int) - frm) + 20000 by omega]; exact this
      · rw [hE, hE', if_pos h0]
    · refine .inr (.inl ⟨rfl, ?_, hT'', hBe, by rw [hrc]; exact hl''⟩)
      rw [hev, hE, hE', if_neg (by rw [h12]; decide)]; exact h12
    · refine .inr (.inr ⟨_, rfl, rfl, ?_, hT''⟩)
      rw [hev, hE, hE', if_neg (by rw [h6]; decide)]; exact h6
  · rintro r W' (⟨v, rfl, (⟨zs', s', hK', _, _, _, hE, hT, hl'⟩ | ⟨h12, hT, hBe, hl'⟩)⟩ | ⟨ch, rfl, rfl, h6, hT⟩)
    · have hrun : (Instr.endLoop l).run Try.prog W' = .ok none (W'.putObj l (.loop { rc .ready none with state := .exhausted })) := by
        have := run_endLoop (P := Try.prog) hl' (by rw [hrc]; simp)
        rw [this, hrc]
      refine .inl ⟨v, rfl, _, hrun, hT.putObj hl' gl _, ?_, ?_⟩
      · rw [hev, hE]; simp [loopE]
      · rw [hev, hE]; simp only [Nat.sub_self, loopE]; exact hK'.putObj hl' _
    · have hrun : (Instr.endLoop l).run Try.prog W' = .ok (some .ret) (W'.putObj l (.loop { rc .done (some .ret) with state := .exhausted })) := by
        have := run_endLoop (P := Try.prog) hl' (by rw [hrc]; simp)
        rw [this, hrc]
      exact .inr (.inl ⟨v, rfl, _, hrun, hT.putObj hl' gl _, hBe.putObj hl' _, h12⟩)
    · exact .inr (.inr ⟨rfl, hT, h6⟩)

theorem catch_hole_in (p : Addr) (x : Value) (older : List PanicEntry) (w : World) (n : Nat) (hc : w.cell? p = some x) (hz : w.frozen? p = false) :
    CallsDIn Fence.wide n Try.prog 65 #[.pointer (some p)] (.panicking ({ v := holeMsg, recovered := false } :: older)) w fun e u' w' =>
      e = .returned (.tuple #[]) ∧ u' = .panicking ({ v := holeMsg, recovered := true } :: older) ∧ w' = w.setCell p (iv 6) := by
  refine callsDIn_of_wpSIn Try.func65 rfl trivial fun c₀ cs hu => ?_
  apply wpSIn_seq
  apply wpSIn_region
  simp [wpOpsSIn, go_sem, recoverD, hu, Try.ntmps65, Exit.thenS, holeMsg, Fence.wide]
  refine wpSIn_cond (t := true) (by simp [Act.eval, Array.replicate]) ?_
  simp only [if_true]
  apply wpSIn_region
  simp [wpOpsSIn, go_sem, hc, hz, bodyPostS, results, Try.results65]
theorem catch_none_in (p : Addr) (w : World) (n : Nat) :
    CallsDIn Fence.wide n Try.prog 65 #[.pointer (some p)] .returning w fun e u' w' => e = .returned (.tuple #[]) ∧ u' = .returning ∧ w' = w := by
  refine callsDIn_of_wpSIn Try.func65 rfl trivial fun c₀ cs hu => ?_
  apply wpSIn_seq
  apply wpSIn_region
  simp [wpOpsSIn, go_sem, recoverD, hu, Try.ntmps65, Exit.thenS, Fence.wide]
  refine wpSIn_cond (t := false) (by simp [Act.eval, Array.replicate]) ?_
  simp only [Bool.false_eq_true, if_false]
  refine wpSIn_of_wpIn rfl (wpIn_wide.2 (wp_skip ?_))
  cases c₀
  simp_all [bodyPostS, results, Try.results65]
end Go.Proofs.Ytogabjlhecnbbaa

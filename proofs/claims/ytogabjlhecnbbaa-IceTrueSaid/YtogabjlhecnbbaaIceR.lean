/- One round of take's loop, walked. -/
import Derived.Test.YtogabjlhecnbbaaIceZ
namespace Go.Proofs.Ytogabjlhecnbbaa
open Go.RowKit Go.Shelf
attribute [local go_sem] Oper.semAt_some

/-- the loop over a function in a piece of code -/
def loopParts : Code → Option (Code × Code)
  | .rangeFunc _ _ a b => some (a, b)
  | .seq a b => match loopParts a with | some p => some p | none => loopParts b
  | .block _ c => loopParts c
  | _ => none

def RoundPost (w0 : World) (q : Pl) (e : Ev) (last i l : Nat) (zs : List Zn) (s : Sm) (rc : LoopState → Option Code → Loop) (r : Ending) (W' : World) : Prop :=
  (r = .returned (.bool true) ∧ zErr e (zs.getD i zd) = 0 ∧ TS w0 W' q e last ∧ KIn W' q.Bk q.Bz (zStep e i (zs, s)).1 (zStep e i (zs, s)).2 ∧ W'.heap[l]? = some (.loop (rc .ready none))) ∨
  (r = .returned (.bool false) ∧ zErr e (zs.getD i zd) = 12 ∧ TS w0 W' q e last ∧ Has W' q.Be 30 #[iv 12] ∧ W'.heap[l]? = some (.loop (rc .done (some .ret)))) ∨
  (∃ ch, r = .panicked ch ∧ ch = [{ v := holeMsg, recovered := false }] ∧ zErr e (zs.getD i zd) = 6 ∧ TS w0 W' q e last)

theorem enters_fn (k : Int) : ∀ args w, (callFunc (fnOf k) args).run Try.prog w = .ok (.enter (fnOf k) args) w := by
  unfold fnOf
  split
  · exact enters_of Try.func73 (by kernel_rfl) rfl
  · split
    · exact enters_of Try.func75 (by kernel_rfl) rfl
    · split
      · exact enters_of Try.func76 (by kernel_rfl) rfl
      · split
        · exact enters_of Try.func77 (by kernel_rfl) rfl
        · exact enters_of Try.func79 (by kernel_rfl) rfl

set_option maxRecDepth 100000 in
set_option maxHeartbeats 2000000 in
theorem round_any (w0 W : World) (q : Pl) (e : Ev) (last i l : Nat) (zs : List Zn) (s : Sm) (c : Int) (u7 u8 u9 u10 u11 u12 u13 u14 u15 u16 u17 u18 u19 u20 u21 u22 : Value) {assign body : Code}
    (hab : some (assign, body) = Try.f39.body.bind loopParts) (hl : W.heap[l]? = some (.loop (loopRec 39 (takeTmps q e u7 u8 u9 u10 u11 u12 u13 u14 u15 u16 u17 u18 u19 u20 u21 u22) #[24] assign body q.D .ready none)))
    (hts : TS w0 W q e last) (hK : KIn W q.Bk q.Bz zs s) (hi : i < zs.length) (hk : 0 ≤ e.k ∧ e.k < 5) (hw : e.k = 4 ∨ win e.x e.y = true) (hz : zs[i].ok = true) (hs : s.Bd c) (hc : c ≤ 1000000000) (gl : w0.heap.size ≤ l) :
    YieldAt Fence.wide 2 Try.prog l #[.pointer (some ⟨q.Bz, i * 4, none⟩)] W
      (RoundPost w0 q e last i l zs s (loopRec 39 (takeTmps q e u7 u8 u9 u10 u11 u12 u13 u14 u15 u16 u17 u18 u19 u20 u21 u22) #[24] assign body q.D)) := by
  obtain ⟨rc, hrc⟩ : ∃ rc, rc = loopRec 39 (takeTmps q e u7 u8 u9 u10 u11 u12 u13 u14 u15 u16 u17 u18 u19 u20 u21 u22) #[24] assign body q.D := ⟨_, rfl⟩
  rw [← hrc] at hl ⊢
  have hy := run_yield (P := Try.prog) (args := #[.pointer (some ⟨q.Bz, i * 4, none⟩)]) hl (by rw [hrc]; rfl)
  refine ⟨39, _, assign, body, by rw [hy, hrc], roundIn_wide Try.func39 ?_⟩
  clear hy
  simp only [Try.f39, Option.bind_some, loopParts, Option.some.injEq, Prod.mk.injEq] at hab
  obtain ⟨ha, hb⟩ := hab
  have hbeg := run_beginRound (P := Try.prog) hl (by rw [hrc])
  obtain ⟨W2, hW2⟩ : ∃ W2, W.putObj l (.loop { rc .ready none with state := .busy }) = W2 := ⟨_, rfl⟩
  have hl2 : W2.heap[l]? = some (.loop (rc .busy none)) := by
    rw [← hW2, World.putObj_heap_same (Array.getElem?_eq_some_iff.1 hl).1, hrc]
  have hts2 : TS w0 W2 q e last := by rw [← hW2]; exact hts.putObj hl gl _
  have hK2 : KIn W2 q.Bk q.Bz zs s := by rw [← hW2]; exact hK.putObj hl _
  rw [hW2] at hbeg
  have HB := Lib.hid hbeg
  have HR := Lib.hid hrc
  rw [ha]
  have hzip : ∀ (t : Array Value) (v : Value), (#[24].zip #[v]).foldl (fun tmps (p : Tmp × Value) => match p with | (t, a) => tmps.setIfInBounds t a) t = t.setIfInBounds 24 v := fun t v => by simp [Array.zip]
  rw [hzip]
  clear hzip
  change Code.wpIn _ _ _ _ _ { tmps := (takeTmps q e u7 u8 u9 u10 u11 u12 u13 u14 u15 u16 u17 u18 u19 u20 u21 u22).setIfInBounds 24 (.pointer (some ⟨q.Bz, i * 4, none⟩)), defers := [] } W
  have HT := Lib.hid hts2
  have HK := Lib.hid (And.intro hK2 hl2)
  have HZ := Lib.hid (And.intro hz (And.intro hs hw))
  clear hbeg hrc hW2 hl hts hK hts2 hK2 hl2 ha hz hs hw
  gi_wp2
  refine ⟨W2, HB.out, ?_⟩
  clear HB
  rw [hb]
  clear hb
  have d0 : W2.cell? ⟨q.B5, 0, none⟩ = some (.func (.func (fnOf e.k)) #[] (capOf e.k q.Bp)) := HT.out.d.cell 0
  have d1 : W2.cell? ⟨q.Bv, 3, none⟩ = some (iv e.x) := HT.out.v.cell 3
  have d2 : W2.cell? ⟨q.Bv, 4, none⟩ = some (iv e.y) := HT.out.v.cell 4
  have eg := enters_fn e.k
  obtain ⟨f, hf⟩ : ∃ f, f = fnOf e.k := ⟨_, rfl⟩
  obtain ⟨cp, hcp⟩ : ∃ cp, cp = capOf e.k q.Bp := ⟨_, rfl⟩
  rw [← hf] at d0 eg
  rw [← hcp] at d0
  have hC := deed_any e q.Bk q.Bz q.Bp i zs s c W2 HK.out.1 HT.out.p (by have := HT.out.hk; have := HT.out.gp; omega) (by have := HT.out.hz; have := HT.out.gp; omega) hi hk HZ.out.2.2 HZ.out.1 HZ.out.2.1 hc
  rw [← hf, ← hcp] at hC
  have HC := Lib.hid hC
  clear hC hf hcp
  gi_wp2_with fail
  refine ⟨trivial, ?_⟩
  refine (CallsIn.inRound l (callsIn_wide.2 HC.out)).mono ?_
  rintro r W3 (⟨rfl, ho, hK3, hne⟩ | ⟨rfl, ho, h6⟩)
  · have hT3 := HT.out.only ho
    have hl3 : W3.heap[l]? = some (.loop (rc .busy none)) := (ho.block l (Array.getElem?_eq_some_iff.1 HK.out.2).1 (by have := HT.out.hk; have := HT.out.hz; omega)).trans HK.out.2
    have hg : zs.getD i zd = zs[i] := by simp [hi]
    have hcz : W3.cell? ⟨q.Bz, i * 4 + 1, none⟩ = some (iv (zDo e zs[i] s).1.b) := by
      have hi' : i < (zStep e i (zs, s)).1.length := by simp [zStep, hi]
      rw [hK3.z.cell, (flat_at hi').2.1]
      simp [zStep, hi]
    obtain ⟨ze, hze⟩ := hT3.r
    by_cases h0 : zErr e zs[i] = 0
    · have hzk := zDo_ok (s := s) HZ.out.1 hk HZ.out.2.2 h0
      simp only [Zn.ok, Bool.and_eq_true, win_iff] at hzk
      have hle : (zDo e zs[i] s).1.b ≤ 20000 := hzk.1.2.2
      obtain ⟨zb, hzb⟩ : ∃ zb, zb = (zDo e zs[i] s).1.b := ⟨_, rfl⟩
      rw [← hzb] at hcz hle
      have hend := run_endRound (P := Try.prog) none hl3
      have HE := Lib.hid (And.intro hend (And.intro hl3 (And.intro hT3 (And.intro hK3 (And.intro h0 hg)))))
      clear hzk hzb hend hl3 hT3 hK3 h0 hg hne HC d0 d1 d2 hze ho
      gi_wp2
      obtain ⟨h1, h2, h3, h4, h5, h6⟩ := HE.out
      refine ⟨_, _, h1, .inl ⟨rfl, by rw [h6]; exact h5, h3.putObj h2 gl _, h4.putObj h2 _, ?_⟩⟩
      rw [World.putObj_heap_same (Array.getElem?_eq_some_iff.1 h2).1, HR.out]
      rfl
    · rw [hg] at hne
      have h12 : zErr e zs[i] = 12 ∧ e.k = 0 ∧ 20000 < zs[i].b + e.y := by
        unfold zErr at h0 hne ⊢
        by_cases hA : e.k = 0 ∧ 20000 < zs[i].b + e.y
        · rw [if_pos hA]; exact ⟨rfl, hA⟩
        · rw [if_neg hA] at h0 hne
          by_cases hB : e.k = 3 ∧ min zs[i].b e.y < max zs[i].a e.x
          · rw [if_pos hB] at hne; exact absurd rfl hne
          · rw [if_neg hB] at h0; exact absurd rfl h0
      have hgt : 20000 < (zDo e zs[i] s).1.b := by
        unfold zDo Zn.ice; rw [if_pos h12.2.1]; exact h12.2.2
      obtain ⟨zb, hzb⟩ : ∃ zb, zb = (zDo e zs[i] s).1.b := ⟨_, rfl⟩
      rw [← hzb] at hcz hgt
      have e0 : W3.cell? ⟨q.Be, 0, none⟩ = some (iv ze) := hze.cell 0
      have e1 := hze.frozen 0
      have hT4 := hT3.setE 12
      have hl4 : (W3.setCell ⟨q.Be, 0, none⟩ (iv 12)).heap[l]? = some (.loop (rc .busy none)) := by
        rw [Below.heap_setCell _ _ _ _ (fun e => by simp only at e; unfold Has at hze; rw [← e, hl3] at hze; cases hze)]; exact hl3
      have hend := run_endRound (P := Try.prog) (some .ret) hl4
      have HE := Lib.hid (And.intro hend (And.intro hl4 (And.intro hT4 (And.intro (hze.set 0 (iv 12)) (And.intro h12.1 hg)))))
      clear hzb hend hl3 hl4 hT3 hT4 hK3 h0 hg hne HC d0 d1 d2 hze h12 ho
      gi_wp2
      obtain ⟨h1, h2, h3, h4, h5, h6⟩ := HE.out
      refine ⟨_, _, h1, .inr (.inl ⟨rfl, by rw [h6]; exact h5, h3.putObj h2 gl _, h4.putObj h2 _, ?_⟩)⟩
      rw [World.putObj_heap_same (Array.getElem?_eq_some_iff.1 h2).1, HR.out]
      rfl
  · exact ⟨rfl, .inr (.inr ⟨_, rfl, rfl, h6, HT.out.only ho⟩)⟩
end Go.Proofs.Ytogabjlhecnbbaa

/- Run. -/
import Derived.Test.YtdmpkeaanaoeaaaAirS
namespace Go.Proofs.Ytdmpkeaanaoeaaa
open Go.RowKit Go.Shelf
attribute [local go_sem] Oper.semAt_some
def msOf (a : Air) (L : List Stp) : List Mo := L.map (moOf a)
/-- the two courses behind all steps -/
def runL (a : Air) (lo : Int) (L : List Stp) : Co := crs lo (·.c0) (msOf a L) L.length
def runH (a : Air) (hi : Int) (L : List Stp) : Co := crs hi (·.c1) (msOf a L) L.length
def runE (a : Air) (lo hi : Int) (L : List Stp) : Value :=
  if insB a lo hi L = true then .tuple #[.agg #[.int .i64 (runL a lo L).w, .int .i64 (runH a hi L).w], .agg (moi (runL a lo L) (runH a hi L)), .int .i64 0]
  else .tuple #[.agg #[.int .i64 0, .int .i64 0], .agg (moi ⟨0, 0, 0, 0, 0⟩ ⟨0, 0, 0, 0, 0⟩), .int .i64 1]
def ValPost (v : Value) (W : World) (e : Ending) (W' : World) : Prop := e = .returned v ∧ Below W.heap.size W W'
theorem insB_iff (a : Air) (lo hi : Int) (L : List Stp) : insB a lo hi L = true ↔ VA a ∧ (0 ≤ lo ∧ lo ≤ hi ∧ hi ≤ 274877906944) ∧ L.length ≤ 200 ∧ ∀ s ∈ L, VS a s := by
  unfold insB
  simp only [Bool.and_eq_true, airB_iff, spB, decide_eq_true_eq, List.all_eq_true, stepB_iff]
theorem ins_gl {a : Air} {lo hi : Int} {L : List Stp} (h : insB a lo hi L = true) : GL lo hi (msOf a L) := by
  obtain ⟨h1, h2, h3, h4⟩ := (insB_iff a lo hi L).1 h
  refine ⟨by simpa [msOf] using h3, fun m hm => ?_, by omega, by omega⟩
  obtain ⟨s, hs, rfl⟩ := List.mem_map.1 hm
  exact moOf_good h1 (h4 s hs)
theorem msOf_len (a : Air) (L : List Stp) : (msOf a L).length = L.length := by simp [msOf]
def NoP (Q : Exit → Act → World → Prop) : Exit → Act → World → Prop := fun e a w => match e with | .panic _ => False | e => Q e a w
theorem wp_nop {P : Program} {c : Code} {Q : Exit → Act → World → Prop} {a : Act} {w : World} (h : c.wp P (NoP Q) a w) : c.wp P Q a w :=
  Code.wp_mono (fun e a w h => by cases e <;> first | exact h | exact h.elim) h
/-- what Run has boxed -/
structure RB (W w : World) (a : Air) (A B : Option Addr) (ca cb : Nat) (lo hi ew ev : Int) : Prop where
  b : Below W.heap.size W w
  fa : Has w W.heap.size 26 (airc a A B ca cb)
  fw : Has w (W.heap.size + 1) 24 #[.int .i64 lo, .int .i64 hi]
  fe : Has w (W.heap.size + 2) 24 #[.int .i64 ew, .int .i64 ev]
  fm : Has w (W.heap.size + 3) 34 (moi ⟨0, 0, 0, 0, 0⟩ ⟨0, 0, 0, 0, 0⟩)
theorem RB.step {W w w' : World} {a : Air} {A B : Option Addr} {ca cb : Nat} {lo hi ew ev : Int} (h : RB W w a A B ca cb lo hi ew ev) (hb : Below w.heap.size w w') : RB W w' a A B ca cb lo hi ew ev :=
  ⟨h.b.trans (hb.mono h.b.size), h.fa.below hb h.fa.lt, h.fw.below hb h.fw.lt, h.fe.below hb h.fe.lt, h.fm.below hb h.fm.lt⟩
theorem RB.setE {W w : World} {a : Air} {A B : Option Addr} {ca cb : Nat} {lo hi ew ev : Int} (h : RB W w a A B ca cb lo hi ew ev) (x y : Int) :
    RB W ((w.setCell ⟨W.heap.size + 2, 0, none⟩ (.int .i64 x)).setCell ⟨W.heap.size + 2, 1, none⟩ (.int .i64 y)) a A B ca cb lo hi x y :=
  ⟨(h.b.setCell (by simp only; omega) _).setCell (by simp only; omega) _, (h.fa.far (by simp) _).far (by simp) _, (h.fw.far (by simp) _).far (by simp) _, (h.fe.set 0 _).set 1 _, (h.fm.far (by simp) _).far (by simp) _⟩
theorem RB.setM {W w : World} {a : Air} {A B : Option Addr} {ca cb : Nat} {lo hi ew ev : Int} (h : RB W w a A B ca cb lo hi ew ev) :
    RB W (set8 w (W.heap.size + 3) ⟨0, 0, 0, 0, 0⟩ ⟨0, 0, 0, 0, 0⟩) a A B ca cb lo hi ew ev := by
  have ho := set8_only w (W.heap.size + 3) ⟨0, 0, 0, 0, 0⟩ ⟨0, 0, 0, 0, 0⟩
  exact ⟨h.b.trans (ho.below h.b.size (fun i hi => by omega)), h.fa.only ho (show ¬ W.heap.size = W.heap.size + 3 by omega), h.fw.only ho (show ¬ W.heap.size + 1 = W.heap.size + 3 by omega), h.fe.only ho (show ¬ W.heap.size + 2 = W.heap.size + 3 by omega), set8_has h.fm⟩
theorem box_run (W : World) (a : Air) (A B : Option Addr) (ca cb : Nat) (lo hi : Int) : RB W ((((W.alloc (.cells (airc a A B ca cb) 26)).alloc (.cells #[.int .i64 lo, .int .i64 hi] 24)).alloc (.cells #[.int .i64 0, .int .i64 0] 24)).alloc (.cells (moi ⟨0, 0, 0, 0, 0⟩ ⟨0, 0, 0, 0, 0⟩) 34)) a A B ca cb lo hi 0 0 :=
  ⟨(((below_one W _).alloc (by simp) _).alloc (by simp; omega) _).alloc (by simp; omega) _, (((box_air W a A B ca cb).alloc _).alloc _).alloc _, ((has_newAt (by simp)).alloc _).alloc _, (has_newAt (by simp)).alloc _, has_newAt (by simp)⟩
set_option maxRecDepth 100000 in
set_option maxHeartbeats 4000000 in
theorem Run_any (a : Air) (A0 B0 : Option Addr) (ca cb : Nat) (lo hi : Int) (L : List Stp) (AL : Option Addr) (cL : Nat) (W : World) (har : AR W W.heap.size a A0 B0) (hr : SRow W W.heap.size AL L) (hL : L.length ≤ 9223372036854775807) :
    Calls Try.prog 13 #[airv a A0 B0 ca cb, .agg #[.int .i64 lo, .int .i64 hi], .slice AL L.length cL] W (ValPost (runE a lo hi L) W) := by
  have H0 := Lib.hid (And.intro har hr)
  have HI := Lib.hid (fun w h1 h2 => inspect_any a A0 B0 ca cb lo hi L AL cL w h1 h2 hL)
  have HM := Lib.hid (fun W A n cl => follow_any lo hi A n cl W)
  have HB := Lib.hid (box_run W a A0 B0 ca cb lo hi)
  have hlen := Lib.hid (msOf_len a L)
  unfold airv at *
  clear har hr
  obtain ⟨R, hR⟩ : ∃ R, R = runE a lo hi L := ⟨_, rfl⟩
  rw [← hR]
  have HRE := Lib.hid hR
  clear hR
  refine calls_of_at (n := 3) Try.func13 rfl ?_
  simp only [Try.ntmps13, List.size_toArray, List.length_cons, List.length_nil, Nat.reduceAdd, Nat.reduceSub, Array.replicate_succ, Array.replicate_zero, List.push_toArray, List.append_toArray, List.nil_append, List.cons_append]
  refine wpAt_seq_wp ?_
  go_wp2
  refine wpAt_seq_wp ?_
  go_wp2_with fail
  generalize ((((W.alloc (.cells (airc a A0 B0 ca cb) 26)).alloc (.cells #[.int .i64 lo, .int .i64 hi] 24)).alloc (.cells #[.int .i64 0, .int .i64 0] 24)).alloc (.cells (moi ⟨0, 0, 0, 0, 0⟩ ⟨0, 0, 0, 0, 0⟩) 34)) = w0 at HB ⊢
  refine (HI.out _ (H0.out.1.step HB.out.b) (H0.out.2.step HB.out.b)).mono ?_
  rintro e w1 ⟨hb1, (⟨hg, v, rfl, ho⟩ | ⟨hg, rfl⟩)⟩
  · obtain ⟨A, cl, rfl, hrow⟩ := own_row (v := v) (ms := msOf a L) (by rw [hlen.out]; exact ho)
    have hgl := Lib.hid (ins_gl hg)
    have HRow := Lib.hid (hrow.keep (w' := w1) (fun _ _ _ => rfl))
    have HG := Lib.hid hg
    have H1 := Lib.hid (HB.out.step hb1)
    have HW0 := Lib.hid (show W.heap.size + 3 < w0.heap.size from HB.out.fm.lt)
    clear hb1 hg ho hrow
    have c0 : w1.cell? ⟨W.heap.size + 1, 0, none⟩ = some (.int .i64 lo) := H1.out.fw.cell 0
    have c1 : w1.cell? ⟨W.heap.size + 1, 1, none⟩ = some (.int .i64 hi) := H1.out.fw.cell 1
    have e0 : w1.cell? ⟨W.heap.size + 1 + 1, 0, none⟩ = some (.int .i64 0) := H1.out.fe.cell 0
    have e1 : w1.cell? ⟨W.heap.size + 1 + 1, 1, none⟩ = some (.int .i64 0) := H1.out.fe.cell 1
    have ef : ∀ i, w1.frozen? ⟨W.heap.size + 1 + 1, i, none⟩ = false := H1.out.fe.frozen
    have el := H1.out.fe.lt
    obtain ⟨ms, hms⟩ : ∃ ms, ms = msOf a L := ⟨_, rfl⟩
    rw [← hms] at hgl HRow ⊢
    have HMS := Lib.hid hms
    clear hms
    go_wp2_with fail
    refine wpAt_seq_wp ?_
    go_wp2_with fail
    refine wpAt_seq_wp ?_
    go_wp2_with fail
    have H2 : Hid (RB W ((w1.setCell ⟨W.heap.size + 1 + 1, 0, none⟩ (.int .i64 lo)).setCell ⟨W.heap.size + 1 + 1, 1, none⟩ (.int .i64 hi)) a A0 B0 ca cb lo hi lo hi ∧ MRowB ((w1.setCell ⟨W.heap.size + 1 + 1, 0, none⟩ (.int .i64 lo)).setCell ⟨W.heap.size + 1 + 1, 1, none⟩ (.int .i64 hi)) (W.heap.size + 1 + 1 + 1 + 1) w1.heap.size A ms) := by
      refine ⟨H1.out.setE lo hi, fun k hk => ?_⟩
      have hw := HW0.out
      have := (HRow.out.keep (w' := (w1.setCell ⟨W.heap.size + 1 + 1, 0, none⟩ (.int .i64 lo)).setCell ⟨W.heap.size + 1 + 1, 1, none⟩ (.int .i64 hi)) (fun g hg _ => (Below.heap_setCell _ _ _ _ (by simp only; omega)).trans (Below.heap_setCell _ _ _ _ (by simp only; omega)))) k hk
      obtain ⟨g, o, e, hg, hc⟩ := this
      exact ⟨g, o, e, ⟨by omega, hg.2⟩, hc⟩
    have hs2 : ((w1.setCell ⟨W.heap.size + 1 + 1, 0, none⟩ (.int .i64 lo)).setCell ⟨W.heap.size + 1 + 1, 1, none⟩ (.int .i64 hi)).heap.size = w1.heap.size := by simp
    generalize (w1.setCell ⟨W.heap.size + 1 + 1, 0, none⟩ (.int .i64 lo)).setCell ⟨W.heap.size + 1 + 1, 1, none⟩ (.int .i64 hi) = w2 at H2 hs2 ⊢
    rw [← hs2] at H2
    clear c0 c1 e0 e1 ef el HRow H1 HW0 hs2
    have c0 : w2.cell? ⟨W.heap.size + 1, 0, none⟩ = some (.int .i64 lo) := H2.out.1.fw.cell 0
    have c1 : w2.cell? ⟨W.heap.size + 1, 1, none⟩ = some (.int .i64 hi) := H2.out.1.fw.cell 1
    refine wpAt_seq (wpAt_seq_wp ?_)
    go_wp2_with fail
    refine (HM.out _ _ _ _).mono ?_
    rintro e w3 ⟨rfl, rfl⟩
    go_wp2_with fail
    clear c0 c1
    obtain ⟨hF, hFB, hFs⟩ := mkF_in (lo := lo) (hi := hi) (cl := cl) (H2.out.2.row)
    have hq2 : w2.heap.size + 2 = (mkF w2 lo hi A ms.length cl).heap.size := hFs.symm
    generalize mkF w2 lo hi A ms.length cl = wm at hF hFB hFs hq2 ⊢
    refine wpAt_block ?_
    refine wpAt_rangeFunc (n := 3) (gf := 59) (lb := #[.pointer (some ⟨w2.heap.size, 0, none⟩), .pointer (some ⟨w2.heap.size + 1, 0, none⟩)]) rfl (enters_of Try.func59 (by kernel_rfl) rfl) ?_
    obtain ⟨q, hq⟩ : ∃ q : Rq, q = ⟨W.heap.size + 1 + 1, W.heap.size + 1 + 1 + 1, w2.heap.size, w2.heap.size + 1, wm.heap.size, wm.heap.size + 1⟩ := ⟨_, rfl⟩
    have hwm : W.heap.size + 3 < w2.heap.size := H2.out.1.fm.lt
    have hmB : Below W.heap.size W wm := H2.out.1.b.trans (hFB.mono (by omega))
    have g2 : ∀ (o : Obj) {g t cs}, Has wm g t cs → Has ((wm.alloc (.deferred (some []))).alloc o) g t cs := fun o _ _ _ h => (h.alloc _).alloc _
    have hT : ∀ o : Obj, RS W ((wm.alloc (.deferred (some []))).alloc o) q lo hi A ms cl (crs lo (·.c0) ms 0).w (crs hi (·.c1) ms 0).w (crs lo (·.c0) ms 0) (crs hi (·.c1) ms 0) := fun o => by
      subst hq
      have hbb : Below W.heap.size W ((wm.alloc (.deferred (some []))).alloc o) := (hmB.alloc (by omega) _).alloc (by simp; omega) _
      exact ⟨hbb, g2 o (H2.out.1.fe.below hFB (by omega)), g2 o (H2.out.1.fm.below hFB (by omega)), g2 o hF.fw, g2 o hF.fl, (Below.heap_alloc _ _ _ (by simp)).trans (World.alloc_heap_new wm _),
        H2.out.2.keep (fun g _ hg => (Below.heap_alloc _ _ _ (by simp; omega)).trans ((Below.heap_alloc _ _ _ (by omega)).trans (hFB.block g hg))), by simp only; omega⟩
    have HQ := Lib.hid hq
    have key := fun (X Y : Code) (hab : some (X, Y) = Try.f13.body.bind loopParts) =>
      fol_any q.l q.Tw q.Tl lo hi ms A cl hgl.out.n hgl.out.g hgl.out.lo hgl.out.hi ((wm.alloc (.deferred (some []))).alloc (.loop (loopRec 13 (rTmps q W.heap.size (airc a A0 B0 ca cb) lo hi AL L.length cL A ms.length cl) #[28, 29] X Y q.D .ready none)))
        (fun k w => RS W w q lo hi A ms cl (crs lo (·.c0) ms k).w (crs hi (·.c1) ms k).w (crs lo (·.c0) ms k) (crs hi (·.c1) ms k) ∧ w.heap[q.l]? = some (.loop (loopRec 13 (rTmps q W.heap.size (airc a A0 B0 ca cb) lo hi AL L.length cL A ms.length cl) #[28, 29] X Y q.D .ready none)))
        (by
          rintro k w ⟨h, -⟩
          exact ⟨h.fw, h.fl, h.r.row.more (Nat.le_of_lt h.fw.lt)⟩)
        (by
          rintro k w w' ⟨h, hl⟩ hs ho
          have hlt := (Array.getElem?_eq_some_iff.1 hl).1
          have hll : q.l < ((wm.alloc (.deferred (some []))).alloc (.loop (loopRec 13 (rTmps q W.heap.size (airc a A0 B0 ca cb) lo hi AL L.length cL A ms.length cl) #[28, 29] X Y q.D .ready none))).heap.size := by rw [HQ.out]; simp
          have hb : Below (q.l + 1) w w' := ho.below (by omega) (fun i hi' => by omega)
          exact ⟨h.under (hb.mono (by omega)), (hb.block _ (by omega)).trans hl⟩)
        (by
          rintro k w hk ⟨h, hl⟩ hs
          have := rround_any W w q W.heap.size (airc a A0 B0 ca cb) lo hi AL L.length cL A ms cl k (crs lo (·.c0) ms (k + 1)) (crs hi (·.c1) ms (k + 1)) (crs lo (·.c0) ms k) (crs hi (·.c1) ms k) hab hl h
          refine this.mono ?_
          rintro e W' ⟨rfl, h1, h2, h3⟩
          exact ⟨rfl, h1, fun b hb hl => h2 b (by rw [HQ.out]; simp at hb ⊢; omega) hl, h3⟩)
        (by
          refine ⟨hT _, ?_⟩
          have := World.alloc_heap_new (wm.alloc (.deferred (some []))) (.loop (loopRec 13 (rTmps q W.heap.size (airc a A0 B0 ca cb) lo hi AL L.length cL A ms.length cl) #[28, 29] X Y q.D .ready none))
          rw [World.size_alloc] at this
          rw [HQ.out] at this ⊢
          exact this)
    have key2 := key _ _ rfl
    clear key hT g2
    subst hq
    refine key2.mono ?_
    clear key2 hF hFB HM
    rintro r W' ⟨⟨v, rfl⟩, hJ, hl⟩
    dsimp only at hJ hl
    obtain ⟨w4, hrn, hS4⟩ : ∃ w4, (Instr.endLoop (wm.heap.size + 1)).run Try.prog W' = .ok none w4 ∧ RS W w4 ⟨W.heap.size + 1 + 1, W.heap.size + 1 + 1 + 1, w2.heap.size, w2.heap.size + 1, wm.heap.size, wm.heap.size + 1⟩ lo hi A ms cl (crs lo (·.c0) ms ms.length).w (crs hi (·.c1) ms ms.length).w (crs lo (·.c0) ms ms.length) (crs hi (·.c1) ms ms.length) :=
      ⟨_, run_endLoop (P := Try.prog) hl (by simp), hJ.put _⟩
    refine ⟨none, w4, hrn, fun i => by simp, fun i => by simp, ?_⟩
    obtain ⟨c, hc⟩ : ∃ c, c = crs lo (·.c0) ms ms.length := ⟨_, rfl⟩
    obtain ⟨d, hd⟩ : ∃ d, d = crs hi (·.c1) ms ms.length := ⟨_, rfl⟩
    rw [← hc, ← hd] at hS4
    have HRR : Hid (R = .tuple #[.agg #[.int .i64 c.w, .int .i64 d.w], .agg (moi c d), .int .i64 0]) := by
      show _ = _
      rw [HRE.out]
      unfold runE runL runH
      rw [if_pos HG.out, hc, hd, HMS.out, hlen.out]
    have HS := Lib.hid hS4
    have e0 : w4.cell? ⟨W.heap.size + 1 + 1, 0, none⟩ = some (.int .i64 c.w) := hS4.fe.cell 0
    have e1 : w4.cell? ⟨W.heap.size + 1 + 1, 1, none⟩ = some (.int .i64 d.w) := hS4.fe.cell 1
    have ef : ∀ i, w4.frozen? ⟨W.heap.size + 1 + 1, i, none⟩ = false := hS4.fe.frozen
    have el := hS4.fe.lt
    have m0 : w4.cell? ⟨W.heap.size + 1 + 1 + 1, 0, none⟩ = some (.int .i64 c.came) := hS4.fm.cell 0
    have m1 : w4.cell? ⟨W.heap.size + 1 + 1 + 1, 1, none⟩ = some (.int .i64 d.came) := hS4.fm.cell 1
    have m2 : w4.cell? ⟨W.heap.size + 1 + 1 + 1, 2, none⟩ = some (.int .i64 c.out) := hS4.fm.cell 2
    have m3 : w4.cell? ⟨W.heap.size + 1 + 1 + 1, 3, none⟩ = some (.int .i64 d.out) := hS4.fm.cell 3
    have m4 : w4.cell? ⟨W.heap.size + 1 + 1 + 1, 4, none⟩ = some (.int .i64 c.dried) := hS4.fm.cell 4
    have m5 : w4.cell? ⟨W.heap.size + 1 + 1 + 1, 5, none⟩ = some (.int .i64 d.dried) := hS4.fm.cell 5
    have m6 : w4.cell? ⟨W.heap.size + 1 + 1 + 1, 6, none⟩ = some (.int .i64 c.dew) := hS4.fm.cell 6
    have m7 : w4.cell? ⟨W.heap.size + 1 + 1 + 1, 7, none⟩ = some (.int .i64 d.dew) := hS4.fm.cell 7
    have mf : ∀ i, w4.frozen? ⟨W.heap.size + 1 + 1 + 1, i, none⟩ = false := hS4.fm.frozen
    have ml := hS4.fm.lt
    have HMZ := Lib.hid (And.intro hwm hFs)
    clear hrn hl hJ hc hd hS4 HQ hmB hwm hFs hq2
    refine wpAt_seq_wp ?_
    have HSd := Lib.hid (RS.under HS.out (below_dr' (Below.refl _ _)))
    have HSc : Hid (w4.drew.cell? ⟨W.heap.size + 1 + 1, 0, none⟩ = some (.int .i64 c.w) ∧ w4.drew.cell? ⟨W.heap.size + 1 + 1, 1, none⟩ = some (.int .i64 d.w) ∧ w4.drew.cell? ⟨W.heap.size + 1 + 1 + 1, 0, none⟩ = some (.int .i64 c.came) ∧ w4.drew.cell? ⟨W.heap.size + 1 + 1 + 1, 1, none⟩ = some (.int .i64 d.came) ∧ w4.drew.cell? ⟨W.heap.size + 1 + 1 + 1, 2, none⟩ = some (.int .i64 c.out) ∧ w4.drew.cell? ⟨W.heap.size + 1 + 1 + 1, 3, none⟩ = some (.int .i64 d.out) ∧ w4.drew.cell? ⟨W.heap.size + 1 + 1 + 1, 4, none⟩ = some (.int .i64 c.dried) ∧ w4.drew.cell? ⟨W.heap.size + 1 + 1 + 1, 5, none⟩ = some (.int .i64 d.dried) ∧ w4.drew.cell? ⟨W.heap.size + 1 + 1 + 1, 6, none⟩ = some (.int .i64 c.dew) ∧ w4.drew.cell? ⟨W.heap.size + 1 + 1 + 1, 7, none⟩ = some (.int .i64 d.dew)) := ⟨HSd.out.fe.cell 0, HSd.out.fe.cell 1, HSd.out.fm.cell 0, HSd.out.fm.cell 1, HSd.out.fm.cell 2, HSd.out.fm.cell 3, HSd.out.fm.cell 4, HSd.out.fm.cell 5, HSd.out.fm.cell 6, HSd.out.fm.cell 7⟩
    refine wp_nop ?_
    refine wp_region_late (fun w' : World => w'.cell? ⟨W.heap.size + 1 + 1, 0, none⟩ = some (.int .i64 c.w) ∧ w'.cell? ⟨W.heap.size + 1 + 1, 1, none⟩ = some (.int .i64 d.w) ∧ w'.cell? ⟨W.heap.size + 1 + 1 + 1, 0, none⟩ = some (.int .i64 c.came) ∧ w'.cell? ⟨W.heap.size + 1 + 1 + 1, 1, none⟩ = some (.int .i64 d.came) ∧ w'.cell? ⟨W.heap.size + 1 + 1 + 1, 2, none⟩ = some (.int .i64 c.out) ∧ w'.cell? ⟨W.heap.size + 1 + 1 + 1, 3, none⟩ = some (.int .i64 d.out) ∧ w'.cell? ⟨W.heap.size + 1 + 1 + 1, 4, none⟩ = some (.int .i64 c.dried) ∧ w'.cell? ⟨W.heap.size + 1 + 1 + 1, 5, none⟩ = some (.int .i64 d.dried) ∧ w'.cell? ⟨W.heap.size + 1 + 1 + 1, 6, none⟩ = some (.int .i64 c.dew) ∧ w'.cell? ⟨W.heap.size + 1 + 1 + 1, 7, none⟩ = some (.int .i64 d.dew)) [3, 4] (by kernel_rfl) ?_
    refine wpLate_take (i := 0) (oi := ?oi0) (v := ?v0) [2, 3, 4] ?hi0 (by kernel_rfl) (by kernel_rfl) (by kernel_rfl) (by kernel_rfl) (by kernel_rfl) ?hQ0 (Or.inl ⟨?hw0, ?hy0⟩) HSc.out ?rest0
    case hi0 => (simp only [List.getElem?_toArray, List.getElem?_cons_zero]; rfl)
    case hQ0 => exact fun _ _ _ h => h
    case hw0 => rfl
    case hy0 =>
      intro w' hSw
      obtain ⟨r0, r1, r2, r3, r4, r5, r6, r7, r8, r9⟩ := hSw
      go_simp
      try exact rfl
    simp only [Act.put, List.setIfInBounds_toArray, List.set_cons_zero, List.set_cons_succ]
    refine wpLate_take (i := 1) (oi := ?oi1) (v := ?v1) [3, 4] ?hi1 (by kernel_rfl) (by kernel_rfl) (by kernel_rfl) (by kernel_rfl) (by kernel_rfl) ?hQ1 (Or.inl ⟨?hw1, ?hy1⟩) HSc.out ?rest1
    case hi1 => (simp only [List.getElem?_toArray, List.getElem?_cons_zero, List.getElem?_cons_succ]; rfl)
    case hQ1 => exact fun _ _ _ h => h
    case hw1 => rfl
    case hy1 =>
      intro w' hSw
      obtain ⟨r0, r1, r2, r3, r4, r5, r6, r7, r8, r9⟩ := hSw
      go_simp
      try exact rfl
    simp only [Act.put, List.setIfInBounds_toArray, List.set_cons_zero, List.set_cons_succ]
    refine wpLate_one (i := 2) (o := ?o2) (by kernel_rfl) ?ho2 ?hk2
    case ho2 => (simp only [List.getElem?_toArray, List.getElem?_cons_zero, List.getElem?_cons_succ]; rfl)
    intro K hK
    go_simp
    have HS5 := Lib.hid (RS.under (RS.setE HS.out c.w d.w) (below_dr' (Below.refl _ _)))
    clear e0 e1 ef el m0 m1 m2 m3 m4 m5 m6 m7 mf ml
    generalize ((w4.setCell ⟨W.heap.size + 1 + 1, 0, none⟩ (.int .i64 c.w)).setCell ⟨W.heap.size + 1 + 1, 1, none⟩ (.int .i64 d.w)).drew = w5 at HS5 ⊢
    have m0 : w5.cell? ⟨W.heap.size + 1 + 1 + 1, 0, none⟩ = some (.int .i64 c.came) := HS5.out.fm.cell 0
    have m1 : w5.cell? ⟨W.heap.size + 1 + 1 + 1, 1, none⟩ = some (.int .i64 d.came) := HS5.out.fm.cell 1
    have m2 : w5.cell? ⟨W.heap.size + 1 + 1 + 1, 2, none⟩ = some (.int .i64 c.out) := HS5.out.fm.cell 2
    have m3 : w5.cell? ⟨W.heap.size + 1 + 1 + 1, 3, none⟩ = some (.int .i64 d.out) := HS5.out.fm.cell 3
    have m4 : w5.cell? ⟨W.heap.size + 1 + 1 + 1, 4, none⟩ = some (.int .i64 c.dried) := HS5.out.fm.cell 4
    have m5 : w5.cell? ⟨W.heap.size + 1 + 1 + 1, 5, none⟩ = some (.int .i64 d.dried) := HS5.out.fm.cell 5
    have m6 : w5.cell? ⟨W.heap.size + 1 + 1 + 1, 6, none⟩ = some (.int .i64 c.dew) := HS5.out.fm.cell 6
    have m7 : w5.cell? ⟨W.heap.size + 1 + 1 + 1, 7, none⟩ = some (.int .i64 d.dew) := HS5.out.fm.cell 7
    have mf : ∀ i, w5.frozen? ⟨W.heap.size + 1 + 1 + 1, i, none⟩ = false := HS5.out.fm.frozen
    have ml := HS5.out.fm.lt
    refine hK.out _ _ (fun _ => ⟨HS5.out.fe.cell 0, HS5.out.fe.cell 1, HS5.out.fm.cell 0, HS5.out.fm.cell 1, HS5.out.fm.cell 2, HS5.out.fm.cell 3, HS5.out.fm.cell 4, HS5.out.fm.cell 5, HS5.out.fm.cell 6, HS5.out.fm.cell 7⟩) ?_
    clear hK K
    try simp only [Act.put, List.setIfInBounds_toArray, List.set_cons_zero, List.set_cons_succ]
    refine wpLate_one (i := 3) (o := ?o3) (by kernel_rfl) ?ho3 ?hk3
    case ho3 => (simp only [List.getElem?_toArray, List.getElem?_cons_zero, List.getElem?_cons_succ]; rfl)
    intro K hK
    go_simp
    have HS6 := Lib.hid (RS.setM HS5.out c d)
    refine hK.out _ _ (fun h => absurd h (by decide)) ?_
    clear hK K
    try simp only [Act.put, List.setIfInBounds_toArray, List.set_cons_zero, List.set_cons_succ]
    refine wpLate_one (i := 4) (o := ?o4) (by kernel_rfl) ?ho4 ?hk4
    case ho4 => (simp only [List.getElem?_toArray, List.getElem?_cons_zero, List.getElem?_cons_succ]; rfl)
    intro K hK
    go_simp
    refine hK.out _ _ (fun h => absurd h (by decide)) ?_
    clear hK K
    try simp only [Act.put, List.setIfInBounds_toArray, List.set_cons_zero, List.set_cons_succ]
    refine wpLate_done (by kernel_rfl) ?_ _
    try simp only [Act.put, List.setIfInBounds_toArray, List.set_cons_zero, List.set_cons_succ]
    show wpAt Try.prog 13 Code.ret _ _ _
    refine wpAt_of_wp ?_
    go_wp2
    have hS := HS6.out
    have hms := HMZ.out
    have q0 := (has_putObj (o := .deferred none) hS.d hS.fe).cell 0
    have q1 := (has_putObj (o := .deferred none) hS.d hS.fe).cell 1
    have q2 := (has_putObj (o := .deferred none) hS.d hS.fm).cell 0
    have q3 := (has_putObj (o := .deferred none) hS.d hS.fm).cell 1
    have q4 := (has_putObj (o := .deferred none) hS.d hS.fm).cell 2
    have q5 := (has_putObj (o := .deferred none) hS.d hS.fm).cell 3
    have q6 := (has_putObj (o := .deferred none) hS.d hS.fm).cell 4
    have q7 := (has_putObj (o := .deferred none) hS.d hS.fm).cell 5
    have q8 := (has_putObj (o := .deferred none) hS.d hS.fm).cell 6
    have q9 := (has_putObj (o := .deferred none) hS.d hS.fm).cell 7
    unfold set8 at q0 q1 q2 q3 q4 q5 q6 q7 q8 q9
    simp at q0 q1 q2 q3 q4 q5 q6 q7 q8 q9
    refine leave_ret0 (D := wm.heap.size) (v := .tuple #[.agg #[.int .i64 c.w, .int .i64 d.w], .agg (moi c d), .int .i64 0]) hS.d (by simp [results, Try.results13, go_sem, q0, q1, q2, q3, q4, q5, q6, q7, q8, q9]) ⟨by rw [HRR.out], hS.b.trans ((below_put _ _ _).mono (by omega))⟩
  · have HG := Lib.hid hg
    have H1 := Lib.hid (HB.out.step hb1)
    clear hb1 hg
    have e0 : w1.cell? ⟨W.heap.size + 1 + 1, 0, none⟩ = some (.int .i64 0) := H1.out.fe.cell 0
    have e1 : w1.cell? ⟨W.heap.size + 1 + 1, 1, none⟩ = some (.int .i64 0) := H1.out.fe.cell 1
    have ef : ∀ i, w1.frozen? ⟨W.heap.size + 1 + 1, i, none⟩ = false := H1.out.fe.frozen
    have el := H1.out.fe.lt
    have m0 : w1.cell? ⟨W.heap.size + 1 + 1 + 1, 0, none⟩ = some (.int .i64 0) := H1.out.fm.cell 0
    have m1 : w1.cell? ⟨W.heap.size + 1 + 1 + 1, 1, none⟩ = some (.int .i64 0) := H1.out.fm.cell 1
    have m2 : w1.cell? ⟨W.heap.size + 1 + 1 + 1, 2, none⟩ = some (.int .i64 0) := H1.out.fm.cell 2
    have m3 : w1.cell? ⟨W.heap.size + 1 + 1 + 1, 3, none⟩ = some (.int .i64 0) := H1.out.fm.cell 3
    have m4 : w1.cell? ⟨W.heap.size + 1 + 1 + 1, 4, none⟩ = some (.int .i64 0) := H1.out.fm.cell 4
    have m5 : w1.cell? ⟨W.heap.size + 1 + 1 + 1, 5, none⟩ = some (.int .i64 0) := H1.out.fm.cell 5
    have m6 : w1.cell? ⟨W.heap.size + 1 + 1 + 1, 6, none⟩ = some (.int .i64 0) := H1.out.fm.cell 6
    have m7 : w1.cell? ⟨W.heap.size + 1 + 1 + 1, 7, none⟩ = some (.int .i64 0) := H1.out.fm.cell 7
    have mf : ∀ i, w1.frozen? ⟨W.heap.size + 1 + 1 + 1, i, none⟩ = false := H1.out.fm.frozen
    have ml := H1.out.fm.lt
    go_wp2_with fail
    refine wpAt_seq_wp ?_
    go_wp2_with fail
    have hS := H1.out.setE 0 0
    have hS := hS.setM
    unfold set8 at hS
    have q0 := hS.fe.cell 0
    have q1 := hS.fe.cell 1
    have q2 := hS.fm.cell 0
    have q3 := hS.fm.cell 1
    have q4 := hS.fm.cell 2
    have q5 := hS.fm.cell 3
    have q6 := hS.fm.cell 4
    have q7 := hS.fm.cell 5
    have q8 := hS.fm.cell 6
    have q9 := hS.fm.cell 7
    simp at q0 q1 q2 q3 q4 q5 q6 q7 q8 q9
    refine ⟨.tuple #[.agg #[.int .i64 0, .int .i64 0], .agg (moi ⟨0, 0, 0, 0, 0⟩ ⟨0, 0, 0, 0, 0⟩), .int .i64 1], by simp [results, Try.results13, go_sem, q0, q1, q2, q3, q4, q5, q6, q7, q8, q9], ?_, hS.b⟩
    rw [HRE.out]
    unfold runE
    rw [if_neg (by rw [HG.out]; simp)]
end Go.Proofs.Ytdmpkeaanaoeaaa

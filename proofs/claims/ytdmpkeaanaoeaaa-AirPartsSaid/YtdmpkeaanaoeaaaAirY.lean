/- Rust. -/
import Derived.Test.YtdmpkeaanaoeaaaAirX
namespace Go.Proofs.Ytdmpkeaanaoeaaa
open Go.RowKit Go.Shelf
attribute [local go_sem] Oper.semAt_some
def wetAt (w : Int) (f : Mo → Int) (lim : Int) (ms : List Mo) (k : Nat) : Bool := match ms[k]? with | some m => wetB (crs w f ms (k + 1)).w lim m.ho | none => false
theorem wetAt_eq {w : Int} {f : Mo → Int} {lim : Int} {ms : List Mo} {k : Nat} (h : k < ms.length) : wetAt w f lim ms k = wetB (crs w f ms (k + 1)).w lim ms[k].ho := by
  unfold wetAt; rw [List.getElem?_eq_getElem h]
def rustL (lo lim : Int) (ms : List Mo) (n : Nat) : Int := cntI (wetAt lo (·.c0) lim ms) n
def rustH (hi lim : Int) (ms : List Mo) (n : Nat) : Int := cntI (wetAt hi (·.c1) lim ms) n
theorem rustL_step {lo lim : Int} {ms : List Mo} {k : Nat} (h : k < ms.length) : rustL lo lim ms (k + 1) = rustL lo lim ms k + bit (wetB (crs lo (·.c0) ms (k + 1)).w lim ms[k].ho) := by
  show cntI _ k + (if wetAt lo (·.c0) lim ms k = true then 1 else 0) = _
  rw [wetAt_eq h]; rfl
theorem rustH_step {hi lim : Int} {ms : List Mo} {k : Nat} (h : k < ms.length) : rustH hi lim ms (k + 1) = rustH hi lim ms k + bit (wetB (crs hi (·.c1) ms (k + 1)).w lim ms[k].ho) := by
  show cntI _ k + (if wetAt hi (·.c1) lim ms k = true then 1 else 0) = _
  rw [wetAt_eq h]; rfl
def rustR (a : Air) (lo hi lim : Int) (L : List Stp) : Int × Int × Int :=
  if insB a lo hi L = true then
    (if inB lim 0 1000 = true then (rustL lo lim (msOf a L) L.length, rustH hi lim (msOf a L) L.length, 0) else (0, 0, 2))
  else (0, 0, 1)
def SEPost (x : Int × Int × Int) (W : World) (e : Ending) (W' : World) : Prop :=
  e = .returned (.tuple #[.agg #[.int .i64 x.1, .int .i64 x.2.1], .int .i64 x.2.2]) ∧ Below W.heap.size W W'
/-- what Rust has boxed -/
structure UB (W w : World) (a : Air) (A B : Option Addr) (ca cb : Nat) (lo hi lim : Int) : Prop where
  b : Below W.heap.size W w
  fa : Has w W.heap.size 26 (airc a A B ca cb)
  fw : Has w (W.heap.size + 1) 24 #[.int .i64 lo, .int .i64 hi]
  fl : Has w (W.heap.size + 2) 3 #[.int .i64 lim]
  fr : Has w (W.heap.size + 3) 24 #[.int .i64 0, .int .i64 0]
theorem UB.step {W w w' : World} {a : Air} {A B : Option Addr} {ca cb : Nat} {lo hi lim : Int} (h : UB W w a A B ca cb lo hi lim) (hb : Below w.heap.size w w') : UB W w' a A B ca cb lo hi lim :=
  ⟨h.b.trans (hb.mono h.b.size), h.fa.below hb h.fa.lt, h.fw.below hb h.fw.lt, h.fl.below hb h.fl.lt, h.fr.below hb h.fr.lt⟩
theorem UB.setR {W w : World} {a : Air} {A B : Option Addr} {ca cb : Nat} {lo hi lim : Int} (h : UB W w a A B ca cb lo hi lim) : UB W ((w.setCell ⟨W.heap.size + 1 + 1 + 1, 0, none⟩ (.int .i64 0)).setCell ⟨W.heap.size + 1 + 1 + 1, 1, none⟩ (.int .i64 0)) a A B ca cb lo hi lim :=
  ⟨(h.b.setCell (by simp only; omega) _).setCell (by simp only; omega) _, (h.fa.far (by simp only; omega) _).far (by simp only; omega) _, (h.fw.far (by simp only; omega) _).far (by simp only; omega) _, (h.fl.far (by simp only; omega) _).far (by simp only; omega) _, (h.fr.set 0 _).set 1 _⟩
theorem box_rust (W : World) (a : Air) (A B : Option Addr) (ca cb : Nat) (lo hi lim : Int) : UB W ((((W.alloc (.cells (airc a A B ca cb) 26)).alloc (.cells #[.int .i64 lo, .int .i64 hi] 24)).alloc (.cells #[.int .i64 lim] 3)).alloc (.cells #[.int .i64 0, .int .i64 0] 24)) a A B ca cb lo hi lim :=
  ⟨(((below_one W _).alloc (by simp) _).alloc (by simp; omega) _).alloc (by simp; omega) _, (((box_air W a A B ca cb).alloc _).alloc _).alloc _, ((has_newAt (by simp)).alloc _).alloc _, (has_newAt (by simp)).alloc _, has_newAt (by simp)⟩
set_option maxRecDepth 100000 in
set_option maxHeartbeats 4000000 in
theorem Rust_any (a : Air) (A0 B0 : Option Addr) (ca cb : Nat) (lo hi lim : Int) (L : List Stp) (AL : Option Addr) (cL : Nat) (W : World) (har : AR W W.heap.size a A0 B0) (hr : SRow W W.heap.size AL L) (hL : L.length ≤ 9223372036854775807) :
    Calls Try.prog 17 #[airv a A0 B0 ca cb, .agg #[.int .i64 lo, .int .i64 hi], .slice AL L.length cL, .int .i64 lim] W (SEPost (rustR a lo hi lim L) W) := by
  have H0 := Lib.hid (And.intro har hr)
  have HI := Lib.hid (fun w h1 h2 => inspect_any a A0 B0 ca cb lo hi L AL cL w h1 h2 hL)
  have HM := Lib.hid (fun W A n cl => follow_any lo hi A n cl W)
  have HB := Lib.hid (box_rust W a A0 B0 ca cb lo hi lim)
  have hlen := Lib.hid (msOf_len a L)
  have HW := Lib.hid (fun w => within_any lim 0 1000 w)
  unfold airv at *
  clear har hr
  obtain ⟨R, hR⟩ : ∃ R, R = rustR a lo hi lim L := ⟨_, rfl⟩
  rw [← hR]
  have HRE := Lib.hid hR
  clear hR
  refine calls_of_at (n := 3) Try.func17 rfl ?_
  simp only [Try.ntmps17, List.size_toArray, List.length_cons, List.length_nil, Nat.reduceAdd, Nat.reduceSub, Array.replicate_succ, Array.replicate_zero, List.push_toArray, List.append_toArray, List.nil_append, List.cons_append]
  refine wpAt_seq_wp ?_
  go_wp2
  refine wpAt_seq_wp ?_
  go_wp2_with fail
  generalize ((((W.alloc (.cells (airc a A0 B0 ca cb) 26)).alloc (.cells #[.int .i64 lo, .int .i64 hi] 24)).alloc (.cells #[.int .i64 lim] 3)).alloc (.cells #[.int .i64 0, .int .i64 0] 24)) = w0 at HB ⊢
  refine (HI.out _ (H0.out.1.step HB.out.b) (H0.out.2.step HB.out.b)).mono ?_
  rintro e w1 ⟨hb1, (⟨hg, v, rfl, ho⟩ | ⟨hg, rfl⟩)⟩
  · obtain ⟨A, cl, rfl, hrow⟩ := own_row (v := v) (ms := msOf a L) (by rw [hlen.out]; exact ho)
    have hgl := Lib.hid (ins_gl hg)
    have HRow := Lib.hid hrow.row
    have HG := Lib.hid hg
    have H1 := Lib.hid (HB.out.step hb1)
    clear hb1 hg ho hrow
    obtain ⟨ms, hms⟩ : ∃ ms, ms = msOf a L := ⟨_, rfl⟩
    rw [← hms] at HRow hgl ⊢
    have HMS := Lib.hid hms
    clear hms
    go_wp2_with fail
    refine wpAt_seq_wp ?_
    go_wp2_with fail
    have H2 := Lib.hid (H1.out.step (below_one w1 (.cells #[.slice A ms.length cl] 67)))
    have HA2 := Lib.hid (Has.new w1 67 #[.slice A ms.length cl])
    have HRow2 := Lib.hid (HRow.out.below (below_one w1 (.cells #[.slice A ms.length cl] 67)))
    have hs2 : (w1.alloc (.cells #[.slice A ms.length cl] 67)).heap.size = w1.heap.size + 1 := by simp
    have hgb := Lib.hid (show W.heap.size + 3 < w1.heap.size from H1.out.fr.lt)
    clear H1 HRow
    generalize w1.heap.size = gb at HA2 HRow2 hs2 hgb ⊢
    generalize w1.alloc (.cells #[.slice A ms.length cl] 67) = w2 at H2 HA2 HRow2 hs2 ⊢
    have c7 : w2.cell? ⟨W.heap.size + 1 + 1, 0, none⟩ = some (.int .i64 lim) := H2.out.fl.cell 0
    refine wpAt_seq_wp ?_
    go_wp2_with fail
    refine (HW.out _).mono ?_
    rintro e w3 ⟨rfl, rfl⟩
    cases hlim : inB lim 0 1000
    · have HE := Lib.hid (show R = (0, 0, 2) by rw [HRE.out]; unfold rustR; rw [if_pos HG.out, if_neg (by rw [hlim]; simp)])
      clear hlim c7
      have e0 : w3.cell? ⟨W.heap.size + 1 + 1 + 1, 0, none⟩ = some (.int .i64 0) := H2.out.fr.cell 0
      have e1 : w3.cell? ⟨W.heap.size + 1 + 1 + 1, 1, none⟩ = some (.int .i64 0) := H2.out.fr.cell 1
      have ef : ∀ i, w3.frozen? ⟨W.heap.size + 1 + 1 + 1, i, none⟩ = false := H2.out.fr.frozen
      have el := H2.out.fr.lt
      go_wp2_with fail
      have hS := H2.out.setR
      have q0 := hS.fr.cell 0
      have q1 := hS.fr.cell 1
      simp at q0 q1
      refine ⟨.tuple #[.agg #[.int .i64 0, .int .i64 0], .int .i64 2], by simp [results, Try.results17, go_sem, q0, q1], by rw [HE.out], hS.b⟩
    have HLM := Lib.hid hlim
    clear hlim c7
    go_wp2_with fail
    refine wpAt_seq_wp ?_
    go_wp2_with fail
    have H3 := Lib.hid (H2.out.step (below_one w3 (.cells #[.int .i64 0, .int .i64 0] 24)))
    have HX3 := Lib.hid (Has.new w3 24 #[.int .i64 0, .int .i64 0])
    have HA3 := Lib.hid (HA2.out.below (below_one w3 (.cells #[.int .i64 0, .int .i64 0] 24)) HA2.out.lt)
    have HRow3 := Lib.hid (HRow2.out.below ((below_one w3 (.cells #[.int .i64 0, .int .i64 0] 24)).mono (by omega)))
    have hs3 : (w3.alloc (.cells #[.int .i64 0, .int .i64 0] 24)).heap.size = gb + 1 + 1 := by simp [hs2]
    rw [hs2] at HX3
    clear H2 HA2 HRow2
    generalize w3.alloc (.cells #[.int .i64 0, .int .i64 0] 24) = w4 at H3 HX3 HA3 HRow3 hs3 ⊢
    have c0 : w4.cell? ⟨W.heap.size + 1, 0, none⟩ = some (.int .i64 lo) := H3.out.fw.cell 0
    have c1 : w4.cell? ⟨W.heap.size + 1, 1, none⟩ = some (.int .i64 hi) := H3.out.fw.cell 1
    have c2 : w4.cell? ⟨gb, 0, none⟩ = some (.slice A ms.length cl) := HA3.out.cell 0
    have HS3 := Lib.hid hs3
    clear hs3 hs2
    refine wpAt_seq (wpAt_seq_wp ?_)
    go_wp2_with fail
    refine (HM.out _ _ _ _).mono ?_
    rintro e w5 ⟨rfl, rfl⟩
    go_wp2_with fail
    clear c0 c1 c2
    have hs4 := HS3.out
    obtain ⟨hF, hFB, hFs⟩ := mkF_in (lo := lo) (hi := hi) (cl := cl) (HRow3.out.more (show gb ≤ w4.heap.size by omega))
    generalize mkF w4 lo hi A ms.length cl = wm at hF hFB hFs ⊢
    refine wpAt_block ?_
    refine wpAt_rangeFunc (n := 3) (gf := 59) (lb := #[.pointer (some ⟨w4.heap.size, 0, none⟩), .pointer (some ⟨w4.heap.size + 1, 0, none⟩)]) rfl (enters_of Try.func59 (by kernel_rfl) rfl) ?_
    obtain ⟨q, hq⟩ : ∃ q : Uq, q = ⟨W.heap.size + 1 + 1, W.heap.size + 1 + 1 + 1, gb, gb + 1, w4.heap.size, w4.heap.size + 1, wm.heap.size, wm.heap.size + 1⟩ := ⟨_, rfl⟩
    have hgb' := hgb.out
    have hmB : Below W.heap.size W wm := H3.out.b.trans (hFB.mono (by omega))
    have g1 : ∀ (o : Obj) {g t cs}, Has w4 g t cs → Has ((wm.alloc (.deferred (some []))).alloc o) g t cs := fun o _ _ _ h => ((h.below hFB h.lt).alloc _).alloc _
    have g2 : ∀ (o : Obj) {g t cs}, Has wm g t cs → Has ((wm.alloc (.deferred (some []))).alloc o) g t cs := fun o _ _ _ h => (h.alloc _).alloc _
    have hgg : Below gb w4 wm := hFB.mono (show gb ≤ w4.heap.size by omega)
    have hgw : gb ≤ wm.heap.size := by omega
    have hT : ∀ o : Obj, US W ((wm.alloc (.deferred (some []))).alloc o) q lo hi lim A ms cl (rustL lo lim ms 0) (rustH hi lim ms 0) := fun o => by
      subst hq
      have hbb : Below W.heap.size W ((wm.alloc (.deferred (some []))).alloc o) := (hmB.alloc (by omega) _).alloc (by simp; omega) _
      exact ⟨hbb, g1 o H3.out.fl, g1 o H3.out.fr, g1 o HA3.out, g1 o HX3.out, g2 o hF.fw, g2 o hF.fl, (Below.heap_alloc _ _ _ (by simp)).trans (World.alloc_heap_new wm _),
        HRow3.out.below (hgg.trans (((below_one wm _).alloc (by simp) _).mono hgw)), by simp only; omega⟩
    have HQ := Lib.hid hq
    have hlm := HLM.out
    simp only [inB, decide_eq_true_eq] at hlm
    have key := fun (X Y : Code) (hab : some (X, Y) = Try.f17.body.bind loopParts) =>
      fol_any q.l q.Tw q.Tl lo hi ms A cl hgl.out.n hgl.out.g hgl.out.lo hgl.out.hi ((wm.alloc (.deferred (some []))).alloc (.loop (loopRec 17 (uTmps q W.heap.size (airc a A0 B0 ca cb) lo hi lim AL L.length cL A ms.length cl) #[33, 34] X Y q.D .ready none)))
        (fun k w => US W w q lo hi lim A ms cl (rustL lo lim ms k) (rustH hi lim ms k) ∧ w.heap[q.l]? = some (.loop (loopRec 17 (uTmps q W.heap.size (airc a A0 B0 ca cb) lo hi lim AL L.length cL A ms.length cl) #[33, 34] X Y q.D .ready none)))
        (by
          rintro k w ⟨h, -⟩
          exact ⟨h.fw, h.ft, h.r.more (Nat.le_of_lt h.fa.lt)⟩)
        (by
          rintro k w w' ⟨h, hl⟩ hs ho
          have hlt := (Array.getElem?_eq_some_iff.1 hl).1
          have hll : q.l < ((wm.alloc (.deferred (some []))).alloc (.loop (loopRec 17 (uTmps q W.heap.size (airc a A0 B0 ca cb) lo hi lim AL L.length cL A ms.length cl) #[33, 34] X Y q.D .ready none))).heap.size := by rw [HQ.out]; simp
          have hb : Below (q.l + 1) w w' := ho.below (by omega) (fun i hi' => by omega)
          exact ⟨h.under (hb.mono (by omega)), (hb.block _ (by omega)).trans hl⟩)
        (by
          rintro k w hk ⟨h, hl⟩ hs
          have hn200 := hgl.out.n
          have x1 := cntI_bd (wetAt lo (·.c0) lim ms) k
          have x2 := cntI_bd (wetAt hi (·.c1) lim ms) k
          have := uround_any W w q W.heap.size (airc a A0 B0 ca cb) lo hi lim AL L.length cL A ms cl k (crs lo (·.c0) ms (k + 1)) (crs hi (·.c1) ms (k + 1)) (rustL lo lim ms k) (rustH hi lim ms k) hab hl h hk
            (by unfold rustL; omega) (by unfold rustH; omega) (hgl.out.g _ (List.getElem_mem hk)) hlm (crs_good (l := ms) hgl.out.lo hgl.out.g lo_ok (k + 1) (by omega)).w (crs_good (l := ms) hgl.out.hi hgl.out.g hi_ok (k + 1) (by omega)).w
          rw [← rustL_step hk, ← rustH_step hk] at this
          refine this.mono ?_
          rintro e W' ⟨rfl, h1, h2, h3⟩
          exact ⟨rfl, h1, fun b hb hl => h2 b (by rw [HQ.out]; simp at hb ⊢; omega) hl, h3⟩)
        (by
          refine ⟨hT _, ?_⟩
          have := World.alloc_heap_new (wm.alloc (.deferred (some []))) (.loop (loopRec 17 (uTmps q W.heap.size (airc a A0 B0 ca cb) lo hi lim AL L.length cL A ms.length cl) #[33, 34] X Y q.D .ready none))
          rw [World.size_alloc] at this
          rw [HQ.out] at this ⊢
          exact this)
    have key2 := key _ _ rfl
    clear key hT g1 g2
    subst hq
    refine key2.mono ?_
    clear key2 hF hFB HM
    rintro r W' ⟨⟨v, rfl⟩, hJ, hl⟩
    dsimp only at hJ hl
    obtain ⟨w6, hrn, hS4⟩ : ∃ w6, (Instr.endLoop (wm.heap.size + 1)).run Try.prog W' = .ok none w6 ∧ US W w6 ⟨W.heap.size + 1 + 1, W.heap.size + 1 + 1 + 1, gb, gb + 1, w4.heap.size, w4.heap.size + 1, wm.heap.size, wm.heap.size + 1⟩ lo hi lim A ms cl (rustL lo lim ms ms.length) (rustH hi lim ms ms.length) :=
      ⟨_, run_endLoop (P := Try.prog) hl (by simp), hJ.put _⟩
    refine ⟨none, w6, hrn, fun i => by simp, fun i => by simp, ?_⟩
    obtain ⟨x, hx⟩ : ∃ x, x = rustL lo lim ms ms.length := ⟨_, rfl⟩
    obtain ⟨y, hy⟩ : ∃ y, y = rustH hi lim ms ms.length := ⟨_, rfl⟩
    rw [← hx, ← hy] at hS4
    have HRR := Lib.hid (show R = (x, y, 0) by
      rw [HRE.out]
      unfold rustR
      rw [if_pos HG.out, if_pos HLM.out, hx, hy, HMS.out, hlen.out])
    have HS := Lib.hid hS4
    have x0 : w6.cell? ⟨gb + 1, 0, none⟩ = some (.int .i64 x) := hS4.fx.cell 0
    have x1 : w6.cell? ⟨gb + 1, 1, none⟩ = some (.int .i64 y) := hS4.fx.cell 1
    have e0 : w6.cell? ⟨W.heap.size + 1 + 1 + 1, 0, none⟩ = some (.int .i64 0) := hS4.fr.cell 0
    have e1 : w6.cell? ⟨W.heap.size + 1 + 1 + 1, 1, none⟩ = some (.int .i64 0) := hS4.fr.cell 1
    have ef : ∀ i, w6.frozen? ⟨W.heap.size + 1 + 1 + 1, i, none⟩ = false := hS4.fr.frozen
    have el := hS4.fr.lt
    have HMZ := Lib.hid (And.intro hgb' (And.intro hFs hs4))
    clear hrn hl hJ hx hy hS4 HQ hmB hgb' hFs hs4 hlm
    refine wpAt_seq_wp ?_
    go_wp2
    show wpAt Try.prog 17 Code.ret _ _ _
    refine wpAt_of_wp ?_
    go_wp2
    have hms := HMZ.out
    have hd0 : ((w6.setCell ⟨W.heap.size + 1 + 1 + 1, 0, none⟩ (.int .i64 x)).setCell ⟨W.heap.size + 1 + 1 + 1, 1, none⟩ (.int .i64 y)).heap[wm.heap.size]? = some (.deferred (some [])) := (Below.heap_setCell _ _ _ _ (by simp only; omega)).trans ((Below.heap_setCell _ _ _ _ (by simp only; omega)).trans HS.out.d)
    have hf0 := (HS.out.fr.set 0 (.int .i64 x)).set 1 (.int .i64 y)
    have hb0 := (HS.out.b.setCell (p := ⟨W.heap.size + 1 + 1 + 1, 0, none⟩) (by simp only; omega) (.int .i64 x)).setCell (p := ⟨W.heap.size + 1 + 1 + 1, 1, none⟩) (by simp only; omega) (.int .i64 y)
    have q0 := (has_putObj (o := .deferred none) hd0 hf0).cell 0
    have q1 := (has_putObj (o := .deferred none) hd0 hf0).cell 1
    simp at q0 q1
    exact leave_ret0 (D := wm.heap.size) (v := .tuple #[.agg #[.int .i64 x, .int .i64 y], .int .i64 0]) hd0 (by simp [results, Try.results17, go_sem, q0, q1]) ⟨by rw [HRR.out], hb0.trans ((below_put _ _ _).mono (by omega))⟩
  · have HE := Lib.hid (show R = (0, 0, 1) by rw [HRE.out]; unfold rustR; rw [if_neg (by rw [hg]; simp)])
    have H1 := Lib.hid (HB.out.step hb1)
    clear hb1 hg
    go_wp2_with fail
    have H2 := Lib.hid (H1.out.step (below_one w1 (.cells #[.slice none 0 0] 67)))
    clear H1
    generalize w1.heap.size = gb
    generalize w1.alloc (.cells #[.slice none 0 0] 67) = w2 at H2 ⊢
    have e0 : w2.cell? ⟨W.heap.size + 1 + 1 + 1, 0, none⟩ = some (.int .i64 0) := H2.out.fr.cell 0
    have e1 : w2.cell? ⟨W.heap.size + 1 + 1 + 1, 1, none⟩ = some (.int .i64 0) := H2.out.fr.cell 1
    have ef : ∀ i, w2.frozen? ⟨W.heap.size + 1 + 1 + 1, i, none⟩ = false := H2.out.fr.frozen
    have el := H2.out.fr.lt
    refine wpAt_seq_wp ?_
    go_wp2_with fail
    have hS := H2.out.setR
    have q0 := hS.fr.cell 0
    have q1 := hS.fr.cell 1
    simp at q0 q1
    refine ⟨.tuple #[.agg #[.int .i64 0, .int .i64 0], .int .i64 1], by simp [results, Try.results17, go_sem, q0, q1], by rw [HE.out], hS.b⟩
end Go.Proofs.Ytdmpkeaanaoeaaa

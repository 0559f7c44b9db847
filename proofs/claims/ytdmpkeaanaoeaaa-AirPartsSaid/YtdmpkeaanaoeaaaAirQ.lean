/- fog. -/
import Derived.Test.YtdmpkeaanaoeaaaAirP
namespace Go.Proofs.Ytdmpkeaanaoeaaa
open Go.RowKit Go.Shelf
attribute [local go_sem] Oper.semAt_some
def fogS (lo : Int) (ms : List Mo) (n : Nat) : Int := fstI (fun i => decide (0 < (crs lo (·.c0) ms (i + 1)).dew)) n
def fogP (hi : Int) (ms : List Mo) (n : Nat) : Int := fstI (fun i => decide (0 < (crs hi (·.c1) ms (i + 1)).dew)) n
theorem fogS_step (lo : Int) (ms : List Mo) (n : Nat) : fogS lo ms (n + 1) = nxt (fogS lo ms n) n (decide (0 < (crs lo (·.c0) ms (n + 1)).dew)) := fstI_step _ n
theorem fogP_step (hi : Int) (ms : List Mo) (n : Nat) : fogP hi ms (n + 1) = nxt (fogP hi ms n) n (decide (0 < (crs hi (·.c1) ms (n + 1)).dew)) := fstI_step _ n
/-- moments, and water, that can be -/
structure GL (lo hi : Int) (ms : List Mo) : Prop where
  n : ms.length ≤ 200
  g : ∀ m ∈ ms, GM m
  lo : 0 ≤ lo ∧ lo ≤ 274877906944
  hi : 0 ≤ hi ∧ hi ≤ 274877906944
theorem has_putObj {W : World} {D g : Nat} {t : TypeId} {cs : Array Value} {o : Obj} {x} (hD : W.heap[D]? = some (.deferred x)) (hB : Has W g t cs) : Has (W.putObj D o) g t cs :=
  (World.putObj_heap_other (fun e => by subst e; unfold Has at hB; rw [hD] at hB; cases hB)).trans hB
def TwoPost (x y : Int) (W : World) (e : Ending) (W' : World) : Prop := e = .returned (.tuple #[.int .i64 x, .int .i64 y]) ∧ Below W.heap.size W W'
theorem mkF_in {W : World} {lo hi : Int} {A : Option Addr} {ms : List Mo} {cl : Nat} (hr : MRow W W.heap.size A ms) :
    FIt (mkF W lo hi A ms.length cl) W.heap.size (W.heap.size + 1) lo hi ms A cl ∧ Below W.heap.size W (mkF W lo hi A ms.length cl) ∧ (mkF W lo hi A ms.length cl).heap.size = W.heap.size + 2 := by
  have hb := (below_one W (.cells #[.int .i64 lo, .int .i64 hi] 24)).alloc (by simp) (.cells #[.slice A ms.length cl] 67)
  exact ⟨⟨(Has.new _ _ _).alloc _, has_newAt (by simp), hr.step hb⟩, hb, by simp [mkF]⟩
set_option maxRecDepth 100000 in
set_option maxHeartbeats 4000000 in
theorem fog_any (lo hi : Int) (ms : List Mo) (A : Option Addr) (cl : Nat) (w : World) (hg : GL lo hi ms) (hr : MRow w w.heap.size A ms) :
    Calls Try.prog 43 #[.agg #[.int .i64 lo, .int .i64 hi], .slice A ms.length cl] w (TwoPost (fogS lo ms ms.length) (fogP hi ms ms.length) w) := by
  have H0 := Lib.hid (And.intro hg hr)
  have HM := Lib.hid (fun W => follow_any lo hi A ms.length cl W)
  clear hg hr
  refine calls_of_at (n := 3) Try.func43 rfl ?_
  simp only [Try.ntmps43, List.size_toArray, List.length_cons, List.length_nil, Nat.reduceAdd, Nat.reduceSub, Array.replicate_succ, Array.replicate_zero, List.push_toArray, List.append_toArray, List.nil_append, List.cons_append]
  refine wpAt_seq_wp ?_
  go_wp2
  refine wpAt_seq_wp ?_
  go_wp2
  refine wpAt_seq (wpAt_seq_wp ?_)
  go_wp2_with fail
  refine (HM.out _).mono ?_
  rintro e w2 ⟨rfl, rfl⟩
  go_wp2_with fail
  have k1 : Has (((w.alloc (.cells #[.int .i64 lo, .int .i64 hi] 24)).alloc (.cells #[.int .i64 (-1)] 3)).alloc (.cells #[.int .i64 (-1)] 3)) (w.heap.size + 1) 3 #[.int .i64 (-1)] := (has_newAt (by simp)).alloc _
  have k2 : Has (((w.alloc (.cells #[.int .i64 lo, .int .i64 hi] 24)).alloc (.cells #[.int .i64 (-1)] 3)).alloc (.cells #[.int .i64 (-1)] 3)) (w.heap.size + 1 + 1) 3 #[.int .i64 (-1)] := has_newAt (by simp)
  have hB : Below w.heap.size w (((w.alloc (.cells #[.int .i64 lo, .int .i64 hi] 24)).alloc (.cells #[.int .i64 (-1)] 3)).alloc (.cells #[.int .i64 (-1)] 3)) := ((below_one w _).alloc (by simp) _).alloc (by simp; omega) _
  have hsz : (((w.alloc (.cells #[.int .i64 lo, .int .i64 hi] 24)).alloc (.cells #[.int .i64 (-1)] 3)).alloc (.cells #[.int .i64 (-1)] 3)).heap.size = w.heap.size + 3 := by simp
  generalize (((w.alloc (.cells #[.int .i64 lo, .int .i64 hi] 24)).alloc (.cells #[.int .i64 (-1)] 3)).alloc (.cells #[.int .i64 (-1)] 3)) = w5 at k1 k2 hB hsz ⊢
  obtain ⟨hF, hFB, hFs⟩ := mkF_in (lo := lo) (hi := hi) (cl := cl) (H0.out.2.step hB)
  generalize mkF w5 lo hi A ms.length cl = wm at hF hFB hFs ⊢
  rw [hsz] at hF
  refine wpAt_block ?_
  refine wpAt_rangeFunc (n := 3) (gf := 59) (lb := #[.pointer (some ⟨w.heap.size + 1 + 1 + 1, 0, none⟩), .pointer (some ⟨w.heap.size + 1 + 1 + 1 + 1, 0, none⟩)]) rfl (enters_of Try.func59 (by kernel_rfl) rfl) ?_
  obtain ⟨q, hq⟩ : ∃ q : Gq, q = ⟨w.heap.size + 1, w.heap.size + 1 + 1, w.heap.size + 1 + 1 + 1, w.heap.size + 1 + 1 + 1 + 1, wm.heap.size, wm.heap.size + 1⟩ := ⟨_, rfl⟩
  have hms : wm.heap.size = w.heap.size + 5 := by omega
  have hmB : Below w.heap.size w wm := hB.trans (hFB.mono (by omega))
  have g2 : ∀ (o : Obj) {g t cs}, Has wm g t cs → Has ((wm.alloc (.deferred (some []))).alloc o) g t cs := fun o _ _ _ h => (h.alloc _).alloc _
  have hT : ∀ o : Obj, GS w ((wm.alloc (.deferred (some []))).alloc o) q lo hi A ms cl (fogS lo ms 0) (fogP hi ms 0) := fun o => by
    subst hq
    have hbb : Below w.heap.size w ((wm.alloc (.deferred (some []))).alloc o) := (hmB.alloc (by omega) _).alloc (by simp; omega) _
    exact ⟨hbb, g2 o (k1.below hFB (by omega)), g2 o (k2.below hFB (by omega)), g2 o hF.fw, g2 o hF.fl, (Below.heap_alloc _ _ _ (by simp)).trans (World.alloc_heap_new wm _), by simp only; omega⟩
  have HQ := Lib.hid hq
  have key := fun (X Y : Code) (hab : some (X, Y) = Try.f43.body.bind loopParts) =>
    fol_any q.l q.Tw q.Tl lo hi ms A cl H0.out.1.n H0.out.1.g H0.out.1.lo H0.out.1.hi ((wm.alloc (.deferred (some []))).alloc (.loop (loopRec 43 (gTmps q w.heap.size lo hi A ms.length cl) #[11, 12] X Y q.D .ready none)))
      (fun k W => GS w W q lo hi A ms cl (fogS lo ms k) (fogP hi ms k) ∧ W.heap[q.l]? = some (.loop (loopRec 43 (gTmps q w.heap.size lo hi A ms.length cl) #[11, 12] X Y q.D .ready none)))
      (by
        rintro k W ⟨h, -⟩
        exact ⟨h.fw, h.fl, (H0.out.2.below h.b).more h.b.size⟩)
      (by
        rintro k W W' ⟨h, hl⟩ hs ho
        have hlt := (Array.getElem?_eq_some_iff.1 hl).1
        have hll : q.l < ((wm.alloc (.deferred (some []))).alloc (.loop (loopRec 43 (gTmps q w.heap.size lo hi A ms.length cl) #[11, 12] X Y q.D .ready none))).heap.size := by rw [HQ.out]; simp
        have hb : Below (q.l + 1) W W' := ho.below (by omega) (fun i hi' => by omega)
        exact ⟨h.under (hb.mono (by omega)), (hb.block _ (by omega)).trans hl⟩)
      (by
        rintro k W hk ⟨h, hl⟩ hs
        have := ground_any w W q w.heap.size lo hi A ms cl k (crs lo (·.c0) ms (k + 1)) (crs hi (·.c1) ms (k + 1)) (fogS lo ms k) (fogP hi ms k) hab hl h
        rw [← fogS_step, ← fogP_step] at this
        refine this.mono ?_
        rintro e W' ⟨rfl, h1, h2, h3⟩
        exact ⟨rfl, h1, fun b hb hl => h2 b (by rw [HQ.out]; simp at hb ⊢; omega) hl, h3⟩)
      (by
        refine ⟨hT _, ?_⟩
        have := World.alloc_heap_new (wm.alloc (.deferred (some []))) (.loop (loopRec 43 (gTmps q w.heap.size lo hi A ms.length cl) #[11, 12] X Y q.D .ready none))
        rw [World.size_alloc] at this
        rw [HQ.out] at this ⊢
        exact this)
  have key2 := key _ _ rfl
  clear key hT g2
  subst hq
  refine key2.mono ?_
  clear key2 k1 k2 hF hFB hFs HM hB
  rintro r W' ⟨⟨v, rfl⟩, hJ, hl⟩
  dsimp only at hJ hl
  obtain ⟨w4, hrn, hS4⟩ : ∃ w4, (Instr.endLoop (wm.heap.size + 1)).run Try.prog W' = .ok none w4 ∧ GS w w4 ⟨w.heap.size + 1, w.heap.size + 1 + 1, w.heap.size + 1 + 1 + 1, w.heap.size + 1 + 1 + 1 + 1, wm.heap.size, wm.heap.size + 1⟩ lo hi A ms cl (fogS lo ms ms.length) (fogP hi ms ms.length) :=
    ⟨_, run_endLoop (P := Try.prog) hl (by simp), hJ.put _⟩
  refine ⟨none, w4, hrn, fun i => by simp, fun i => by simp, ?_⟩
  obtain ⟨x, hx⟩ : ∃ x, x = fogS lo ms ms.length := ⟨_, rfl⟩
  obtain ⟨y, hy⟩ : ∃ y, y = fogP hi ms ms.length := ⟨_, rfl⟩
  rw [← hx, ← hy] at hS4 ⊢
  have c0 : w4.cell? ⟨w.heap.size + 1, 0, none⟩ = some (.int .i64 x) := hS4.fs.cell 0
  have c1 : w4.cell? ⟨w.heap.size + 1 + 1, 0, none⟩ = some (.int .i64 y) := hS4.fp.cell 0
  have f0 : w4.frozen? ⟨w.heap.size + 1, 0, none⟩ = false := hS4.fs.frozen 0
  have f1 : w4.frozen? ⟨w.heap.size + 1 + 1, 0, none⟩ = false := hS4.fp.frozen 0
  have HS := Lib.hid hS4
  have HMS := Lib.hid hms
  clear hrn hl hJ hx hy hS4 HQ hmB hms hsz
  refine wpAt_seq_wp ?_
  go_region
  all_goals
    show wpAt Try.prog 43 Code.ret _ _ _
    refine wpAt_of_wp ?_
    go_wp2
    have hS := (GS.under ((HS.out.setS x).setP y) (below_dr' (Below.refl _ _)))
    have hms := HMS.out
    have q0 := (has_putObj (o := .deferred none) hS.d hS.fs).cell 0
    have q1 := (has_putObj (o := .deferred none) hS.d hS.fp).cell 0
    simp at q0 q1
    exact leave_ret0 (D := wm.heap.size) (v := .tuple #[.int .i64 x, .int .i64 y]) hS.d (by simp [results, Try.results43, go_sem, q0, q1]) ⟨rfl, hS.b.trans ((below_put _ _ _).mono (by omega))⟩
end Go.Proofs.Ytdmpkeaanaoeaaa

/- The contract of listen. -/
import Derived.Test.YtfdjoldcdfbfhaaGrH
namespace Go.Proofs.Ytfdjoldcdfbfhaa
open Go.RowKit Go.Shelf
attribute [local go_sem] Oper.semAt_some
/-- the first error among the first k readings -/
def badE (L : List Sf) (n : Int) : Nat → Int
  | 0 => 0
  | k + 1 => if badE L n k ≠ 0 then badE L n k else chkAt L n k
theorem badE_zero {L : List Sf} {n : Int} : ∀ k, (∀ j, j < k → chkAt L n j = 0) → badE L n k = 0
  | 0, _ => rfl
  | k + 1, h => by
    unfold badE
    rw [badE_zero k (fun j hj => h j (by omega)), if_neg (fun h => h rfl)]
    exact h k (by omega)
theorem badE_first {L : List Sf} {n : Int} {i : Nat} (h : ∀ j, j < i → chkAt L n j = 0) (hi : chkAt L n i ≠ 0) : ∀ d, badE L n (i + 1 + d) = chkAt L n i
  | 0 => by
    show (if badE L n i ≠ 0 then badE L n i else chkAt L n i) = _
    rw [badE_zero i h, if_neg (fun h => h rfl)]
  | d + 1 => by
    show (if badE L n (i + 1 + d) ≠ 0 then badE L n (i + 1 + d) else chkAt L n (i + 1 + d)) = _
    rw [badE_first h hi d, if_pos hi]
theorem badE_all {L : List Sf} {n : Int} : ∀ k, badE L n k = 0 → ∀ j, j < k → chkAt L n j = 0
  | 0, _, j, hj => absurd hj (Nat.not_lt_zero _)
  | k + 1, h, j, hj => by
    unfold badE at h
    by_cases hz : badE L n k = 0
    · rw [if_neg (fun e => e hz)] at h
      rcases Nat.lt_succ_iff_lt_or_eq.1 hj with hj | rfl
      · exact badE_all k hz j hj
      · exact h
    · rw [if_pos hz] at h; exact absurd h hz
def lisR (V t : Int) (n : Nat) (L : List Sf) : Int × Int := if badE L n L.length = 0 then (fx V t L L.length, ey V t L L.length) else (0, badE L n L.length)
def LisPost (x : Int × Int) (W : World) (e : Ending) (W' : World) : Prop := e = .returned (.tuple #[.int .i64 x.1, .int .i64 x.2]) ∧ Below W.heap.size W W'

theorem has_newAt {w : World} {t : TypeId} {cs : Array Value} {n : Nat} (h : n = w.heap.size) : Has (w.alloc (.cells cs t)) n t cs := by subst h; exact Has.new _ _ _
theorem has_putObj {W : World} {D g : Nat} {t : TypeId} {cs : Array Value} {o : Obj} {x} (hD : W.heap[D]? = some (.deferred x)) (hB : Has W g t cs) : Has (W.putObj D o) g t cs :=
  (World.putObj_heap_other (fun e => by subst e; unfold Has at hB; rw [hD] at hB; cases hB)).trans hB
theorem leave_ret {W : World} {D Bf Be : Nat} {x y : Int} {tmps : Array Value} {R : Ending → World → Prop} (hD : W.heap[D]? = some (.deferred (some []))) (hf : Has W Bf 3 #[.int .i64 x]) (he : Has W Be 27 #[.int .i64 y])
    (h6 : tmps[6]?.getD undef = .pointer (some ⟨Bf, 0, none⟩)) (h7 : tmps[7]?.getD undef = .pointer (some ⟨Be, 0, none⟩))
    (hR : R (.returned (.tuple #[.int .i64 x, .int .i64 y])) (W.putObj D (.deferred none))) :
    LeavesInM Fence.wide 3 Try.prog Try.f37 tmps R [{ target := .collected D, args := #[] }, { target := .fn (.func 50) #[.pointer (some ⟨Bf, 0, none⟩), .pointer (some ⟨Be, 0, none⟩)], args := #[] }] .returning W := by
  have cf : (W.putObj D (.deferred none)).cell? ⟨Bf, 0, none⟩ = some (.int .i64 x) := (has_putObj hD hf).cell 0
  have ce : (W.putObj D (.deferred none)).cell? ⟨Be, 0, none⟩ = some (.int .i64 y) := (has_putObj hD he).cell 0
  refine ⟨by simp, .inl ⟨D, _, rfl, run_takeDeferred hD, ?_⟩⟩
  refine ⟨by simp, .inr ⟨fun h => by simp [Fence.wide] at h, .func 50, _, 50, #[.pointer (some ⟨Bf, 0, none⟩), .pointer (some ⟨Be, 0, none⟩)], rfl, by simp [go_sem], fun _ _ => trivial, ?_⟩⟩
  refine (catch_none_in ⟨Bf, 0, none⟩ ⟨Be, 0, none⟩ _ _).mono ?_
  rintro e u' w' ⟨rfl, rfl, rfl⟩
  refine ⟨.tuple #[.int .i64 x, .int .i64 y], ?_, hR⟩
  simp [results, Try.results37, go_sem, h6, h7, cf, ce]
theorem leave_err {W : World} {D Bf Be : Nat} {x y m : Int} {tmps : Array Value} {R : Ending → World → Prop} (hD : W.heap[D]? = some (.deferred (some []))) (hf : Has W Bf 3 #[.int .i64 x]) (he : Has W Be 27 #[.int .i64 y]) (hne : Bf ≠ Be)
    (h6 : tmps[6]?.getD undef = .pointer (some ⟨Bf, 0, none⟩)) (h7 : tmps[7]?.getD undef = .pointer (some ⟨Be, 0, none⟩))
    (hR : R (.returned (.tuple #[.int .i64 0, .int .i64 m])) (((W.putObj D (.deferred none)).setCell ⟨Bf, 0, none⟩ (.int .i64 0)).setCell ⟨Be, 0, none⟩ (.int .i64 m))) :
    LeavesInM Fence.wide 3 Try.prog Try.f37 tmps R [{ target := .collected D, args := #[] }, { target := .fn (.func 50) #[.pointer (some ⟨Bf, 0, none⟩), .pointer (some ⟨Be, 0, none⟩)], args := #[] }] (.panicking [{ v := errv m, recovered := false }]) W := by
  have pf := has_putObj (o := .deferred none) hD hf
  have pe := has_putObj (o := .deferred none) hD he
  have qf := (pf.set 0 (.int .i64 0)).far (p := ⟨Be, 0, none⟩) hne (.int .i64 m)
  have qe := (pe.far (p := ⟨Bf, 0, none⟩) (fun e => hne e.symm) (.int .i64 0)).set 0 (.int .i64 m)
  have cf : (((W.putObj D (.deferred none)).setCell ⟨Bf, 0, none⟩ (.int .i64 0)).setCell ⟨Be, 0, none⟩ (.int .i64 m)).cell? ⟨Bf, 0, none⟩ = some (.int .i64 0) := qf.cell 0
  have ce : (((W.putObj D (.deferred none)).setCell ⟨Bf, 0, none⟩ (.int .i64 0)).setCell ⟨Be, 0, none⟩ (.int .i64 m)).cell? ⟨Be, 0, none⟩ = some (.int .i64 m) := qe.cell 0
  refine ⟨by simp, .inl ⟨D, _, rfl, run_takeDeferred hD, ?_⟩⟩
  refine ⟨by simp, .inr ⟨fun h => by simp [Fence.wide] at h, .func 50, _, 50, #[.pointer (some ⟨Bf, 0, none⟩), .pointer (some ⟨Be, 0, none⟩)], rfl, by simp [go_sem], fun _ _ => trivial, ?_⟩⟩
  refine (catch_err_in ⟨Bf, 0, none⟩ ⟨Be, 0, none⟩ m _ _ (.int .i64 x) (.int .i64 y) (pf.cell 0) (pf.frozen 0) (pe.cell 0) (pe.frozen 0) (fun h => hne (by injection h)) []).mono ?_
  rintro e u' w' ⟨rfl, rfl, rfl⟩
  refine ⟨.tuple #[.int .i64 0, .int .i64 m], ?_, hR⟩
  simp [results, Try.results37, go_sem, h6, h7, cf, ce]
set_option maxRecDepth 100000 in
set_option maxHeartbeats 2000000 in
theorem listen_any (A0 : Option Addr) (n0 cap0 : Nat) (V F t : Int) (L : List Sf) (A : Option Addr) (cap : Nat) (w : World) (hn : n0 ≤ 12) (hc : L.length ≤ cap) (hL : L.length ≤ 9223372036854775807) (hr : FRow w w.heap.size A L) :
    Calls Try.prog 37 #[.agg #[.slice A0 n0 cap0, .int .i64 V, .int .i64 F], .int .i64 t, .slice A L.length cap] w (LisPost (lisR V t n0 L) w) := by
  have hmf : ∀ (fn : Fn) (first cap : Array Value) (w : World), (Instr.makeFunc fn first cap).run Try.prog w = .ok (.func fn first cap) w := fun _ _ _ _ => rfl
  have H0 := Lib.hid (And.intro hn (And.intro hc (And.intro hL hr)))
  clear hn hc hL hr
  have HM := Lib.hid (fun W => minutes52_any A L.length cap (n0 : Int) W)
  refine calls_of_at (n := 3) Try.func37 rfl ?_
  simp only [Try.ntmps37, List.size_toArray, List.length_cons, List.length_nil, Nat.reduceAdd, Nat.reduceSub, Array.replicate_succ, Array.replicate_zero, List.push_toArray, List.append_toArray, List.nil_append, List.cons_append]
  refine wpAt_seq_wp ?_
  go_wp2
  refine wpAt_seq_wp ?_
  go_wp2
  refine wpAt_seq_wp ?_
  go_wp2
  refine wpAt_seq_wp ?_
  go_wp2
  refine wpAt_seq (wpAt_seq_wp ?_)
  go_wp2_with fail
  refine (HM.out _).mono ?_
  rintro e w2 ⟨rfl, rfl⟩
  go_wp2_with fail
  have k0 : Has ((((w.alloc (.cells #[.slice A0 n0 cap0, .int .i64 V, .int .i64 F] 24)).alloc (.cells #[.int .i64 t] 3)).alloc (.cells #[.int .i64 0] 3)).alloc (.cells #[.int .i64 4] 27) |>.alloc (.cells #[.int .u64 0] 79)) w.heap.size 24 #[.slice A0 n0 cap0, .int .i64 V, .int .i64 F] := ((((Has.new _ _ _).alloc _).alloc _).alloc _).alloc _
  have k1 : Has ((((w.alloc (.cells #[.slice A0 n0 cap0, .int .i64 V, .int .i64 F] 24)).alloc (.cells #[.int .i64 t] 3)).alloc (.cells #[.int .i64 0] 3)).alloc (.cells #[.int .i64 4] 27) |>.alloc (.cells #[.int .u64 0] 79)) (w.heap.size + 1) 3 #[.int .i64 t] := (((has_newAt (by simp)).alloc _).alloc _).alloc _
  have k2 : Has ((((w.alloc (.cells #[.slice A0 n0 cap0, .int .i64 V, .int .i64 F] 24)).alloc (.cells #[.int .i64 t] 3)).alloc (.cells #[.int .i64 0] 3)).alloc (.cells #[.int .i64 4] 27) |>.alloc (.cells #[.int .u64 0] 79)) (w.heap.size + 1 + 1) 3 #[.int .i64 0] := ((has_newAt (by simp)).alloc _).alloc _
  have k3 : Has ((((w.alloc (.cells #[.slice A0 n0 cap0, .int .i64 V, .int .i64 F] 24)).alloc (.cells #[.int .i64 t] 3)).alloc (.cells #[.int .i64 0] 3)).alloc (.cells #[.int .i64 4] 27) |>.alloc (.cells #[.int .u64 0] 79)) (w.heap.size + 1 + 1 + 1) 27 #[.int .i64 4] := (has_newAt (by simp)).alloc _
  have k4 : Has ((((w.alloc (.cells #[.slice A0 n0 cap0, .int .i64 V, .int .i64 F] 24)).alloc (.cells #[.int .i64 t] 3)).alloc (.cells #[.int .i64 0] 3)).alloc (.cells #[.int .i64 4] 27) |>.alloc (.cells #[.int .u64 0] 79)) (w.heap.size + 1 + 1 + 1 + 1) 79 #[.int .u64 0] := has_newAt (by simp)
  have hB : Below w.heap.size w ((((w.alloc (.cells #[.slice A0 n0 cap0, .int .i64 V, .int .i64 F] 24)).alloc (.cells #[.int .i64 t] 3)).alloc (.cells #[.int .i64 0] 3)).alloc (.cells #[.int .i64 4] 27) |>.alloc (.cells #[.int .u64 0] 79)) :=
    ((((below_one w _).alloc (by simp) _).alloc (by simp; omega) _).alloc (by simp; omega) _).alloc (by simp; omega) _
  have hsz : ((((w.alloc (.cells #[.slice A0 n0 cap0, .int .i64 V, .int .i64 F] 24)).alloc (.cells #[.int .i64 t] 3)).alloc (.cells #[.int .i64 0] 3)).alloc (.cells #[.int .i64 4] 27) |>.alloc (.cells #[.int .u64 0] 79)).heap.size = w.heap.size + 5 := by simp
  generalize ((((w.alloc (.cells #[.slice A0 n0 cap0, .int .i64 V, .int .i64 F] 24)).alloc (.cells #[.int .i64 t] 3)).alloc (.cells #[.int .i64 0] 3)).alloc (.cells #[.int .i64 4] 27) |>.alloc (.cells #[.int .u64 0] 79)) = w5 at k0 k1 k2 k3 k4 hB hsz ⊢
  refine wpAt_block ?_
  refine wpAt_rangeFunc (n := 3) (gf := 61) (lb := #[.pointer (some ⟨w.heap.size + 1 + 1 + 1 + 1 + 1, 0, none⟩), .pointer (some ⟨w.heap.size + 1 + 1 + 1 + 1 + 1 + 1, 0, none⟩)]) rfl (enters_of Try.func61 (by kernel_rfl) rfl) ?_
  obtain ⟨q, hq⟩ : ∃ q : Lq, q = ⟨w.heap.size, w.heap.size + 1, w.heap.size + 1 + 1, w.heap.size + 1 + 1 + 1, w.heap.size + 1 + 1 + 1 + 1, w.heap.size + 1 + 1 + 1 + 1 + 1, w.heap.size + 1 + 1 + 1 + 1 + 1 + 1, (mkW w5 A L.length cap n0).heap.size, (mkW w5 A L.length cap n0).heap.size + 1⟩ := ⟨_, rfl⟩
  obtain ⟨p, hp⟩ : ∃ p : Lp, p = ⟨A0, n0, cap0, V, F, t, A, cap, L⟩ := ⟨_, rfl⟩
  obtain ⟨hn, hc, hL, hr⟩ := H0.out
  have hmb : Below w5.heap.size w5 (mkW w5 A L.length cap n0) := (below_one w5 _).alloc (by simp) _
  have hms : (mkW w5 A L.length cap n0).heap.size = w.heap.size + 7 := by simp [mkW, hsz]
  have l0 : Has (mkW w5 A L.length cap n0) (w.heap.size + 1 + 1 + 1 + 1 + 1) 25 #[.slice A L.length cap] := (has_newAt (by simp [hsz])).alloc _
  have l1 : Has (mkW w5 A L.length cap n0) (w.heap.size + 1 + 1 + 1 + 1 + 1 + 1) 3 #[.int .i64 n0] := has_newAt (by simp [hsz])
  have hmB : Below w.heap.size w (mkW w5 A L.length cap n0) := hB.trans (hmb.mono (by omega))
  generalize mkW w5 A L.length cap n0 = wm at hq hmb hms l0 l1 hmB ⊢
  have g1 : ∀ (o : Obj) {g t cs}, Has w5 g t cs → Has ((wm.alloc (.deferred (some []))).alloc o) g t cs := fun o _ _ _ h => ((h.below hmb h.lt).alloc _).alloc _
  have g2 : ∀ (o : Obj) {g t cs}, Has wm g t cs → Has ((wm.alloc (.deferred (some []))).alloc o) g t cs := fun o _ _ _ h => (h.alloc _).alloc _
  have hT : ∀ o : Obj, LS w ((wm.alloc (.deferred (some []))).alloc o) q p 0 4 0 := fun o => by
    subst hq hp
    have hbb : Below w.heap.size w ((wm.alloc (.deferred (some []))).alloc o) := (hmB.alloc (by omega) _).alloc (by simp; omega) _
    exact ⟨hbb, g1 o k0, g1 o k1, g1 o k2, g1 o k3, g1 o k4, g2 o l0, g2 o l1, (Below.heap_alloc _ _ _ (by simp)).trans (World.alloc_heap_new wm _), hr.below hbb, Nat.le_refl _, by simp only; omega⟩
  have key := fun (X Y : Code) (hab : some (X, Y) = Try.f37.body.bind loopParts) => lloop_any w ((wm.alloc (.deferred (some []))).alloc (.loop (loopRec 37 (lTmps q p) #[19, 20] X Y q.D .ready none))) q p hab (by subst hp; exact hn) (by subst hp; exact hc) (by subst hp; exact hL) (by have := World.alloc_heap_new (wm.alloc (.deferred (some []))) (.loop (loopRec 37 (lTmps q p) #[19, 20] X Y q.D .ready none)); subst hq; rwa [World.size_alloc] at this) (hT _)
  have key2 := key _ _ rfl
  clear key hT g1 g2
  have HQ := Lib.hid (And.intro hq hp)
  subst hq hp
  refine key2.mono ?_
  clear key2 k0 k1 k2 k3 k4 l0 l1 HM hmf hB hmb
  rintro r W' (⟨v, rfl, hgood, hJ, hl⟩ | ⟨i, hi, hgood, hbad, rfl, hJ, hl⟩)
  · dsimp only at hgood hJ hl
    obtain ⟨w4, hrn, hS4⟩ : ∃ w4, (Instr.endLoop (wm.heap.size + 1)).run Try.prog W' = .ok none w4 ∧ LS w w4 ⟨w.heap.size, w.heap.size + 1, w.heap.size + 1 + 1, w.heap.size + 1 + 1 + 1, w.heap.size + 1 + 1 + 1 + 1, w.heap.size + 1 + 1 + 1 + 1 + 1, w.heap.size + 1 + 1 + 1 + 1 + 1 + 1, wm.heap.size, wm.heap.size + 1⟩ ⟨A0, n0, cap0, V, F, t, A, cap, L⟩ (fx V t L L.length) (ey V t L L.length) (balN t L L.length) :=
      ⟨_, run_endLoop (P := Try.prog) hl (by simp), hJ.putObj _⟩
    refine ⟨none, w4, hrn, fun i => by simp, fun i => by simp, ?_⟩
    have HN := Lib.hid (show lisR V t n0 L = (fx V t L L.length, ey V t L L.length) by unfold lisR; rw [if_pos (badE_zero _ hgood)])
    obtain ⟨x, hx⟩ : ∃ x, x = fx V t L L.length := ⟨_, rfl⟩
    obtain ⟨y, hy⟩ : ∃ y, y = ey V t L L.length := ⟨_, rfl⟩
    rw [← hx, ← hy] at hS4 HN
    have c0 : w4.cell? ⟨w.heap.size + 1 + 1, 0, none⟩ = some (.int .i64 x) := hS4.hf.cell 0
    have c1 : w4.cell? ⟨w.heap.size + 1 + 1 + 1, 0, none⟩ = some (.int .i64 y) := hS4.he.cell 0
    have f0 : w4.frozen? ⟨w.heap.size + 1 + 1, 0, none⟩ = false := hS4.hf.frozen 0
    have f1 : w4.frozen? ⟨w.heap.size + 1 + 1 + 1, 0, none⟩ = false := hS4.he.frozen 0
    have HS := Lib.hid hS4
    have HMS := Lib.hid hms
    clear hrn hl hJ hgood hx hy hS4 HQ hmB hr hms hsz
    refine wpAt_seq_wp ?_
    go_region
    all_goals
      show wpAt Try.prog 37 Code.ret _ _ _
      refine wpAt_of_wp ?_
      go_wp2
      have hS := ((HS.out.setF x).setE y).drew
      have hms := HMS.out
      refine leave_ret (D := wm.heap.size) (Bf := w.heap.size + 1 + 1) (Be := w.heap.size + 1 + 1 + 1) hS.d hS.hf hS.he rfl rfl ⟨by rw [HN.out], hS.b.trans ((below_put _ _ _).mono (by omega))⟩
  · dsimp only at hi hgood hbad hJ
    refine ⟨fun i => by simp, fun i => by simp, ?_⟩
    have hne : w.heap.size + 1 + 1 ≠ w.heap.size + 1 + 1 + 1 := by omega
    obtain ⟨d, hd⟩ : ∃ d, L.length = i + 1 + d := ⟨L.length - (i + 1), by omega⟩
    have hb1 := badE_first (n := n0) hgood hbad d
    refine leave_err (D := wm.heap.size) (Bf := w.heap.size + 1 + 1) (Be := w.heap.size + 1 + 1 + 1) hJ.d hJ.hf hJ.he hne rfl rfl ⟨?_, ?_⟩
    · unfold lisR
      rw [hd, hb1, if_neg hbad]
    · have hbw := hJ.b
      exact ((hbw.trans ((below_put _ _ _).mono (by omega))).setCell (by simp only; omega) _).setCell (by simp only; omega) _
end Go.Proofs.Ytfdjoldcdfbfhaa

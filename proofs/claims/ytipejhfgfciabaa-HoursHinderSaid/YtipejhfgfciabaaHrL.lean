/- The best from a place on. -/
import Derived.Test.YtipejhfgfciabaaHrK
namespace Go.Proofs.Ytipejhfgfciabaa
open Go.RowKit Go.Shelf
attribute [local go_sem] Oper.semAt_some
theorem yield_mono {F : Fence} {m : Nat} {P : Program} {l : Nat} {args : Array Value} {W : World} {R R' : Ending → World → Prop} (h : YieldAt F m P l args W R) (hi : ∀ e w, R e w → R' e w) : YieldAt F m P l args W R' := by
  obtain ⟨fn, tmps, assign, body, hy, hR⟩ := h
  exact ⟨fn, tmps, assign, body, hy, hR.mono hi⟩
theorem BL.done {S : Nat → Prop} {w0 w : World} {Bx BK BB BM m : Nat} {x : Tt} {AH AG : Option Addr} {ch cg : Nat} {p : Pl} {A : Option Addr} {c : Nat} {most : List Int} (h : BL S w0 w Bx BK BB BM x AH AG ch cg m p A c most) : BestPost S most Bx BK BB BM x AH AG ch cg m w0 (.returned (.slice A most.length c)) (w.putObj (w0.heap.size + 4) (.deferred none)) := by
  have ho : Only (· = w0.heap.size + 4) w (w.putObj (w0.heap.size + 4) (.deferred none)) := ⟨rfl, rfl, rfl, by simp, fun k _ hn => World.putObj_heap_other (fun e => hn e)⟩
  have hD : ∀ o n, w.cell? ⟨w0.heap.size + 4, o, none⟩ ≠ some (.int .i64 n) := fun o n e => by have := h.d; simp [World.cell?, this] at e
  have hlt := h.s.lt
  exact ⟨A, c, rfl, h.s.rm.only ho hD, h.s.o.from_ ho (fun i hi e => by have e' : i = w0.heap.size + 4 := e; omega), h.s.mi.only ho ⟨by omega, by omega, by omega, by omega⟩ hD⟩
def mostK (x : Tt) (n : Nat) (p : Pl) (k : Nat) : List Int := ((nexts x p).take k).foldl (stepMost (bestP x n)) []
theorem mostK_step {x : Tt} {n : Nat} {p : Pl} {k : Nat} {a : Int × Pl} (h : (nexts x p)[k]? = some a) : mostK x n p (k + 1) = stepMost (bestP x n) (mostK x n p k) a := by
  unfold mostK
  obtain ⟨hk, rfl⟩ := List.getElem?_eq_some_iff.1 h
  rw [List.take_succ_eq_append_getElem hk, List.foldl_append]
  rfl
theorem mostK_end (x : Tt) (n : Nat) (p : Pl) : mostK x n p (nexts x p).length = bestP x (n + 1) p := by
  unfold mostK; rw [List.take_length]; rfl
theorem mostK_len (x : Tt) (n : Nat) (p : Pl) (k : Nat) : (mostK x n p k).length ≤ x.G.length := by
  rcases (foldMost_ge (bestP x n) ((nexts x p).take k) []).2.2 with h | ⟨gq, _, h⟩
  · unfold mostK; rw [h]; simp
  · unfold mostK; rw [h, best_len]; exact Nat.le_refl _
abbrev tB (B Bx BK BB BM : Nat) (x : Tt) (AH AG : Option Addr) (ch cg : Nat) (p : Pl) : Array Value :=
  #[.agg (plc p), .pointer (some ⟨Bx, 0, none⟩), .pointer (some ⟨BK, 0, none⟩), .pointer (some ⟨BB, 0, none⟩), .pointer (some ⟨B, 0, none⟩), .slice none 0 0, .slice none 0 0, .bool false,
    .pointer (some ⟨B + 1, 0, none⟩), undef, undef, undef, .pointer (some ⟨B, 0, none⟩), .int .i64 p.hour, .pointer (some ⟨Bx, 0, none⟩), .slice AH x.H.length ch, .int .i64 x.H.length, .bool false, undef, undef, undef, undef,
    .tuple #[.slice none 0 0, .bool false], .map (some BM), .agg (plc p), .tuple #[.slice none 0 0, .bool false], .slice none 0 0, .bool false, .bool false, undef,
    .agg (ttc x AH AG ch cg), .agg (plc p), .func (.func 98) #[] #[.pointer (some ⟨B + 2, 0, none⟩), .pointer (some ⟨B + 3, 0, none⟩)],
    undef, undef, undef, undef, undef, undef, undef, undef, undef, undef, undef, undef, undef, undef]
set_option maxRecDepth 100000 in
set_option maxHeartbeats 2000000 in
theorem bestRound (S : Nat → Prop) (w0 W : World) (Bx BK BB BM m n : Nat) (x : Tt) (AH AG : Option Addr) (ch cg : Nat) (p q : Pl) (g : Int) (A : Option Addr) (c : Nat) (most : List Int) {assign body : Code}
    (IH : ∀ W m, MI S W Bx BK BB BM x AH AG ch cg m → m + cntB n ≤ 1000000000000 → Calls Try.prog 82 #[plv q, .pointer (some ⟨Bx, 0, none⟩), .pointer (some ⟨BK, 0, none⟩), .pointer (some ⟨BB, 0, none⟩)] W (BestPost S (bestP x n q) Bx BK BB BM x AH AG ch cg (m + cntB n) W))
    (hmax : m + cntB n ≤ 1000000000000) (hlen : most.length ≤ 1000000 ∧ (bestP x n q).length ≤ 1000000)
    (hab : some (assign, body) = Try.f82.body.bind loopParts) (hl : W.heap[w0.heap.size + 5]? = some (.loop (loopRec 82 (tB w0.heap.size Bx BK BB BM x AH AG ch cg p) #[33, 34] assign body (w0.heap.size + 4) .ready none)))
    (hS : BL S w0 W Bx BK BB BM x AH AG ch cg m p A c most) :
    YieldAt Fence.wide 2 Try.prog (w0.heap.size + 5) #[.int .i64 g, plv q] W fun e W' => e = .returned (.bool true) ∧
      (∃ A' c', BL S w0 W' Bx BK BB BM x AH AG ch cg (m + cntB n) p A' c' (stepMost (bestP x n) most (g, q))) ∧ W'.heap[w0.heap.size + 5]? = some (.loop (loopRec 82 (tB w0.heap.size Bx BK BB BM x AH AG ch cg p) #[33, 34] assign body (w0.heap.size + 4) .ready none)) := by
  obtain ⟨rc, hrc⟩ : ∃ rc, rc = loopRec 82 (tB w0.heap.size Bx BK BB BM x AH AG ch cg p) #[33, 34] assign body (w0.heap.size + 4) := ⟨_, rfl⟩
  rw [← hrc] at hl ⊢
  have HST : Hid (stepMost (bestP x n) most (g, q) = if 0 < cmpL (bestP x n q) most then bestP x n q else most) := rfl
  obtain ⟨sm, hsm⟩ : ∃ sm, sm = stepMost (bestP x n) most (g, q) := ⟨_, rfl⟩
  rw [← hsm] at HST ⊢
  have HLE := Lib.hid hlen
  obtain ⟨lq, hlq⟩ : ∃ l, l = bestP x n q := ⟨_, rfl⟩
  rw [← hlq] at IH HST HLE
  have HIH := Lib.hid (IH W m)
  have HIH2 := Lib.hid IH
  have HMX := Lib.hid hmax
  clear hsm hlq IH hmax hlen HIH
  have hy := run_yield (P := Try.prog) (args := #[.int .i64 g, plv q]) hl (by rw [hrc]; rfl)
  refine ⟨82, _, assign, body, by rw [hy, hrc], roundIn_wide Try.func82 ?_⟩
  clear hy
  simp only [Try.f82, Option.bind_some, loopParts, Option.some.injEq, Prod.mk.injEq] at hab
  obtain ⟨ha, hb⟩ := hab
  have hll := (Array.getElem?_eq_some_iff.1 hl).1
  have HR := Lib.hid hrc
  rw [ha]
  have hzip : ∀ (t : Array Value) (u v : Value), (#[33, 34].zip #[u, v]).foldl (fun tmps (p : Tmp × Value) => match p with | (t, a) => tmps.setIfInBounds t a) t = (t.setIfInBounds 33 u).setIfInBounds 34 v := fun t u v => by simp [Array.zip]
  rw [hzip]
  clear hzip
  change Code.wpIn _ _ _ _ _ { tmps := ((tB w0.heap.size Bx BK BB BM x AH AG ch cg p).setIfInBounds 33 (.int .i64 g)).setIfInBounds 34 (plv q), defers := [] } W
  have H0 := Lib.hid (And.intro hS hl)
  clear hrc hl hS ha
  unfold plv at *
  gi_wp2
  have HB := Lib.hid (below_one W (.cells (plc q) 75))
  have H1 : Hid (BL S w0 (W.alloc (.cells (plc q) 75)) Bx BK BB BM x AH AG ch cg m p A c most ∧ (W.alloc (.cells (plc q) 75)).heap[w0.heap.size + 5]? = some (.loop (rc .ready none)) ∧ Has (W.alloc (.cells (plc q) 75)) W.heap.size 75 (plc q)) :=
    ⟨H0.out.1.step HB.out, (HB.out.block _ hll).trans H0.out.2, Has.new W 75 (plc q)⟩
  have hlg : w0.heap.size + 5 < W.heap.size := hll
  refine (show ∃ w₂, (Instr.beginRound (w0.heap.size + 5)).run Try.prog (W.alloc (.cells (plc q) 75)) = .ok () w₂ ∧ _ from ?_)
  generalize W.alloc (.cells (plc q) 75) = W1 at H1 ⊢
  generalize W.heap.size = gb at H1 hlg ⊢
  clear HB H0 hll
  have hbeg := run_beginRound (P := Try.prog) H1.out.2.1 (by rw [HR.out])
  obtain ⟨W2, hW2⟩ : ∃ W2, W1.putObj (w0.heap.size + 5) (.loop { rc .ready none with state := .busy }) = W2 := ⟨_, rfl⟩
  have H2 : Hid (BL S w0 W2 Bx BK BB BM x AH AG ch cg m p A c most ∧ W2.heap[w0.heap.size + 5]? = some (.loop (rc .busy none)) ∧ Has W2 gb 75 (plc q)) := by
    refine ⟨by rw [← hW2]; exact H1.out.1.put (by omega) H1.out.2.1 _, ?_, ?_⟩
    · rw [← hW2, World.putObj_heap_same (Array.getElem?_eq_some_iff.1 H1.out.2.1).1, HR.out]
    · rw [← hW2]; exact (World.putObj_heap_other (by omega)).trans H1.out.2.2
  rw [hW2] at hbeg
  refine ⟨W2, hbeg, ?_⟩
  clear hbeg hW2 H1
  rw [hb]
  clear hb
  have b0 : W2.cell? ⟨BB, 0, none⟩ = some (.func (.func 82) #[] #[.pointer (some ⟨Bx, 0, none⟩), .pointer (some ⟨BK, 0, none⟩), .pointer (some ⟨BB, 0, none⟩)]) := H2.out.1.s.mi.fb.cell 0
  have q0 : W2.cell? ⟨gb, 0, none⟩ = some (.int .i64 q.hour) := H2.out.2.2.cell 0
  have q1 : W2.cell? ⟨gb, 1, none⟩ = some (.int .i64 q.last) := H2.out.2.2.cell 1
  have q2 : W2.cell? ⟨gb, 2, none⟩ = some (.int .i64 (q.given[0]?.getD 0)) := H2.out.2.2.cell 2
  have q3 : W2.cell? ⟨gb, 3, none⟩ = some (.int .i64 (q.given[1]?.getD 0)) := H2.out.2.2.cell 3
  have q4 : W2.cell? ⟨gb, 4, none⟩ = some (.int .i64 (q.given[2]?.getD 0)) := H2.out.2.2.cell 4
  have q5 : W2.cell? ⟨gb, 5, none⟩ = some (.int .i64 (q.given[3]?.getD 0)) := H2.out.2.2.cell 5
  have q6 : W2.cell? ⟨gb, 6, none⟩ = some (.int .i64 (q.given[4]?.getD 0)) := H2.out.2.2.cell 6
  gi_wp2_with (fail)
  refine ⟨trivial, CallsIn.inRound _ ((callsIn_wide.2 (HIH2.out _ _ H2.out.1.s.mi HMX.out)).mono ?_)⟩
  rintro e W3 ⟨A', c', rfl, hrow, ho, hmi⟩
  have H3 : Hid (BL S w0 W3 Bx BK BB BM x AH AG ch cg (m + cntB n) p A c most ∧ W3.heap[w0.heap.size + 5]? = some (.loop (rc .busy none)) ∧ IRowS S W3 A' lq) :=
    ⟨H2.out.1.wrote ho hmi, (ho.block _ (Array.getElem?_eq_some_iff.1 H2.out.2.1).1 (fun e => by have e' : w0.heap.size + 5 = BM := e; have := H2.out.1.s.lt; omega)).trans H2.out.2.1, hrow⟩
  clear hrow ho hmi b0 q0 q1 q2 q3 q4 q5 q6 H2
  have m0 : W3.cell? ⟨w0.heap.size + 1, 0, none⟩ = some (.slice A most.length c) := H3.out.1.s.fm.cell 0
  have hcm := Lib.hid (compareS_any lq most A' A c' c _ _ W3 H3.out.2.2.row H3.out.1.s.rm.row HLE.out.2)
  dsimp only
  gi_wp2_with (fail)
  refine ⟨trivial, CallsIn.inRound _ ((callsIn_wide.2 hcm.out).mono ?_)⟩
  rintro e W4 ⟨rfl, rfl⟩
  dsimp only
  have mf := H3.out.1.s.fm.frozen 0
  have ml := H3.out.1.s.fm.lt
  have fin : Hid (∀ (W5 : World) A2 c2 (l2 : List Int), BL S w0 W5 Bx BK BB BM x AH AG ch cg (m + cntB n) p A2 c2 l2 → W5.heap[w0.heap.size + 5]? = some (.loop (rc .busy none)) → l2 = sm → ∀ a,
      roundEnd Try.prog (w0.heap.size + 5) (fun e W' => e = .returned (.bool true) ∧ (∃ A' c', BL S w0 W' Bx BK BB BM x AH AG ch cg (m + cntB n) p A' c' sm) ∧ W'.heap[w0.heap.size + 5]? = some (.loop (rc .ready none))) Exit.normal a W5) := by
    intro W5 A2 c2 l2 h1 h2 e1 a
    subst e1
    have hend := run_endRound (P := Try.prog) none h2
    refine ⟨_, _, hend, rfl, ⟨A2, c2, h1.put (by omega) h2 _⟩, ?_⟩
    rw [World.putObj_heap_same (Array.getElem?_eq_some_iff.1 h2).1, HR.out]
    rfl
  by_cases hc : 0 < cmpL lq most
  · have HS := Lib.hid (HST.out.trans (if_pos hc))
    gi_wp2
    exact fin.out _ _ _ lq (H3.out.1.setM H3.out.2.2) ((Below.heap_setCell _ _ _ _ (by simp only; omega)).trans H3.out.2.1) HS.out.symm _
  · have HS := Lib.hid (HST.out.trans (if_neg hc))
    gi_wp2
    exact fin.out _ _ _ most H3.out.1 H3.out.2.1 HS.out.symm _
set_option maxRecDepth 100000 in
set_option maxHeartbeats 2000000 in
theorem best_step (S : Nat → Prop) (x : Tt) (AH AG : Option Addr) (ch cg Bx BK BB BM m n : Nat) (p : Pl) (w : World) (hv : VT x) (hp : VP x p) (hn : p.hour + (n + 1) = x.H.length) (hm : MI S w Bx BK BB BM x AH AG ch cg m) (hlt : Bx < w.heap.size ∧ BK < w.heap.size ∧ BB < w.heap.size ∧ BM < w.heap.size) (hmax : m + cntB (n + 1) ≤ 1000000000000)
    (IH : ∀ q W m, VP x q → q.hour + n = x.H.length → MI S W Bx BK BB BM x AH AG ch cg m → m + cntB n ≤ 1000000000000 → Calls Try.prog 82 #[plv q, .pointer (some ⟨Bx, 0, none⟩), .pointer (some ⟨BK, 0, none⟩), .pointer (some ⟨BB, 0, none⟩)] W (BestPost S (bestP x n q) Bx BK BB BM x AH AG ch cg (m + cntB n) W)) :
    Calls Try.prog 82 #[plv p, .pointer (some ⟨Bx, 0, none⟩), .pointer (some ⟨BK, 0, none⟩), .pointer (some ⟨BB, 0, none⟩)] w (BestPost S (bestP x (n + 1) p) Bx BK BB BM x AH AG ch cg (m + cntB (n + 1)) w) := by
  have hn' : ((p.hour : Int) == (x.H.length : Int)) = false := by simp; omega
  obtain ⟨kl, hkl⟩ := key_pl hp hv.nh
  have HK := Lib.hid hkl
  have HM := Lib.hid hm
  have HLo := Lib.hid (fun W => longer_any x AH AG ch cg p W)
  have HV := Lib.hid (And.intro hv (And.intro hp (And.intro hn (And.intro hlt hmax))))
  have HIH := Lib.hid IH
  clear hkl hm hv hp hn hlt hmax IH
  refine calls_of_at (n := 3) Try.func82 rfl ?_
  simp only [Try.ntmps82, List.size_toArray, List.length_cons, List.length_nil, Nat.reduceAdd, Nat.reduceSub, Array.replicate_succ, Array.replicate_zero, List.push_toArray, List.append_toArray, List.nil_append, List.cons_append]
  unfold plv ttv at *
  refine wpAt_seq_wp ?_
  go_wp2
  have HM1 := Lib.hid (And.intro (HM.out.step (below_one w (.cells (plc p) 75))) (And.intro (below_one w (.cells (plc p) 75)) (Has.new w 75 (plc p))))
  unfold plc at HM1 ⊢
  have hz1 : (w.alloc (.cells #[.int .i64 p.hour, .int .i64 p.last, .int .i64 (p.given[0]?.getD 0), .int .i64 (p.given[1]?.getD 0), .int .i64 (p.given[2]?.getD 0), .int .i64 (p.given[3]?.getD 0), .int .i64 (p.given[4]?.getD 0)] 75)).heap.size = w.heap.size + 1 := by simp
  generalize w.alloc (.cells #[.int .i64 p.hour, .int .i64 p.last, .int .i64 (p.given[0]?.getD 0), .int .i64 (p.given[1]?.getD 0), .int .i64 (p.given[2]?.getD 0), .int .i64 (p.given[3]?.getD 0), .int .i64 (p.given[4]?.getD 0)] 75) = w1 at HM1 hz1 ⊢
  have HZ1 := Lib.hid hz1
  clear hz1
  have x0 : w1.cell? ⟨Bx, 0, none⟩ = some (.slice AH x.H.length ch) := HM1.out.1.fx.cell 0
  have x1 : w1.cell? ⟨Bx, 1, none⟩ = some (.slice AG x.G.length cg) := HM1.out.1.fx.cell 1
  have x2 : w1.cell? ⟨Bx, 2, none⟩ = some (.int .i64 x.R) := HM1.out.1.fx.cell 2
  have k0 : w1.cell? ⟨BK, 0, none⟩ = some (.map (some BM)) := HM1.out.1.fk.cell 0
  have p0 : w1.cell? ⟨w.heap.size, 0, none⟩ = some (.int .i64 p.hour) := HM1.out.2.2.cell 0
  have p1 : w1.cell? ⟨w.heap.size, 1, none⟩ = some (.int .i64 p.last) := HM1.out.2.2.cell 1
  have p2 : w1.cell? ⟨w.heap.size, 2, none⟩ = some (.int .i64 (p.given[0]?.getD 0)) := HM1.out.2.2.cell 2
  have p3 : w1.cell? ⟨w.heap.size, 3, none⟩ = some (.int .i64 (p.given[1]?.getD 0)) := HM1.out.2.2.cell 3
  have p4 : w1.cell? ⟨w.heap.size, 4, none⟩ = some (.int .i64 (p.given[2]?.getD 0)) := HM1.out.2.2.cell 4
  have p5 : w1.cell? ⟨w.heap.size, 5, none⟩ = some (.int .i64 (p.given[3]?.getD 0)) := HM1.out.2.2.cell 5
  have p6 : w1.cell? ⟨w.heap.size, 6, none⟩ = some (.int .i64 (p.given[4]?.getD 0)) := HM1.out.2.2.cell 6
  refine wpAt_seq_wp ?_
  go_wp2
  rcases HM1.out.1.mm.look true (t := 114) (e := 26) Try.underlying114 (z := .slice none 0 0) (by kernel_rfl) HK.out with hlk | ⟨v, hlk, hvv⟩
  rotate_left
  · obtain ⟨p', A, c, hp', he, rfl, hrow⟩ := hvv
    obtain rfl := plv_inj hp'.l HV.out.2.1.l he.symm
    have HR := Lib.hid hrow
    unfold plc at hlk
    simp only [if_true] at hlk
    have hpn := HV.out.2.2.1
    rw [show x.H.length - p'.hour = n + 1 by omega] at HR hlk
    have HM2 := Lib.hid (show MI S w1 Bx BK BB BM x AH AG ch cg (m + cntB (n + 1)) ∧ Only (· = BM) w w1 from ⟨HM1.out.1.more (by omega), Only.of_below HM1.out.2.1⟩)
    clear hrow he hp' hpn
    obtain ⟨l, hl⟩ : ∃ l, l = bestP x (n + 1) p' := ⟨_, rfl⟩
    rw [← hl] at HR hlk ⊢
    clear hl
    refine wpAt_seq_wp ?_
    go_wp2
    exact leave_ret00 (v := .slice A l.length c) (by simp [results, Try.results82, go_sem]) ⟨A, c, rfl, HR.out, HM2.out.2, HM2.out.1⟩
  unfold plc at hlk
  simp only [if_true] at hlk
  refine wpAt_seq_wp ?_
  go_wp2
  clear hlk
  have HB2 : Hid (BS S w (w1.alloc (.cells #[.slice none 0 0] 26)) Bx BK BB BM x AH AG ch cg m p none 0 []) :=
    ⟨HM1.out.1.step (below_one w1 _), (Only.of_below HM1.out.2.1).andBelow (below_one w1 _), HM1.out.2.2.alloc _, has_newAt (by rw [HZ1.out]), fun k hk => absurd hk (by simp), HV.out.2.2.2.1⟩
  refine wpAt_seq_wp ?_
  go_wp2
  rw [HZ1.out]
  clear x0 x1 x2 k0 p0 p1 p2 p3 p4 p5 p6
  have hz2 : (w1.alloc (.cells #[.slice none 0 0] 26)).heap.size = w.heap.size + 2 := by simp [HZ1.out]
  generalize w1.alloc (.cells #[.slice none 0 0] 26) = w2 at HB2 hz2 ⊢
  have HZ2 := Lib.hid hz2
  clear hz2 HM1 HZ1
  have x0 : w2.cell? ⟨Bx, 0, none⟩ = some (.slice AH x.H.length ch) := HB2.out.mi.fx.cell 0
  have x1 : w2.cell? ⟨Bx, 1, none⟩ = some (.slice AG x.G.length cg) := HB2.out.mi.fx.cell 1
  have x2 : w2.cell? ⟨Bx, 2, none⟩ = some (.int .i64 x.R) := HB2.out.mi.fx.cell 2
  have p0 : w2.cell? ⟨w.heap.size, 0, none⟩ = some (.int .i64 p.hour) := HB2.out.fp.cell 0
  have p1 : w2.cell? ⟨w.heap.size, 1, none⟩ = some (.int .i64 p.last) := HB2.out.fp.cell 1
  have p2 : w2.cell? ⟨w.heap.size, 2, none⟩ = some (.int .i64 (p.given[0]?.getD 0)) := HB2.out.fp.cell 2
  have p3 : w2.cell? ⟨w.heap.size, 3, none⟩ = some (.int .i64 (p.given[1]?.getD 0)) := HB2.out.fp.cell 3
  have p4 : w2.cell? ⟨w.heap.size, 4, none⟩ = some (.int .i64 (p.given[2]?.getD 0)) := HB2.out.fp.cell 4
  have p5 : w2.cell? ⟨w.heap.size, 5, none⟩ = some (.int .i64 (p.given[3]?.getD 0)) := HB2.out.fp.cell 5
  have p6 : w2.cell? ⟨w.heap.size, 6, none⟩ = some (.int .i64 (p.given[4]?.getD 0)) := HB2.out.fp.cell 6
  refine wpAt_seq (wpAt_seq_wp ?_)
  go_wp2_with fail
  refine (HLo.out _).mono ?_
  rintro e w3 ⟨rfl, rfl⟩
  go_wp2_with fail
  have HB3 := Lib.hid (HB2.out.step (below_two w2 (.cells (ttc x AH AG ch cg) 25) (.cells (plc p) 75)))
  have HI1 := Lib.hid ((Has.new w2 25 (ttc x AH AG ch cg)).alloc (.cells (plc p) 75))
  have HI2 := Lib.hid (show Has ((w2.alloc (.cells (ttc x AH AG ch cg) 25)).alloc (.cells (plc p) 75)) (w2.heap.size + 1) 75 (plc p) from has_newAt (by simp))
  have hz3 : ((w2.alloc (.cells (ttc x AH AG ch cg) 25)).alloc (.cells (plc p) 75)).heap.size = w.heap.size + 4 := by simp [HZ2.out]
  clear x0 x1 x2 p0 p1 p2 p3 p4 p5 p6 HB2
  rw [HZ2.out] at HI1 HI2 ⊢
  clear HZ2
  generalize (w2.alloc (.cells (ttc x AH AG ch cg) 25)).alloc (.cells (plc p) 75) = w3 at HB3 HI1 HI2 hz3 ⊢
  have HD3 := Lib.hid (And.intro HB3.out (And.intro HI1.out HI2.out))
  clear HB3 HI1 HI2
  refine wpAt_block ?_
  refine wpAt_rangeFunc (n := 3) (gf := 98) (lb := #[.pointer (some ⟨w.heap.size + 2, 0, none⟩), .pointer (some ⟨w.heap.size + 2 + 1, 0, none⟩)]) rfl (enters_of Try.func98 (by kernel_rfl) rfl) ?_
  have hpn := HV.out.2.2.1
  have hBL : ∀ ob : Obj, BL S w ((w3.alloc (.deferred (some []))).alloc ob) Bx BK BB BM x AH AG ch cg (m + 0 * cntB n) p none 0 (mostK x n p 0) := fun ob => by
    have hb := below_two w3 (.deferred (some [])) ob
    refine ⟨by simpa [mostK] using HD3.out.1.step hb, HD3.out.2.1.below hb HD3.out.2.1.lt, HD3.out.2.2.below hb HD3.out.2.2.lt, ?_⟩
    have h1 := World.alloc_heap_new w3 (.deferred (some []))
    rw [hz3] at h1
    exact (Below.heap_alloc _ _ _ (by simp [hz3])).trans h1
  have key := fun (X Y : Code) (hab : some (X, Y) = Try.f82.body.bind loopParts) =>
    next_any (w.heap.size + 5) (w.heap.size + 2) (w.heap.size + 3) x AH AG ch cg p HV.out.1 HV.out.2.1 (by omega) ((w3.alloc (.deferred (some []))).alloc (.loop (loopRec 82 (tB w.heap.size Bx BK BB BM x AH AG ch cg p) #[33, 34] X Y (w.heap.size + 4) .ready none)))
      (fun k W => ∃ A c, BL S w W Bx BK BB BM x AH AG ch cg (m + k * cntB n) p A c (mostK x n p k) ∧ W.heap[w.heap.size + 5]? = some (.loop (loopRec 82 (tB w.heap.size Bx BK BB BM x AH AG ch cg p) #[33, 34] X Y (w.heap.size + 4) .ready none))) (fun _ _ => False)
      (by
        rintro k W ⟨A, c, h, -⟩
        exact ⟨h.ix, h.ip, h.s.mi.tr⟩)
      (by
        rintro k W W' ⟨A, c, h, hl⟩ hb
        exact ⟨A, c, h.step hb, (hb.block _ (Array.getElem?_eq_some_iff.1 hl).1).trans hl⟩)
      (by
        rintro k g q W hk ⟨A, c, h, hl⟩
        obtain ⟨hk1, hk2⟩ := List.getElem?_eq_some_iff.1 hk
        have hmem : (g, q) ∈ nexts x p := hk2 ▸ List.getElem_mem hk1
        obtain ⟨hvq, hhq⟩ := next_vp HV.out.1 HV.out.2.1 (by omega) hmem
        have hk6 := nexts_le x p HV.out.1
        have hng := HV.out.1.ng
        have hml := mostK_len x n p k
        have hmax := HV.out.2.2.2.2
        have hmul : (k + 1) * cntB n ≤ 6 * cntB n := Nat.mul_le_mul_right _ (by omega)
        have hc : cntB (n + 1) = 6 * cntB n + 1 := rfl
        have he : m + k * cntB n + cntB n = m + (k + 1) * cntB n := by rw [Nat.succ_mul]; omega
        have := bestRound S w W Bx BK BB BM (m + k * cntB n) n x AH AG ch cg p q g A c (mostK x n p k) (fun W' m' h' hm' => HIH.out q W' m' hvq (by omega) h' hm') (by omega) ⟨by omega, by rw [best_len]; omega⟩ hab hl h
        rw [← mostK_step hk, he] at this
        refine yield_mono this ?_
        rintro e W' ⟨rfl, ⟨A', c', h1⟩, h2⟩
        exact .inl ⟨rfl, A', c', h1, h2⟩)
      (by
        refine ⟨none, 0, hBL _, ?_⟩
        have := World.alloc_heap_new (w3.alloc (.deferred (some []))) (.loop (loopRec 82 (tB w.heap.size Bx BK BB BM x AH AG ch cg p) #[33, 34] X Y (w.heap.size + 4) .ready none))
        rw [World.size_alloc, hz3] at this
        exact this)
  have key2 := key _ _ rfl
  clear key hBL
  rw [hz3]
  refine key2.mono ?_
  clear key2 HD3
  rintro r W' ⟨⟨v, rfl⟩, (⟨A, c, hJ, hl⟩ | ⟨k, h⟩)⟩
  rotate_left
  · exact h.elim
  try dsimp only at hJ hl
  rw [mostK_end] at hJ
  obtain ⟨w4, hrn, hS4⟩ : ∃ w4, (Instr.endLoop (w.heap.size + 5)).run Try.prog W' = .ok none w4 ∧ BL S w w4 Bx BK BB BM x AH AG ch cg (m + (nexts x p).length * cntB n) p A c (bestP x (n + 1) p) :=
    ⟨_, run_endLoop (P := Try.prog) hl (by simp), hJ.put (by omega) hl _⟩
  refine ⟨none, w4, hrn, fun i => by simp, fun i => by simp, ?_⟩
  have hk6 := nexts_le x p HV.out.1
  have hmax := HV.out.2.2.2.2
  have hmul : (nexts x p).length * cntB n ≤ 6 * cntB n := Nat.mul_le_mul_right _ hk6
  have hcn : cntB (n + 1) = 6 * cntB n + 1 := rfl
  have HM4 := Lib.hid (hS4.s.mi.mm.put (t := 114) (e := 26) Try.underlying114 (by unfold maxLen; omega) HK.out (val := .slice A (bestP x (n + 1) p).length c) ⟨p, A, c, HV.out.2.1, rfl, by rw [show x.H.length - p.hour = n + 1 by omega], by rw [show x.H.length - p.hour = n + 1 by omega]; exact hS4.s.rm⟩)
  have HLe := Lib.hid (show m + (nexts x p).length * cntB n + 1 ≤ m + cntB (n + 1) by omega)
  obtain ⟨l, hl'⟩ : ∃ l, l = bestP x (n + 1) p := ⟨_, rfl⟩
  rw [← hl'] at hS4 HM4 ⊢
  have HS := Lib.hid hS4
  obtain ⟨w5, hup, hme, hon⟩ := HM4.out
  have H5 := Lib.hid (show BL S w w5 Bx BK BB BM x AH AG ch cg (m + cntB (n + 1)) p A c l from by
    have h1 := HS.out.s.mi.wrote hon hme
    exact HS.out.wrote hon (h1.more HLe.out))
  clear hrn hl hJ hS4 HM4 hk6 hmax hmul hcn hpn hl' hme hon
  unfold plc at hup
  have k0 : w4.cell? ⟨BK, 0, none⟩ = some (.map (some BM)) := HS.out.s.mi.fk.cell 0
  have p0 : w4.cell? ⟨w.heap.size, 0, none⟩ = some (.int .i64 p.hour) := HS.out.s.fp.cell 0
  have p1 : w4.cell? ⟨w.heap.size, 1, none⟩ = some (.int .i64 p.last) := HS.out.s.fp.cell 1
  have p2 : w4.cell? ⟨w.heap.size, 2, none⟩ = some (.int .i64 (p.given[0]?.getD 0)) := HS.out.s.fp.cell 2
  have p3 : w4.cell? ⟨w.heap.size, 3, none⟩ = some (.int .i64 (p.given[1]?.getD 0)) := HS.out.s.fp.cell 3
  have p4 : w4.cell? ⟨w.heap.size, 4, none⟩ = some (.int .i64 (p.given[2]?.getD 0)) := HS.out.s.fp.cell 4
  have p5 : w4.cell? ⟨w.heap.size, 5, none⟩ = some (.int .i64 (p.given[3]?.getD 0)) := HS.out.s.fp.cell 5
  have p6 : w4.cell? ⟨w.heap.size, 6, none⟩ = some (.int .i64 (p.given[4]?.getD 0)) := HS.out.s.fp.cell 6
  have m0 : w4.cell? ⟨w.heap.size + 1, 0, none⟩ = some (.slice A l.length c) := HS.out.s.fm.cell 0
  have m1 : w5.cell? ⟨w.heap.size + 1, 0, none⟩ = some (.slice A l.length c) := H5.out.s.fm.cell 0
  refine wpAt_seq_wp ?_
  go_wp2
  refine wpAt_seq_wp ?_
  go_wp2
  show wpAt Try.prog 82 Code.ret _ _ _
  refine wpAt_of_wp ?_
  go_wp2
  exact leave_ret0 (D := w.heap.size + 4) (v := .slice A l.length c) H5.out.d (by simp [results, Try.results82, go_sem]) H5.out.done
end Go.Proofs.Ytipejhfgfciabaa

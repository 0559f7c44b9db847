/- What a set of groups can have: the search. -/
import Derived.Test.YtipejhfgfciabaaHrV
namespace Go.Proofs.Ytipejhfgfciabaa
open Go.RowKit Go.Shelf
theorem CB.more {w0 w : World} {Bx BF BC BM m m' : Nat} {y : Tt} {AH AG : Option Addr} {ch cg : Nat} {T : Int} {p : Pl} {b : Bool} (h : CB w0 w Bx BF BC BM y AH AG ch cg T m p b) (hm : m ≤ m') : CB w0 w Bx BF BC BM y AH AG ch cg T m' p b := ⟨h.mi.more hm, h.o, h.fp, h.fm, h.fr, h.lt⟩
theorem CL.more {w0 w : World} {Bx BF BC BM m m' : Nat} {y : Tt} {AH AG : Option Addr} {ch cg : Nat} {T : Int} {p : Pl} {b : Bool} (h : CL w0 w Bx BF BC BM y AH AG ch cg T m p b) (hm : m ≤ m') : CL w0 w Bx BF BC BM y AH AG ch cg T m' p b := ⟨h.s.more hm, h.ix, h.ip, h.d⟩
theorem cb_new {w : World} {Bx BF BC BM m : Nat} {y : Tt} {AH AG : Option Addr} {ch cg : Nat} {T : Int} (p : Pl) (hm : CM w Bx BF BC BM y AH AG ch cg T m) : CB w (((w.alloc (.cells (plc p) 75)).alloc (.cells #[.int .i64 (T - sumG p)] 3)).alloc (.cells #[.bool false] 4)) Bx BF BC BM y AH AG ch cg T m p false := by
  have hb : Below w.heap.size w (((w.alloc (.cells (plc p) 75)).alloc (.cells #[.int .i64 (T - sumG p)] 3)).alloc (.cells #[.bool false] 4)) := ((below_one w _).alloc (by simp) _).alloc (by simp; omega) _
  exact ⟨hm.step hb, Only.of_below hb, ((Has.new w 75 _).alloc _).alloc _, (has_newAt (by simp)).alloc _, has_newAt (by simp), hm.fx.lt, hm.ff.lt, hm.fc.lt, hm.mm.lt⟩
theorem CB.post {w0 w : World} {Bx BF BC BM m : Nat} {y : Tt} {AH AG : Option Addr} {ch cg : Nat} {T : Int} {p : Pl} {b : Bool} (h : CB w0 w Bx BF BC BM y AH AG ch cg T m p b) : CanPost b Bx BF BC BM y AH AG ch cg T m w0 (.returned (.bool b)) w := ⟨rfl, h.o, h.mi⟩
theorem can_yes {y : Tt} {p : Pl} : ∀ (n : Nat), canP y n p 0 = true
  | 0 => rfl
  | _ + 1 => rfl
theorem can_succ (y : Tt) (n : Nat) (p : Pl) (m : Int) : canP y (n + 1) p m = (decide (m = 0) || (decide (m ≤ ((n + 1 : Nat) : Int)) && (nexts y p).any fun gq => canP y n gq.2 (if gq.1 = -1 then m else m - 1))) := rfl
theorem can_over {y : Tt} {p : Pl} {M : Int} (h : M ≠ 0) : ∀ (n : Nat), (n : Int) < M → canP y n p M = false
  | 0, _ => by simp [canP, h]
  | n + 1, h2 => by
    have : ¬ M ≤ ((n + 1 : Nat) : Int) := by omega
    rw [can_succ, decide_eq_false h, decide_eq_false this]; rfl
theorem can_any_of {y : Tt} {p : Pl} {T : Int} {n : Nat} (hv : VT y) (hp : VP y p) (hh : p.hour < y.H.length) (h : T - sumG p ≠ 0) (h2 : T - sumG p ≤ ((n + 1 : Nat) : Int)) :
    canP y (n + 1) p (T - sumG p) = (nexts y p).any fun gq => canP y n gq.2 (T - sumG gq.2) := by
  rw [can_succ, decide_eq_false h, decide_eq_true h2, Bool.false_or, Bool.true_and, Bool.eq_iff_iff, List.any_eq_true, List.any_eq_true]
  have e : ∀ gq ∈ nexts y p, (if gq.1 = -1 then T - sumG p else T - sumG p - 1) = T - sumG gq.2 := fun gq hm => by
    rw [next_sum hv hp hh (g := gq.1) (q := gq.2) hm]
    split <;> omega
  constructor
  · rintro ⟨gq, hm, hc⟩
    exact ⟨gq, hm, by rw [← e gq hm]; exact hc⟩
  · rintro ⟨gq, hm, hc⟩
    exact ⟨gq, hm, by rw [e gq hm]; exact hc⟩
set_option maxRecDepth 100000 in
set_option maxHeartbeats 2000000 in
theorem can_out (y : Tt) (AH AG : Option Addr) (ch cg Bx BF BC BM m n : Nat) (T : Int) (p : Pl) (w : World) (hnh : y.H.length ≤ 12) (hn : p.hour + n = y.H.length) (hM : T - sumG p = 0 ∨ (T - sumG p ≠ 0 ∧ (n : Int) < T - sumG p)) (hm : CM w Bx BF BC BM y AH AG ch cg T m) :
    Calls Try.prog 100 #[plv p, .int .i64 (T - sumG p), .pointer (some ⟨Bx, 0, none⟩), .pointer (some ⟨BF, 0, none⟩), .pointer (some ⟨BC, 0, none⟩)] w (CanPost (canP y n p (T - sumG p)) Bx BF BC BM y AH AG ch cg T m w) := by
  have HC := Lib.hid (cb_new p hm)
  have HY := Lib.hid (fun (h : T - sumG p = 0) => show canP y n p (T - sumG p) = true by rw [h]; exact can_yes n)
  have HN := Lib.hid (fun (h : T - sumG p ≠ 0) h2 => can_over (y := y) (p := p) h n h2)
  clear hm
  obtain ⟨M, hMe⟩ : ∃ M, M = T - sumG p := ⟨_, rfl⟩
  rw [← hMe] at HC HY HN hM ⊢
  have HMM := Lib.hid hMe
  clear hMe
  obtain ⟨r, hr⟩ : ∃ r, r = canP y n p M := ⟨_, rfl⟩
  rw [← hr] at HY HN ⊢
  clear hr
  unfold plv at *
  refine calls_of_at (n := 3) Try.func100 rfl ?_
  simp only [Try.ntmps100, List.size_toArray, List.length_cons, List.length_nil, Nat.reduceAdd, Nat.reduceSub, Array.replicate_succ, Array.replicate_zero, List.push_toArray, List.append_toArray, List.nil_append, List.cons_append]
  refine wpAt_seq_wp ?_
  go_wp2
  unfold plc at HC ⊢
  have hz1 : (w.alloc (.cells #[.int .i64 p.hour, .int .i64 p.last, .int .i64 (p.given[0]?.getD 0), .int .i64 (p.given[1]?.getD 0), .int .i64 (p.given[2]?.getD 0), .int .i64 (p.given[3]?.getD 0), .int .i64 (p.given[4]?.getD 0)] 75)).heap.size = w.heap.size + 1 := by simp
  generalize (((w.alloc (.cells #[.int .i64 p.hour, .int .i64 p.last, .int .i64 (p.given[0]?.getD 0), .int .i64 (p.given[1]?.getD 0), .int .i64 (p.given[2]?.getD 0), .int .i64 (p.given[3]?.getD 0), .int .i64 (p.given[4]?.getD 0)] 75)).alloc (.cells #[.int .i64 M] 3)).alloc (.cells #[.bool false] 4)) = w1 at HC ⊢
  have x0 : w1.cell? ⟨Bx, 0, none⟩ = some (.slice AH y.H.length ch) := HC.out.mi.fx.cell 0
  have m0 : w1.cell? ⟨w.heap.size + 1, 0, none⟩ = some (.int .i64 M) := by rw [HMM.out]; exact HC.out.fm.cell 0
  have p0 : w1.cell? ⟨w.heap.size, 0, none⟩ = some (.int .i64 p.hour) := HC.out.fp.cell 0
  have r0 : w1.cell? ⟨w.heap.size + 2, 0, none⟩ = some (.bool false) := HC.out.fr.cell 0
  have rf := HC.out.fr.frozen 0
  have rl := HC.out.fr.lt
  by_cases h0 : M = 0
  · have HE := Lib.hid (HY.out h0)
    have HP := Lib.hid (HC.out.setR true)
    subst h0
    refine wpAt_seq_wp ?_
    go_wp2_with fail
    have rc : (w1.setCell ⟨w.heap.size + 2, 0, none⟩ (.bool true)).cell? ⟨w.heap.size + 2, 0, none⟩ = some (.bool true) := HP.out.fr.cell 0
    exact leave_ret00 (v := .bool true) (by simp [results, Try.results100, go_sem, rc]) (by rw [HE.out]; exact HP.out.post)
  · have h2 : (n : Int) < M := by omega
    have h0' : (M == 0) = false := by simpa using h0
    have HE := Lib.hid (HN.out h0 h2)
    have HP := Lib.hid (HC.out.setR false)
    have e1 : IntKind.i64.wrap ((y.H.length : Int) - (p.hour : Int)) = (n : Int) := by rw [IntWalk.i64_in _ (by omega)]; omega
    clear hM
    refine wpAt_seq_wp ?_
    go_wp2_with fail
    refine wpAt_seq_wp ?_
    go_wp2_with fail
    have rc : (w1.setCell ⟨w.heap.size + 2, 0, none⟩ (.bool false)).cell? ⟨w.heap.size + 2, 0, none⟩ = some (.bool false) := HP.out.fr.cell 0
    exact leave_ret00 (v := .bool false) (by simp [results, Try.results100, go_sem, rc]) (by rw [HE.out]; exact HP.out.post)
theorem ex_c {B Bx BF BC : Nat} {t : Array Value} (h : t = tC B Bx BF BC (fun i => t.getD i undef)) : ∃ u, t = tC B Bx BF BC u := ⟨_, h⟩
set_option maxRecDepth 100000 in
set_option maxHeartbeats 2000000 in
theorem canRange {w w3 : World} {y : Tt} {AH AG : Option Addr} {ch cg Bx BF BC BM m n : Nat} {T : Int} {p : Pl} {t : Array Value} {assign body : Code} {Q : Exit → Act → World → Prop}
    (ht : t = tC w.heap.size Bx BF BC (fun i => t.getD i undef)) (hg : ({ tmps := t, defers := [] } : Act).eval (.tmp 28) = .func (.func 98) #[] #[.pointer (some ⟨w.heap.size + 3, 0, none⟩), .pointer (some ⟨w.heap.size + 4, 0, none⟩)])
    (hv : VT y) (hp : VP y p) (hn : p.hour + (n + 1) = y.H.length) (hM1 : 1 ≤ T - sumG p ∧ T - sumG p ≤ ((n + 1 : Nat) : Int)) (hmax : m + cntB (n + 1) ≤ 1000000000000)
    (IH : ∀ q W m, VP y q → q.hour + n = y.H.length → 0 ≤ T - sumG q → CM W Bx BF BC BM y AH AG ch cg T m → m + cntB n ≤ 1000000000000 → Calls Try.prog 100 #[plv q, .int .i64 (T - sumG q), .pointer (some ⟨Bx, 0, none⟩), .pointer (some ⟨BF, 0, none⟩), .pointer (some ⟨BC, 0, none⟩)] W (CanPost (canP y n q (T - sumG q)) Bx BF BC BM y AH AG ch cg T (m + cntB n) W))
    (hab : some (assign, body) = Try.f100.body.bind loopParts) (hz : w3.heap.size = w.heap.size + 5)
    (hS : CB w w3 Bx BF BC BM y AH AG ch cg T m p false) (hi : Has w3 (w.heap.size + 3) 25 (ttc y AH AG ch cg)) (hj : Has w3 (w.heap.size + 4) 75 (plc p))
    (hQ0 : ∀ W', CL w W' Bx BF BC BM y AH AG ch cg T (m + 6 * cntB n) p false → ((nexts y p).any fun gq => canP y n gq.2 (T - sumG gq.2)) = false → Q .normal { tmps := t, defers := [{ target := .collected (w.heap.size + 5), args := #[] }] } W')
    (hQ1 : ∀ W', CL w W' Bx BF BC BM y AH AG ch cg T (m + 6 * cntB n) p true → ((nexts y p).any fun gq => canP y n gq.2 (T - sumG gq.2)) = true → wpAt Try.prog 100 .ret Q { tmps := t, defers := [{ target := .collected (w.heap.size + 5), args := #[] }] } W') :
    wpAt Try.prog 100 (.rangeFunc (.tmp 28) #[29, 30] assign body) Q { tmps := t, defers := [] } w3 := by
  obtain ⟨u, hu⟩ := ex_c ht
  clear ht
  subst hu
  refine wpAt_rangeFunc (n := 3) (gf := 98) (lb := #[.pointer (some ⟨w.heap.size + 3, 0, none⟩), .pointer (some ⟨w.heap.size + 4, 0, none⟩)]) hg (enters_of Try.func98 (by kernel_rfl) rfl) ?_
  have hnh := hv.nh
  have hnl := nexts_le y p hv
  have hcc : cntB (n + 1) = 6 * cntB n + 1 := rfl
  rw [hz]
  have hb2 := below_two w3 (.deferred (some [])) (.loop (loopRec 100 (tC w.heap.size Bx BF BC u) #[29, 30] assign body (w.heap.size + 5) .ready none))
  refine (next_any (w.heap.size + 6) (w.heap.size + 3) (w.heap.size + 4) y AH AG ch cg p hv hp (by omega) _
    (fun k W => CL w W Bx BF BC BM y AH AG ch cg T (m + k * cntB n) p false ∧ W.heap[w.heap.size + 6]? = some (.loop (loopRec 100 (tC w.heap.size Bx BF BC u) #[29, 30] assign body (w.heap.size + 5) .ready none)) ∧ ∀ j b, j < k → (nexts y p)[j]? = some b → canP y n b.2 (T - sumG b.2) = false)
    (fun _ W => CL w W Bx BF BC BM y AH AG ch cg T (m + 6 * cntB n) p true ∧ W.heap[w.heap.size + 6]? = some (.loop (loopRec 100 (tC w.heap.size Bx BF BC u) #[29, 30] assign body (w.heap.size + 5) .done (some .ret))) ∧ ((nexts y p).any fun gq => canP y n gq.2 (T - sumG gq.2)) = true)
    ?_ ?_ ?_ ?_).mono ?_
  · rintro k W ⟨h, _, _⟩
    exact ⟨h.ix, h.ip, h.s.mi.tr⟩
  · rintro k W W' ⟨h, hl, hj⟩ hb
    exact ⟨h.step hb, (hb.block _ (Array.getElem?_eq_some_iff.1 hl).1).trans hl, hj⟩
  · rintro k g q W hk ⟨h, hl, hno⟩
    have hk6 : k < 6 := Nat.lt_of_lt_of_le (List.getElem?_eq_some_iff.1 hk).1 hnl
    have hmem : (g, q) ∈ nexts y p := List.mem_of_getElem? hk
    obtain ⟨hvq, hhq⟩ := next_vp hv hp (by omega) hmem
    have hns := next_sum hv hp (by omega) hmem
    have hmul : (k + 1) * cntB n ≤ 6 * cntB n := Nat.mul_le_mul_right _ (by omega)
    have he : m + k * cntB n + cntB n = m + (k + 1) * cntB n := by rw [Nat.succ_mul]; omega
    have hsum : T - sumG q = if g = -1 then T - sumG p else T - sumG p - 1 := by rw [hns]; split <;> omega
    have h0q : 0 ≤ T - sumG q := by rw [hsum]; split <;> omega
    have := canRound w W Bx BF BC BM (m + k * cntB n) n y AH AG ch cg T p q g u (fun W' m' h' hm' => IH q W' m' hvq (by omega) h0q h' hm') (by omega) hsum ⟨by omega, by omega⟩ hab hl h
    rw [he] at this
    refine yield_mono this ?_
    rintro e W' (⟨hc, rfl, h1, h2⟩ | ⟨hc, rfl, h1, h2⟩)
    · refine .inl ⟨rfl, h1, h2, fun j b hj hjb => ?_⟩
      rcases Nat.lt_or_ge j k with hlt | hge
      · exact hno j b hlt hjb
      · have : j = k := by omega
        subst this
        rw [hk] at hjb
        cases hjb
        exact hc
    · exact .inr ⟨rfl, h1.more (by omega), h2, List.any_eq_true.2 ⟨_, hmem, hc⟩⟩
  · refine ⟨⟨by simpa using hS.step hb2, hi.below hb2 hi.lt, hj.below hb2 hj.lt, ?_⟩, ?_, fun j b hj => absurd hj (by omega)⟩
    · have h1 := World.alloc_heap_new w3 (.deferred (some []))
      rw [hz] at h1
      exact (Below.heap_alloc _ _ _ (by simp [hz])).trans h1
    · have := World.alloc_heap_new (w3.alloc (.deferred (some []))) (.loop (loopRec 100 (tC w.heap.size Bx BF BC u) #[29, 30] assign body (w.heap.size + 5) .ready none))
      rw [World.size_alloc, hz] at this
      exact this
  · rintro r W' ⟨⟨v, rfl⟩, (⟨hJ, hl, hno⟩ | ⟨k, h, hl, hyes⟩)⟩
    · have hmul : (nexts y p).length * cntB n ≤ 6 * cntB n := Nat.mul_le_mul_right _ hnl
      refine ⟨none, _, run_endLoop (P := Try.prog) hl (by simp), hQ0 _ ((hJ.put (by omega) hl _).more (by omega)) ?_⟩
      rw [List.any_eq_false]
      intro b hb
      obtain ⟨j, hj, rfl⟩ := List.getElem_of_mem hb
      rw [hno j _ hj (List.getElem?_eq_getElem hj)]
      decide
    · exact ⟨some .ret, _, run_endLoop (P := Try.prog) hl (by simp), hQ1 _ (h.put (by omega) hl _) hyes⟩
set_option maxRecDepth 100000 in
set_option maxHeartbeats 2000000 in
theorem can_step (y : Tt) (AH AG : Option Addr) (ch cg Bx BF BC BM m n : Nat) (T : Int) (p : Pl) (w : World) (hv : VT y) (hp : VP y p) (hn : p.hour + (n + 1) = y.H.length) (hM0 : T - sumG p ≠ 0) (hM1 : 0 ≤ T - sumG p ∧ T - sumG p ≤ ((n + 1 : Nat) : Int)) (hm : CM w Bx BF BC BM y AH AG ch cg T m) (hmax : m + cntB (n + 1) ≤ 1000000000000)
    (IH : ∀ q W m, VP y q → q.hour + n = y.H.length → 0 ≤ T - sumG q → CM W Bx BF BC BM y AH AG ch cg T m → m + cntB n ≤ 1000000000000 → Calls Try.prog 100 #[plv q, .int .i64 (T - sumG q), .pointer (some ⟨Bx, 0, none⟩), .pointer (some ⟨BF, 0, none⟩), .pointer (some ⟨BC, 0, none⟩)] W (CanPost (canP y n q (T - sumG q)) Bx BF BC BM y AH AG ch cg T (m + cntB n) W)) :
    Calls Try.prog 100 #[plv p, .int .i64 (T - sumG p), .pointer (some ⟨Bx, 0, none⟩), .pointer (some ⟨BF, 0, none⟩), .pointer (some ⟨BC, 0, none⟩)] w (CanPost (canP y (n + 1) p (T - sumG p)) Bx BF BC BM y AH AG ch cg T (m + cntB (n + 1)) w) := by
  have HC := Lib.hid (cb_new p hm)
  obtain ⟨kl, hkl⟩ := key_pl hp hv.nh
  have HK := Lib.hid hkl
  have HLo := Lib.hid (fun W => longer_any y AH AG ch cg p W)
  have HV := Lib.hid (And.intro hv (And.intro hp (And.intro hn hmax)))
  have HAny := Lib.hid (can_any_of hv hp (by omega) hM0 hM1.2)
  have HIH := Lib.hid IH
  have hnh := hv.nh
  clear hkl hm hv hp hmax IH
  obtain ⟨M, hMe⟩ : ∃ M, M = T - sumG p := ⟨_, rfl⟩
  rw [← hMe] at HC HAny hM0 hM1 ⊢
  have HMM := Lib.hid (And.intro hMe (And.intro hM0 hM1))
  clear hMe
  obtain ⟨r, hr⟩ : ∃ r, r = canP y (n + 1) p M := ⟨_, rfl⟩
  rw [← hr] at HAny ⊢
  have HRR := Lib.hid hr
  clear hr
  unfold plv ttv at *
  refine calls_of_at (n := 3) Try.func100 rfl ?_
  simp only [Try.ntmps100, List.size_toArray, List.length_cons, List.length_nil, Nat.reduceAdd, Nat.reduceSub, Array.replicate_succ, Array.replicate_zero, List.push_toArray, List.append_toArray, List.nil_append, List.cons_append]
  refine wpAt_seq_wp ?_
  go_wp2
  unfold plc at HC ⊢
  have hz1 : (((w.alloc (.cells #[.int .i64 p.hour, .int .i64 p.last, .int .i64 (p.given[0]?.getD 0), .int .i64 (p.given[1]?.getD 0), .int .i64 (p.given[2]?.getD 0), .int .i64 (p.given[3]?.getD 0), .int .i64 (p.given[4]?.getD 0)] 75)).alloc (.cells #[.int .i64 M] 3)).alloc (.cells #[.bool false] 4)).heap.size = w.heap.size + 3 := by simp
  generalize (((w.alloc (.cells #[.int .i64 p.hour, .int .i64 p.last, .int .i64 (p.given[0]?.getD 0), .int .i64 (p.given[1]?.getD 0), .int .i64 (p.given[2]?.getD 0), .int .i64 (p.given[3]?.getD 0), .int .i64 (p.given[4]?.getD 0)] 75)).alloc (.cells #[.int .i64 M] 3)).alloc (.cells #[.bool false] 4)) = w1 at HC hz1 ⊢
  have HZ1 := Lib.hid hz1
  clear hz1
  have x0 : w1.cell? ⟨Bx, 0, none⟩ = some (.slice AH y.H.length ch) := HC.out.mi.fx.cell 0
  have x1 : w1.cell? ⟨Bx, 1, none⟩ = some (.slice AG y.G.length cg) := HC.out.mi.fx.cell 1
  have x2 : w1.cell? ⟨Bx, 2, none⟩ = some (.int .i64 y.R) := HC.out.mi.fx.cell 2
  have k0 : w1.cell? ⟨BF, 0, none⟩ = some (.map (some BM)) := HC.out.mi.ff.cell 0
  have m0 : w1.cell? ⟨w.heap.size + 1, 0, none⟩ = some (.int .i64 M) := by rw [HMM.out.1]; exact HC.out.fm.cell 0
  have r0 : w1.cell? ⟨w.heap.size + 2, 0, none⟩ = some (.bool false) := HC.out.fr.cell 0
  have rf := HC.out.fr.frozen 0
  have rl := HC.out.fr.lt
  have p0 : w1.cell? ⟨w.heap.size, 0, none⟩ = some (.int .i64 p.hour) := HC.out.fp.cell 0
  have p1 : w1.cell? ⟨w.heap.size, 1, none⟩ = some (.int .i64 p.last) := HC.out.fp.cell 1
  have p2 : w1.cell? ⟨w.heap.size, 2, none⟩ = some (.int .i64 (p.given[0]?.getD 0)) := HC.out.fp.cell 2
  have p3 : w1.cell? ⟨w.heap.size, 3, none⟩ = some (.int .i64 (p.given[1]?.getD 0)) := HC.out.fp.cell 3
  have p4 : w1.cell? ⟨w.heap.size, 4, none⟩ = some (.int .i64 (p.given[2]?.getD 0)) := HC.out.fp.cell 4
  have p5 : w1.cell? ⟨w.heap.size, 5, none⟩ = some (.int .i64 (p.given[3]?.getD 0)) := HC.out.fp.cell 5
  have p6 : w1.cell? ⟨w.heap.size, 6, none⟩ = some (.int .i64 (p.given[4]?.getD 0)) := HC.out.fp.cell 6
  have h0' : (M == 0) = false := by simpa using hM0
  have e1 : IntKind.i64.wrap ((y.H.length : Int) - (p.hour : Int)) = ((n + 1 : Nat) : Int) := by rw [IntWalk.i64_in _ (by omega)]; omega
  have h2 : ¬ ((n + 1 : Nat) : Int) < M := by omega
  obtain ⟨N, hN⟩ : ∃ N, N = ((n + 1 : Nat) : Int) := ⟨_, rfl⟩
  rw [← hN] at e1 h2
  clear hN hM1
  refine wpAt_seq_wp ?_
  go_wp2_with fail
  have hcc : cntB (n + 1) = 6 * cntB n + 1 := rfl
  rcases HC.out.mi.mm.look false (t := 138) (e := 4) Try.underlying138 (z := .bool false) (by kernel_rfl) HK.out with hlk | ⟨v, hlk, hvv⟩
  rotate_left
  · obtain ⟨p', hp', he, rfl, hcan⟩ := hvv
    obtain rfl := plv_inj hp'.l HV.out.2.1.l he.symm
    unfold plc at hlk
    simp only [Bool.false_eq_true, if_false] at hlk
    have hpn := HV.out.2.2.1
    rw [show y.H.length - p'.hour = n + 1 by omega, ← HMM.out.1, ← HRR.out] at hcan
    have HE := Lib.hid hcan
    have HP := Lib.hid ((HC.out.setR false).more (show m ≤ m + cntB (n + 1) by omega))
    clear he hp' hcan hpn
    refine wpAt_seq_wp ?_
    go_wp2_with fail
    have rc : (w1.setCell ⟨w.heap.size + 2, 0, none⟩ (.bool false)).cell? ⟨w.heap.size + 2, 0, none⟩ = some (.bool false) := HP.out.fr.cell 0
    exact leave_ret00 (v := .bool false) (by simp [results, Try.results100, go_sem, rc]) (by rw [HE.out]; exact HP.out.post)
  unfold plc at hlk
  simp only [Bool.false_eq_true, if_false] at hlk
  refine wpAt_seq_wp ?_
  go_wp2_with fail
  clear hlk
  refine wpAt_seq (wpAt_seq_wp ?_)
  go_wp2_with fail
  refine (HLo.out _).mono ?_
  rintro e w3 ⟨rfl, rfl⟩
  go_wp2_with fail
  have HB3 := Lib.hid (HC.out.step (below_two w1 (.cells (ttc y AH AG ch cg) 25) (.cells (plc p) 75)))
  have HI1 := Lib.hid ((Has.new w1 25 (ttc y AH AG ch cg)).alloc (.cells (plc p) 75))
  have HI2 := Lib.hid (show Has ((w1.alloc (.cells (ttc y AH AG ch cg) 25)).alloc (.cells (plc p) 75)) (w1.heap.size + 1) 75 (plc p) from has_newAt (by simp))
  have hz3 : ((w1.alloc (.cells (ttc y AH AG ch cg) 25)).alloc (.cells (plc p) 75)).heap.size = w.heap.size + 5 := by simp [HZ1.out]
  clear x0 x1 x2 k0 m0 r0 rf rl p0 p1 p2 p3 p4 p5 p6 HC
  rw [HZ1.out] at HI1 HI2 ⊢
  clear HZ1
  generalize (w1.alloc (.cells (ttc y AH AG ch cg) 25)).alloc (.cells (plc p) 75) = w3 at HB3 HI1 HI2 hz3 ⊢
  have HD3 := Lib.hid (And.intro HB3.out (And.intro HI1.out HI2.out))
  clear HB3 HI1 HI2
  refine wpAt_block ?_
  refine canRange (w := w) (n := n) (m := m) rfl rfl HV.out.1 HV.out.2.1 hn ⟨by have := HMM.out.1; have := HMM.out.2.1; have := HMM.out.2.2; omega, by have := HMM.out.1; have := HMM.out.2.2; omega⟩ HV.out.2.2.2 HIH.out rfl hz3 HD3.out.1 HD3.out.2.1 HD3.out.2.2 ?_ ?_
  · intro W' hC hany
    rw [← HAny.out] at hany
    have HE := Lib.hid hany
    have HC4 := Lib.hid hC
    have hpn := HV.out.2.2.1
    have hmx := HV.out.2.2.2
    have HM4 := Lib.hid (hC.s.mi.mm.put (t := 138) (e := 4) Try.underlying138 (by unfold maxLen; omega) HK.out (val := .bool true) ⟨p, HV.out.2.1, rfl, rfl, by rw [show y.H.length - p.hour = n + 1 by omega, ← HMM.out.1, ← HRR.out]; exact hany⟩)
    obtain ⟨w5, hup, hme, hon⟩ := HM4.out
    have HC5 := Lib.hid ((HC4.out.wrote hon (HC4.out.s.mi.wrote hon hme)).more (show m + 6 * cntB n + 1 ≤ m + cntB (n + 1) by omega))
    clear hany hC HM4 hme hon hpn hmx HD3 HIH HLo
    unfold plc at hup
    refine ⟨fun i => by simp, fun i => by simp, ?_⟩
    have k0 : W'.cell? ⟨BF, 0, none⟩ = some (.map (some BM)) := HC4.out.s.mi.ff.cell 0
    have p0 : W'.cell? ⟨w.heap.size, 0, none⟩ = some (.int .i64 p.hour) := HC4.out.s.fp.cell 0
    have p1 : W'.cell? ⟨w.heap.size, 1, none⟩ = some (.int .i64 p.last) := HC4.out.s.fp.cell 1
    have p2 : W'.cell? ⟨w.heap.size, 2, none⟩ = some (.int .i64 (p.given[0]?.getD 0)) := HC4.out.s.fp.cell 2
    have p3 : W'.cell? ⟨w.heap.size, 3, none⟩ = some (.int .i64 (p.given[1]?.getD 0)) := HC4.out.s.fp.cell 3
    have p4 : W'.cell? ⟨w.heap.size, 4, none⟩ = some (.int .i64 (p.given[2]?.getD 0)) := HC4.out.s.fp.cell 4
    have p5 : W'.cell? ⟨w.heap.size, 5, none⟩ = some (.int .i64 (p.given[3]?.getD 0)) := HC4.out.s.fp.cell 5
    have p6 : W'.cell? ⟨w.heap.size, 6, none⟩ = some (.int .i64 (p.given[4]?.getD 0)) := HC4.out.s.fp.cell 6
    have r0 : w5.cell? ⟨w.heap.size + 2, 0, none⟩ = some (.bool false) := HC5.out.s.fr.cell 0
    have rf := HC5.out.s.fr.frozen 0
    have rl := HC5.out.s.fr.lt
    refine wpAt_seq_wp ?_
    go_wp2
    refine wpAt_seq_wp ?_
    go_wp2
    show wpAt Try.prog 100 Code.ret _ _ _
    refine wpAt_of_wp ?_
    go_wp2
    have HC6 := Lib.hid (HC5.out.setR false)
    have rc : ((w5.setCell ⟨w.heap.size + 2, 0, none⟩ (.bool false)).putObj (w.heap.size + 5) (.deferred none)).cell? ⟨w.heap.size + 2, 0, none⟩ = some (.bool false) := HC6.out.shut.fr.cell 0
    exact leave_ret0 (D := w.heap.size + 5) (v := .bool false) HC6.out.d (by simp [results, Try.results100, go_sem, rc]) (by rw [HE.out]; exact HC6.out.shut.post)
  · intro W' hC hany
    rw [← HAny.out] at hany
    have HE := Lib.hid hany
    have HC4 := Lib.hid (hC.more (show m + 6 * cntB n ≤ m + cntB (n + 1) by omega))
    clear hany hC HD3 HIH HLo
    refine wpAt_of_wp ?_
    go_wp2
    refine ⟨fun i => by simp, fun i => by simp, ?_⟩
    have rc : (W'.putObj (w.heap.size + 5) (.deferred none)).cell? ⟨w.heap.size + 2, 0, none⟩ = some (.bool true) := HC4.out.shut.fr.cell 0
    exact leave_ret0 (D := w.heap.size + 5) (v := .bool true) HC4.out.d (by simp [results, Try.results100, go_sem, rc]) (by rw [HE.out]; exact HC4.out.shut.post)
theorem can_any (y : Tt) (AH AG : Option Addr) (ch cg Bx BF BC BM : Nat) (T : Int) (hv : VT y) : ∀ (n : Nat) (p : Pl) (w : World) (m : Nat), VP y p → p.hour + n = y.H.length → 0 ≤ T - sumG p → CM w Bx BF BC BM y AH AG ch cg T m → m + cntB n ≤ 1000000000000 →
    Calls Try.prog 100 #[plv p, .int .i64 (T - sumG p), .pointer (some ⟨Bx, 0, none⟩), .pointer (some ⟨BF, 0, none⟩), .pointer (some ⟨BC, 0, none⟩)] w (CanPost (canP y n p (T - sumG p)) Bx BF BC BM y AH AG ch cg T (m + cntB n) w)
  | 0, p, w, m, hp, hn, h0, hm, _ => can_out y AH AG ch cg Bx BF BC BM m 0 T p w hv.nh (by omega) (by omega) hm
  | n + 1, p, w, m, hp, hn, h0, hm, hmax => by
    by_cases h : T - sumG p ≠ 0 ∧ T - sumG p ≤ ((n + 1 : Nat) : Int)
    · exact can_step y AH AG ch cg Bx BF BC BM m n T p w hv hp (by omega) h.1 ⟨h0, h.2⟩ hm hmax (fun q W m' hq h1 h2 h3 h4 => can_any y AH AG ch cg Bx BF BC BM T hv n q W m' hq h1 h2 h3 h4)
    · exact (can_out y AH AG ch cg Bx BF BC BM m (n + 1) T p w hv.nh (by omega) (by omega) hm).mono (fun e W' ⟨h1, h2, h3⟩ => ⟨h1, h2, h3.more (by omega)⟩)
end Go.Proofs.Ytipejhfgfciabaa

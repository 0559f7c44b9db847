/- follow; a round of fog. -/
import Derived.Test.YtdmpkeaanaoeaaaAirO
import Derived.Sort.CutIn
namespace Go.Proofs.Ytdmpkeaanaoeaaa
open Go.RowKit Go.Shelf
attribute [local go_sem] Oper.semAt_some
def mkF (W : World) (lo hi : Int) (A : Option Addr) (n cl : Nat) : World := (W.alloc (.cells #[.int .i64 lo, .int .i64 hi] 24)).alloc (.cells #[.slice A n cl] 67)
set_option maxRecDepth 100000 in
theorem follow_any (lo hi : Int) (A : Option Addr) (n cl : Nat) (W : World) :
    Calls Try.prog 37 #[.agg #[.int .i64 lo, .int .i64 hi], .slice A n cl] W fun e W' => e = .returned (.func (.func 59) #[] #[.pointer (some ⟨W.heap.size, 0, none⟩), .pointer (some ⟨W.heap.size + 1, 0, none⟩)]) ∧ W' = mkF W lo hi A n cl := by
  have hmf : ∀ (fn : Fn) (first cap : Array Value) (w : World), (Instr.makeFunc fn first cap).run Try.prog w = .ok (.func fn first cap) w := fun _ _ _ _ => rfl
  go_enter Try.func37, Try.ntmps37
  go_wp2
  go_ret
  exact ⟨rfl, rfl⟩
theorem fstI_step (f : Nat → Bool) (k : Nat) : fstI f (k + 1) = if fstI f k < 0 ∧ f k = true then (k : Int) else fstI f k := by
  have hb := fstI_bd f k
  show (if 0 ≤ fstI f k then fstI f k else if f k = true then (k : Int) else -1) = _
  by_cases h : 0 ≤ fstI f k
  · rw [if_pos h, if_neg (by omega)]
  · rw [if_neg h]
    by_cases hf : f k = true
    · rw [if_pos hf, if_pos ⟨by omega, hf⟩]
    · rw [if_neg hf, if_neg (fun h => hf h.2)]; omega
structure Gq where
  Bs : Nat
  Bp : Nat
  Tw : Nat
  Tl : Nat
  D : Nat
  l : Nat
structure GS (w0 W : World) (q : Gq) (lo hi : Int) (A : Option Addr) (ms : List Mo) (cl : Nat) (s p : Int) : Prop where
  b : Below w0.heap.size w0 W
  fs : Has W q.Bs 3 #[.int .i64 s]
  fp : Has W q.Bp 3 #[.int .i64 p]
  fw : Has W q.Tw 24 #[.int .i64 lo, .int .i64 hi]
  fl : Has W q.Tl 67 #[.slice A ms.length cl]
  d : W.heap[q.D]? = some (.deferred (some []))
  lt : w0.heap.size ≤ q.Bs ∧ q.Bs < q.Bp ∧ q.Bp < q.Tw ∧ q.Tw < q.Tl ∧ q.Tl < q.D ∧ q.D < q.l
section
variable {w0 W W' : World} {q : Gq} {lo hi : Int} {A : Option Addr} {ms : List Mo} {cl : Nat} {s p : Int}
theorem GS.under (h : GS w0 W q lo hi A ms cl s p) (hb : Below q.l W W') : GS w0 W' q lo hi A ms cl s p := by
  obtain ⟨h0, h1, h2, h3, h4, h5, h6⟩ := h
  exact ⟨h0.trans (hb.mono (by omega)), h1.below hb (by omega), h2.below hb (by omega), h3.below hb (by omega), h4.below hb (by omega), (hb.block q.D (by omega)).trans h5, h6⟩
theorem GS.put (h : GS w0 W q lo hi A ms cl s p) (o : Obj) : GS w0 (W.putObj q.l o) q lo hi A ms cl s p := h.under (below_put _ _ _)
theorem GS.setS (h : GS w0 W q lo hi A ms cl s p) (x : Int) : GS w0 (W.setCell ⟨q.Bs, 0, none⟩ (.int .i64 x)) q lo hi A ms cl x p := by
  obtain ⟨h0, h1, h2, h3, h4, h5, h6⟩ := h
  exact ⟨h0.setCell (by simp only; omega) _, h1.set 0 _, h2.far (by simp only; omega) _, h3.far (by simp only; omega) _, h4.far (by simp only; omega) _, (Below.heap_setCell _ _ _ _ (by simp only; omega)).trans h5, h6⟩
theorem GS.setP (h : GS w0 W q lo hi A ms cl s p) (x : Int) : GS w0 (W.setCell ⟨q.Bp, 0, none⟩ (.int .i64 x)) q lo hi A ms cl s x := by
  obtain ⟨h0, h1, h2, h3, h4, h5, h6⟩ := h
  exact ⟨h0.setCell (by simp only; omega) _, h1.far (by simp only; omega) _, h2.set 0 _, h3.far (by simp only; omega) _, h4.far (by simp only; omega) _, (Below.heap_setCell _ _ _ _ (by simp only; omega)).trans h5, h6⟩
end
abbrev gTmps (q : Gq) (B : Nat) (lo hi : Int) (A : Option Addr) (n cl : Nat) : Array Value :=
  #[.agg #[.int .i64 lo, .int .i64 hi], .slice A n cl, .pointer (some ⟨B, 0, none⟩), undef, .pointer (some ⟨q.Bs, 0, none⟩), .pointer (some ⟨q.Bp, 0, none⟩), undef, undef, .agg #[.int .i64 lo, .int .i64 hi], .slice A n cl,
    .func (.func 59) #[] #[.pointer (some ⟨q.Tw, 0, none⟩), .pointer (some ⟨q.Tl, 0, none⟩)],
    undef, undef, undef, undef, undef, undef, undef, undef, undef, undef, undef, undef, undef, undef, undef, undef, undef, undef, undef, undef, undef, undef]
theorem Kept.set {B : Nat} {W W' : World} (h : Kept B W W') {p : Addr} (hp : p.block < B) (v : Value) : Kept B W (W'.setCell p v) := fun b hb hl => (Below.heap_setCell _ _ _ _ (by omega)).trans (h b hb hl)
def nxt (s : Int) (i : Nat) (b : Bool) : Int := if s < 0 ∧ b = true then (i : Int) else s
set_option maxRecDepth 100000 in
set_option maxHeartbeats 2000000 in
theorem ground_any (w0 W : World) (q : Gq) (B : Nat) (lo hi : Int) (A : Option Addr) (ms : List Mo) (cl i : Nat) (c d : Co) (s p : Int) {assign body : Code}
    (hab : some (assign, body) = Try.f43.body.bind loopParts) (hl : W.heap[q.l]? = some (.loop (loopRec 43 (gTmps q B lo hi A ms.length cl) #[11, 12] assign body q.D .ready none)))
    (hS : GS w0 W q lo hi A ms cl s p) :
    YieldAt Fence.wide 2 Try.prog q.l #[.int .i64 i, knv c d] W fun e W' => e = .returned (.bool true) ∧
      (GS w0 W' q lo hi A ms cl (nxt s i (decide (0 < c.dew))) (nxt p i (decide (0 < d.dew))) ∧ W'.heap[q.l]? = some (.loop (loopRec 43 (gTmps q B lo hi A ms.length cl) #[11, 12] assign body q.D .ready none))) ∧
      Kept (q.l + 1) W W' ∧ W.heap.size ≤ W'.heap.size := by
  obtain ⟨s2, hs2⟩ : ∃ s2, s2 = nxt s i (decide (0 < c.dew)) := ⟨_, rfl⟩
  obtain ⟨p2, hp2⟩ : ∃ p2, p2 = nxt p i (decide (0 < d.dew)) := ⟨_, rfl⟩
  rw [← hs2, ← hp2]
  have HSP := Lib.hid (And.intro hs2 hp2)
  clear hs2 hp2
  obtain ⟨rc, hrc⟩ : ∃ rc, rc = loopRec 43 (gTmps q B lo hi A ms.length cl) #[11, 12] assign body q.D := ⟨_, rfl⟩
  rw [← hrc] at hl ⊢
  have hy := run_yield (P := Try.prog) (args := #[.int .i64 i, knv c d]) hl (by rw [hrc]; rfl)
  refine ⟨43, _, assign, body, by rw [hy, hrc], roundIn_wide Try.func43 ?_⟩
  clear hy
  simp only [Try.f43, Option.bind_some, loopParts, Option.some.injEq, Prod.mk.injEq] at hab
  obtain ⟨ha, hb⟩ := hab
  have hll := (Array.getElem?_eq_some_iff.1 hl).1
  have HR := Lib.hid hrc
  rw [ha]
  have hzip : ∀ (t : Array Value) (u v : Value), (#[11, 12].zip #[u, v]).foldl (fun tmps (p : Tmp × Value) => match p with | (t, a) => tmps.setIfInBounds t a) t = (t.setIfInBounds 11 u).setIfInBounds 12 v := fun t u v => by simp [Array.zip]
  rw [hzip]
  clear hzip
  change Code.wpIn _ _ _ _ _ { tmps := ((gTmps q B lo hi A ms.length cl).setIfInBounds 11 (.int .i64 i)).setIfInBounds 12 (knv c d), defers := [] } W
  have H0 := Lib.hid (And.intro hS hl)
  clear hrc hl hS ha
  unfold knv
  gi_wp2
  have HB := Lib.hid (below_one W (.cells (knc c d) 76))
  have HN := Lib.hid (Has.new W 76 (knc c d))
  have H1 : Hid (GS w0 (W.alloc (.cells (knc c d) 76)) q lo hi A ms cl s p ∧ (W.alloc (.cells (knc c d) 76)).heap[q.l]? = some (.loop (rc .ready none))) :=
    ⟨H0.out.1.under (HB.out.mono (Nat.le_of_lt hll)), (HB.out.block _ hll).trans H0.out.2⟩
  have HK : Hid (Kept (q.l + 1) W (W.alloc (.cells (knc c d) 76)) ∧ W.heap.size ≤ (W.alloc (.cells (knc c d) 76)).heap.size) := ⟨fun b _ hb => HB.out.block b hb, HB.out.size⟩
  generalize hg : W.heap.size = gb at HN HK ⊢
  have hlg : q.l < gb := by omega
  generalize W.alloc (.cells (knc c d) 76) = W1 at HN H1 HK ⊢
  clear HB H0
  have hbeg := run_beginRound (P := Try.prog) H1.out.2 (by rw [HR.out])
  obtain ⟨W2, hW2⟩ : ∃ W2, W1.putObj q.l (.loop { rc .ready none with state := .busy }) = W2 := ⟨_, rfl⟩
  have H2 : Hid (GS w0 W2 q lo hi A ms cl s p ∧ W2.heap[q.l]? = some (.loop (rc .busy none)) ∧ Has W2 gb 76 (knc c d) ∧ Kept (q.l + 1) W W2 ∧ W2.heap.size = W1.heap.size) := by
    refine ⟨by rw [← hW2]; exact H1.out.1.put _, ?_, ?_, ?_, by rw [← hW2]; simp⟩
    · rw [← hW2, World.putObj_heap_same (Array.getElem?_eq_some_iff.1 H1.out.2).1, HR.out]
    · rw [← hW2]; exact (World.putObj_heap_other (by omega)).trans HN.out
    · rw [← hW2]; exact fun b hb hl => (World.putObj_heap_other (by omega)).trans (HK.out.1 b hb hl)
  rw [hW2] at hbeg
  refine ⟨W2, hbeg, ?_⟩
  have hsz := HK.out.2
  clear hbeg hW2 H1 HN HK
  rw [hb]
  clear hb
  have s0 : W2.cell? ⟨q.Bs, 0, none⟩ = some (.int .i64 s) := H2.out.1.fs.cell 0
  have p0 : W2.cell? ⟨q.Bp, 0, none⟩ = some (.int .i64 p) := H2.out.1.fp.cell 0
  have sf := H2.out.1.fs.frozen 0
  have pf := H2.out.1.fp.frozen 0
  have c4 : W2.cell? ⟨gb, 4, none⟩ = some (.int .i64 c.dew) := H2.out.2.2.1.cell 4
  have d4 : W2.cell? ⟨gb, 9, none⟩ = some (.int .i64 d.dew) := H2.out.2.2.1.cell 9
  have hlt := H2.out.1.lt
  have n1 : ¬ q.Bs = q.Bp := by omega
  have n2 : ¬ q.Bp = q.Bs := by omega
  have n3 : ¬ gb = q.Bs := by omega
  have HLT := Lib.hid hlt
  clear hlt
  have fin : Hid (∀ (W3 : World) (s' p' : Int), GS w0 W3 q lo hi A ms cl s' p' → W3.heap[q.l]? = some (.loop (rc .busy none)) → Kept (q.l + 1) W W3 → gb ≤ W3.heap.size → s' = s2 → p' = p2 → ∀ a,
      roundEnd Try.prog q.l (fun e W' => e = .returned (.bool true) ∧ (GS w0 W' q lo hi A ms cl s2 p2 ∧ W'.heap[q.l]? = some (.loop (rc .ready none))) ∧ Kept (q.l + 1) W W' ∧ gb ≤ W'.heap.size) Exit.normal a W3) := by
    intro W3 s' p' h1 h2 h3 h4 e1 e2 a
    subst e1 e2
    have hend := run_endRound (P := Try.prog) none h2
    refine ⟨_, _, hend, rfl, ⟨h1.put _, ?_⟩, fun b hb hl => (World.putObj_heap_other (by omega)).trans (h3 b hb hl), by simpa using h4⟩
    rw [World.putObj_heap_same (Array.getElem?_eq_some_iff.1 h2).1, HR.out]
    rfl
  have H3 := Lib.hid (show Kept (q.l + 1) W W2 ∧ gb ≤ W2.heap.size ∧ W2.heap[q.l]? = some (.loop (rc .busy none)) from ⟨H2.out.2.2.2.1, by rw [H2.out.2.2.2.2]; exact hsz, H2.out.2.1⟩)
  have k1 : (s < 0 ∧ 0 < c.dew) ∨ (s < 0 ∧ ¬ 0 < c.dew) ∨ ¬ s < 0 := by omega
  have k2 : (p < 0 ∧ 0 < d.dew) ∨ (p < 0 ∧ ¬ 0 < d.dew) ∨ ¬ p < 0 := by omega
  have m1 : ∀ (x : Int), Hid ((W2.setCell ⟨q.Bs, 0, none⟩ (.int .i64 x)).heap[q.l]? = some (.loop (rc .busy none)) ∧ (W2.setCell ⟨q.Bp, 0, none⟩ (.int .i64 x)).heap[q.l]? = some (.loop (rc .busy none)) ∧ ∀ y : Int, ((W2.setCell ⟨q.Bs, 0, none⟩ (.int .i64 x)).setCell ⟨q.Bp, 0, none⟩ (.int .i64 y)).heap[q.l]? = some (.loop (rc .busy none))) := fun x => by
    have := HLT.out
    exact ⟨(Below.heap_setCell _ _ _ _ (by simp only; omega)).trans H3.out.2.2, (Below.heap_setCell _ _ _ _ (by simp only; omega)).trans H3.out.2.2, fun y => (Below.heap_setCell _ _ _ _ (by simp only; omega)).trans ((Below.heap_setCell _ _ _ _ (by simp only; omega)).trans H3.out.2.2)⟩
  have M1 := Lib.hid m1
  have HGS := Lib.hid H2.out.1
  clear m1 H2
  rcases k1 with ⟨a1, a2⟩ | ⟨a1, a2⟩ | a1 <;> rcases k2 with ⟨b1, b2⟩ | ⟨b1, b2⟩ | b1
  · gi_wp2
    exact fin.out _ i i ((HGS.out.setS _).setP _) ((M1.out _).out.2.2 _) ((H3.out.1.set (by have := HLT.out; simp only; omega) _).set (by have := HLT.out; simp only; omega) _) (by simpa using H3.out.2.1) (by rw [HSP.out.1]; unfold nxt; simp [a1, a2]) (by rw [HSP.out.2]; unfold nxt; simp [b1, b2]) _
  · gi_wp2
    exact fin.out _ i p (HGS.out.setS _) ((M1.out _).out.1) (H3.out.1.set (by have := HLT.out; simp only; omega) _) (by simpa using H3.out.2.1) (by rw [HSP.out.1]; unfold nxt; simp [a1, a2]) (by rw [HSP.out.2]; unfold nxt; rw [if_neg (by simp; omega)]) _
  · gi_wp2
    exact fin.out _ i p (HGS.out.setS _) ((M1.out _).out.1) (H3.out.1.set (by have := HLT.out; simp only; omega) _) (by simpa using H3.out.2.1) (by rw [HSP.out.1]; unfold nxt; simp [a1, a2]) (by rw [HSP.out.2]; unfold nxt; rw [if_neg (by simp; omega)]) _
  · gi_wp2
    exact fin.out _ s i (HGS.out.setP _) ((M1.out _).out.2.1) (H3.out.1.set (by have := HLT.out; simp only; omega) _) (by simpa using H3.out.2.1) (by rw [HSP.out.1]; unfold nxt; rw [if_neg (by simp; omega)]) (by rw [HSP.out.2]; unfold nxt; simp [b1, b2]) _
  · gi_wp2
    exact fin.out _ s p HGS.out H3.out.2.2 H3.out.1 H3.out.2.1 (by rw [HSP.out.1]; unfold nxt; rw [if_neg (by simp; omega)]) (by rw [HSP.out.2]; unfold nxt; rw [if_neg (by simp; omega)]) _
  · gi_wp2
    exact fin.out _ s p HGS.out H3.out.2.2 H3.out.1 H3.out.2.1 (by rw [HSP.out.1]; unfold nxt; rw [if_neg (by simp; omega)]) (by rw [HSP.out.2]; unfold nxt; rw [if_neg (by simp; omega)]) _
  · gi_wp2
    exact fin.out _ s i (HGS.out.setP _) ((M1.out _).out.2.1) (H3.out.1.set (by have := HLT.out; simp only; omega) _) (by simpa using H3.out.2.1) (by rw [HSP.out.1]; unfold nxt; rw [if_neg (by simp; omega)]) (by rw [HSP.out.2]; unfold nxt; simp [b1, b2]) _
  · gi_wp2
    exact fin.out _ s p HGS.out H3.out.2.2 H3.out.1 H3.out.2.1 (by rw [HSP.out.1]; unfold nxt; rw [if_neg (by simp; omega)]) (by rw [HSP.out.2]; unfold nxt; rw [if_neg (by simp; omega)]) _
  · gi_wp2
    exact fin.out _ s p HGS.out H3.out.2.2 H3.out.1 H3.out.2.1 (by rw [HSP.out.1]; unfold nxt; rw [if_neg (by simp; omega)]) (by rw [HSP.out.2]; unfold nxt; rw [if_neg (by simp; omega)]) _
end Go.Proofs.Ytdmpkeaanaoeaaa

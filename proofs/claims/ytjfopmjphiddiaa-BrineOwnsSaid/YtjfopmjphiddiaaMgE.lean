/- The iterators of all pipes, one on the other. -/
import Derived.Test.YtjfopmjphiddiaaMgD
namespace Go.Proofs.Ytjfopmjphiddiaa
open Go.RowKit Go.Shelf

/-- a circuit in memory, looked at from ahead of one of its pipes -/
def HereT (W : World) (Bc Bp : Nat) (hd : List Qu) (y : Yx) (qs : List Qu) : Prop := ∃ tl, qs = hd ++ tl ∧ tl.map Qu.pp = y.ps ∧ Circ W Bc Bp y.t qs y.r
def TakerT (l k Bc Bp : Nat) (W : World) (qs : List Qu) (F : Yx → Sl → Yx) (G : Yx → Sl → Prop) : Prop :=
  ∀ (W1 : World) (qs1 hd1 : List Qu) (y1 : Yx) (s : Sl), hd1.length = k → Mv Bc Bp W qs W1 qs1 → HereT W1 Bc Bp hd1 y1 qs1 → okS s → G y1 s →
    YieldAt Fence.wide 2 Try.prog l #[slv s] W1 fun e W2 => e = .returned (.bool true) ∧ ∃ qs2, Mv Bc Bp W1 qs1 W2 qs2 ∧ HereT W2 Bc Bp hd1 (F y1 s) qs2
def liftF (F : Yx → Sl → Yx) : Yx → Sl → Yx
  | ⟨p :: ps, t, r⟩, s => ⟨p.enter s :: ((p.outs s).foldl F ⟨ps, t, r⟩).ps, ((p.outs s).foldl F ⟨ps, t, r⟩).t, ((p.outs s).foldl F ⟨ps, t, r⟩).r⟩
  | y, _ => y
def liftG (F : Yx → Sl → Yx) (G : Yx → Sl → Prop) : Yx → Sl → Prop
  | ⟨p :: ps, t, r⟩, s => p.ok ∧ s.v ≤ 1048576 ∧ hea p.l + s.h ≤ 2199023255552 ∧ ∀ a s' b, p.outs s = a ++ s' :: b → G (a.foldl F ⟨ps, t, r⟩) s'
  | _, _ => False
def LF : Nat → (Yx → Sl → Yx) → Yx → Sl → Yx
  | 0, F => F
  | k + 1, F => LF k (liftF F)
def LG : Nat → (Yx → Sl → Yx) → (Yx → Sl → Prop) → Yx → Sl → Prop
  | 0, _, G => G
  | k + 1, F, G => LG k (liftF F) (liftG F G)
/-- the function value of an iterator behind some pipes -/
def FlowAt (Bp : Nat) : Nat → Sl → Value → World → (Nat → Prop) → Prop
  | 0, s, v, W, X => ∃ b, v = .func (.func 73) #[] #[.pointer (some ⟨b, 0, none⟩)] ∧ Has W b 23 #[iv s.v, iv s.h] ∧ ¬ X b
  | k + 1, s, v, W, X => ∃ bi bq f ca, v = .func (.func 74) #[] #[.pointer (some ⟨bi, 0, none⟩), .pointer (some ⟨bq, 0, none⟩)] ∧ Has W bi 105 #[.func (.func f) #[] ca] ∧ Has W bq 109 #[.pointer (some ⟨Bp, k * 2, none⟩)] ∧ ¬ X bi ∧ ¬ X bq ∧
      FlowAt Bp k s (.func (.func f) #[] ca) W X
section
variable {W W' : World} {Bc Bp : Nat} {t : Sl} {qs qs' hd : List Qu} {r : Ho} {y : Yx} {q : Qu}
theorem FlowAt.mv {k : Nat} {s : Sl} {v : Value} (h : FlowAt Bp k s v W (CS Bc Bp qs)) (hm : Mv Bc Bp W qs W' qs') : FlowAt Bp k s v W' (CS Bc Bp qs') := by
  induction k generalizing v with
  | zero =>
    obtain ⟨b, h1, h2, h3⟩ := h
    exact ⟨b, h1, h2.only hm.only h3, hm.out h2.lt h3⟩
  | succ k ih =>
    obtain ⟨bi, bq, f, ca, h1, h2, h3, h4, h5, h6⟩ := h
    exact ⟨bi, bq, f, ca, h1, h2.only hm.only h4, h3.only hm.only h5, hm.out h2.lt h4, hm.out h3.lt h5, ih h6⟩
theorem here_of (h : HereT W Bc Bp hd ⟨q.pp :: y.ps, y.t, y.r⟩ qs) : ∃ q', q'.pp = q.pp ∧ Here W Bc Bp hd q' y qs := by
  obtain ⟨tl, h1, h2, h3⟩ := h
  cases tl with
  | nil => simp at h2
  | cons x tl =>
    simp only [List.map_cons, List.cons.injEq] at h2
    exact ⟨x, h2.1, tl, h1, h2.2, h3⟩
theorem hereT_of (h : Here W Bc Bp hd q y qs) : HereT W Bc Bp (hd ++ [q]) y qs := by
  obtain ⟨tl, h1, h2, h3⟩ := h
  exact ⟨tl, by simp [h1], h2, h3⟩
theorem of_hereT (h : HereT W Bc Bp (hd ++ [q]) y qs) : Here W Bc Bp hd q y qs := by
  obtain ⟨tl, h1, h2, h3⟩ := h
  exact ⟨tl, by simp [h1], h2, h3⟩
theorem hereT_up (h : Here W Bc Bp hd q y qs) : HereT W Bc Bp hd ⟨q.pp :: y.ps, y.t, y.r⟩ qs := by
  obtain ⟨tl, h1, h2, h3⟩ := h
  exact ⟨q :: tl, h1, by simp [h2], h3⟩
end
theorem enters73 : Enters Try.prog 73 := enters_of Try.func73 (by kernel_rfl) rfl
theorem enters74 : Enters Try.prog 74 := enters_of Try.func74 (by kernel_rfl) rfl

def FlowPost (Bc Bp : Nat) (W : World) (qs : List Qu) (z : Yx) (e : Ending) (W' : World) : Prop := (∃ x, e = .returned x) ∧ ∃ qs', Mv Bc Bp W qs W' qs' ∧ HereT W' Bc Bp [] z qs'

theorem wpIn_range_outer {n : Nat} {P : Program} {g : Operand} {ps : Array Tmp} {assign body : Code} {Q : Exit → Act → World → Prop} {a : Act} {w : World} {gf : Nat} {lb : Array Value}
    (hg : a.eval g = .func (.func gf) #[] lb) (eg : Enters P gf)
    (h : ∀ fn, CallsIn Fence.wide (n - 1) P gf (#[.func (.yield (w.heap.size + 1)) #[] #[]] ++ lb) ((w.alloc (.deferred (some []))).alloc (.loop (recAt fn a.tmps ps assign body w.heap.size)))
      fun e W3 => (∃ v, e = .returned v) ∧ W3.heap[w.heap.size + 1]? = some (.loop (recAt fn a.tmps ps assign body w.heap.size)) ∧ ∀ r, Q .normal { a with defers := { target := .collected w.heap.size, args := #[] } :: a.defers } (W3.putObj (w.heap.size + 1) (.loop r))) :
    (Code.rangeFunc g ps assign body).wpIn Fence.wide n P Q a w := by
  refine wpIn_rangeFunc fun fn _ => ?_
  refine ⟨w.heap.size + 1, [{ target := .collected w.heap.size, args := #[] }], (w.alloc (.deferred (some []))).alloc (.loop (recAt fn a.tmps ps assign body w.heap.size)), { target := .fn (.func gf) lb, args := #[.func (.yield (w.heap.size + 1)) #[] #[]] },
    (w.alloc (.deferred (some []))).alloc (.loop (recAt fn a.tmps ps assign body w.heap.size)), gf, #[.func (.yield (w.heap.size + 1)) #[] #[]] ++ lb, (w.alloc (.deferred (some []))).alloc (.loop (recAt fn a.tmps ps assign body w.heap.size)), run_enterLoop_outer _ _ _ _ _, ?_, ?_, ?_, (fun h => by cases h), ?_⟩
  · simp only [resolve, hg]
    simp [go_sem]
  · intro f' _; trivial
  · have := eg
    unfold Enters at this
    simp [invoke, go_sem, this]
  · refine (h fn).mono ?_
    rintro e W3 ⟨⟨v, rfl⟩, hl, hq⟩
    exact ⟨none, _, run_endLoop hl (by simp), hq _⟩
theorem Has.put {W : World} {g k : Nat} {t : TypeId} {cs : Array Value} {o : Obj} (h : Has W g t cs) (hk : W.heap[k]? = some o) (ho : ∀ cs t m, o ≠ .cells cs t m) (o' : Obj) : Has (W.putObj k o') g t cs := by
  have hne : g ≠ k := fun e => by subst e; unfold Has at h; rw [hk] at h; cases h; exact ho _ _ _ rfl
  exact (World.putObj_heap_other hne).trans h
theorem Circ.put {W : World} {Bc Bp k : Nat} {t : Sl} {qs : List Qu} {r : Ho} {o : Obj} (h : Circ W Bc Bp t qs r) (hk : W.heap[k]? = some o) (ho : ∀ cs t m, o ≠ .cells cs t m) (o' : Obj) : Circ (W.putObj k o') Bc Bp t qs r :=
  ⟨h.c.put hk ho o', h.p.put hk ho o', fun q hq => by
    obtain ⟨⟨cur, hc, h1, h2⟩, h3, h4⟩ := h.q q hq
    exact ⟨⟨cur, hc.put hk ho o', h1, h2⟩, h3, h4⟩, h.ne, h.nc, h.nd⟩
theorem HereT.put {W : World} {Bc Bp k : Nat} {hd qs : List Qu} {y : Yx} {o : Obj} (h : HereT W Bc Bp hd y qs) (hk : W.heap[k]? = some o) (ho : ∀ cs t m, o ≠ .cells cs t m) (o' : Obj) : HereT (W.putObj k o') Bc Bp hd y qs := by
  obtain ⟨tl, h1, h2, h3⟩ := h
  exact ⟨tl, h1, h2, h3.put hk ho o'⟩

set_option maxRecDepth 100000 in
set_option maxHeartbeats 2000000 in
theorem flow_any (Bc Bp k : Nat) : ∀ (s0 : Sl) (v : Value) (l : Nat) (W : World) (qs : List Qu) (t : Sl) (r : Ho) (F : Yx → Sl → Yx) (G : Yx → Sl → Prop), FlowAt Bp k s0 v W (CS Bc Bp qs) → Circ W Bc Bp t qs r → TakerT l k Bc Bp W qs F G →
    LG k F G ⟨qs.map Qu.pp, t, r⟩ s0 → okS s0 → ∃ f ca, v = .func (.func f) #[] ca ∧ Enters Try.prog f ∧ CallsIn Fence.wide 3 Try.prog f (#[.func (.yield l) #[] #[]] ++ ca) W (FlowPost Bc Bp W qs (LF k F ⟨qs.map Qu.pp, t, r⟩ s0)) := by
  induction k with
  | zero =>
    intro s0 v l W qs t r F G hf hC hT hG hs
    obtain ⟨b, rfl, hb, nb⟩ := hf
    refine ⟨73, _, rfl, enters73, ?_⟩
    exact (one1_any l b s0 W _ hb (hT W qs [] ⟨qs.map Qu.pp, t, r⟩ s0 rfl (Mv.refl _ _ _ _) ⟨qs, rfl, rfl, hC⟩ hs hG))
  | succ k ih =>
    intro s0 v l W qs t r F G hf hC hT hG hs
    have hf0 := hf
    obtain ⟨bi, bq, f, ca, rfl, hbi, hbq, nbi, nbq, hfk⟩ := hf
    refine ⟨74, _, rfl, enters74, ?_⟩
    have c0 : W.cell? ⟨bi, 0, none⟩ = some (.func (.func f) #[] ca) := hbi.cell 0
    have il := hbi.lt
    have HI := Lib.hid (And.intro hbq (And.intro nbq (And.intro hfk (And.intro hC (And.intro hT (And.intro hG hs))))))
    clear hf0 hbi hbq nbi nbq hfk hC hT hG hs
    refine callsIn_of_wp_marks Try.func74 rfl trivial ?_ rfl
    simp only [Try.ntmps74, List.size_toArray, List.length_cons, List.length_nil, Nat.reduceAdd, Nat.reduceSub, Array.replicate_succ, Array.replicate_zero, List.push_toArray, List.append_toArray, List.nil_append, List.cons_append]
    have ef : Enters Try.prog f := by
      obtain ⟨_, _, hfk, _⟩ := HI.out
      cases k with
      | zero => obtain ⟨b, hv, _⟩ := hfk; cases hv; exact enters73
      | succ k => obtain ⟨_, _, _, _, hv, _⟩ := hfk; cases hv; exact enters74
    have HEF := Lib.hid ef
    clear ef
    gi_wp2
    refine wpIn_range_outer rfl HEF.out ?_
    intro fn
    obtain ⟨hbq, nbq, hfk, hC, hT, hG, hs⟩ := HI.out
    obtain ⟨wr, hwr⟩ : ∃ wr, wr = W.alloc (Obj.cells #[Value.func (Fn.yield l) #[] #[]] 86) := ⟨_, rfl⟩
    have hb1 : Below W.heap.size W wr := by rw [hwr]; exact below_one _ _
    have hBx : Has wr W.heap.size 86 #[.func (.yield l) #[] #[]] := by rw [hwr]; exact Has.new _ _ _
    rw [← hwr]
    have hbr : ∀ o, Below W.heap.size W ((wr.alloc (.deferred (some []))).alloc o) := fun o => (hb1.alloc hb1.size _).alloc (by simp; have := hb1.size; omega) _
    have hbw : ∀ o, Below wr.heap.size wr ((wr.alloc (.deferred (some []))).alloc o) := fun o => ((Below.refl _ _).alloc (Nat.le_refl _) _).alloc (by simp) _
    have hW := hb1.size
    have hTk : ∀ A B, some (A, B) = (Try.f74.body.map loopParts).bind (·[0]?) → TakerT (wr.heap.size + 1) k Bc Bp ((wr.alloc (.deferred (some []))).alloc (.loop (recAt fn #[Value.func (Fn.yield l) #[] #[], Value.pointer (some ⟨bi, 0, none⟩), Value.pointer (some ⟨bq, 0, none⟩), Value.pointer (some ⟨W.heap.size, 0, none⟩), undef, undef, Value.func (Fn.func f) #[] ca, undef, undef, undef, undef, undef, undef, undef, undef, undef, undef, undef, undef, undef, undef, undef, undef, undef, undef, undef, undef, undef, undef, undef, undef, undef, undef, undef] #[7] A B wr.heap.size))) qs (liftF F) (liftG F G) := by
      intro A B hAB W1 qs1 hd1 y1 s hk hM hH hso hg
      obtain ⟨ps, t1, r1⟩ := y1
      cases ps with
      | nil => exact hg.elim
      | cons p ps =>
        obtain ⟨g1, g2, g3, g4⟩ := hg
        obtain ⟨q, hqp, hHq⟩ := here_of (q := ⟨p.room, 0, 0, 0, p.l⟩) (y := ⟨ps, t1, r1⟩) hH
        have hqp : q.pp = p := hqp
        have hlr := hM.block (show ((wr.alloc (.deferred (some []))).alloc (.loop _)).heap[wr.heap.size + 1]? = some (.loop _) by have := World.alloc_heap_new (wr.alloc (.deferred (some []))) (.loop (recAt fn #[Value.func (Fn.yield l) #[] #[], Value.pointer (some ⟨bi, 0, none⟩), Value.pointer (some ⟨bq, 0, none⟩), Value.pointer (some ⟨W.heap.size, 0, none⟩), undef, undef, Value.func (Fn.func f) #[] ca, undef, undef, undef, undef, undef, undef, undef, undef, undef, undef, undef, undef, undef, undef, undef, undef, undef, undef, undef, undef, undef, undef, undef, undef, undef, undef, undef] #[7] A B wr.heap.size)); rw [World.size_alloc] at this; exact this)
          (fun h => by have := (hC.below hb1).lt h; omega)
        have hbx1 := (hBx.below (hbw _) hBx.lt).only hM.only (fun h => by have := hC.lt h; omega)
        have hbq1 := (hbq.below (hbr _) hbq.lt).only hM.only nbq
        have hM1 : Mv Bc Bp W qs W1 qs1 := (Mv.below (hbr _)).trans hM hC
        have nx : ¬ CS Bc Bp qs1 W.heap.size := hM.out (Nat.lt_of_lt_of_le hBx.lt (hbw _).size) (fun h => by have := hC.lt h; omega)
        have nq : ¬ CS Bc Bp qs1 bq := hM1.out hbq.lt nbq
        have ty : Taker l Bc Bp W hd1 qs F G := by
          intro W2 qs2 q2 y2 s2 m1 m2 m3 m4
          obtain ⟨fn2, tm2, a2, b2, hy2, hR2⟩ := hT W2 qs2 (hd1 ++ [q2]) y2 s2 (by simp [hk]) m1 (hereT_of m2) m3 m4
          exact ⟨fn2, tm2, a2, b2, hy2, hR2.mono (fun e W3 ⟨h1, qs3, h2, h3⟩ => ⟨h1, qs3, h2, of_hereT h3⟩)⟩
        obtain ⟨fn1, tm, a1, b1, hy, hR⟩ := round74a fn l (wr.heap.size + 1) bi bq W.heap.size _ Bc Bp hd1 qs qs1 q ⟨ps, t1, r1⟩ s F G W W1 _ _ _ _ _ _ _ _ _ _ _ _ _ _ _ _ _ _ _ _ _ _ _ _ _ _ _ _ _ _ _ hAB hlr hbx1 nx (by rw [hk]; exact hbq1) nq hHq hM1 ⟨t, r, hC⟩ (by omega)
          (by rw [hqp]; exact g1) hso g2 (by have e : q.l = p.l := by rw [← hqp]; rfl
                                             rw [e]; exact g3) (by rw [hqp]; exact g4) ty
        refine ⟨fn1, tm, a1, b1, hy, hR.mono (fun e W3 ⟨h1, qs3, q3, h2, h3, h4⟩ => ⟨h1, qs3, h2, ?_⟩)⟩
        have h5 := hereT_up h4
        rw [h3, hqp] at h5
        exact h5
    have hfin : ∀ (A B : Code) (e : Ending) (W3 : World), FlowPost Bc Bp ((wr.alloc (.deferred (some []))).alloc (.loop (recAt fn #[Value.func (Fn.yield l) #[] #[], Value.pointer (some ⟨bi, 0, none⟩), Value.pointer (some ⟨bq, 0, none⟩), Value.pointer (some ⟨W.heap.size, 0, none⟩), undef, undef, Value.func (Fn.func f) #[] ca, undef, undef, undef, undef, undef, undef, undef, undef, undef, undef, undef, undef, undef, undef, undef, undef, undef, undef, undef, undef, undef, undef, undef, undef, undef, undef, undef] #[7] A B wr.heap.size))) qs (LF k (liftF F) ⟨qs.map Qu.pp, t, r⟩ s0) e W3 →
        (∃ v, e = .returned v) ∧ W3.heap[wr.heap.size + 1]? = some (.loop (recAt fn #[Value.func (Fn.yield l) #[] #[], Value.pointer (some ⟨bi, 0, none⟩), Value.pointer (some ⟨bq, 0, none⟩), Value.pointer (some ⟨W.heap.size, 0, none⟩), undef, undef, Value.func (Fn.func f) #[] ca, undef, undef, undef, undef, undef, undef, undef, undef, undef, undef, undef, undef, undef, undef, undef, undef, undef, undef, undef, undef, undef, undef, undef, undef, undef, undef, undef] #[7] A B wr.heap.size)) ∧
        ∀ rr, ((W3.putObj (wr.heap.size + 1) (.loop rr)).heap[wr.heap.size]? = some (.deferred (some [])) ∧ ∀ e2, FlowPost Bc Bp W qs (LF (k + 1) F ⟨qs.map Qu.pp, t, r⟩ s0) (.returned e2) ((W3.putObj (wr.heap.size + 1) (.loop rr)).putObj wr.heap.size (.deferred none))) := by
      rintro A B e W3 ⟨h1, qs3, h2, h3⟩
      have hl := World.alloc_heap_new (wr.alloc (.deferred (some []))) (.loop (recAt fn #[Value.func (Fn.yield l) #[] #[], Value.pointer (some ⟨bi, 0, none⟩), Value.pointer (some ⟨bq, 0, none⟩), Value.pointer (some ⟨W.heap.size, 0, none⟩), undef, undef, Value.func (Fn.func f) #[] ca, undef, undef, undef, undef, undef, undef, undef, undef, undef, undef, undef, undef, undef, undef, undef, undef, undef, undef, undef, undef, undef, undef, undef, undef, undef, undef, undef] #[7] A B wr.heap.size))
      rw [World.size_alloc] at hl
      have hd : ((wr.alloc (.deferred (some []))).alloc (.loop (recAt fn #[Value.func (Fn.yield l) #[] #[], Value.pointer (some ⟨bi, 0, none⟩), Value.pointer (some ⟨bq, 0, none⟩), Value.pointer (some ⟨W.heap.size, 0, none⟩), undef, undef, Value.func (Fn.func f) #[] ca, undef, undef, undef, undef, undef, undef, undef, undef, undef, undef, undef, undef, undef, undef, undef, undef, undef, undef, undef, undef, undef, undef, undef, undef, undef, undef, undef] #[7] A B wr.heap.size))).heap[wr.heap.size]? = some (.deferred (some [])) := (Below.heap_alloc _ _ _ (by simp)).trans (World.alloc_heap_new wr _)
      have nl : ∀ j, wr.heap.size ≤ j → ¬ CS Bc Bp qs j := fun j hj h => by have := (hC.below hb1).lt h; omega
      have hl3 := h2.block hl (nl _ (by omega))
      have hd3 := h2.block hd (nl _ (Nat.le_refl _))
      refine ⟨h1, hl3, fun rr => ?_⟩
      have hd4 : (W3.putObj (wr.heap.size + 1) (.loop rr)).heap[wr.heap.size]? = some (.deferred (some [])) := (World.putObj_heap_other (by omega)).trans hd3
      refine ⟨hd4, fun e2 => ⟨⟨_, rfl⟩, qs3, ?_, ?_⟩⟩
      · exact (((Mv.below (hbr _)).trans h2 hC).put (by omega) _).put hW _
      · exact (h3.put hl3 (fun _ _ _ e => by cases e) _).put hd4 (fun _ _ _ e => by cases e) _
    obtain ⟨f', ca', hv, ef', hc⟩ := ih s0 (.func (.func f) #[] ca) (wr.heap.size + 1) _ qs t r (liftF F) (liftG F G) (hfk.mv (Mv.below (hbr _))) (hC.below (hbr _)) (hTk _ _ rfl) hG hs
    cases hv
    refine (callsIn_wide.2 (callsIn_wide.1 hc)).mono ?_
    intro e W3 hp
    obtain ⟨q1, q2, q3⟩ := hfin _ _ e W3 hp
    refine ⟨q1, q2, fun rr => ?_⟩
    obtain ⟨q4, q5⟩ := q3 rr
    refine ⟨by simp, .inl ⟨_, _, rfl, run_takeDeferred q4, ?_⟩⟩
    exact ⟨_, results_none rfl _ _ _, q5 _⟩
end Go.Proofs.Ytjfopmjphiddiaa
/- What the iterators of all pipes do is how slugs flow. -/
namespace Go.Proofs.Ytjfopmjphiddiaa

theorem LF_lift (k : Nat) : ∀ F, LF k (liftF F) = liftF (LF k F) := by
  induction k with
  | zero => intro F; rfl
  | succ k ih => intro F; show LF k (liftF (liftF F)) = liftF (LF k (liftF F)); exact ih _
theorem LG_lift (k : Nat) : ∀ F G, LG k (liftF F) (liftG F G) = liftG (LF k F) (LG k F G) := by
  induction k with
  | zero => intro F G; rfl
  | succ k ih => intro F G; show LG k (liftF (liftF F)) (liftG (liftF F) (liftG F G)) = liftG (LF k (liftF F)) (LG k (liftF F) (liftG F G)); exact ih _ _
def toTank (y : Yx) (s : Sl) : Yx := ⟨y.ps, y.t.add s, y.r⟩
def tankOk (y : Yx) (s : Sl) : Prop := (0 ≤ y.t.v + s.v ∧ y.t.v + s.v ≤ 1099511627776) ∧ (0 ≤ y.t.h + s.h ∧ y.t.h + s.h ≤ 1099511627776000)
theorem flowN_len (n : Nat) : ∀ (x : List Pp × Sl) (s : Sl), x.1.length = n → (flowN n x s).1.length = n := by
  induction n with
  | zero => rintro ⟨ps, t⟩ s h; obtain rfl : ps = [] := List.eq_nil_of_length_eq_zero h; rfl
  | succ n ih =>
    rintro ⟨ps, t⟩ s h
    cases ps with
    | nil => simp at h
    | cons p ps =>
      simp only [flowN, List.length_cons]
      have key : ∀ (l : List Sl) (x : List Pp × Sl), x.1.length = n → (l.foldl (flowN n) x).1.length = n := by
        intro l
        induction l with
        | nil => intro x hx; exact hx
        | cons s t iht => intro x hx; exact iht _ (ih x s hx)
      rw [key _ _ (by simpa using h)]
def ofY (y : Yx) : List Pp × Sl := (y.ps, y.t)
def toY (x : List Pp × Sl) (r : Ho) : Yx := ⟨x.1, x.2, r⟩
theorem LF_flow (k : Nat) : ∀ (ps : List Pp) (t : Sl) (r : Ho) (s : Sl), ps.length = k → LF k toTank ⟨ps, t, r⟩ s = toY (flowN k (ps, t) s) r := by
  induction k with
  | zero => intro ps t r s h; obtain rfl : ps = [] := List.eq_nil_of_length_eq_zero h; rfl
  | succ k ih =>
    intro ps t r s h
    cases ps with
    | nil => simp at h
    | cons p ps =>
      have key : ∀ (l : List Sl) (ps : List Pp) (t : Sl), ps.length = k → l.foldl (LF k toTank) ⟨ps, t, r⟩ = toY (l.foldl (flowN k) (ps, t)) r := by
        intro l
        induction l with
        | nil => intro ps t _; rfl
        | cons s l ihl =>
          intro ps t hl
          simp only [List.foldl_cons]
          rw [ih ps t r s hl]
          exact ihl _ _ (flowN_len k (ps, t) s hl)
      show LF k (liftF toTank) _ s = _
      rw [LF_lift]
      simp only [liftF, flowN]
      rw [key _ ps t (by simpa using h)]
      rfl
theorem LG_flow (k : Nat) : ∀ (ps : List Pp) (t : Sl) (r : Ho) (s : Sl), ps.length = k → FOk (ps, t) → okS s → s.v ≤ 1048576 → hA (ps, t) + s.h ≤ 2199023255552 → vA (ps, t) + s.v ≤ 1099511627776 → LG k toTank tankOk ⟨ps, t, r⟩ s := by
  induction k with
  | zero =>
    intro ps t r s h hx hs h1 h2 h3
    obtain rfl : ps = [] := List.eq_nil_of_length_eq_zero h
    have a := hx.t0; have b := hx.h0; have c := hs.1; have d := hs.2
    simp only [hA, vA, heaP, volP] at *
    show tankOk _ _
    exact ⟨⟨by simp only; omega, by simp only; omega⟩, ⟨by simp only; omega, by simp only; omega⟩⟩
  | succ k ih =>
    intro ps t r s h hx hs h1 h2 h3
    cases ps with
    | nil => simp at h
    | cons p ps =>
      show LG k (liftF toTank) (liftG toTank tankOk) _ s
      rw [LG_lift]
      obtain ⟨p1, p2⟩ := okP_cons.1 hx.ps
      obtain ⟨e1, e2, e3, e4, e5, _, _, _, _⟩ := enter_ok p1 hs
      have n1 := volP_nn p2
      have n2 := hx.t0; have n3 := hx.h0
      have n4 := vol_nn e2.sl; have n5 := hea_nn e2.sl
      have n6 := vol_nn p1.sl; have n7 := hea_nn p1.sl
      simp only [hA, vA, heaP, volP] at h2 h3 n2 n3
      refine ⟨p1, h1, by omega, fun a s' b hab => ?_⟩
      have hk : ps.length = k := by simpa using h
      have hoa : okL a ∧ okS s' ∧ okL b := by
        rw [hab] at e1
        obtain ⟨x1, x2⟩ := okL_app.1 e1
        obtain ⟨x3, x4⟩ := okL_cons.1 x2
        exact ⟨x1, x3, x4⟩
      rw [hab] at e3 e4 e5
      simp only [vol_app, hea_app, vol, hea] at e3 e4 e5
      have q1 := vol_nn hoa.1; have q2 := hea_nn hoa.1; have q3 := vol_nn hoa.2.2; have q4 := hea_nn hoa.2.2
      have hf : ∀ (l : List Sl) (ps : List Pp) (t : Sl), ps.length = k → l.foldl (LF k toTank) ⟨ps, t, r⟩ = toY (l.foldl (flowN k) (ps, t)) r := by
        intro l
        induction l with
        | nil => intro ps t _; rfl
        | cons s l ihl =>
          intro ps t hl
          simp only [List.foldl_cons]
          rw [LF_flow k ps t r s hl]
          exact ihl _ _ (flowN_len k (ps, t) s hl)
      rw [hf a ps t hk]
      obtain ⟨f1, f2, f3, f4, f5⟩ := flow_fold (flowN k) k (fun x s hx hs hn => flow_ok k x s hx hs hn) a hoa.1 (ps, t) ⟨p2, n2, n3⟩ hk
      simp only [hA, vA] at f4 f5
      exact ih _ _ r s' (by simp only at f2; omega) f1 hoa.2.1 (by omega) (by simp only [hA]; omega) (by simp only [vA]; omega)
end Go.Proofs.Ytjfopmjphiddiaa
/- pump: the round in which what comes out of the last pipe is added to the tank. -/
namespace Go.Proofs.Ytjfopmjphiddiaa
open Go.RowKit Go.Shelf
attribute [local go_sem] Oper.semAt_some

def S11 (Bc bc bs : Nat) (s : Sl) (w : World) : Prop :=
  w.cell? ⟨bc, 0, none⟩ = some (.pointer (some ⟨Bc, 0, none⟩)) ∧ w.cell? ⟨bs, 0, none⟩ = some (.int .i64 s.v) ∧ w.cell? ⟨bs, 1, none⟩ = some (.int .i64 s.h)
theorem HereT.below {W W' : World} {Bc Bp : Nat} {hd qs : List Qu} {y : Yx} (h : HereT W Bc Bp hd y qs) (hb : Below W.heap.size W W') : HereT W' Bc Bp hd y qs := by
  obtain ⟨tl, h1, h2, h3⟩ := h
  exact ⟨tl, h1, h2, h3.below hb⟩
theorem HereT.circ {W : World} {Bc Bp : Nat} {hd qs : List Qu} {y : Yx} (h : HereT W Bc Bp hd y qs) : Circ W Bc Bp y.t qs y.r := by obtain ⟨_, _, _, h⟩ := h; exact h
/-- behind a round that hands a slug to the circuit itself -/
def TakePost (Bc Bp : Nat) (W : World) (hd qs : List Qu) (y : Yx) (e : Ending) (W2 : World) : Prop := e = .returned (.bool true) ∧ ∃ qs2, Mv Bc Bp W qs W2 qs2 ∧ HereT W2 Bc Bp hd y qs2

set_option maxRecDepth 100000 in
set_option maxHeartbeats 4000000 in
theorem round55 (fn0 : FuncId) (l2 bc D Bc Bp : Nat) (hd qs : List Qu) (y : Yx) (s : Sl) (W : World) (u0 u1 u3 u4 u5 u6 u7 u8 u9 u10 u11 u12 u13 u14 u15 u16 u17 u18 u19 u20 u21 u22 u23 u24 u25 u26 u27 u28 u29 u30 u31 u32 u33 u34 u35 u36 u37 u38 u39 u40 u41 u42 u43 u44 u45 u46 : Value) {assign body : Code}
    (hab : some (assign, body) = (Try.f55.body.map loopParts).bind (·[0]?))
    (hl : W.heap[l2]? = some (.loop (recAt fn0 #[u0, u1, .pointer (some ⟨bc, 0, none⟩), u3, u4, u5, u6, u7, u8, u9, u10, u11, u12, u13, u14, u15, u16, u17, u18, u19, u20, u21, u22, u23, u24, u25, u26, u27, u28, u29, u30, u31, u32, u33, u34, u35, u36, u37, u38, u39, u40, u41, u42, u43, u44, u45, u46] #[41] assign body D)))
    (hx : Has W bc 63 #[.pointer (some ⟨Bc, 0, none⟩)]) (nx : bc ≠ Bc) (hH : HereT W Bc Bp hd y qs) (hg : tankOk y s) :
    YieldAt Fence.wide 2 Try.prog l2 #[slv s] W (TakePost Bc Bp W hd qs (toTank y s)) := by
  obtain ⟨rc, hrc⟩ : ∃ rc, rc = recAt fn0 #[u0, u1, .pointer (some ⟨bc, 0, none⟩), u3, u4, u5, u6, u7, u8, u9, u10, u11, u12, u13, u14, u15, u16, u17, u18, u19, u20, u21, u22, u23, u24, u25, u26, u27, u28, u29, u30, u31, u32, u33, u34, u35, u36, u37, u38, u39, u40, u41, u42, u43, u44, u45, u46] #[41] assign body D := ⟨_, rfl⟩
  rw [← hrc] at hl
  have hy := run_yield (P := Try.prog) (args := #[slv s]) hl (by rw [hrc]; rfl)
  refine ⟨fn0, _, assign, body, by rw [hy, hrc], roundIn_of_wpIn trivial ?_⟩
  clear hy
  simp only [Try.f55, Option.map_some, Option.bind_some, loopParts, List.append_nil, List.nil_append, List.getElem?_cons_zero, Option.some.injEq, Prod.mk.injEq] at hab
  obtain ⟨ha, hb⟩ := hab
  obtain ⟨Wa, hWa⟩ : ∃ Wa, Wa = W.alloc (Obj.cells #[Value.int IntKind.i64 s.v, Value.int IntKind.i64 s.h] 23) := ⟨_, rfl⟩
  have hba : Below W.heap.size W Wa := by rw [hWa]; exact below_one _ _
  have hla := heap_below hba hl
  have hbeg := run_beginRound (P := Try.prog) hla (by rw [hrc])
  obtain ⟨W2, hW2⟩ : ∃ W2, Wa.putObj l2 (.loop { rc with state := .busy }) = W2 := ⟨_, rfl⟩
  have hH2 : HereT W2 Bc Bp hd y qs := by rw [← hW2]; exact (hH.below hba).put hla (fun _ _ _ e => by cases e) _
  have hx2 : Has W2 bc 63 #[.pointer (some ⟨Bc, 0, none⟩)] := by rw [← hW2]; exact (hx.below hba hx.lt).putObj hla _
  have hl2 : W2.heap[l2]? = some (.loop { rc with state := .busy }) := by rw [← hW2]; exact World.putObj_heap_same (Array.getElem?_eq_some_iff.1 hla).1
  have hs2 : Has W2 W.heap.size 23 #[iv s.v, iv s.h] := by rw [← hW2]; exact Has.putObj (by rw [hWa]; exact Has.new _ _ _) hla _
  have hEnd : ∀ W3, (∃ qs2, Mv Bc Bp W2 qs W3 qs2 ∧ HereT W3 Bc Bp hd (toTank y s) qs2) → ∃ v w', (Instr.endRound l2 none).run Try.prog W3 = .ok v w' ∧ TakePost Bc Bp W hd qs (toTank y s) (.returned v) w' := by
    rintro W3 ⟨qs2, m1, m2⟩
    have hl3 := m1.block hl2 (loop_not hH2.circ hl2)
    have hend := run_endRound (P := Try.prog) none hl3
    refine ⟨_, _, hend, rfl, qs2, ?_, m2.put hl3 (fun _ _ _ e => by cases e) _⟩
    have e : ({ rc with state := if (none : Option Code).isNone then .ready else .done, pending := none } : Loop) = rc := by rw [hrc]; rfl
    refine (Mv.below hba).trans ?_ hH.circ
    show Mv Bc Bp Wa qs (W3.putObj l2 (.loop { { rc with state := .busy } with state := if (none : Option Code).isNone then .ready else .done, pending := none })) qs2
    rw [show ({ ({ rc with state := .busy } : Loop) with state := if (none : Option Code).isNone then .ready else .done, pending := none } : Loop) = rc from e]
    exact Mv.round hla (loop_not (hH.below hba).circ hla) (by rw [hW2]; exact m1) hl3
  have HE := Lib.hid hEnd
  rw [ha]
  have hzip : ∀ (t : Array Value) (v : Value), (#[41].zip #[v]).foldl (fun tmps (p : Tmp × Value) => match p with | (t, a) => tmps.setIfInBounds t a) t = t.setIfInBounds 41 v := fun t v => by simp [Array.zip]
  rw [hzip]
  clear hzip
  rw [hW2, hWa] at hbeg
  have HB2 := Lib.hid hbeg
  have hS0 : (S11 Bc bc W.heap.size s) W2.drew := ⟨hx2.cell 0, hs2.cell 0, hs2.cell 1⟩
  have HS0 := Lib.hid hS0
  have HH := Lib.hid (And.intro hH2 (And.intro hg nx))
  clear hEnd hbeg hWa hba hla hH2 hx2 hl2 hs2 hl hx hH ha hW2 hrc hS0 hg
  change Code.wpIn _ _ _ _ _ { tmps := (#[u0, u1, .pointer (some ⟨bc, 0, none⟩), u3, u4, u5, u6, u7, u8, u9, u10, u11, u12, u13, u14, u15, u16, u17, u18, u19, u20, u21, u22, u23, u24, u25, u26, u27, u28, u29, u30, u31, u32, u33, u34, u35, u36, u37, u38, u39, u40, u41, u42, u43, u44, u45, u46] : Array Value).setIfInBounds 41 (slv s), defers := [] } W
  gi_wp2
  refine ⟨W2, HB2.out, ?_⟩
  try rw [hb]
  clear hb HB2
  gi_wp2
  refine wp_region_late_in (S11 Bc bc W.heap.size s) [4] (by kernel_rfl) (by kernel_rfl) ?hlo ?_
  case hlo => rintro ⟨_, _, h⟩; exact h
  refine wpLate_take (i := 0) (oi := ?oi0) (v := ?v0) [1, 2, 4] ?hi0 (by kernel_rfl) (by kernel_rfl) (by kernel_rfl) (by kernel_rfl) (by kernel_rfl) ?hQ0 (Or.inl ⟨?hw0, ?hy0⟩) HS0.out ?rest0
  case hi0 => (simp only [List.getElem?_toArray, List.getElem?_cons_zero]; rfl)
  case hQ0 => exact fun _ _ _ h => h
  case hw0 => rfl
  case hy0 =>
    intro w' hSw
    obtain ⟨r0, r1, r2⟩ := hSw
    go_simp
    try exact rfl
  simp only [Act.put, List.setIfInBounds_toArray, List.set_cons_zero, List.set_cons_succ]
  refine wpLate_take (i := 1) (oi := ?oi1) (v := ?v1) [2, 4] ?hi1 (by kernel_rfl) (by kernel_rfl) (by kernel_rfl) (by kernel_rfl) (by kernel_rfl) ?hQ1 (Or.inl ⟨?hw1, ?hy1⟩) HS0.out ?rest1
  case hi1 => (simp only [List.getElem?_toArray, List.getElem?_cons_zero, List.getElem?_cons_succ]; rfl)
  case hQ1 => exact fun _ _ _ h => h
  case hw1 => rfl
  case hy1 =>
    intro w' hSw
    obtain ⟨r0, r1, r2⟩ := hSw
    go_simp
    try exact rfl
  simp only [Act.put, List.setIfInBounds_toArray, List.set_cons_zero, List.set_cons_succ]
  refine wpLate_take (i := 2) (oi := ?oi2) (v := ?v2) [4] ?hi2 (by kernel_rfl) (by kernel_rfl) (by kernel_rfl) (by kernel_rfl) (by kernel_rfl) ?hQ2 (Or.inl ⟨?hw2, ?hy2⟩) HS0.out ?rest2
  case hi2 => (simp only [List.getElem?_toArray, List.getElem?_cons_zero, List.getElem?_cons_succ]; rfl)
  case hQ2 => exact fun _ _ _ h => h
  case hw2 => rfl
  case hy2 =>
    intro w' hSw
    obtain ⟨r0, r1, r2⟩ := hSw
    go_simp
    try exact rfl
  simp only [Act.put, List.setIfInBounds_toArray, List.set_cons_zero, List.set_cons_succ]
  refine wpLate_take (i := 3) (oi := ?oi3) (v := ?v3) [4] ?hi3 (by kernel_rfl) (by kernel_rfl) (by kernel_rfl) (by kernel_rfl) (by kernel_rfl) ?hQ3 (Or.inl ⟨?hw3, ?hy3⟩) HS0.out ?rest3
  case hi3 => (simp only [List.getElem?_toArray, List.getElem?_cons_zero, List.getElem?_cons_succ]; rfl)
  case hQ3 => exact fun _ _ _ h => h
  case hw3 => rfl
  case hy3 =>
    intro w' hSw
    obtain ⟨r0, r1, r2⟩ := hSw
    go_simp
    try exact rfl
  simp only [Act.put, List.setIfInBounds_toArray, List.set_cons_zero, List.set_cons_succ]
  refine wpLate_one (i := 4) (o := ?o4) (by kernel_rfl) ?ho4 ?hk4
  case ho4 => (simp only [List.getElem?_toArray, List.getElem?_cons_zero, List.getElem?_cons_succ]; rfl)
  intro K hK
  go_simp
  have hc := HH.out.1.circ
  refine (add_any Bc 0 70 (ccells y.t Bp qs.length y.r) y.t s W2.drew hc.c.drew rfl rfl HH.out.2.1.1 HH.out.2.1.2).mono ?_
  rintro e w7 ⟨⟨v, rfl⟩, ho, hw⟩
  have hw2 : Has w7 Bc 70 (ccells (y.t.add s) Bp qs.length y.r) := hw
  have ho2 : Only (fun k => k = Bc) W2 w7 := Only.from_ (Only.drew (Only.refl _ W2)) ho (fun _ _ h => h)
  have hF : Hid (∃ qs2, Mv Bc Bp W2 qs w7 qs2 ∧ HereT w7 Bc Bp hd (toTank y s) qs2) := by
    obtain ⟨tl, h1, h2, h3⟩ := HH.out.1
    obtain ⟨k1, k2⟩ := h3.own (t' := y.t.add s) (r' := y.r) hw2 ho2
    exact ⟨qs, k2, tl, h1, h2, k1⟩
  try (gi_wp2_with fail)
  refine hK.out _ _ (fun h => absurd (show false = true from h) (by decide)) ?_
  clear hK K hw hw2 ho ho2 hc
  try simp only [Act.put, List.setIfInBounds_toArray, List.set_cons_zero, List.set_cons_succ]
  refine wpLate_done (by kernel_rfl) ?_ _
  try simp only [Act.put, List.setIfInBounds_toArray, List.set_cons_zero, List.set_cons_succ]
  gi_wp2
  exact HE.out w7 hF.out
end Go.Proofs.Ytjfopmjphiddiaa

/- One round of take's loop. -/
import Derived.Test.YtogabjlhecnbbaaIceV
namespace Go.Proofs.Ytogabjlhecnbbaa
open Go.RowKit Go.Shelf
attribute [local go_sem] Oper.semAt_some

theorem Has.putObj {W : World} {g l : Nat} {t : TypeId} {cs : Array Value} {r : Loop} (h : Has W g t cs) (hl : W.heap[l]? = some (.loop r)) (o : Obj) : Has (W.putObj l o) g t cs := by
  have hne : g ≠ l := fun e => by subst e; unfold Has at h; rw [hl] at h; cases h
  exact (World.putObj_heap_other hne).trans h
theorem Only.putObj {S : Nat → Prop} {a W : World} {l : Nat} (h : Only S a W) (hl : a.heap.size ≤ l) (o : Obj) : Only S a (W.putObj l o) :=
  ⟨h.os, h.tape, h.output, by rw [World.putObj_size]; exact h.size, fun k hk hn => (World.putObj_heap_other (by omega)).trans (h.block k hk hn)⟩
theorem KIn.putObj {W : World} {Bk Bz l : Nat} {zs : List Zn} {s : Sm} {r : Loop} (h : KIn W Bk Bz zs s) (hl : W.heap[l]? = some (.loop r)) (o : Obj) : KIn (W.putObj l o) Bk Bz zs s := ⟨h.k.putObj hl o, h.z.putObj hl o, h.ne⟩

/-- where things lie while take's loop runs -/
structure Pl where
  Bk : Nat
  Bz : Nat
  Bv : Nat
  Be : Nat
  B5 : Nat
  Bp : Nat
  T0 : Nat
  T1 : Nat
  T2 : Nat
  D : Nat
structure TS (w0 W : World) (q : Pl) (e : Ev) (last : Nat) : Prop where
  o : OnlyKZ q.Bk q.Bz w0 W
  v : Has W q.Bv 54 #[iv e.k, iv e.f, iv e.t, iv e.x, iv e.y]
  r : ∃ x, Has W q.Be 30 #[iv x]
  d : Has W q.B5 105 #[deedF e.k q.Bp]
  p : Has W q.Bp 77 #[.pointer (some ⟨q.Bk, 0, none⟩)]
  t0 : Has W q.T0 77 #[.pointer (some ⟨q.Bk, 0, none⟩)]
  t1 : Has W q.T1 54 #[iv e.k, iv e.f, iv e.t, iv e.x, iv e.y]
  t2 : Has W q.T2 3 #[iv last]
  dd : W.heap[q.D]? = some (.deferred (some []))
  hk : q.Bk < w0.heap.size
  hz : q.Bz < w0.heap.size
  gv : w0.heap.size ≤ q.Bv
  ge : w0.heap.size ≤ q.Be
  g5 : w0.heap.size ≤ q.B5
  gp : w0.heap.size ≤ q.Bp
  g0 : w0.heap.size ≤ q.T0
  g1 : w0.heap.size ≤ q.T1
  g2 : w0.heap.size ≤ q.T2
  gd : w0.heap.size ≤ q.D
theorem TS.only {w0 W W' : World} {q : Pl} {e : Ev} {last : Nat} (h : TS w0 W q e last) (ho : OnlyKZ q.Bk q.Bz W W') : TS w0 W' q e last :=
  ⟨h.o.trans ho, h.v.only ho (by have := h.hk; have := h.hz; have := h.gv; omega), let ⟨x, hx⟩ := h.r; ⟨x, hx.only ho (by have := h.hk; have := h.hz; have := h.ge; omega)⟩, h.d.only ho (by have := h.hk; have := h.hz; have := h.g5; omega), h.p.only ho (by have := h.hk; have := h.hz; have := h.gp; omega),
   h.t0.only ho (by have := h.hk; have := h.hz; have := h.g0; omega), h.t1.only ho (by have := h.hk; have := h.hz; have := h.g1; omega), h.t2.only ho (by have := h.hk; have := h.hz; have := h.g2; omega),
   (ho.block q.D (Array.getElem?_eq_some_iff.1 h.dd).1 (by have := h.hk; have := h.hz; have := h.gd; omega)).trans h.dd, h.hk, h.hz, h.gv, h.ge, h.g5, h.gp, h.g0, h.g1, h.g2, h.gd⟩
theorem TS.putObj {w0 W : World} {q : Pl} {e : Ev} {last l : Nat} {r : Loop} (h : TS w0 W q e last) (hl : W.heap[l]? = some (.loop r)) (g : w0.heap.size ≤ l) (o : Obj) : TS w0 (W.putObj l o) q e last :=
  ⟨h.o.putObj g o, h.v.putObj hl o, let ⟨x, hx⟩ := h.r; ⟨x, hx.putObj hl o⟩, h.d.putObj hl o, h.p.putObj hl o, h.t0.putObj hl o, h.t1.putObj hl o, h.t2.putObj hl o,
   (World.putObj_heap_other (fun e => by have := h.dd; rw [e, hl] at this; cases this)).trans h.dd, h.hk, h.hz, h.gv, h.ge, h.g5, h.gp, h.g0, h.g1, h.g2, h.gd⟩
theorem Has.ne {W : World} {g g' : Nat} {t t' : TypeId} {cs cs' : Array Value} (h : Has W g t cs) (h' : Has W g' t' cs') (hn : t ≠ t') : g ≠ g' := fun e => by
  subst e; unfold Has at h h'; rw [h] at h'; injection h' with h'; injection h' with _ h2; exact hn h2
theorem TS.setE {w0 W : World} {q : Pl} {e : Ev} {last : Nat} (h : TS w0 W q e last) (x : Int) : TS w0 (W.setCell ⟨q.Be, 0, none⟩ (iv x)) q e last := by
  obtain ⟨y, hy⟩ := h.r
  have f : ∀ {g t cs}, Has W g t cs → t ≠ 30 → Has (W.setCell ⟨q.Be, 0, none⟩ (iv x)) g t cs := fun hh hn => hh.far (p := ⟨q.Be, 0, none⟩) (hh.ne hy hn) _
  exact ⟨h.o.setCell (p := ⟨q.Be, 0, none⟩) (.inr h.ge) _, f h.v (by decide), ⟨x, hy.set 0 _⟩, f h.d (by decide), f h.p (by decide), f h.t0 (by decide), f h.t1 (by decide), f h.t2 (by decide),
    (Below.heap_setCell W ⟨q.Be, 0, none⟩ (iv x) q.D (fun e => by have := h.dd; simp only at e; rw [e] at this; unfold Has at hy; rw [hy] at this; cases this)).trans h.dd, h.hk, h.hz, h.gv, h.ge, h.g5, h.gp, h.g0, h.g1, h.g2, h.gd⟩

/-- take's frame when the loop begins -/
abbrev takeTmps (q : Pl) (e : Ev) (u7 u8 u9 u10 u11 u12 u13 u14 u15 u16 u17 u18 u19 u20 u21 u22 : Value) : Array Value :=
  #[.pointer (some ⟨q.Bk, 0, none⟩), evv e, undef, .pointer (some ⟨q.Bv, 0, none⟩), .pointer (some ⟨q.Be, 0, none⟩), .pointer (some ⟨q.B5, 0, none⟩), undef, u7, u8, u9, u10, u11, u12, u13, u14, u15, u16, u17, u18, u19, u20, u21, u22,
    .func (.func 80) #[] #[.pointer (some ⟨q.T1, 0, none⟩), .pointer (some ⟨q.T2, 0, none⟩), .pointer (some ⟨q.T0, 0, none⟩)], undef, undef, undef, undef, undef, undef, undef, undef, undef, undef, undef, undef]
end Go.Proofs.Ytogabjlhecnbbaa

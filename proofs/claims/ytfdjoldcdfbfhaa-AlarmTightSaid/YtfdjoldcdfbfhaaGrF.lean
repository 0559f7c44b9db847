/- The state in which listen's rounds go on. -/
import Derived.Test.YtfdjoldcdfbfhaaGrE
import Derived.Test.YtfdjoldcdfbfhaaGrC
import Derived.Test.YtfdjoldcdfbfhaaRnd
namespace Go.Proofs.Ytfdjoldcdfbfhaa
open Go.RowKit Go.Shelf
/-- the ballot behind k readings of a group -/
def balF (t : Int) (s : Nat) (G : List Sf) : Nat → Nat
  | 0 => s
  | k + 1 => match G[k]? with | some r => setB (balF t s G k) r.s.toNat (decide (t ≤ r.v)) | none => balF t s G k
theorem balF_step {t : Int} {s : Nat} {G : List Sf} {k : Nat} (h : k < G.length) : balF t s G (k + 1) = setB (balF t s G k) G[k].s.toNat (decide (t ≤ G[k].v)) := by
  show (match G[k]? with | some r => setB (balF t s G k) r.s.toNat (decide (t ≤ r.v)) | none => balF t s G k) = _
  rw [List.getElem?_eq_getElem h]
theorem balF_lt {t : Int} {s : Nat} {G : List Sf} (hs : s < 4096) (hG : ∀ r ∈ G, 0 ≤ r.s ∧ r.s < 12) : ∀ k, balF t s G k < 4096
  | 0 => hs
  | k + 1 => by
    have ih := balF_lt (t := t) hs hG k
    by_cases h : k < G.length
    · rw [balF_step h]
      have := hG _ (List.getElem_mem h)
      exact setB_lt ih (by omega) _
    · show (match G[k]? with | some r => setB (balF t s G k) r.s.toNat (decide (t ≤ r.v)) | none => balF t s G k) < 4096
      rw [List.getElem?_eq_none (by omega)]; exact ih
theorem balN_part {t : Int} {L : List Sf} {b m : Nat} : ∀ k, k ≤ m → b + k ≤ L.length → balN t L (b + k) = balF t (balN t L b) ((L.drop b).take m) k
  | 0, _, _ => rfl
  | k + 1, h, hl => by
    have ih := balN_part (t := t) (L := L) (b := b) (m := m) k (by omega) (by omega)
    have hk : k < ((L.drop b).take m).length := by simp; omega
    rw [balF_step hk, ← ih]
    show (match L[b + k]? with | some s => setB (balN t L (b + k)) s.s.toNat (decide (t ≤ s.v)) | none => balN t L (b + k)) = _
    rw [List.getElem?_eq_getElem (show b + k < L.length by omega)]
    simp
theorem balN_lt {t : Int} {L : List Sf} (hL : ∀ r ∈ L, 0 ≤ r.s ∧ r.s < 12) (k : Nat) (hk : k ≤ L.length) : balN t L k < 4096 := by
  have h := balN_part (t := t) (L := L) (b := 0) (m := L.length) k hk (by omega)
  rw [Nat.zero_add] at h
  rw [h]
  exact balF_lt (show (0 : Nat) < 4096 by decide) (by simpa using hL) k

/-- the loop over a function in a piece of code -/
def loopParts : Code → Option (Code × Code)
  | .rangeFunc _ _ a b => some (a, b)
  | .seq a b => match loopParts a with | some p => some p | none => loopParts b
  | .block _ c => loopParts c
  | _ => none
structure Lp where
  A0 : Option Addr
  n0 : Nat
  cap0 : Nat
  V : Int
  F : Int
  t : Int
  A : Option Addr
  cap : Nat
  L : List Sf
structure Lq where
  B3 : Nat
  B4 : Nat
  Bf : Nat
  Be : Nat
  Bb : Nat
  T0 : Nat
  T1 : Nat
  D : Nat
  l : Nat
structure LS (w0 W : World) (q : Lq) (p : Lp) (x y : Int) (s : Nat) : Prop where
  b : Below w0.heap.size w0 W
  hv : Has W q.B3 24 #[.slice p.A0 p.n0 p.cap0, .int .i64 p.V, .int .i64 p.F]
  ht : Has W q.B4 3 #[.int .i64 p.t]
  hf : Has W q.Bf 3 #[.int .i64 x]
  he : Has W q.Be 27 #[.int .i64 y]
  hs : Has W q.Bb 79 #[.int .u64 s]
  m0 : Has W q.T0 25 #[.slice p.A p.L.length p.cap]
  m1 : Has W q.T1 3 #[.int .i64 p.n0]
  d : W.heap[q.D]? = some (.deferred (some []))
  r : FRow W w0.heap.size p.A p.L
  g : w0.heap.size ≤ q.B3
  lt : q.B3 < q.B4 ∧ q.B4 < q.Bf ∧ q.Bf < q.Be ∧ q.Be < q.Bb ∧ q.Bb < q.T0 ∧ q.T0 < q.T1 ∧ q.T1 < q.D ∧ q.D < q.l
theorem LS.under {w0 W W' : World} {q : Lq} {p : Lp} {x y : Int} {s : Nat} (h : LS w0 W q p x y s) (hb : Below q.l W W') : LS w0 W' q p x y s := by
  obtain ⟨h0, h1, h2, h3, h4, h5, h6, h7, h8, h9, h10, h11⟩ := h
  exact ⟨h0.trans (hb.mono (by omega)), h1.below hb (by omega), h2.below hb (by omega), h3.below hb (by omega), h4.below hb (by omega), h5.below hb (by omega), h6.below hb (by omega), h7.below hb (by omega),
    (hb.block q.D (by omega)).trans h8, h9.below (hb.mono (by omega)), h10, h11⟩
theorem below_put (W : World) (l : Nat) (o : Obj) : Below l W (W.putObj l o) :=
  ⟨rfl, rfl, rfl, by simp, fun i hi => World.putObj_heap_other (by omega)⟩
theorem LS.putObj {w0 W : World} {q : Lq} {p : Lp} {x y : Int} {s : Nat} (h : LS w0 W q p x y s) (o : Obj) : LS w0 (W.putObj q.l o) q p x y s := h.under (below_put _ _ _)
theorem LS.setB {w0 W : World} {q : Lq} {p : Lp} {x y : Int} {s : Nat} (h : LS w0 W q p x y s) (s' : Nat) : LS w0 (W.setCell ⟨q.Bb, 0, none⟩ (.int .u64 s')) q p x y s' := by
  obtain ⟨h0, h1, h2, h3, h4, h5, h6, h7, h8, h9, h10, h11⟩ := h
  exact ⟨h0.setCell (by simp only; omega) _, h1.far (by simp only; omega) _, h2.far (by simp only; omega) _, h3.far (by simp only; omega) _, h4.far (by simp only; omega) _, h5.set 0 _, h6.far (by simp only; omega) _, h7.far (by simp only; omega) _,
    (Below.heap_setCell _ _ _ _ (by simp only; omega)).trans h8, h9.below ((Below.refl _ _).setCell (by simp only; omega) _), h10, h11⟩
theorem LS.setF {w0 W : World} {q : Lq} {p : Lp} {x y : Int} {s : Nat} (h : LS w0 W q p x y s) (x' : Int) : LS w0 (W.setCell ⟨q.Bf, 0, none⟩ (.int .i64 x')) q p x' y s := by
  obtain ⟨h0, h1, h2, h3, h4, h5, h6, h7, h8, h9, h10, h11⟩ := h
  exact ⟨h0.setCell (by simp only; omega) _, h1.far (by simp only; omega) _, h2.far (by simp only; omega) _, h3.set 0 _, h4.far (by simp only; omega) _, h5.far (by simp only; omega) _, h6.far (by simp only; omega) _, h7.far (by simp only; omega) _,
    (Below.heap_setCell _ _ _ _ (by simp only; omega)).trans h8, h9.below ((Below.refl _ _).setCell (by simp only; omega) _), h10, h11⟩
theorem LS.setE {w0 W : World} {q : Lq} {p : Lp} {x y : Int} {s : Nat} (h : LS w0 W q p x y s) (y' : Int) : LS w0 (W.setCell ⟨q.Be, 0, none⟩ (.int .i64 y')) q p x y' s := by
  obtain ⟨h0, h1, h2, h3, h4, h5, h6, h7, h8, h9, h10, h11⟩ := h
  exact ⟨h0.setCell (by simp only; omega) _, h1.far (by simp only; omega) _, h2.far (by simp only; omega) _, h3.far (by simp only; omega) _, h4.set 0 _, h5.far (by simp only; omega) _, h6.far (by simp only; omega) _, h7.far (by simp only; omega) _,
    (Below.heap_setCell _ _ _ _ (by simp only; omega)).trans h8, h9.below ((Below.refl _ _).setCell (by simp only; omega) _), h10, h11⟩
theorem heap_far {W : World} {p : Addr} {l : Nat} (h : l ≠ p.block) (v : Value) : (W.setCell p v).heap[l]? = W.heap[l]? := Below.heap_setCell _ _ _ _ h
abbrev pt (B : Nat) : Value := .pointer (some ⟨B, 0, none⟩)
abbrev lTmps (q : Lq) (p : Lp) : Array Value :=
  #[.agg #[.slice p.A0 p.n0 p.cap0, .int .i64 p.V, .int .i64 p.F], .int .i64 p.t, .slice p.A p.L.length p.cap, .pointer (some ⟨q.B3, 0, none⟩), .pointer (some ⟨q.B4, 0, none⟩), undef, .pointer (some ⟨q.Bf, 0, none⟩), .pointer (some ⟨q.Be, 0, none⟩), .pointer (some ⟨q.Bb, 0, none⟩), undef, undef, undef, undef,
    .func (.func 50) #[] #[.pointer (some ⟨q.Bf, 0, none⟩), .pointer (some ⟨q.Be, 0, none⟩)], .slice p.A p.L.length p.cap, .pointer (some ⟨q.B3, 0, none⟩), .slice p.A0 p.n0 p.cap0, .int .i64 p.n0, .func (.func 61) #[] #[.pointer (some ⟨q.T0, 0, none⟩), .pointer (some ⟨q.T1, 0, none⟩)],
    undef, undef, undef, undef, undef, undef, undef, undef, undef, undef, undef, undef, undef, undef, undef, undef, undef, undef, undef, undef, undef, undef, undef, undef, undef, undef, undef, undef, undef]
end Go.Proofs.Ytfdjoldcdfbfhaa

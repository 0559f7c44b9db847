/- What a set of groups can have: plain, memory, a round of the search. -/
import Derived.Test.YtipejhfgfciabaaHrU
namespace Go.Proofs.Ytipejhfgfciabaa
open Go.RowKit Go.Shelf
attribute [local go_sem] Oper.semAt_some
def sumG (p : Pl) : Int := p.given.sum
/-- can a plan that goes on from a place give m hours more? -/
def canP (y : Tt) : Nat → Pl → Int → Bool
  | 0, _, m => decide (m = 0)
  | n + 1, p, m => decide (m = 0) || (decide (m ≤ ((n + 1 : Nat) : Int)) && (nexts y p).any fun gq => canP y n gq.2 (if gq.1 = -1 then m else m - 1))
theorem sum_set : ∀ {l : List Int} {i : Nat}, i < l.length → (l.set i (l.getD i 0 + 1)).sum = l.sum + 1
  | [], _, h => by simp at h
  | a :: l, 0, _ => by simp; omega
  | a :: l, i + 1, h => by
    have := sum_set (l := l) (i := i) (by simpa using h)
    simp at this ⊢
    omega
theorem next_sum {y : Tt} {p q : Pl} {g : Int} (hv : VT y) (hp : VP y p) (hh : p.hour < y.H.length) (h : (g, q) ∈ nexts y p) : sumG q = if g = -1 then sumG p else sumG p + 1 := by
  obtain ⟨hc, hg⟩ := mem_nexts.1 h
  unfold choices at hc
  rcases List.mem_append.1 hc with hc | hc
  · obtain ⟨i, hi, rfl⟩ := List.mem_map.1 hc
    have hi : i < y.G.length := by simpa using hi
    rw [nxt_of hi hh] at hg
    have hi5 : i < 5 := by have := hv.ng; omega
    split at hg
    · cases hg
    · split at hg
      · cases hg
      · split at hg
        · cases hg
        · cases hg
          rw [if_neg (show ¬ (i : Int) = -1 by omega)]
          have hl := hp.l
          exact sum_set (by omega)
  · simp at hc
    subst hc
    rw [give_free] at hg
    cases hg
    simp [sumG]
/-- an entry: from this place it cannot be -/
def cInv (y : Tt) (T : Int) (k v : Value) : Prop := ∃ p, VP y p ∧ k = plv p ∧ v = .bool true ∧ canP y (y.H.length - p.hour) p (T - sumG p) = false
/-- what the search reads -/
structure CM (w : World) (Bx BF BC BM : Nat) (y : Tt) (AH AG : Option Addr) (ch cg : Nat) (T : Int) (m : Nat) : Prop where
  fx : Has w Bx 25 (ttc y AH AG ch cg)
  ff : Has w BF 138 #[.map (some BM)]
  fc : Has w BC 139 #[.func (.func 100) #[] #[.pointer (some ⟨Bx, 0, none⟩), .pointer (some ⟨BF, 0, none⟩), .pointer (some ⟨BC, 0, none⟩)]]
  tr : TR w w.heap.size y AH AG
  mm : Memo w BM m (cInv y T)
section
variable {w w' : World} {Bx BF BC BM m D : Nat} {y : Tt} {AH AG : Option Addr} {ch cg : Nat} {T : Int}
theorem CM.step (h : CM w Bx BF BC BM y AH AG ch cg T m) (hb : Below w.heap.size w w') : CM w' Bx BF BC BM y AH AG ch cg T m :=
  ⟨h.fx.below hb h.fx.lt, h.ff.below hb h.ff.lt, h.fc.below hb h.fc.lt, h.tr.step hb, h.mm.imp (hb.block _ h.mm.lt) (fun _ _ h => h)⟩
theorem CM.more {m' : Nat} (h : CM w Bx BF BC BM y AH AG ch cg T m) (hm : m ≤ m') : CM w Bx BF BC BM y AH AG ch cg T m' := ⟨h.fx, h.ff, h.fc, h.tr, h.mm.more hm⟩
theorem CM.only (h : CM w Bx BF BC BM y AH AG ch cg T m) (ho : Only (· = D) w w') (hd : D ≠ Bx ∧ D ≠ BF ∧ D ≠ BC ∧ D ≠ BM) (hD : ∀ o n, w.cell? ⟨D, o, none⟩ ≠ some (.int .i64 n)) : CM w' Bx BF BC BM y AH AG ch cg T m :=
  ⟨h.fx.only ho (fun e => hd.1 e.symm), h.ff.only ho (fun e => hd.2.1 e.symm), h.fc.only ho (fun e => hd.2.2.1 e.symm), (h.tr.only ho hD).more ho.size, h.mm.imp (ho.block _ h.mm.lt (fun e => hd.2.2.2 e.symm)) (fun _ _ h => h)⟩
theorem CM.wrote {m' : Nat} (h : CM w Bx BF BC BM y AH AG ch cg T m) (ho : Only (· = BM) w w') (hm : Memo w' BM m' (cInv y T)) : CM w' Bx BF BC BM y AH AG ch cg T m' := by
  have hD : ∀ o n, w.cell? ⟨BM, o, none⟩ ≠ some (.int .i64 n) := fun o n e => h.mm.ne e rfl
  exact ⟨h.fx.only ho (fun e => h.mm.ne_has h.fx e), h.ff.only ho (fun e => h.mm.ne_has h.ff e), h.fc.only ho (fun e => h.mm.ne_has h.fc e), (h.tr.only ho hD).more ho.size, hm⟩
theorem CM.notInt (h : CM w Bx BF BC BM y AH AG ch cg T m) : ∀ o n, w.cell? ⟨BM, o, none⟩ ≠ some (.int .i64 n) := fun _ _ e => h.mm.ne e rfl
end
def CanPost (b : Bool) (Bx BF BC BM : Nat) (y : Tt) (AH AG : Option Addr) (ch cg : Nat) (T : Int) (m : Nat) (W : World) (e : Ending) (W' : World) : Prop :=
  e = .returned (.bool b) ∧ Only (· = BM) W W' ∧ CM W' Bx BF BC BM y AH AG ch cg T m
/-- what a call works with: its boxes, its answer -/
structure CB (w0 w : World) (Bx BF BC BM : Nat) (y : Tt) (AH AG : Option Addr) (ch cg : Nat) (T : Int) (m : Nat) (p : Pl) (b : Bool) : Prop where
  mi : CM w Bx BF BC BM y AH AG ch cg T m
  o : Only (· = BM) w0 w
  fp : Has w w0.heap.size 75 (plc p)
  fm : Has w (w0.heap.size + 1) 3 #[.int .i64 (T - sumG p)]
  fr : Has w (w0.heap.size + 2) 4 #[.bool b]
  lt : Bx < w0.heap.size ∧ BF < w0.heap.size ∧ BC < w0.heap.size ∧ BM < w0.heap.size
section
variable {w0 w w' : World} {Bx BF BC BM m m' : Nat} {y : Tt} {AH AG : Option Addr} {ch cg : Nat} {T : Int} {p : Pl} {b : Bool}
theorem CB.step (h : CB w0 w Bx BF BC BM y AH AG ch cg T m p b) (hb : Below w.heap.size w w') : CB w0 w' Bx BF BC BM y AH AG ch cg T m p b :=
  ⟨h.mi.step hb, h.o.andBelow hb, h.fp.below hb h.fp.lt, h.fm.below hb h.fm.lt, h.fr.below hb h.fr.lt, h.lt⟩
theorem CB.setR (h : CB w0 w Bx BF BC BM y AH AG ch cg T m p b) (b' : Bool) : CB w0 (w.setCell ⟨w0.heap.size + 2, 0, none⟩ (.bool b')) Bx BF BC BM y AH AG ch cg T m p b' := by
  have ho : Only (· = w0.heap.size + 2) w (w.setCell ⟨w0.heap.size + 2, 0, none⟩ (.bool b')) := (Only.refl (· = w0.heap.size + 2) w).setCell (p := ⟨w0.heap.size + 2, 0, none⟩) (.inl rfl) _
  have hD : ∀ o n, w.cell? ⟨w0.heap.size + 2, o, none⟩ ≠ some (.int .i64 n) := fun o n e => by
    rw [h.fr.cell o] at e
    match o, e with
    | 0, e => simp at e
    | o + 1, e => simp at e
  have hlt := h.lt
  exact ⟨h.mi.only ho ⟨by omega, by omega, by omega, by omega⟩ hD, h.o.from_ ho (fun i hi e => by have e' : i = w0.heap.size + 2 := e; omega), h.fp.only ho (by show ¬ w0.heap.size = w0.heap.size + 2; omega), h.fm.only ho (by show ¬ w0.heap.size + 1 = w0.heap.size + 2; omega), h.fr.set 0 _, hlt⟩
theorem CB.wrote (h : CB w0 w Bx BF BC BM y AH AG ch cg T m p b) (ho : Only (· = BM) w w') (hm : CM w' Bx BF BC BM y AH AG ch cg T m') : CB w0 w' Bx BF BC BM y AH AG ch cg T m' p b := by
  have hlt := h.lt
  exact ⟨hm, h.o.trans ho, h.fp.only ho (by show ¬ w0.heap.size = BM; omega), h.fm.only ho (by show ¬ w0.heap.size + 1 = BM; omega), h.fr.only ho (by show ¬ w0.heap.size + 2 = BM; omega), hlt⟩
end
/-- with the iterator's own -/
structure CL (w0 w : World) (Bx BF BC BM : Nat) (y : Tt) (AH AG : Option Addr) (ch cg : Nat) (T : Int) (m : Nat) (p : Pl) (b : Bool) : Prop where
  s : CB w0 w Bx BF BC BM y AH AG ch cg T m p b
  ix : Has w (w0.heap.size + 3) 25 (ttc y AH AG ch cg)
  ip : Has w (w0.heap.size + 4) 75 (plc p)
  d : w.heap[w0.heap.size + 5]? = some (.deferred (some []))
section
variable {w0 w w' : World} {Bx BF BC BM m m' : Nat} {y : Tt} {AH AG : Option Addr} {ch cg : Nat} {T : Int} {p : Pl} {b : Bool}
theorem CL.step (h : CL w0 w Bx BF BC BM y AH AG ch cg T m p b) (hb : Below w.heap.size w w') : CL w0 w' Bx BF BC BM y AH AG ch cg T m p b :=
  ⟨h.s.step hb, h.ix.below hb h.ix.lt, h.ip.below hb h.ip.lt, (hb.block _ (Array.getElem?_eq_some_iff.1 h.d).1).trans h.d⟩
theorem CL.put (h : CL w0 w Bx BF BC BM y AH AG ch cg T m p b) {l : Nat} (hl : w0.heap.size + 5 < l) {r : Loop} (hr : w.heap[l]? = some (.loop r)) (ob : Obj) : CL w0 (w.putObj l ob) Bx BF BC BM y AH AG ch cg T m p b := by
  have ho : Only (· = l) w (w.putObj l ob) := ⟨rfl, rfl, rfl, by simp, fun k _ hn => World.putObj_heap_other (fun e => hn e)⟩
  have hD : ∀ o n, w.cell? ⟨l, o, none⟩ ≠ some (.int .i64 n) := fun o n e => by simp [World.cell?, hr] at e
  have hlt := h.s.lt
  exact ⟨⟨h.s.mi.only ho ⟨by omega, by omega, by omega, by omega⟩ hD, h.s.o.from_ ho (fun i hi e => by have e' : i = l := e; omega), h.s.fp.only ho (by show ¬ w0.heap.size = l; omega), h.s.fm.only ho (by show ¬ w0.heap.size + 1 = l; omega), h.s.fr.only ho (by show ¬ w0.heap.size + 2 = l; omega), hlt⟩,
    h.ix.only ho (by show ¬ w0.heap.size + 3 = l; omega), h.ip.only ho (by show ¬ w0.heap.size + 4 = l; omega), (ho.block _ (Array.getElem?_eq_some_iff.1 h.d).1 (by show ¬ w0.heap.size + 5 = l; omega)).trans h.d⟩
theorem CL.setR (h : CL w0 w Bx BF BC BM y AH AG ch cg T m p b) (b' : Bool) : CL w0 (w.setCell ⟨w0.heap.size + 2, 0, none⟩ (.bool b')) Bx BF BC BM y AH AG ch cg T m p b' := by
  have ho : Only (· = w0.heap.size + 2) w (w.setCell ⟨w0.heap.size + 2, 0, none⟩ (.bool b')) := (Only.refl (· = w0.heap.size + 2) w).setCell (p := ⟨w0.heap.size + 2, 0, none⟩) (.inl rfl) _
  exact ⟨h.s.setR b', h.ix.only ho (by show ¬ w0.heap.size + 3 = w0.heap.size + 2; omega), h.ip.only ho (by show ¬ w0.heap.size + 4 = w0.heap.size + 2; omega), (ho.block _ (Array.getElem?_eq_some_iff.1 h.d).1 (by show ¬ w0.heap.size + 5 = w0.heap.size + 2; omega)).trans h.d⟩
theorem CL.wrote (h : CL w0 w Bx BF BC BM y AH AG ch cg T m p b) (ho : Only (· = BM) w w') (hm : CM w' Bx BF BC BM y AH AG ch cg T m') : CL w0 w' Bx BF BC BM y AH AG ch cg T m' p b := by
  have hlt := h.s.lt
  exact ⟨h.s.wrote ho hm, h.ix.only ho (by show ¬ w0.heap.size + 3 = BM; omega), h.ip.only ho (by show ¬ w0.heap.size + 4 = BM; omega), (ho.block _ (Array.getElem?_eq_some_iff.1 h.d).1 (by show ¬ w0.heap.size + 5 = BM; omega)).trans h.d⟩
/-- the answer stands, the marks are shut -/
theorem CL.shut (h : CL w0 w Bx BF BC BM y AH AG ch cg T m p b) : CB w0 (w.putObj (w0.heap.size + 5) (.deferred none)) Bx BF BC BM y AH AG ch cg T m p b := by
  have ho : Only (· = w0.heap.size + 5) w (w.putObj (w0.heap.size + 5) (.deferred none)) := ⟨rfl, rfl, rfl, by simp, fun k _ hn => World.putObj_heap_other (fun e => hn e)⟩
  have hD : ∀ o n, w.cell? ⟨w0.heap.size + 5, o, none⟩ ≠ some (.int .i64 n) := fun o n e => by have := h.d; simp [World.cell?, this] at e
  have hlt := h.s.lt
  exact ⟨h.s.mi.only ho ⟨by omega, by omega, by omega, by omega⟩ hD, h.s.o.from_ ho (fun i hi e => by have e' : i = w0.heap.size + 5 := e; omega), h.s.fp.only ho (by show ¬ w0.heap.size = w0.heap.size + 5; omega), h.s.fm.only ho (by show ¬ w0.heap.size + 1 = w0.heap.size + 5; omega), h.s.fr.only ho (by show ¬ w0.heap.size + 2 = w0.heap.size + 5; omega), hlt⟩
end
abbrev tC (B Bx BF BC : Nat) (u : Nat → Value) : Array Value :=
  #[u 0, u 1, .pointer (some ⟨Bx, 0, none⟩), .pointer (some ⟨BF, 0, none⟩), .pointer (some ⟨BC, 0, none⟩), .pointer (some ⟨B, 0, none⟩), .pointer (some ⟨B + 1, 0, none⟩), .pointer (some ⟨B + 2, 0, none⟩), u 8, u 9, u 10, u 11, u 12, u 13, u 14, u 15, u 16, u 17, u 18, u 19, u 20, u 21, u 22, u 23, u 24, u 25, u 26, u 27, u 28, u 29, u 30, u 31, u 32, u 33, u 34, u 35, u 36, u 37, u 38, u 39, u 40, u 41]
set_option maxRecDepth 100000 in
set_option maxHeartbeats 2000000 in
theorem canRound (w0 W : World) (Bx BF BC BM m n : Nat) (y : Tt) (AH AG : Option Addr) (ch cg : Nat) (T : Int) (p q : Pl) (g : Int) (u : Nat → Value) {assign body : Code}
    (IH : ∀ W m, CM W Bx BF BC BM y AH AG ch cg T m → m + cntB n ≤ 1000000000000 → Calls Try.prog 100 #[plv q, .int .i64 (T - sumG q), .pointer (some ⟨Bx, 0, none⟩), .pointer (some ⟨BF, 0, none⟩), .pointer (some ⟨BC, 0, none⟩)] W (CanPost (canP y n q (T - sumG q)) Bx BF BC BM y AH AG ch cg T (m + cntB n) W))
    (hmax : m + cntB n ≤ 1000000000000) (hsum : T - sumG q = if g = -1 then T - sumG p else T - sumG p - 1) (hT : -100 ≤ T - sumG p ∧ T - sumG p ≤ 1000)
    (hab : some (assign, body) = Try.f100.body.bind loopParts) (hl : W.heap[w0.heap.size + 6]? = some (.loop (loopRec 100 (tC w0.heap.size Bx BF BC u) #[29, 30] assign body (w0.heap.size + 5) .ready none)))
    (hS : CL w0 W Bx BF BC BM y AH AG ch cg T m p false) :
    YieldAt Fence.wide 2 Try.prog (w0.heap.size + 6) #[.int .i64 g, plv q] W fun e W' =>
      (canP y n q (T - sumG q) = false ∧ e = .returned (.bool true) ∧ CL w0 W' Bx BF BC BM y AH AG ch cg T (m + cntB n) p false ∧ W'.heap[w0.heap.size + 6]? = some (.loop (loopRec 100 (tC w0.heap.size Bx BF BC u) #[29, 30] assign body (w0.heap.size + 5) .ready none))) ∨
      (canP y n q (T - sumG q) = true ∧ e = .returned (.bool false) ∧ CL w0 W' Bx BF BC BM y AH AG ch cg T (m + cntB n) p true ∧ W'.heap[w0.heap.size + 6]? = some (.loop (loopRec 100 (tC w0.heap.size Bx BF BC u) #[29, 30] assign body (w0.heap.size + 5) .done (some .ret)))) := by
  obtain ⟨rc, hrc⟩ : ∃ rc, rc = loopRec 100 (tC w0.heap.size Bx BF BC u) #[29, 30] assign body (w0.heap.size + 5) := ⟨_, rfl⟩
  rw [← hrc] at hl ⊢
  obtain ⟨M, hM⟩ : ∃ M, M = T - sumG p := ⟨_, rfl⟩
  obtain ⟨L, hL⟩ : ∃ L, L = T - sumG q := ⟨_, rfl⟩
  obtain ⟨r, hr⟩ : ∃ r, r = canP y n q (T - sumG q) := ⟨_, rfl⟩
  rw [← hr] at IH ⊢
  rw [← hL] at IH hsum
  rw [← hM] at hsum hT
  have HIH2 := Lib.hid IH
  have HMX := Lib.hid hmax
  have HMM := Lib.hid hM
  clear hr hL hM IH hmax
  have hy := run_yield (P := Try.prog) (args := #[.int .i64 g, plv q]) hl (by rw [hrc]; rfl)
  refine ⟨100, _, assign, body, by rw [hy, hrc], roundIn_wide Try.func100 ?_⟩
  clear hy
  simp only [Try.f100, Option.bind_some, loopParts, Option.some.injEq, Prod.mk.injEq] at hab
  obtain ⟨ha, hb⟩ := hab
  have hll := (Array.getElem?_eq_some_iff.1 hl).1
  have HR := Lib.hid hrc
  rw [ha]
  have hzip : ∀ (t : Array Value) (u v : Value), (#[29, 30].zip #[u, v]).foldl (fun tmps (p : Tmp × Value) => match p with | (t, a) => tmps.setIfInBounds t a) t = (t.setIfInBounds 29 u).setIfInBounds 30 v := fun t u v => by simp [Array.zip]
  rw [hzip]
  clear hzip
  change Code.wpIn _ _ _ _ _ { tmps := ((tC w0.heap.size Bx BF BC u).setIfInBounds 29 (.int .i64 g)).setIfInBounds 30 (plv q), defers := [] } W
  have H0 := Lib.hid (And.intro hS hl)
  clear hrc hl hS ha
  unfold plv at *
  gi_wp2
  have HB := Lib.hid (below_one W (.cells (plc q) 75))
  have H1 : Hid (CL w0 (W.alloc (.cells (plc q) 75)) Bx BF BC BM y AH AG ch cg T m p false ∧ (W.alloc (.cells (plc q) 75)).heap[w0.heap.size + 6]? = some (.loop (rc .ready none)) ∧ Has (W.alloc (.cells (plc q) 75)) W.heap.size 75 (plc q)) :=
    ⟨H0.out.1.step HB.out, (HB.out.block _ hll).trans H0.out.2, Has.new W 75 (plc q)⟩
  have hlg : w0.heap.size + 6 < W.heap.size := hll
  refine (show ∃ w₂, (Instr.beginRound (w0.heap.size + 6)).run Try.prog (W.alloc (.cells (plc q) 75)) = .ok () w₂ ∧ _ from ?_)
  generalize W.alloc (.cells (plc q) 75) = W1 at H1 ⊢
  generalize W.heap.size = gb at H1 hlg ⊢
  clear HB H0 hll
  have hbeg := run_beginRound (P := Try.prog) H1.out.2.1 (by rw [HR.out])
  obtain ⟨W2, hW2⟩ : ∃ W2, W1.putObj (w0.heap.size + 6) (.loop { rc .ready none with state := .busy }) = W2 := ⟨_, rfl⟩
  have H2 : Hid (CL w0 W2 Bx BF BC BM y AH AG ch cg T m p false ∧ W2.heap[w0.heap.size + 6]? = some (.loop (rc .busy none)) ∧ Has W2 gb 75 (plc q)) := by
    refine ⟨by rw [← hW2]; exact H1.out.1.put (by omega) H1.out.2.1 _, ?_, ?_⟩
    · rw [← hW2, World.putObj_heap_same (Array.getElem?_eq_some_iff.1 H1.out.2.1).1, HR.out]
    · rw [← hW2]; exact (World.putObj_heap_other (by omega)).trans H1.out.2.2
  rw [hW2] at hbeg
  refine ⟨W2, hbeg, ?_⟩
  clear hbeg hW2 H1
  rw [hb]
  clear hb
  have b0 : W2.cell? ⟨BC, 0, none⟩ = some (.func (.func 100) #[] #[.pointer (some ⟨Bx, 0, none⟩), .pointer (some ⟨BF, 0, none⟩), .pointer (some ⟨BC, 0, none⟩)]) := H2.out.1.s.mi.fc.cell 0
  have m0 : W2.cell? ⟨w0.heap.size + 1, 0, none⟩ = some (.int .i64 M) := by rw [HMM.out]; exact H2.out.1.s.fm.cell 0
  have q0 : W2.cell? ⟨gb, 0, none⟩ = some (.int .i64 q.hour) := H2.out.2.2.cell 0
  have q1 : W2.cell? ⟨gb, 1, none⟩ = some (.int .i64 q.last) := H2.out.2.2.cell 1
  have q2 : W2.cell? ⟨gb, 2, none⟩ = some (.int .i64 (q.given[0]?.getD 0)) := H2.out.2.2.cell 2
  have q3 : W2.cell? ⟨gb, 3, none⟩ = some (.int .i64 (q.given[1]?.getD 0)) := H2.out.2.2.cell 3
  have q4 : W2.cell? ⟨gb, 4, none⟩ = some (.int .i64 (q.given[2]?.getD 0)) := H2.out.2.2.cell 4
  have q5 : W2.cell? ⟨gb, 5, none⟩ = some (.int .i64 (q.given[3]?.getD 0)) := H2.out.2.2.cell 5
  have q6 : W2.cell? ⟨gb, 6, none⟩ = some (.int .i64 (q.given[4]?.getD 0)) := H2.out.2.2.cell 6
  have fin : Hid (∀ (W3 : World) (b : Bool), CanPost b Bx BF BC BM y AH AG ch cg T (m + cntB n) W2 (.returned (.bool b)) W3 → CL w0 W3 Bx BF BC BM y AH AG ch cg T (m + cntB n) p false ∧ W3.heap[w0.heap.size + 6]? = some (.loop (rc .busy none))) := Lib.hid fun W3 b hc =>
    ⟨H2.out.1.wrote hc.2.1 hc.2.2, (hc.2.1.block _ (Array.getElem?_eq_some_iff.1 H2.out.2.1).1 (fun e => by have e' : w0.heap.size + 6 = BM := e; have := H2.out.1.s.lt; omega)).trans H2.out.2.1⟩
  have finF : Hid (∀ (W3 : World), CL w0 W3 Bx BF BC BM y AH AG ch cg T (m + cntB n) p false → W3.heap[w0.heap.size + 6]? = some (.loop (rc .busy none)) → r = false → ∀ a,
      roundEnd Try.prog (w0.heap.size + 6) (fun e W' => (r = false ∧ e = .returned (.bool true) ∧ CL w0 W' Bx BF BC BM y AH AG ch cg T (m + cntB n) p false ∧ W'.heap[w0.heap.size + 6]? = some (.loop (rc .ready none))) ∨ (r = true ∧ e = .returned (.bool false) ∧ CL w0 W' Bx BF BC BM y AH AG ch cg T (m + cntB n) p true ∧ W'.heap[w0.heap.size + 6]? = some (.loop (rc .done (some .ret))))) Exit.normal a W3) := by
    intro W3 h1 h2 h3 a
    have hend := run_endRound (P := Try.prog) none h2
    refine ⟨_, _, hend, .inl ⟨h3, rfl, h1.put (by omega) h2 _, ?_⟩⟩
    rw [World.putObj_heap_same (Array.getElem?_eq_some_iff.1 h2).1, HR.out]
    rfl
  have finT : Hid (∀ (W3 : World), CL w0 W3 Bx BF BC BM y AH AG ch cg T (m + cntB n) p true → W3.heap[w0.heap.size + 6]? = some (.loop (rc .busy none)) → r = true → ∀ a,
      roundEnd Try.prog (w0.heap.size + 6) (fun e W' => (r = false ∧ e = .returned (.bool true) ∧ CL w0 W' Bx BF BC BM y AH AG ch cg T (m + cntB n) p false ∧ W'.heap[w0.heap.size + 6]? = some (.loop (rc .ready none))) ∨ (r = true ∧ e = .returned (.bool false) ∧ CL w0 W' Bx BF BC BM y AH AG ch cg T (m + cntB n) p true ∧ W'.heap[w0.heap.size + 6]? = some (.loop (rc .done (some .ret))))) Exit.ret a W3) := by
    intro W3 h1 h2 h3 a
    have hend := run_endRound (P := Try.prog) (some .ret) h2
    refine ⟨_, _, hend, .inr ⟨h3, rfl, h1.put (by omega) h2 _, ?_⟩⟩
    rw [World.putObj_heap_same (Array.getElem?_eq_some_iff.1 h2).1, HR.out]
    rfl
  have e1 : IntKind.i64.wrap (M - 1) = M - 1 := IntWalk.i64_in _ (by omega)
  by_cases hg : g = -1
  · have HLM := Lib.hid (hsum.trans (if_pos hg))
    rw [HLM.out] at HIH2
    subst hg
    clear hsum
    gi_wp2_with (fail)
    refine ⟨trivial, CallsIn.inRound _ ((callsIn_wide.2 (HIH2.out _ _ H2.out.1.s.mi HMX.out)).mono ?_)⟩
    rintro e W3 ⟨rfl, hp3⟩
    have H3 := Lib.hid (fin.out W3 r ⟨rfl, hp3⟩)
    clear hp3 b0 q0 q1 q2 q3 q4 q5 q6 m0 fin H2
    dsimp only
    cases hr : r
    · gi_wp2_with (fail)
      exact finF.out _ H3.out.1 H3.out.2 hr _
    · have r0 : W3.cell? ⟨w0.heap.size + 2, 0, none⟩ = some (.bool false) := H3.out.1.s.fr.cell 0
      have rf := H3.out.1.s.fr.frozen 0
      have rl := H3.out.1.s.fr.lt
      gi_wp2_with (fail)
      exact finT.out _ (H3.out.1.setR true) ((Below.heap_setCell _ _ _ _ (by simp only; omega)).trans H3.out.2) hr _
  · have HLM := Lib.hid (hsum.trans (if_neg hg))
    rw [HLM.out] at HIH2
    have hg' : (g == -1) = false := by simpa using hg
    clear hsum
    gi_wp2_with (fail)
    refine ⟨trivial, CallsIn.inRound _ ((callsIn_wide.2 (HIH2.out _ _ H2.out.1.s.mi HMX.out)).mono ?_)⟩
    rintro e W3 ⟨rfl, hp3⟩
    have H3 := Lib.hid (fin.out W3 r ⟨rfl, hp3⟩)
    clear hp3 b0 q0 q1 q2 q3 q4 q5 q6 m0 fin H2
    dsimp only
    cases hr : r
    · gi_wp2_with (fail)
      exact finF.out _ H3.out.1 H3.out.2 hr _
    · have r0 : W3.cell? ⟨w0.heap.size + 2, 0, none⟩ = some (.bool false) := H3.out.1.s.fr.cell 0
      have rf := H3.out.1.s.fr.frozen 0
      have rl := H3.out.1.s.fr.lt
      gi_wp2_with (fail)
      exact finT.out _ (H3.out.1.setR true) ((Below.heap_setCell _ _ _ _ (by simp only; omega)).trans H3.out.2) hr _
end Go.Proofs.Ytipejhfgfciabaa

/- One step of a true course (plain): all that the law's round needs; and the memory of that round. -/
import Derived.Test.YtdmpkeaanaoeaaaAirY
import Derived.Test.YtdmpkeaanaoeaaaTrC
namespace Go.Proofs.Ytdmpkeaanaoeaaa
open Go.RowKit
abbrev z0c : Co := ⟨0, 0, 0, 0, 0⟩
theorem crsX_good {w : Int} {x : Nat → Int} {l : List Mo} (hw : 0 ≤ w ∧ w ≤ 274877906944) (hg : ∀ m ∈ l, GM m) (hx : Comes x l) : ∀ k, k ≤ l.length → GC (crsX w x l k) k
  | 0, _ => ⟨hw, by simp [crsX], by simp [crsX], by simp [crsX], by simp [crsX]⟩
  | k + 1, hk => by
    have hk' : k < l.length := by omega
    rw [crsX_step hk']
    have hm := hg _ (List.getElem_mem hk')
    have h1 := hx k hk'
    have h2 := hm.c
    exact pass_good (crsX_good hw hg hx k (by omega)) hm (by omega)
structure RdF (fw : Int) (xs : Nat → Int) (ms : List Mo) (k : Nat) (lim f1 f2 f3 ho : Int) (q Y : Co) : Prop where
  qe : crsX fw xs ms k = q
  e : crsX fw xs ms (k + 1) = ⟨Y.w, q.came + Y.came, q.out + Y.out, q.dried + Y.dried, q.dew + Y.dew⟩
  qw : 0 ≤ q.w ∧ q.w ≤ 274877906944
  qb : 0 ≤ q.came ∧ q.came ≤ 200 * 274877906944 ∧ 0 ≤ q.out ∧ q.out ≤ 200 * 274877906944 ∧ 0 ≤ q.dried ∧ q.dried ≤ 200 * 274877906944 ∧ 0 ≤ q.dew ∧ q.dew ≤ 200 * 549755813888
  yw : 0 ≤ Y.w ∧ Y.w ≤ 274877906944
  yb : 0 ≤ Y.came ∧ Y.came ≤ 274877906944 ∧ 0 ≤ Y.out ∧ Y.out ≤ 274877906944 ∧ 0 ≤ Y.dried ∧ Y.dried ≤ 274877906944 ∧ 0 ≤ Y.dew ∧ Y.dew ≤ 549755813888
  hoe : Y.w ≤ ho
  first : firstX fw xs ms (k + 1) = if firstX fw xs ms k < 0 ∧ 0 < Y.dew then (k : Int) else firstX fw xs ms k
  wet : cntI (wetX fw xs lim ms) (k + 1) = cntI (wetX fw xs lim ms) k + if wetB Y.w lim ho = true then 1 else 0
  fog1 : f3 = 0 → f1 = k → 0 < Y.dew
  fog2 : 0 < Y.dew → f3 = 0 ∧ f2 ≤ k
theorem true_round {a : Air} {lo hi lim fw f1 f2 f3 : Int} {L : List Stp} {U : List Int} {xs : Nat → Int} {ms : List Mo} {k : Nat} (hins : insB a lo hi L = true) (hfw : lo ≤ fw ∧ fw ≤ hi) (hms : ms = msOf a L) (hxs : xs = xsU a L U) (hk : k < L.length) (hfog : (f1, f2, f3) = fogR a lo hi L) :
    ∃ q Y, RdF fw xs ms k lim f1 f2 f3 (holdsP a L[k].cold) q Y ∧ Y = passP (one q.w) (moOf a L[k]) (partP (a.R * pickN L[k].o0 L[k].o1 (atU U k)) L[k].chg + pickN (L[k].ppl * a.b0) (L[k].ppl * a.b1) (atU U (k + 1)) + pickN L[k].s0 L[k].s1 (atU U (k + 2))) := by
  have HG := (insB_iff a lo hi L).1 hins
  have gl := ins_gl hins
  rw [← hms] at gl
  have hC : Comes xs ms := by rw [hms, hxs]; exact xsU_comes HG.1 HG.2.2.2 U
  have hlen : ms.length = L.length := by rw [hms, msOf_len]
  have hkm : k < ms.length := by omega
  have hmk : ms[k] = moOf a L[k] := by subst hms; simp [msOf]
  have hxk : xs k = partP (a.R * pickN L[k].o0 L[k].o1 (atU U k)) L[k].chg + pickN (L[k].ppl * a.b0) (L[k].ppl * a.b1) (atU U (k + 1)) + pickN L[k].s0 L[k].s1 (atU U (k + 2)) := by
    rw [hxs, xsU_at hk]; rfl
  have hg := crsX_good (w := fw) (x := xs) (by have := HG.2.1; omega) gl.g hC k (by omega)
  have hm := gl.g _ (List.getElem_mem hkm)
  have h1 := hC k hkm
  have h2 := hm.c
  have hk200 : k ≤ 200 := by have := HG.2.2.1; omega
  refine ⟨crsX fw xs ms k, passP (one (crsX fw xs ms k).w) ms[k] (xs k), ⟨rfl, ?_, hg.w, ?_, ?_, ?_, ?_, ?_, ?_, ?_, ?_⟩, by rw [hmk, hxk]⟩
  · rw [crsX_step hkm, pass_one]
  · obtain ⟨_, h3, h4, h5, h6⟩ := hg
    omega
  · have hy := pass_good (c := one (crsX fw xs ms k).w) (k := 0) ⟨hg.w, by simp [one], by simp [one], by simp [one], by simp [one]⟩ hm (x := xs k) (by omega)
    exact hy.w
  · have hy := pass_good (c := one (crsX fw xs ms k).w) (k := 0) ⟨hg.w, by simp [one], by simp [one], by simp [one], by simp [one]⟩ hm (x := xs k) (by omega)
    obtain ⟨_, h3, h4, h5, h6⟩ := hy
    omega
  · have := crsX_holds (w := fw) (x := xs) hkm
    rw [crsX_step hkm, pass_one] at this
    rw [hmk] at this ⊢
    exact this
  · rw [firstX_step, ownX_eq hkm]
  · show cntI _ k + (if wetX fw xs lim ms k = true then 1 else 0) = _
    unfold wetX
    rw [List.getElem?_eq_getElem hkm]
    simp only
    rw [crsX_step hkm, pass_one, hmk]
    rfl
  · intro h3 h4
    unfold fogR at hfog
    rw [if_pos hins] at hfog
    rw [← hms, ← hlen] at hfog
    split at hfog
    · cases hfog; exact absurd h3 (by decide)
    · cases hfog
      have := surely_dew gl.lo hfw.1 gl.g hC hkm h4
      rwa [ownX_eq hkm] at this
  · intro h3
    have h4 := perhaps_dew gl.hi hfw.2 gl.g hC hkm (by rw [ownX_eq hkm]; exact h3)
    unfold fogR at hfog
    rw [if_pos hins] at hfog
    rw [← hms, ← hlen] at hfog
    split at hfog
    · omega
    · cases hfog
      exact ⟨rfl, h4.2⟩
/-- what the law's loop goes on with -/
structure TS (W w : World) (a : Air) (A B : Option Addr) (ca cb : Nat) (lo hi : Int) (L : List Stp) (AL : Option Addr) (D1 D2 D3 : Nat) (c d : Co) (u1 u2 : Int) (q : Co) : Prop where
  l : LB W w a A B ca cb lo hi L AL
  b1 : Has w D1 24 #[.int .i64 c.w, .int .i64 d.w]
  b2 : Has w (D1 + 1) 34 (moi c d)
  b3 : Has w D2 24 #[.int .i64 u1, .int .i64 u2]
  b4 : Has w D3 48 #[.int .i64 0, .int .i64 q.came, .int .i64 q.out, .int .i64 q.dried, .int .i64 q.dew]
  ne : D3 ≠ D1 ∧ D3 ≠ D1 + 1 ∧ D3 ≠ D2 ∧ W.heap.size + 1 < D3
theorem TS.step {W w w' : World} {a : Air} {A B : Option Addr} {ca cb : Nat} {lo hi : Int} {L : List Stp} {AL : Option Addr} {D1 D2 D3 : Nat} {c d : Co} {u1 u2 : Int} {q : Co} (h : TS W w a A B ca cb lo hi L AL D1 D2 D3 c d u1 u2 q) (hb : Below w.heap.size w w') : TS W w' a A B ca cb lo hi L AL D1 D2 D3 c d u1 u2 q :=
  ⟨h.l.step hb, h.b1.below hb h.b1.lt, h.b2.below hb h.b2.lt, h.b3.below hb h.b3.lt, h.b4.below hb h.b4.lt, h.ne⟩
/-- the sums so far written -/
theorem TS.put {W w : World} {a : Air} {A B : Option Addr} {ca cb : Nat} {lo hi : Int} {L : List Stp} {AL : Option Addr} {D1 D2 D3 : Nat} {c d : Co} {u1 u2 : Int} {q : Co} (h : TS W w a A B ca cb lo hi L AL D1 D2 D3 c d u1 u2 q) (har : AR W W.heap.size a A B) (hr : SRow W W.heap.size AL L) (c2 c3 c4 c5 : Int) (y : Int) :
    TS W (put5 w D3 ⟨0, c2, c3, c4, c5⟩) a A B ca cb lo hi L AL D1 D2 D3 c d u1 u2 ⟨y, c2, c3, c4, c5⟩ := by
  have hne := h.ne
  have hb : Below W.heap.size W (put5 w D3 ⟨0, c2, c3, c4, c5⟩) := ((((h.l.v.b.b.setCell (by simp only; omega) _).setCell (by simp only; omega) _).setCell (by simp only; omega) _).setCell (by simp only; omega) _).setCell (by simp only; omega) _
  have far : ∀ {g t cs}, Has w g t cs → g ≠ D3 → Has (put5 w D3 ⟨0, c2, c3, c4, c5⟩) g t cs := fun h hg => ((((h.far (p := ⟨D3, 0, none⟩) hg _).far (p := ⟨D3, 1, none⟩) hg _).far (p := ⟨D3, 2, none⟩) hg _).far (p := ⟨D3, 3, none⟩) hg _).far (p := ⟨D3, 4, none⟩) hg _
  exact ⟨⟨⟨⟨hb, far h.l.v.b.fa (by omega)⟩, far h.l.v.fw (by omega)⟩, (har.below hb).more hb.size, (hr.below hb).more hb.size⟩, far h.b1 (by omega), far h.b2 (by omega), far h.b3 (by omega), ((((h.b4.set 0 (.int .i64 0)).set 1 (.int .i64 c2)).set 2 (.int .i64 c3)).set 3 (.int .i64 c4)).set 4 (.int .i64 c5), hne⟩
/-- .. with the step's own copy, and what people breathe -/
structure XB (W w : World) (a : Air) (A B : Option Addr) (ca cb : Nat) (lo hi : Int) (L : List Stp) (AL : Option Addr) (D1 D2 D3 : Nat) (c d : Co) (u1 u2 : Int) (q : Co) (D4 D5 : Nat) (s : Stp) (x y : Int) : Prop where
  t : TS W w a A B ca cb lo hi L AL D1 D2 D3 c d u1 u2 q
  s4 : Has w D4 50 (stpc s)
  b5 : Has w D5 24 #[.int .i64 x, .int .i64 y]
  ne : D3 ≠ D4 ∧ D3 ≠ D5
theorem XB.step {W w w' : World} {a : Air} {A B : Option Addr} {ca cb : Nat} {lo hi : Int} {L : List Stp} {AL : Option Addr} {D1 D2 D3 : Nat} {c d : Co} {u1 u2 : Int} {q : Co} {D4 D5 : Nat} {s : Stp} {x y : Int} (h : XB W w a A B ca cb lo hi L AL D1 D2 D3 c d u1 u2 q D4 D5 s x y) (hb : Below w.heap.size w w') :
    XB W w' a A B ca cb lo hi L AL D1 D2 D3 c d u1 u2 q D4 D5 s x y :=
  ⟨h.t.step hb, h.s4.below hb h.s4.lt, h.b5.below hb h.b5.lt, h.ne⟩
theorem XB.put {W w : World} {a : Air} {A B : Option Addr} {ca cb : Nat} {lo hi : Int} {L : List Stp} {AL : Option Addr} {D1 D2 D3 : Nat} {c d : Co} {u1 u2 : Int} {q : Co} {D4 D5 : Nat} {s : Stp} {x y : Int} (h : XB W w a A B ca cb lo hi L AL D1 D2 D3 c d u1 u2 q D4 D5 s x y) (har : AR W W.heap.size a A B) (hr : SRow W W.heap.size AL L) (c2 c3 c4 c5 : Int) (z : Int) :
    XB W (put5 w D3 ⟨0, c2, c3, c4, c5⟩) a A B ca cb lo hi L AL D1 D2 D3 c d u1 u2 ⟨z, c2, c3, c4, c5⟩ D4 D5 s x y := by
  have hne := h.ne
  have far : ∀ {g t cs}, Has w g t cs → g ≠ D3 → Has (put5 w D3 ⟨0, c2, c3, c4, c5⟩) g t cs := fun h hg => ((((h.far (p := ⟨D3, 0, none⟩) hg _).far (p := ⟨D3, 1, none⟩) hg _).far (p := ⟨D3, 2, none⟩) hg _).far (p := ⟨D3, 3, none⟩) hg _).far (p := ⟨D3, 4, none⟩) hg _
  exact ⟨h.t.put har hr c2 c3 c4 c5 z, far h.s4 (by omega), far h.b5 (by omega), hne⟩
theorem has_put5 {w : World} {D3 g : Nat} {t : TypeId} {cs : Array Value} (h : Has w g t cs) (hg : g ≠ D3) (c : Co) : Has (put5 w D3 c) g t cs := ((((h.far (p := ⟨D3, 0, none⟩) hg _).far (p := ⟨D3, 1, none⟩) hg _).far (p := ⟨D3, 2, none⟩) hg _).far (p := ⟨D3, 3, none⟩) hg _).far (p := ⟨D3, 4, none⟩) hg _
theorem TW.one1 {w0 w : World} {D : Nat} (h : TW w0 w (some D) none) (c : Co) : Below w0.heap.size w0 (put5 w D c) ∧ w0.heap.size ≤ D ∧ Has (put5 w D c) D 48 (coc c) := by
  obtain ⟨hb, hd, _, _⟩ := h
  obtain ⟨h1, h2⟩ := hd D rfl
  exact ⟨((((hb.setCell h1 _).setCell h1 _).setCell h1 _).setCell h1 _).setCell h1 _, h1, ((((h2.set 0 _).set 1 _).set 2 _).set 3 _).set 4 _⟩
/-- numbers by remainders, in memory -/
theorem urow_at {W : World} {gu ou : Nat} {U : List Int} (h : URow W W.heap.size (some ⟨gu, ou, none⟩) U) (h0 : 0 < U.length) (j : Nat) :
    ∃ i : Nat, (j : Int).tmod (U.length : Int) = (i : Int) ∧ i < U.length ∧ ∀ w, Below W.heap.size W w → w.cell? ⟨gu, ou + i, none⟩ = some (.int .u32 (atU U j)) := by
  have hi := Nat.mod_lt j h0
  refine ⟨j % U.length, by rw [Int.tmod_eq_emod_of_nonneg (by omega)]; omega, hi, ?_⟩
  obtain ⟨g, o, e, hg, hc⟩ := h _ hi
  cases e
  intro w hb
  refine (hb.cell (p := ⟨gu, _, none⟩) hg).trans (hc.trans ?_)
  unfold atU
  rw [getD_lt hi]
end Go.Proofs.Ytdmpkeaanaoeaaa

/- AppendSeq over the moments: a round. -/
import Derived.Test.YtdmpkeaanaoeaaaAirI
import Derived.Test.YtdmpkeaanaoeaaaRnd
import Derived.Deep.AppendLies
import Derived.OwnWalkIn
namespace Go.Proofs.Ytdmpkeaanaoeaaa
open Go.RowKit Go.Shelf
attribute [local go_sem] Oper.semAt_some
def loopParts : Code → Option (Code × Code)
  | .rangeFunc _ _ a b => some (a, b)
  | .seq a b => match loopParts a with | some p => some p | none => loopParts b
  | .block _ c => loopParts c
  | _ => none
def mfl (l : List Mo) : List Value := l.flatMap fun m => (moc m).toList
theorem mfl_len (l : List Mo) : (mfl l).length = l.length * 5 := by
  induction l with
  | nil => rfl
  | cons m l ih => unfold mfl at *; simp [ih]; omega
theorem mfl_snoc (l : List Mo) (m : Mo) : mfl (l ++ [m]) = mfl l ++ (moc m).toList := by unfold mfl; simp
theorem below_put (W : World) (l : Nat) (o : Obj) : Below l W (W.putObj l o) :=
  ⟨rfl, rfl, rfl, by simp, fun i hi => World.putObj_heap_other (by omega)⟩
theorem own_keep {w w' : World} {base : Nat} {e : TypeId} {size : Nat} {v : Value} {n : Nat} {xs : List Value} (h : w.ownsRow base e size v n xs) (hb : ∀ g, base ≤ g → g < w.heap.size → w'.heap[g]? = w.heap[g]?) : w'.ownsRow base e size v n xs := by
  refine ⟨h.1, ?_⟩
  rcases h.2 with hn | ⟨g, cap, cur, rfl, hbs, hgg, rest⟩
  · exact .inl hn
  · exact .inr ⟨g, cap, cur, rfl, hbs, (hb g hbs (Array.getElem?_eq_some_iff.1 hgg).1).trans hgg, rest⟩
theorem below_grown {w w' : World} {base B : Nat} {e : TypeId} {size : Nat} {v : Value} {n : Nat} {xs : List Value} (h : w.ownsRow base e size v n xs) (hg : w.grownBy w' v.ownBlock) (hB : B ≤ base) (hw : B ≤ w.heap.size) : Below B w w' :=
  ⟨hg.os, hg.tape, hg.output, hg.size, fun i hi => hg.block i (by omega) (fun e => by have := (h.lt i e.symm).1; omega)⟩
/-- what the rounds of AppendSeq go on with -/
structure AS (w0 W : World) (Bt D l : Nat) (v : Value) (k : Nat) (xs : List Value) : Prop where
  b : Below w0.heap.size w0 W
  t : Has W Bt 67 #[v]
  own : W.ownsRow (l + 1) 86 5 v k xs
  d : W.heap[D]? = some (.deferred (some []))
  lt : w0.heap.size ≤ Bt ∧ Bt < D ∧ D < l
theorem AS.under {w0 W W' : World} {Bt D l : Nat} {v : Value} {k : Nat} {xs : List Value} (h : AS w0 W Bt D l v k xs) (hb : Below l W W') (ho : ∀ g, l + 1 ≤ g → g < W.heap.size → W'.heap[g]? = W.heap[g]?) : AS w0 W' Bt D l v k xs := by
  obtain ⟨h0, h1, h2, h3, h4⟩ := h
  exact ⟨h0.trans (hb.mono (by omega)), h1.below hb (by omega), own_keep h2 ho, (hb.block D (by omega)).trans h3, h4⟩
theorem AS.put {w0 W : World} {Bt D l : Nat} {v : Value} {k : Nat} {xs : List Value} (h : AS w0 W Bt D l v k xs) (o : Obj) : AS w0 (W.putObj l o) Bt D l v k xs :=
  h.under (below_put _ _ _) (fun g hg _ => World.putObj_heap_other (by omega))
theorem AS.step {w0 W W' : World} {Bt D l : Nat} {v : Value} {k : Nat} {xs : List Value} (h : AS w0 W Bt D l v k xs) (hl : l < W.heap.size) (hb : Below W.heap.size W W') : AS w0 W' Bt D l v k xs :=
  h.under (hb.mono (Nat.le_of_lt hl)) (fun g _ hg => hb.block g hg)
def JA (w0 : World) (Bt D l : Nat) (rc : LoopState → Option Code → Loop) (ms : List Mo) (W : World) : Prop :=
  ∃ v, AS w0 W Bt D l v ms.length (mfl ms) ∧ W.heap[l]? = some (.loop (rc .ready none))
abbrev aTmps (Bt : Nat) (f : Value) : Array Value :=
  #[.slice none 0 0, f, .pointer (some ⟨Bt, 0, none⟩), undef, .slice none 0 0, undef, f, undef, undef, undef, undef, undef, undef]
theorem Try.info86 : (Try.prog.info? 86).map (fun i => (i.zero, i.size, i.bytes)) = some (some (.agg #[.int .i64 0, .int .i64 0, .int .i64 0, .int .i64 0, .int .i64 0]), 5, 40) := by kernel_rfl
set_option maxRecDepth 100000 in
set_option maxHeartbeats 2000000 in
theorem around_any' (w0 W : World) (Bt D l : Nat) (f : Value) (ms : List Mo) (m : Mo) (hn : ms.length < 200) {assign body : Code}
    (hab : some (assign, body) = Try.f63.body.bind loopParts) (hJ : JA w0 Bt D l (loopRec 63 (aTmps Bt f) #[7] assign body D) ms W) :
    YieldAt Fence.wide 2 Try.prog l #[mov m] W fun e W' => e = .returned (.bool true) ∧ JA w0 Bt D l (loopRec 63 (aTmps Bt f) #[7] assign body D) (ms ++ [m]) W' := by
  obtain ⟨v, hS, hl⟩ := hJ
  obtain ⟨rc, hrc⟩ : ∃ rc, rc = loopRec 63 (aTmps Bt f) #[7] assign body D := ⟨_, rfl⟩
  rw [← hrc] at hl ⊢
  have hy := run_yield (P := Try.prog) (args := #[mov m]) hl (by rw [hrc]; rfl)
  refine ⟨63, _, assign, body, by rw [hy, hrc], roundIn_wide Try.func63 ?_⟩
  clear hy
  simp only [Try.f63, Option.bind_some, loopParts, Option.some.injEq, Prod.mk.injEq] at hab
  obtain ⟨ha, hb⟩ := hab
  have hll := (Array.getElem?_eq_some_iff.1 hl).1
  have HR := Lib.hid hrc
  rw [ha]
  have hzip : ∀ (t : Array Value) (u : Value), (#[7].zip #[u]).foldl (fun tmps (p : Tmp × Value) => match p with | (t, a) => tmps.setIfInBounds t a) t = t.setIfInBounds 7 u := fun t u => by simp [Array.zip]
  rw [hzip]
  clear hzip
  change Code.wpIn _ _ _ _ _ { tmps := (aTmps Bt f).setIfInBounds 7 (mov m), defers := [] } W
  have H0 := Lib.hid (And.intro hS hl)
  clear hrc hl hS ha
  unfold mov
  gi_wp2
  have HB := Lib.hid (below_one W (.cells (moc m) 86))
  have HN := Lib.hid (Has.new W 86 (moc m))
  have H1 : Hid (AS w0 (W.alloc (.cells (moc m) 86)) Bt D l v ms.length (mfl ms) ∧ (W.alloc (.cells (moc m) 86)).heap[l]? = some (.loop (rc .ready none))) :=
    ⟨H0.out.1.step hll HB.out, (HB.out.block _ hll).trans H0.out.2⟩
  generalize hg : W.heap.size = gb at HN ⊢
  have hlg : l < gb := by omega
  generalize W.alloc (.cells (moc m) 86) = W1 at HN H1 ⊢
  clear HB H0 hg hll
  have hbeg := run_beginRound (P := Try.prog) H1.out.2 (by rw [HR.out])
  obtain ⟨W2, hW2⟩ : ∃ W2, W1.putObj l (.loop { rc .ready none with state := .busy }) = W2 := ⟨_, rfl⟩
  have H2 : Hid (AS w0 W2 Bt D l v ms.length (mfl ms) ∧ W2.heap[l]? = some (.loop (rc .busy none)) ∧ Has W2 gb 86 (moc m)) := by
    refine ⟨by rw [← hW2]; exact H1.out.1.put _, ?_, ?_⟩
    · rw [← hW2, World.putObj_heap_same (Array.getElem?_eq_some_iff.1 H1.out.2).1, HR.out]
    · rw [← hW2]; exact (World.putObj_heap_other (by omega)).trans HN.out
  rw [hW2] at hbeg
  refine ⟨W2, hbeg, ?_⟩
  clear hbeg hW2 H1 HN
  rw [hb]
  clear hb
  have t0 : W2.cell? ⟨Bt, 0, none⟩ = some v := H2.out.1.t.cell 0
  have m0 : W2.cell? ⟨gb, 0, none⟩ = some (.int .i64 m.ch) := H2.out.2.2.cell 0
  have m1 : W2.cell? ⟨gb, 1, none⟩ = some (.int .i64 m.c0) := H2.out.2.2.cell 1
  have m2 : W2.cell? ⟨gb, 2, none⟩ = some (.int .i64 m.c1) := H2.out.2.2.cell 2
  have m3 : W2.cell? ⟨gb, 3, none⟩ = some (.int .i64 m.dr) := H2.out.2.2.cell 3
  have m4 : W2.cell? ⟨gb, 4, none⟩ = some (.int .i64 m.ho) := H2.out.2.2.cell 4
  have tl := H2.out.1.t.lt
  have hl2 := (Array.getElem?_eq_some_iff.1 H2.out.2.1).1
  obtain ⟨i0, hi, hz0, hz1, hz2⟩ := info_parts Try.info86
  have hown := Lib.hid (own_keep H2.out.1.own (fun g _ hg => (below_one W2 (.cells (moc m) 86)).block g hg))
  have H3 := Lib.hid (And.intro (H2.out.1.step hl2 (below_one W2 (.cells (moc m) 86))) (((below_one W2 (.cells (moc m) 86)).block _ hl2).trans H2.out.2.1))
  gi_wp2_with (gi_at_builtin; refine wpListIn_append_own _ rfl _ _ 67 rfl (l + 1) 86 i0 (.agg #[.int .i64 0, .int .i64 0, .int .i64 0, .int .i64 0, .int .i64 0]) 5 40 Try.underlying67 hi hz0 hz1 hz2 rfl (by decide) v ms.length (mfl ms) rfl hown.out ⟨W2.heap.size, 0, none⟩ 1 1 (moc m).toList rfl rfl (World.news_of_block (Has.new W2 86 (moc m))) ?q1 ?q2 ?q3 ?q4 ?_)
  case q1 => exact ⟨rfl, rfl, rfl, rfl, rfl⟩
  case q2 => unfold maxLen; omega
  case q3 => omega
  case q4 => simp; omega
  intro v' w' ho hg hnil
  obtain ⟨gv, cv, rfl, -, -⟩ := ho.form (by omega)
  have hbl : Below (l + 1) (W2.alloc (.cells (moc m) 86)) w' := below_grown hown.out hg (Nat.le_refl _) (by simp; omega)
  have H4 := Lib.hid (And.intro (H3.out.1.b.trans (hbl.mono (by have := H3.out.1.lt; omega))) (And.intro (H3.out.1.t.below hbl (by have := H3.out.1.lt; omega)) (And.intro ((hbl.block D (by have := H3.out.1.lt; omega)).trans H3.out.1.d) ((hbl.block l (by omega)).trans H3.out.2))))
  have HO := Lib.hid (show w'.ownsRow (l + 1) 86 5 (.slice (some ⟨gv, 0, none⟩) (ms.length + 1) cv) (ms ++ [m]).length (mfl (ms ++ [m])) by rw [mfl_snoc, List.length_append]; exact ho)
  have hlt := Lib.hid H3.out.1.lt
  have s0 : w'.cell? ⟨Bt, 0, none⟩ = some v := H4.out.2.1.cell 0
  have sf := H4.out.2.1.frozen 0
  clear ho hg hnil hbl hown H3 H2 t0 m0 m1 m2 m3 m4 hi hz0 hz1 hz2 tl hl2
  gi_wp2
  have hfin : AS w0 (w'.setCell ⟨Bt, 0, none⟩ (.slice (some ⟨gv, 0, none⟩) (ms.length + 1) cv)) Bt D l (.slice (some ⟨gv, 0, none⟩) (ms.length + 1) cv) (ms ++ [m]).length (mfl (ms ++ [m])) := by
    have := hlt.out
    exact ⟨H4.out.1.setCell (by simp only; omega) _, H4.out.2.1.set 0 _, own_keep HO.out (fun g hg _ => Below.heap_setCell _ _ _ _ (by simp only; omega)), (Below.heap_setCell _ _ _ _ (by simp only; omega)).trans H4.out.2.2.1, this⟩
  have hl3 : (w'.setCell ⟨Bt, 0, none⟩ (.slice (some ⟨gv, 0, none⟩) (ms.length + 1) cv)).heap[l]? = some (.loop (rc .busy none)) := (Below.heap_setCell _ _ _ _ (by have := hlt.out; simp only; omega)).trans H4.out.2.2.2
  have hend := run_endRound (P := Try.prog) none hl3
  refine ⟨_, _, hend, rfl, _, hfin.put _, ?_⟩
  rw [World.putObj_heap_same (Array.getElem?_eq_some_iff.1 hl3).1, HR.out]
  rfl
end Go.Proofs.Ytdmpkeaanaoeaaa

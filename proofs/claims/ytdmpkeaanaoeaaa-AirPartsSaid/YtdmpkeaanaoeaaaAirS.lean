/- A round of Run. -/
import Derived.Test.YtdmpkeaanaoeaaaAirR
import Derived.Test.YtdmpkeaanaoeaaaLate
namespace Go.Proofs.Ytdmpkeaanaoeaaa
open Go.RowKit Go.Shelf
attribute [local go_sem] Oper.semAt_some
structure Rq where
  Be : Nat
  Bm : Nat
  Tw : Nat
  Tl : Nat
  D : Nat
  l : Nat
structure RS (w0 W : World) (q : Rq) (lo hi : Int) (A : Option Addr) (ms : List Mo) (cl : Nat) (ew ev : Int) (c d : Co) : Prop where
  b : Below w0.heap.size w0 W
  fe : Has W q.Be 24 #[.int .i64 ew, .int .i64 ev]
  fm : Has W q.Bm 34 (moi c d)
  fw : Has W q.Tw 24 #[.int .i64 lo, .int .i64 hi]
  fl : Has W q.Tl 67 #[.slice A ms.length cl]
  d : W.heap[q.D]? = some (.deferred (some []))
  r : MRowB W (q.Bm + 1) q.Tw A ms
  lt : w0.heap.size ≤ q.Be ∧ q.Be < q.Bm ∧ q.Bm < q.Tw ∧ q.Tw < q.Tl ∧ q.Tl < q.D ∧ q.D < q.l
section
variable {w0 W W' : World} {q : Rq} {lo hi : Int} {A : Option Addr} {ms : List Mo} {cl : Nat} {ew ev : Int} {c d : Co}
theorem RS.under (h : RS w0 W q lo hi A ms cl ew ev c d) (hb : Below q.l W W') : RS w0 W' q lo hi A ms cl ew ev c d := by
  obtain ⟨h0, h1, h2, h3, h4, h5, h6, h7⟩ := h
  exact ⟨h0.trans (hb.mono (by omega)), h1.below hb (by omega), h2.below hb (by omega), h3.below hb (by omega), h4.below hb (by omega), (hb.block q.D (by omega)).trans h5, h6.keep (fun g _ hg => hb.block g (by omega)), h7⟩
theorem RS.put (h : RS w0 W q lo hi A ms cl ew ev c d) (o : Obj) : RS w0 (W.putObj q.l o) q lo hi A ms cl ew ev c d := h.under (below_put _ _ _)
theorem RS.setE (h : RS w0 W q lo hi A ms cl ew ev c d) (x y : Int) : RS w0 ((W.setCell ⟨q.Be, 0, none⟩ (.int .i64 x)).setCell ⟨q.Be, 1, none⟩ (.int .i64 y)) q lo hi A ms cl x y c d := by
  obtain ⟨h0, h1, h2, h3, h4, h5, h6, h7⟩ := h
  exact ⟨(h0.setCell (by simp only; omega) _).setCell (by simp only; omega) _, (h1.set 0 _).set 1 _, (h2.far (by simp only; omega) _).far (by simp only; omega) _, (h3.far (by simp only; omega) _).far (by simp only; omega) _, (h4.far (by simp only; omega) _).far (by simp only; omega) _,
    (Below.heap_setCell _ _ _ _ (by simp only; omega)).trans ((Below.heap_setCell _ _ _ _ (by simp only; omega)).trans h5), h6.keep (fun g hg _ => (Below.heap_setCell _ _ _ _ (by simp only; omega)).trans (Below.heap_setCell _ _ _ _ (by simp only; omega))), h7⟩
/-- eight numbers are stored -/
def set8 (W : World) (B : Nat) (c d : Co) : World :=
  (((((((W.setCell ⟨B, 0, none⟩ (.int .i64 c.came)).setCell ⟨B, 1, none⟩ (.int .i64 d.came)).setCell ⟨B, 2, none⟩ (.int .i64 c.out)).setCell ⟨B, 3, none⟩ (.int .i64 d.out)).setCell ⟨B, 4, none⟩ (.int .i64 c.dried)).setCell ⟨B, 5, none⟩ (.int .i64 d.dried)).setCell ⟨B, 6, none⟩ (.int .i64 c.dew)).setCell ⟨B, 7, none⟩ (.int .i64 d.dew)
theorem one_only {W w : World} {B : Nat} (h : Only (· = B) W w) (i : Nat) (v : Value) : Only (· = B) W (w.setCell ⟨B, i, none⟩ v) := h.setCell (.inl rfl) v
theorem set8_only (W : World) (B : Nat) (c d : Co) : Only (· = B) W (set8 W B c d) :=
  one_only (one_only (one_only (one_only (one_only (one_only (one_only (one_only (Only.refl _ _) 0 _) 1 _) 2 _) 3 _) 4 _) 5 _) 6 _) 7 _
theorem set8_arr (a0 a1 a2 a3 a4 a5 a6 a7 b0 b1 b2 b3 b4 b5 b6 b7 : Value) :
    ((((((((#[a0, a1, a2, a3, a4, a5, a6, a7] : Array Value).setIfInBounds 0 b0).setIfInBounds 1 b1).setIfInBounds 2 b2).setIfInBounds 3 b3).setIfInBounds 4 b4).setIfInBounds 5 b5).setIfInBounds 6 b6).setIfInBounds 7 b7 = #[b0, b1, b2, b3, b4, b5, b6, b7] := by simp
theorem set8_has {W : World} {B : Nat} {c d c' d' : Co} (h : Has W B 34 (moi c d)) : Has (set8 W B c' d') B 34 (moi c' d') := by
  have h8 := Has.set (Has.set (Has.set (Has.set (Has.set (Has.set (Has.set (Has.set h 0 (.int .i64 c'.came)) 1 (.int .i64 d'.came)) 2 (.int .i64 c'.out)) 3 (.int .i64 d'.out)) 4 (.int .i64 c'.dried)) 5 (.int .i64 d'.dried)) 6 (.int .i64 c'.dew)) 7 (.int .i64 d'.dew)
  rw [set8_arr] at h8
  exact h8
theorem set8_size (W : World) (B : Nat) (c d : Co) : (set8 W B c d).heap.size = W.heap.size := by simp [set8]
theorem RS.setM (h : RS w0 W q lo hi A ms cl ew ev c d) (c' d' : Co) : RS w0 (set8 W q.Bm c' d') q lo hi A ms cl ew ev c' d' := by
  obtain ⟨h0, h1, h2, h3, h4, h5, h6, h7⟩ := h
  have ho := set8_only W q.Bm c' d'
  have far : ∀ {g t cs}, Has W g t cs → g ≠ q.Bm → Has (set8 W q.Bm c' d') g t cs := fun hh hn => hh.only ho hn
  have hlt := (Array.getElem?_eq_some_iff.1 h5).1
  exact ⟨h0.trans (ho.below h0.size (fun i hi => by omega)), far h1 (by omega), set8_has h2, far h3 (by omega), far h4 (by omega), (ho.block _ hlt (by omega)).trans h5, h6.keep (fun g hg hu => ho.block g (by have := h3.lt; omega) (by omega)), h7⟩
end
abbrev rTmps (q : Rq) (B : Nat) (av : Array Value) (lo hi : Int) (AL : Option Addr) (nl cL : Nat) (A : Option Addr) (n cl : Nat) : Array Value :=
  #[.agg av, .agg #[.int .i64 lo, .int .i64 hi], .slice AL nl cL, .pointer (some ⟨B, 0, none⟩), .pointer (some ⟨B + 1, 0, none⟩), undef, .pointer (some ⟨q.Be, 0, none⟩), .pointer (some ⟨q.Bm, 0, none⟩), .int .i64 0, .slice A n cl, undef, undef,
    .tuple #[.slice A n cl, .int .i64 0], .agg av, .agg #[.int .i64 lo, .int .i64 hi], .slice AL nl cL, .tuple #[.slice A n cl, .int .i64 0], .slice A n cl, .int .i64 0, .int .i64 0, .bool false, undef, undef, undef, .agg #[.int .i64 lo, .int .i64 hi], .agg #[.int .i64 lo, .int .i64 hi], .slice A n cl,
    .func (.func 59) #[] #[.pointer (some ⟨q.Tw, 0, none⟩), .pointer (some ⟨q.Tl, 0, none⟩)],
    undef, undef, undef, undef, undef, undef, undef, undef]
/-- in a round: the state, and what is yielded -/
structure RR (w0 W w : World) (q : Rq) (lo hi : Int) (A : Option Addr) (ms : List Mo) (cl gb : Nat) (ew ev : Int) (c0 d0 c d : Co) (rcb : Loop) : Prop where
  s : RS w0 w q lo hi A ms cl ew ev c0 d0
  k : Has w gb 76 (knc c d)
  hl : w.heap[q.l]? = some (.loop rcb)
  kp : Kept (q.l + 1) W w
  sz : W.heap.size ≤ w.heap.size
  lg : q.l < gb
section
variable {w0 W w w' : World} {q : Rq} {lo hi : Int} {A : Option Addr} {ms : List Mo} {cl gb : Nat} {ew ev : Int} {c0 d0 c d : Co} {rcb : Loop}
theorem RR.cells (h : RR w0 W w q lo hi A ms cl gb ew ev c0 d0 c d rcb) : w.cell? ⟨gb, 0, none⟩ = some (.int .i64 c.w) ∧ w.cell? ⟨gb, 1, none⟩ = some (.int .i64 c.came) ∧ w.cell? ⟨gb, 2, none⟩ = some (.int .i64 c.out) ∧ w.cell? ⟨gb, 3, none⟩ = some (.int .i64 c.dried) ∧ w.cell? ⟨gb, 4, none⟩ = some (.int .i64 c.dew) ∧ w.cell? ⟨gb, 5, none⟩ = some (.int .i64 d.w) ∧ w.cell? ⟨gb, 6, none⟩ = some (.int .i64 d.came) ∧ w.cell? ⟨gb, 7, none⟩ = some (.int .i64 d.out) ∧ w.cell? ⟨gb, 8, none⟩ = some (.int .i64 d.dried) ∧ w.cell? ⟨gb, 9, none⟩ = some (.int .i64 d.dew) :=
  ⟨h.k.cell 0, h.k.cell 1, h.k.cell 2, h.k.cell 3, h.k.cell 4, h.k.cell 5, h.k.cell 6, h.k.cell 7, h.k.cell 8, h.k.cell 9⟩
theorem RR.step (h : RR w0 W w q lo hi A ms cl gb ew ev c0 d0 c d rcb) (hb : Below w.heap.size w w') : RR w0 W w' q lo hi A ms cl gb ew ev c0 d0 c d rcb := by
  have hlt := (Array.getElem?_eq_some_iff.1 h.hl).1
  exact ⟨h.s.under (hb.mono (by omega)), h.k.below hb h.k.lt, (hb.block _ hlt).trans h.hl, fun b h1 h2 => (hb.block b (by have := h.sz; omega)).trans (h.kp b h1 h2), Nat.le_trans h.sz hb.size, h.lg⟩
theorem RR.setE (h : RR w0 W w q lo hi A ms cl gb ew ev c0 d0 c d rcb) (x y : Int) : RR w0 W ((w.setCell ⟨q.Be, 0, none⟩ (.int .i64 x)).setCell ⟨q.Be, 1, none⟩ (.int .i64 y)) q lo hi A ms cl gb x y c0 d0 c d rcb := by
  have hlt := h.s.lt
  have hg := h.lg
  exact ⟨h.s.setE x y, (h.k.far (by simp only; omega) _).far (by simp only; omega) _, (Below.heap_setCell _ _ _ _ (by simp only; omega)).trans ((Below.heap_setCell _ _ _ _ (by simp only; omega)).trans h.hl), (h.kp.set (by simp only; omega) _).set (by simp only; omega) _, by simpa using h.sz, hg⟩
theorem RR.setM (h : RR w0 W w q lo hi A ms cl gb ew ev c0 d0 c d rcb) (c' d' : Co) : RR w0 W (set8 w q.Bm c' d') q lo hi A ms cl gb ew ev c' d' c d rcb := by
  have hlt := h.s.lt
  have hg := h.lg
  have hll := (Array.getElem?_eq_some_iff.1 h.hl).1
  have ho := set8_only w q.Bm c' d'
  exact ⟨h.s.setM c' d', h.k.only ho (show ¬ gb = q.Bm by omega), (ho.block _ hll (show ¬ q.l = q.Bm by omega)).trans h.hl, fun b h1 h2 => (ho.block b (by have := h.sz; omega) (show ¬ b = q.Bm by omega)).trans (h.kp b h1 h2), by rw [set8_size]; exact h.sz, hg⟩
end
set_option maxRecDepth 100000 in
set_option maxHeartbeats 4000000 in
theorem rround_any (w0 W : World) (q : Rq) (B : Nat) (av : Array Value) (lo hi : Int) (AL : Option Addr) (nl cL : Nat) (A : Option Addr) (ms : List Mo) (cl i : Nat) (c d c0 d0 : Co) {assign body : Code}
    (hab : some (assign, body) = Try.f13.body.bind loopParts) (hl : W.heap[q.l]? = some (.loop (loopRec 13 (rTmps q B av lo hi AL nl cL A ms.length cl) #[28, 29] assign body q.D .ready none)))
    (hS : RS w0 W q lo hi A ms cl c0.w d0.w c0 d0) :
    YieldAt Fence.wide 2 Try.prog q.l #[.int .i64 i, knv c d] W fun e W' => e = .returned (.bool true) ∧
      (RS w0 W' q lo hi A ms cl c.w d.w c d ∧ W'.heap[q.l]? = some (.loop (loopRec 13 (rTmps q B av lo hi AL nl cL A ms.length cl) #[28, 29] assign body q.D .ready none))) ∧
      Kept (q.l + 1) W W' ∧ W.heap.size ≤ W'.heap.size := by
  obtain ⟨rc, hrc⟩ : ∃ rc, rc = loopRec 13 (rTmps q B av lo hi AL nl cL A ms.length cl) #[28, 29] assign body q.D := ⟨_, rfl⟩
  rw [← hrc] at hl ⊢
  have hy := run_yield (P := Try.prog) (args := #[.int .i64 i, knv c d]) hl (by rw [hrc]; rfl)
  refine ⟨13, _, assign, body, by rw [hy, hrc], roundIn_wide Try.func13 ?_⟩
  clear hy
  simp only [Try.f13, Option.bind_some, loopParts, Option.some.injEq, Prod.mk.injEq] at hab
  obtain ⟨ha, hb⟩ := hab
  have hll := (Array.getElem?_eq_some_iff.1 hl).1
  have HR := Lib.hid hrc
  rw [ha]
  have hzip : ∀ (t : Array Value) (u v : Value), (#[28, 29].zip #[u, v]).foldl (fun tmps (p : Tmp × Value) => match p with | (t, a) => tmps.setIfInBounds t a) t = (t.setIfInBounds 28 u).setIfInBounds 29 v := fun t u v => by simp [Array.zip]
  rw [hzip]
  clear hzip
  change Code.wpIn _ _ _ _ _ { tmps := ((rTmps q B av lo hi AL nl cL A ms.length cl).setIfInBounds 28 (.int .i64 i)).setIfInBounds 29 (knv c d), defers := [] } W
  have H0 := Lib.hid (And.intro hS hl)
  clear hrc hl hS ha
  have HW := Lib.hid (fun w => water_any c d w)
  have HM := Lib.hid (fun w => moisture_any c d w)
  unfold knv at *
  gi_wp2
  have HB := Lib.hid (below_one W (.cells (knc c d) 76))
  have HN := Lib.hid (Has.new W 76 (knc c d))
  have H1 : Hid (RS w0 (W.alloc (.cells (knc c d) 76)) q lo hi A ms cl c0.w d0.w c0 d0 ∧ (W.alloc (.cells (knc c d) 76)).heap[q.l]? = some (.loop (rc .ready none))) :=
    ⟨H0.out.1.under (HB.out.mono (Nat.le_of_lt hll)), (HB.out.block _ hll).trans H0.out.2⟩
  have HK : Hid (Kept (q.l + 1) W (W.alloc (.cells (knc c d) 76)) ∧ W.heap.size ≤ (W.alloc (.cells (knc c d) 76)).heap.size) := ⟨fun b _ hb => HB.out.block b hb, HB.out.size⟩
  obtain ⟨gb, hg⟩ : ∃ gb, gb = W.heap.size := ⟨_, rfl⟩
  rw [← hg] at HN ⊢
  have hlg : q.l < gb := by omega
  generalize W.alloc (.cells (knc c d) 76) = W1 at HN H1 HK ⊢
  clear HB H0
  have hbeg := run_beginRound (P := Try.prog) H1.out.2 (by rw [HR.out])
  obtain ⟨W2, hW2⟩ : ∃ W2, W1.putObj q.l (.loop { rc .ready none with state := .busy }) = W2 := ⟨_, rfl⟩
  have H2 : Hid (RR w0 W W2 q lo hi A ms cl gb c0.w d0.w c0 d0 c d (rc .busy none)) := by
    refine ⟨by rw [← hW2]; exact H1.out.1.put _, ?_, ?_, ?_, ?_, hlg⟩
    · rw [← hW2]; exact (World.putObj_heap_other (by omega)).trans HN.out
    · rw [← hW2, World.putObj_heap_same (Array.getElem?_eq_some_iff.1 H1.out.2).1, HR.out]
    · rw [← hW2]; exact fun b hb hl => (World.putObj_heap_other (by omega)).trans (HK.out.1 b hb hl)
    · rw [← hW2]; simpa using HK.out.2
  rw [hW2] at hbeg
  refine ⟨W2, hbeg, ?_⟩
  clear hbeg hW2 H1 HN HK
  have HG := Lib.hid hg
  clear hg hll hlg
  rw [hb]
  clear hb
  have STEP := Lib.hid (show ∀ (ew ev : Int) (w w' : World), RR w0 W w q lo hi A ms cl gb ew ev c0 d0 c d (rc .busy none) → Below w.heap.size w w' → RR w0 W w' q lo hi A ms cl gb ew ev c0 d0 c d (rc .busy none) from fun _ _ _ _ h hb => h.step hb)
  have H2d := Lib.hid (STEP.out _ _ _ _ H2.out (below_drew W2))
  gi_wp2
  refine wpIn_region_of_any (by kernel_rfl) (by kernel_rfl) (by rintro ⟨_, _, h⟩; exact h) ?_
  refine wpAny_of_late (S := fun w' : World => w'.cell? ⟨gb, 0, none⟩ = some (.int .i64 c.w) ∧ w'.cell? ⟨gb, 1, none⟩ = some (.int .i64 c.came) ∧ w'.cell? ⟨gb, 2, none⟩ = some (.int .i64 c.out) ∧ w'.cell? ⟨gb, 3, none⟩ = some (.int .i64 c.dried) ∧ w'.cell? ⟨gb, 4, none⟩ = some (.int .i64 c.dew) ∧ w'.cell? ⟨gb, 5, none⟩ = some (.int .i64 d.w) ∧ w'.cell? ⟨gb, 6, none⟩ = some (.int .i64 d.came) ∧ w'.cell? ⟨gb, 7, none⟩ = some (.int .i64 d.out) ∧ w'.cell? ⟨gb, 8, none⟩ = some (.int .i64 d.dried) ∧ w'.cell? ⟨gb, 9, none⟩ = some (.int .i64 d.dew)) (late := []) _ _ _ _ ?_
  refine wpLate_take (i := 0) (oi := ?oi0) (v := ?v0) [1, 3, 4, 5] ?hi0 (by kernel_rfl) (by kernel_rfl) (by kernel_rfl) (by kernel_rfl) (by kernel_rfl) ?hQ0 (Or.inl ⟨?hw0, ?hy0⟩) H2d.out.cells ?rest0
  case hi0 => (simp only [List.getElem?_toArray, List.getElem?_cons_zero]; rfl)
  case hQ0 => exact fun _ _ _ h => h
  case hw0 => rfl
  case hy0 =>
    intro w' hSw
    obtain ⟨r0, r1, r2, r3, r4, r5, r6, r7, r8, r9⟩ := hSw
    go_simp
    try exact rfl
  simp only [Act.put, List.setIfInBounds_toArray, List.set_cons_zero, List.set_cons_succ]
  refine wpLate_take (i := 2) (oi := ?oi2) (v := ?v2) [3, 4, 5] ?hi2 (by kernel_rfl) (by kernel_rfl) (by kernel_rfl) (by kernel_rfl) (by kernel_rfl) ?hQ2 (Or.inl ⟨?hw2, ?hy2⟩) H2d.out.cells ?rest2
  case hi2 => (simp only [List.getElem?_toArray, List.getElem?_cons_zero, List.getElem?_cons_succ]; rfl)
  case hQ2 => exact fun _ _ _ h => h
  case hw2 => rfl
  case hy2 =>
    intro w' hSw
    obtain ⟨r0, r1, r2, r3, r4, r5, r6, r7, r8, r9⟩ := hSw
    go_simp
    try exact rfl
  simp only [Act.put, List.setIfInBounds_toArray, List.set_cons_zero, List.set_cons_succ]
  refine wpLate_one (i := 1) (o := ?o1) (by kernel_rfl) ?ho1 ?hk1
  case ho1 => (simp only [List.getElem?_toArray, List.getElem?_cons_zero, List.getElem?_cons_succ]; rfl)
  intro K hK
  go_simp
  refine (HW.out _).mono ?_
  rintro e w3 ⟨rfl, hb3⟩
  have H3 := Lib.hid (STEP.out _ _ _ _ H2d.out hb3)
  clear hb3
  refine hK.out _ _ (fun _ => H3.out.cells) ?_
  clear hK K
  try simp only [Act.put, List.setIfInBounds_toArray, List.set_cons_zero, List.set_cons_succ]
  refine wpLate_one (i := 3) (o := ?o3) (by kernel_rfl) ?ho3 ?hk3
  case ho3 => (simp only [List.getElem?_toArray, List.getElem?_cons_zero, List.getElem?_cons_succ]; rfl)
  intro K hK
  go_simp
  refine (HM.out _).mono ?_
  rintro e w4 ⟨rfl, hb4⟩
  have H4 := Lib.hid (STEP.out _ _ _ _ H3.out hb4)
  clear hb4
  have e0 : w4.cell? ⟨q.Be, 0, none⟩ = some (.int .i64 c0.w) := H4.out.s.fe.cell 0
  have e1 : w4.cell? ⟨q.Be, 1, none⟩ = some (.int .i64 d0.w) := H4.out.s.fe.cell 1
  have ef := H4.out.s.fe.frozen
  have el := H4.out.s.fe.lt
  refine hK.out _ _ (fun _ => H4.out.cells) ?_
  clear hK K
  try simp only [Act.put, List.setIfInBounds_toArray, List.set_cons_zero, List.set_cons_succ]
  refine wpLate_one (i := 4) (o := ?o4) (by kernel_rfl) ?ho4 ?hk4
  case ho4 => (simp only [List.getElem?_toArray, List.getElem?_cons_zero, List.getElem?_cons_succ]; rfl)
  intro K hK
  go_simp
  have H5 := Lib.hid (H4.out.setE c.w d.w)
  clear e0 e1 ef el
  generalize (w4.setCell ⟨q.Be, 0, none⟩ (.int .i64 c.w)).setCell ⟨q.Be, 1, none⟩ (.int .i64 d.w) = w5 at H5 ⊢
  have m0 : w5.cell? ⟨q.Bm, 0, none⟩ = some (.int .i64 c0.came) := H5.out.s.fm.cell 0
  have m1 : w5.cell? ⟨q.Bm, 1, none⟩ = some (.int .i64 d0.came) := H5.out.s.fm.cell 1
  have m2 : w5.cell? ⟨q.Bm, 2, none⟩ = some (.int .i64 c0.out) := H5.out.s.fm.cell 2
  have m3 : w5.cell? ⟨q.Bm, 3, none⟩ = some (.int .i64 d0.out) := H5.out.s.fm.cell 3
  have m4 : w5.cell? ⟨q.Bm, 4, none⟩ = some (.int .i64 c0.dried) := H5.out.s.fm.cell 4
  have m5 : w5.cell? ⟨q.Bm, 5, none⟩ = some (.int .i64 d0.dried) := H5.out.s.fm.cell 5
  have m6 : w5.cell? ⟨q.Bm, 6, none⟩ = some (.int .i64 c0.dew) := H5.out.s.fm.cell 6
  have m7 : w5.cell? ⟨q.Bm, 7, none⟩ = some (.int .i64 d0.dew) := H5.out.s.fm.cell 7
  have mf := H5.out.s.fm.frozen
  have ml := H5.out.s.fm.lt
  refine hK.out _ _ (fun _ => H5.out.cells) ?_
  clear hK K
  try simp only [Act.put, List.setIfInBounds_toArray, List.set_cons_zero, List.set_cons_succ]
  refine wpLate_one (i := 5) (o := ?o5) (by kernel_rfl) ?ho5 ?hk5
  case ho5 => (simp only [List.getElem?_toArray, List.getElem?_cons_zero, List.getElem?_cons_succ]; rfl)
  intro K hK
  go_simp
  have H6 := Lib.hid (H5.out.setM c d)
  clear m0 m1 m2 m3 m4 m5 m6 m7 mf ml
  refine hK.out _ _ (fun _ => H6.out.cells) ?_
  clear hK K
  try simp only [Act.put, List.setIfInBounds_toArray, List.set_cons_zero, List.set_cons_succ]
  refine wpLate_done (by kernel_rfl) ?_ _
  try simp only [Act.put, List.setIfInBounds_toArray, List.set_cons_zero, List.set_cons_succ]
  have hfin := H6.out
  have hend := run_endRound (P := Try.prog) none hfin.hl
  refine ⟨_, _, hend, rfl, ⟨hfin.s.put _, ?_⟩, fun b hb hl => (World.putObj_heap_other (by omega)).trans (hfin.kp b hb hl), by simpa [HG.out] using hfin.sz⟩
  rw [World.putObj_heap_same (Array.getElem?_eq_some_iff.1 hfin.hl).1, HR.out]
  rfl
end Go.Proofs.Ytdmpkeaanaoeaaa

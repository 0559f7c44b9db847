/- A round of Rust. -/
import Derived.Test.YtdmpkeaanaoeaaaAirW
namespace Go.Proofs.Ytdmpkeaanaoeaaa
open Go.RowKit Go.Shelf
attribute [local go_sem] Oper.semAt_some
structure Uq where
  Bl : Nat
  Br : Nat
  Ba : Nat
  Bw : Nat
  Tw : Nat
  Tl : Nat
  D : Nat
  l : Nat
structure US (w0 W : World) (q : Uq) (lo hi lim : Int) (A : Option Addr) (ms : List Mo) (cl : Nat) (x y : Int) : Prop where
  b : Below w0.heap.size w0 W
  fl : Has W q.Bl 3 #[.int .i64 lim]
  fr : Has W q.Br 24 #[.int .i64 0, .int .i64 0]
  fa : Has W q.Ba 67 #[.slice A ms.length cl]
  fx : Has W q.Bw 24 #[.int .i64 x, .int .i64 y]
  fw : Has W q.Tw 24 #[.int .i64 lo, .int .i64 hi]
  ft : Has W q.Tl 67 #[.slice A ms.length cl]
  d : W.heap[q.D]? = some (.deferred (some []))
  r : MRow W q.Ba A ms
  lt : w0.heap.size ≤ q.Bl ∧ q.Bl < q.Br ∧ q.Br < q.Ba ∧ q.Ba < q.Bw ∧ q.Bw < q.Tw ∧ q.Tw < q.Tl ∧ q.Tl < q.D ∧ q.D < q.l
section
variable {w0 W W' : World} {q : Uq} {lo hi lim : Int} {A : Option Addr} {ms : List Mo} {cl : Nat} {x y : Int}
theorem US.under (h : US w0 W q lo hi lim A ms cl x y) (hb : Below q.l W W') : US w0 W' q lo hi lim A ms cl x y := by
  obtain ⟨h0, h1, h2, h3, h4, h5, h6, h7, h8, h9⟩ := h
  exact ⟨h0.trans (hb.mono (by omega)), h1.below hb (by omega), h2.below hb (by omega), h3.below hb (by omega), h4.below hb (by omega), h5.below hb (by omega), h6.below hb (by omega), (hb.block q.D (by omega)).trans h7, h8.below (hb.mono (by omega)), h9⟩
theorem US.put (h : US w0 W q lo hi lim A ms cl x y) (o : Obj) : US w0 (W.putObj q.l o) q lo hi lim A ms cl x y := h.under (below_put _ _ _)
theorem US.setX (h : US w0 W q lo hi lim A ms cl x y) (u : Int) : US w0 (W.setCell ⟨q.Bw, 0, none⟩ (.int .i64 u)) q lo hi lim A ms cl u y := by
  obtain ⟨h0, h1, h2, h3, h4, h5, h6, h7, h8, h9⟩ := h
  exact ⟨h0.setCell (by simp only; omega) _, h1.far (by simp only; omega) _, h2.far (by simp only; omega) _, h3.far (by simp only; omega) _, h4.set 0 _, h5.far (by simp only; omega) _, h6.far (by simp only; omega) _, (Below.heap_setCell _ _ _ _ (by simp only; omega)).trans h7, h8.below ((Below.refl _ _).setCell (by simp only; omega) _), h9⟩
theorem US.setY (h : US w0 W q lo hi lim A ms cl x y) (u : Int) : US w0 (W.setCell ⟨q.Bw, 1, none⟩ (.int .i64 u)) q lo hi lim A ms cl x u := by
  obtain ⟨h0, h1, h2, h3, h4, h5, h6, h7, h8, h9⟩ := h
  exact ⟨h0.setCell (by simp only; omega) _, h1.far (by simp only; omega) _, h2.far (by simp only; omega) _, h3.far (by simp only; omega) _, h4.set 1 _, h5.far (by simp only; omega) _, h6.far (by simp only; omega) _, (Below.heap_setCell _ _ _ _ (by simp only; omega)).trans h7, h8.below ((Below.refl _ _).setCell (by simp only; omega) _), h9⟩
end
abbrev uTmps (q : Uq) (B : Nat) (av : Array Value) (lo hi lim : Int) (AL : Option Addr) (nl cL : Nat) (A : Option Addr) (n cl : Nat) : Array Value :=
  #[.agg av, .agg #[.int .i64 lo, .int .i64 hi], .slice AL nl cL, .int .i64 lim, .pointer (some ⟨B, 0, none⟩), .pointer (some ⟨B + 1, 0, none⟩), undef, .pointer (some ⟨q.Bl, 0, none⟩), .pointer (some ⟨q.Br, 0, none⟩), .int .i64 0, .pointer (some ⟨q.Ba, 0, none⟩), .int .i64 0, .pointer (some ⟨q.Bw, 0, none⟩), undef, undef,
    .tuple #[.slice A n cl, .int .i64 0], .agg av, .agg #[.int .i64 lo, .int .i64 hi], .slice AL nl cL, .tuple #[.slice A n cl, .int .i64 0], .slice A n cl, .int .i64 0, .int .i64 0, .bool false, undef, undef, .int .i64 lim, .bool true, .bool false, undef, .agg #[.int .i64 lo, .int .i64 hi], .slice A n cl,
    .func (.func 59) #[] #[.pointer (some ⟨q.Tw, 0, none⟩), .pointer (some ⟨q.Tl, 0, none⟩)],
    undef, undef, undef, undef, undef, undef, undef, undef, undef, undef, undef, undef, undef, undef, undef, undef, undef, undef, undef, undef, undef, undef, undef, undef, undef, undef, undef, undef, undef]
/-- in a round -/
structure UR (w0 W w : World) (q : Uq) (lo hi lim : Int) (A : Option Addr) (ms : List Mo) (cl gb : Nat) (x y : Int) (c d : Co) (rcb : Loop) : Prop where
  s : US w0 w q lo hi lim A ms cl x y
  k : Has w gb 76 (knc c d)
  hl : w.heap[q.l]? = some (.loop rcb)
  kp : Kept (q.l + 1) W w
  sz : W.heap.size ≤ w.heap.size
  lg : q.l < gb
section
variable {w0 W w w' : World} {q : Uq} {lo hi lim : Int} {A : Option Addr} {ms : List Mo} {cl gb : Nat} {x y : Int} {c d : Co} {rcb : Loop}
theorem UR.step (h : UR w0 W w q lo hi lim A ms cl gb x y c d rcb) (hb : Below w.heap.size w w') : UR w0 W w' q lo hi lim A ms cl gb x y c d rcb := by
  have hlt := (Array.getElem?_eq_some_iff.1 h.hl).1
  exact ⟨h.s.under (hb.mono (by omega)), h.k.below hb h.k.lt, (hb.block _ hlt).trans h.hl, fun b h1 h2 => (hb.block b (by have := h.sz; omega)).trans (h.kp b h1 h2), Nat.le_trans h.sz hb.size, h.lg⟩
theorem UR.setX (h : UR w0 W w q lo hi lim A ms cl gb x y c d rcb) (u : Int) : UR w0 W (w.setCell ⟨q.Bw, 0, none⟩ (.int .i64 u)) q lo hi lim A ms cl gb u y c d rcb := by
  have hlt := h.s.lt
  have hg := h.lg
  exact ⟨h.s.setX u, h.k.far (by simp only; omega) _, (Below.heap_setCell _ _ _ _ (by simp only; omega)).trans h.hl, h.kp.set (by simp only; omega) _, by simpa using h.sz, hg⟩
theorem UR.setY (h : UR w0 W w q lo hi lim A ms cl gb x y c d rcb) (u : Int) : UR w0 W (w.setCell ⟨q.Bw, 1, none⟩ (.int .i64 u)) q lo hi lim A ms cl gb x u c d rcb := by
  have hlt := h.s.lt
  have hg := h.lg
  exact ⟨h.s.setY u, h.k.far (by simp only; omega) _, (Below.heap_setCell _ _ _ _ (by simp only; omega)).trans h.hl, h.kp.set (by simp only; omega) _, by simpa using h.sz, hg⟩
end
def bit (b : Bool) : Int := if b = true then 1 else 0
set_option maxRecDepth 100000 in
set_option maxHeartbeats 8000000 in
theorem uround_any (w0 W : World) (q : Uq) (B : Nat) (av : Array Value) (lo hi lim : Int) (AL : Option Addr) (nl cL : Nat) (A : Option Addr) (ms : List Mo) (cl i : Nat) (c d : Co) (x y : Int) {assign body : Code}
    (hab : some (assign, body) = Try.f17.body.bind loopParts) (hl : W.heap[q.l]? = some (.loop (loopRec 17 (uTmps q B av lo hi lim AL nl cL A ms.length cl) #[33, 34] assign body q.D .ready none)))
    (hS : US w0 W q lo hi lim A ms cl x y) (hin : i < ms.length) (hx : 0 ≤ x ∧ x ≤ 200) (hy : 0 ≤ y ∧ y ≤ 200) (hg : GM ms[i]) (hlim : 0 ≤ lim ∧ lim ≤ 1000) (hc : 0 ≤ c.w ∧ c.w ≤ 274877906944) (hd : 0 ≤ d.w ∧ d.w ≤ 274877906944) :
    YieldAt Fence.wide 2 Try.prog q.l #[.int .i64 i, knv c d] W fun e W' => e = .returned (.bool true) ∧
      (US w0 W' q lo hi lim A ms cl (x + bit (wetB c.w lim ms[i].ho)) (y + bit (wetB d.w lim ms[i].ho)) ∧ W'.heap[q.l]? = some (.loop (loopRec 17 (uTmps q B av lo hi lim AL nl cL A ms.length cl) #[33, 34] assign body q.D .ready none))) ∧
      Kept (q.l + 1) W W' ∧ W.heap.size ≤ W'.heap.size := by
  have HG0 := hg.ho
  obtain ⟨ho, hho⟩ : ∃ ho, ho = ms[i].ho := ⟨_, rfl⟩
  have HC := Lib.hid (fun w => wetter_any c lim ms[i].ho w hc hlim (by omega))
  have HD := Lib.hid (fun w => wetter_any d lim ms[i].ho w hd hlim (by omega))
  rw [← hho] at HC HD ⊢
  obtain ⟨b1, hb1⟩ : ∃ b1, b1 = wetB c.w lim ho := ⟨_, rfl⟩
  obtain ⟨b2, hb2⟩ : ∃ b2, b2 = wetB d.w lim ho := ⟨_, rfl⟩
  rw [← hb1] at HC ⊢
  rw [← hb2] at HD ⊢
  have HHO := Lib.hid hho
  clear hg hc hd hb1 hb2 HG0 hho
  obtain ⟨rc, hrc⟩ : ∃ rc, rc = loopRec 17 (uTmps q B av lo hi lim AL nl cL A ms.length cl) #[33, 34] assign body q.D := ⟨_, rfl⟩
  rw [← hrc] at hl ⊢
  have hy' := run_yield (P := Try.prog) (args := #[.int .i64 i, knv c d]) hl (by rw [hrc]; rfl)
  refine ⟨17, _, assign, body, by rw [hy', hrc], roundIn_wide Try.func17 ?_⟩
  clear hy'
  simp only [Try.f17, Option.bind_some, loopParts, Option.some.injEq, Prod.mk.injEq] at hab
  obtain ⟨ha, hb⟩ := hab
  have hll := (Array.getElem?_eq_some_iff.1 hl).1
  have HR := Lib.hid hrc
  rw [ha]
  have hzip : ∀ (t : Array Value) (u v : Value), (#[33, 34].zip #[u, v]).foldl (fun tmps (p : Tmp × Value) => match p with | (t, a) => tmps.setIfInBounds t a) t = (t.setIfInBounds 33 u).setIfInBounds 34 v := fun t u v => by simp [Array.zip]
  rw [hzip]
  clear hzip
  change Code.wpIn _ _ _ _ _ { tmps := ((uTmps q B av lo hi lim AL nl cL A ms.length cl).setIfInBounds 33 (.int .i64 i)).setIfInBounds 34 (knv c d), defers := [] } W
  have H0 := Lib.hid (And.intro hS hl)
  clear hrc hl hS ha
  unfold knv at *
  gi_wp2
  have HB := Lib.hid (below_one W (.cells (knc c d) 76))
  have HN := Lib.hid (Has.new W 76 (knc c d))
  have H1 : Hid (US w0 (W.alloc (.cells (knc c d) 76)) q lo hi lim A ms cl x y ∧ (W.alloc (.cells (knc c d) 76)).heap[q.l]? = some (.loop (rc .ready none))) :=
    ⟨H0.out.1.under (HB.out.mono (Nat.le_of_lt hll)), (HB.out.block _ hll).trans H0.out.2⟩
  have HK : Hid (Kept (q.l + 1) W (W.alloc (.cells (knc c d) 76)) ∧ W.heap.size ≤ (W.alloc (.cells (knc c d) 76)).heap.size) := ⟨fun b _ hb => HB.out.block b hb, HB.out.size⟩
  obtain ⟨gb, hg⟩ : ∃ gb, gb = W.heap.size := ⟨_, rfl⟩
  rw [← hg] at HN ⊢
  have hlg : q.l < gb := by omega
  generalize W.alloc (.cells (knc c d) 76) = W1 at HN H1 HK ⊢
  clear HB H0
  have hbeg := run_beginRound (P := Try.prog) H1.out.2 (by rw [HR.out])
  obtain ⟨W2, hW2⟩ : ∃ W2, W1.putObj q.l (.loop { rc .ready none with state := .busy }) = W2 := ⟨_, rfl⟩
  have H2 : Hid (UR w0 W W2 q lo hi lim A ms cl gb x y c d (rc .busy none)) := by
    refine ⟨by rw [← hW2]; exact H1.out.1.put _, ?_, ?_, ?_, ?_, hlg⟩
    · rw [← hW2]; exact (World.putObj_heap_other (by omega)).trans HN.out
    · rw [← hW2, World.putObj_heap_same (Array.getElem?_eq_some_iff.1 H1.out.2).1, HR.out]
    · rw [← hW2]; exact fun b hb hl => (World.putObj_heap_other (by omega)).trans (HK.out.1 b hb hl)
    · rw [← hW2]; simpa using HK.out.2
  rw [hW2] at hbeg
  refine ⟨W2, hbeg, ?_⟩
  clear hbeg hW2 H1 HN HK
  have HG := Lib.hid hg
  clear hg hll hlg
  rw [hb]
  clear hb
  have fin : Hid (∀ (W3 : World) (x' y' : Int), UR w0 W W3 q lo hi lim A ms cl gb x' y' c d (rc .busy none) → x' = x + bit b1 → y' = y + bit b2 → ∀ a,
      roundEnd Try.prog q.l (fun e W' => e = .returned (.bool true) ∧ (US w0 W' q lo hi lim A ms cl (x + bit b1) (y + bit b2) ∧ W'.heap[q.l]? = some (.loop (rc .ready none))) ∧ Kept (q.l + 1) W W' ∧ gb ≤ W'.heap.size) Exit.normal a W3) := by
    intro W3 x' y' h e1 e2 a
    subst e1 e2
    have hend := run_endRound (P := Try.prog) none h.hl
    refine ⟨_, _, hend, rfl, ⟨h.s.put _, ?_⟩, fun b hb hl => (World.putObj_heap_other (by omega)).trans (h.kp b hb hl), by simpa [HG.out] using h.sz⟩
    rw [World.putObj_heap_same (Array.getElem?_eq_some_iff.1 h.hl).1, HR.out]
    rfl
  have hin' : (i : Int) < ms.length := by omega
  obtain ⟨g, o, rfl, hgg, cc⟩ := H2.out.s.r i hin
  have ch : ∀ (w : World), US w0 w q lo hi lim (some ⟨g, o, none⟩) ms cl x y → True := fun _ _ => trivial
  clear ch cc hgg
  have CELL : Hid (∀ (w : World) (x y : Int), US w0 w q lo hi lim (some ⟨g, o, none⟩) ms cl x y → w.cell? ⟨g, o + i * 5 + 4, none⟩ = some (.int .i64 ho)) := by
    intro w x y h
    obtain ⟨g', o', e, -, cc⟩ := h.r i hin
    simp only [Option.some.injEq, Addr.mk.injEq, and_true] at e
    obtain ⟨rfl, rfl⟩ := e
    rw [cc 4 (by omega), HHO.out]
    rfl
  have t0 : W2.cell? ⟨gb, 0, none⟩ = some (.int .i64 c.w) := H2.out.k.cell 0
  have t1 : W2.cell? ⟨gb, 1, none⟩ = some (.int .i64 c.came) := H2.out.k.cell 1
  have t2 : W2.cell? ⟨gb, 2, none⟩ = some (.int .i64 c.out) := H2.out.k.cell 2
  have t3 : W2.cell? ⟨gb, 3, none⟩ = some (.int .i64 c.dried) := H2.out.k.cell 3
  have t4 : W2.cell? ⟨gb, 4, none⟩ = some (.int .i64 c.dew) := H2.out.k.cell 4
  have tl : W2.cell? ⟨q.Bl, 0, none⟩ = some (.int .i64 lim) := H2.out.s.fl.cell 0
  have ta : W2.cell? ⟨q.Ba, 0, none⟩ = some (.slice (some ⟨g, o, none⟩) ms.length cl) := H2.out.s.fa.cell 0
  have th := CELL.out W2 x y H2.out.s
  gi_upto_region 10 with fail
  refine still_tail_round 8 (by kernel_rfl) (by kernel_rfl) (by kernel_rfl) (by rintro ⟨_, _, h⟩; exact h) ?_
  simp only [List.take_succ_cons, List.take_zero, List.drop_succ_cons, List.drop_zero]
  repeat still_step
  refine wpStill_nil ?_
  go_wp2_with fail
  refine (HC.out _).mono ?_
  rintro e w3 ⟨rfl, hb3⟩
  have H3 := Lib.hid (UR.step H2.out (below_dl hb3))
  clear hb3 t0 t1 t2 t3 t4 tl ta th
  have x0 : w3.cell? ⟨q.Bw, 0, none⟩ = some (.int .i64 x) := H3.out.s.fx.cell 0
  have xf := H3.out.s.fx.frozen 0
  have xl := H3.out.s.fx.lt
  have STEP2 : Hid (∀ (w4 : World) (x1 : Int), UR w0 W w4 q lo hi lim (some ⟨g, o, none⟩) ms cl gb x1 y c d (rc .busy none) → (w4.cell? ⟨gb, 5, none⟩ = some (.int .i64 d.w) ∧ w4.cell? ⟨gb, 6, none⟩ = some (.int .i64 d.came) ∧ w4.cell? ⟨gb, 7, none⟩ = some (.int .i64 d.out) ∧ w4.cell? ⟨gb, 8, none⟩ = some (.int .i64 d.dried) ∧ w4.cell? ⟨gb, 9, none⟩ = some (.int .i64 d.dew)) ∧ w4.cell? ⟨q.Bl, 0, none⟩ = some (.int .i64 lim) ∧ w4.cell? ⟨q.Ba, 0, none⟩ = some (.slice (some ⟨g, o, none⟩) ms.length cl) ∧ w4.cell? ⟨g, o + i * 5 + 4, none⟩ = some (.int .i64 ho)) :=
    fun w4 x1 h => ⟨⟨h.k.cell 5, h.k.cell 6, h.k.cell 7, h.k.cell 8, h.k.cell 9⟩, h.s.fl.cell 0, h.s.fa.cell 0, CELL.out w4 x1 y h.s⟩
  cases b1
  · have HX : Hid (x = x + bit false) := by show _ = _; unfold bit; simp
    obtain ⟨⟨t5, t6, t7, t8, t9⟩, tl, ta, th⟩ := STEP2.out w3 x H3.out
    dsimp only
    go_wp2_with fail
    gi_upto_region 12 with fail
    refine still_tail_round 8 (by kernel_rfl) (by kernel_rfl) (by kernel_rfl) (by rintro ⟨_, _, h⟩; exact h) ?_
    simp only [List.take_succ_cons, List.take_zero, List.drop_succ_cons, List.drop_zero]
    repeat still_step
    refine wpStill_nil ?_
    go_wp2_with fail
    refine (HD.out _).mono ?_
    rintro e w5 ⟨rfl, hb5⟩
    have H5 := Lib.hid (UR.step H3.out (below_dl hb5))
    clear hb5 t5 t6 t7 t8 t9 tl ta th
    have y0 : w5.cell? ⟨q.Bw, 1, none⟩ = some (.int .i64 y) := H5.out.s.fx.cell 1
    have yf := H5.out.s.fx.frozen 1
    have yl := H5.out.s.fx.lt
    cases b2
    · dsimp only
      go_wp2_with fail
      gi_wp2
      exact fin.out _ (x) y H5.out HX.out (by unfold bit; simp) _
    · dsimp only
      go_wp2_with fail
      gi_wp2
      exact fin.out _ (x) (y + 1) (UR.setY H5.out (y + 1)) HX.out rfl _
  · have HX : Hid (x + 1 = x + bit true) := rfl
    dsimp only
    go_wp2_with fail
    gi_upto_region 12 with fail
    have H4 := Lib.hid (UR.setX H3.out (x + 1))
    clear x0 xf xl
    generalize w3.setCell ⟨q.Bw, 0, none⟩ (.int .i64 (x + 1)) = w4 at H4 ⊢
    obtain ⟨⟨t5, t6, t7, t8, t9⟩, tl, ta, th⟩ := STEP2.out w4 (x + 1) H4.out
    refine still_tail_round 8 (by kernel_rfl) (by kernel_rfl) (by kernel_rfl) (by rintro ⟨_, _, h⟩; exact h) ?_
    simp only [List.take_succ_cons, List.take_zero, List.drop_succ_cons, List.drop_zero]
    repeat still_step
    refine wpStill_nil ?_
    go_wp2_with fail
    refine (HD.out _).mono ?_
    rintro e w5 ⟨rfl, hb5⟩
    have H5 := Lib.hid (UR.step H4.out (below_dl hb5))
    clear hb5 t5 t6 t7 t8 t9 tl ta th
    have y0 : w5.cell? ⟨q.Bw, 1, none⟩ = some (.int .i64 y) := H5.out.s.fx.cell 1
    have yf := H5.out.s.fx.frozen 1
    have yl := H5.out.s.fx.lt
    cases b2
    · dsimp only
      go_wp2_with fail
      gi_wp2
      exact fin.out _ (x + 1) y H5.out HX.out (by unfold bit; simp) _
    · dsimp only
      go_wp2_with fail
      gi_wp2
      exact fin.out _ (x + 1) (y + 1) (UR.setY H5.out (y + 1)) HX.out rfl _
end Go.Proofs.Ytdmpkeaanaoeaaa

/- The document's Steps and Valid. -/
import Derived.Test.YtdmpkeaanaoeaaaRfD
namespace Go.Proofs.Ytdmpkeaanaoeaaa
open Go.RowKit
def stepsB (a : Air) (L : List Stp) : Bool := decide (L.length ≤ 200) && L.all (stepB a)
theorem stepsB_false {a : Air} {L : List Stp} {k : Nat} (hk : k < L.length) (h : stepB a L[k] = false) : stepsB a L = false := by
  unfold stepsB
  have : L.all (stepB a) = false := by
    rw [List.all_eq_false]
    exact ⟨L[k], List.getElem_mem hk, by simp [h]⟩
  rw [this, Bool.and_false]
theorem stepsB_end {a : Air} {L : List Stp} {k : Nat} (hk : k ≤ L.length) (h : ∀ j (_ : j < L.length), j < k → stepB a L[j] = true) (he : k = L.length ∨ 201 ≤ k) : stepsB a L = decide (L.length ≤ 200) := by
  unfold stepsB
  rcases he with rfl | he
  · have : L.all (stepB a) = true := by
      rw [List.all_eq_true]
      intro x hx
      obtain ⟨i, hi, rfl⟩ := List.getElem_of_mem hx
      exact h i hi hi
    rw [this, Bool.and_true]
  · rw [decide_eq_false (by omega)]; rfl
structure SB (W w : World) (a : Air) (A B : Option Addr) (ca cb : Nat) : Prop where
  b : Below W.heap.size W w
  fa : Has w W.heap.size 26 (airc a A B ca cb)
theorem SB.step {W w w' : World} {a : Air} {A B : Option Addr} {ca cb : Nat} (h : SB W w a A B ca cb) (hb : Below w.heap.size w w') : SB W w' a A B ca cb :=
  ⟨h.b.trans (hb.mono h.b.size), h.fa.below hb h.fa.lt⟩
/-- in a round: the step's copy lies in block D -/
structure SB2 (W w : World) (D : Nat) (a : Air) (A B : Option Addr) (ca cb : Nat) (s : Stp) : Prop where
  b : SB W w a A B ca cb
  fs : Has w D 50 (stpc s)
theorem SB2.step {W w w' : World} {D : Nat} {a : Air} {A B : Option Addr} {ca cb : Nat} {s : Stp} (h : SB2 W w D a A B ca cb s) (hb : Below w.heap.size w w') : SB2 W w' D a A B ca cb s :=
  ⟨h.b.step hb, h.fs.below hb h.fs.lt⟩
theorem SB.drewN {W w : World} {a : Air} {A B : Option Addr} {ca cb : Nat} (h : SB W w a A B ca cb) (n : Nat) : SB W (w.drewN n) a A B ca cb := ⟨below_drN h.b n, h.fa.drewN n⟩
set_option maxRecDepth 100000 in
set_option maxHeartbeats 4000000 in
theorem Steps_any (a : Air) (A B : Option Addr) (ca cb : Nat) (L : List Stp) (AL : Option Addr) (cl : Nat) (W : World) (har : AR W W.heap.size a A B) (hr : SRow W W.heap.size AL L) (hL : L.length ≤ 9223372036854775807) (hn1 : 1 ≤ a.T.length) :
    Calls Try.prog 52 #[airv a A B ca cb, .slice AL L.length cl] W (BoolPost (stepsB a L) W) := by
  have HB := Lib.hid (show SB W (W.alloc (.cells (airc a A B ca cb) 26)) a A B ca cb from ⟨below_one W _, box_air W a A B ca cb⟩)
  have HA := Lib.hid (And.intro har hr)
  have H1 := Lib.hid (fun s w (h : AR w w.heap.size a A B) => rTemp_any a A B ca cb s w h hn1)
  have H2 := Lib.hid (fun s w => rin_any s 0 16384 w)
  have H3 := Lib.hid (fun s w => rin_any s 0 1000 w)
  have H4 := Lib.hid (fun s t w => rspan_any s t 100000 w)
  have H5 := Lib.hid (fun s t w => rspan_any s t 68719476736 w)
  have H6 := Lib.hid (fun s w => rin_any s 0 68719476736 w)
  have hn : ∀ c, stepsB a L = c → Hid (stepsB a L = c) := fun b h => h
  unfold airv at *
  clear har hr
  go_enter Try.func52, Try.ntmps52
  go_wp2_with fail
  go_loopg [5] L.length (fun gk i wr => ∃ k : Nat, k ≤ L.length ∧ L.length - k ≤ gk ∧ i = .int .i64 k ∧ Hid (SB W wr a A B ca cb) ∧ Hid (∀ j (_ : j < L.length), j < k → stepB a L[j] = true))
  case atStart => exact ⟨0, Nat.zero_le _, Nat.le_refl _, rfl, HB, Lib.hid (fun j _ hj => absurd hj (by omega))⟩
  case round =>
    obtain ⟨k, hk, hgk, rfl, HW, HC⟩ := hrel
    by_cases hlt : k < L.length
    rotate_left
    · have hge : ¬ (k : Int) < L.length := by omega
      have HE := hn _ (stepsB_end hk (fun j h1 h2 => HC.out j h1 h2) (.inl (by omega)))
      clear hn
      go_wp2_with fail
      go_ret
      exact ⟨ret_bool (by rw [HE.out]; exact decide_eq_decide.2 (by omega)), HW.out.b⟩
    have hlt2 : (k : Int) < L.length := by omega
    by_cases hk2 : k ≤ 200
    rotate_left
    · have hge : ¬ (k : Int) ≤ 200 := by omega
      have HE := hn _ (stepsB_end hk (fun j h1 h2 => HC.out j h1 h2) (.inr (by omega)))
      clear hn
      go_wp2_with fail
      go_ret
      exact ⟨ret_bool (by rw [HE.out]; exact decide_eq_decide.2 (by omega)), HW.out.b⟩
    have hk3 : (k : Int) ≤ 200 := by omega
    obtain ⟨g, o, hg, hgs, hc⟩ := (HA.out.2.below HW.out.b) k hlt
    have HF := Lib.hid (fun h => hn false (stepsB_false hlt h))
    have HT := Lib.hid (fun (h : stepB a L[k] = true) j (hj : j < L.length) (h2 : j < k + 1) => if e : j = k then (by subst e; exact h) else HC.out j hj (by omega))
    obtain ⟨s, hs⟩ : ∃ s, s = L[k] := ⟨_, rfl⟩
    rw [← hs] at hc HF HT
    clear hs hn
    have hgw : g < wr.heap.size := by have := HW.out.b.size; omega
    have c0 : wr.cell? ⟨g, o + k * 8, none⟩ = some (.int .i64 s.cold) := hc 0 (by omega)
    have c1 : wr.cell? ⟨g, o + k * 8 + 1, none⟩ = some (.int .i64 s.ppl) := hc 1 (by omega)
    have c2 : wr.cell? ⟨g, o + k * 8 + 2, none⟩ = some (.int .i64 s.chg) := hc 2 (by omega)
    have c3 : wr.cell? ⟨g, o + k * 8 + 3, none⟩ = some (.int .i64 s.o0) := hc 3 (by omega)
    have c4 : wr.cell? ⟨g, o + k * 8 + 4, none⟩ = some (.int .i64 s.o1) := hc 4 (by omega)
    have c5 : wr.cell? ⟨g, o + k * 8 + 5, none⟩ = some (.int .i64 s.s0) := hc 5 (by omega)
    have c6 : wr.cell? ⟨g, o + k * 8 + 6, none⟩ = some (.int .i64 s.s1) := hc 6 (by omega)
    have c7 : wr.cell? ⟨g, o + k * 8 + 7, none⟩ = some (.int .i64 s.dry) := hc 7 (by omega)
    subst hg
    clear hc hgs
    go_upto_region 5 with fail
    have HD := Lib.hid (show SB2 W (wr.alloc (.cells (stpc s) 50)) wr.heap.size a A B ca cb s from ⟨HW.out.step (below_one wr _), has_newAt rfl⟩)
    have hAR := HA.out.1.step HD.out.b.b
    clear c0 c1 c2 c3 c4 c5 c6 c7 hgw
    generalize wr.heap.size = D at HD ⊢
    generalize wr.alloc (.cells (stpc s) 50) = w0 at HD hAR ⊢
    replace H1 := Lib.hid (H1.out s.cold w0 hAR)
    replace H2 := Lib.hid (H2.out s.ppl)
    replace H3 := Lib.hid (H3.out s.chg)
    replace H4 := Lib.hid (H4.out s.o0 s.o1)
    replace H5 := Lib.hid (H5.out s.s0 s.s1)
    replace H6 := Lib.hid (H6.out s.dry)
    clear hAR
    have a0 : w0.cell? ⟨W.heap.size, 0, none⟩ = some (.int .i64 a.R) := HD.out.b.fa.cell 0
    have a1 : w0.cell? ⟨W.heap.size, 1, none⟩ = some (.slice A a.T.length ca) := HD.out.b.fa.cell 1
    have a2 : w0.cell? ⟨W.heap.size, 2, none⟩ = some (.slice B a.H.length cb) := HD.out.b.fa.cell 2
    have a3 : w0.cell? ⟨W.heap.size, 3, none⟩ = some (.int .i64 a.b0) := HD.out.b.fa.cell 3
    have a4 : w0.cell? ⟨W.heap.size, 4, none⟩ = some (.int .i64 a.b1) := HD.out.b.fa.cell 4
    have k0 : w0.cell? ⟨D, 0, none⟩ = some (.int .i64 s.cold) := HD.out.fs.cell 0
    cases h1 : onB a s.cold <;> rw [h1] at H1
    · have HE := Lib.hid (HF.out (by unfold stepB; rw [h1]; rfl))
      clear HF HT h1
      go_wp2_with fail
      refine H1.out.mono ?_
      rintro e w1 ⟨rfl, hb1⟩
      have X1 := Lib.hid (HD.out.step hb1)
      clear a0 a1 a2 a3 a4 k0
      clear hb1
      go_wp2_with fail
      go_ret
      exact ⟨ret_bool HE.out.out.symm, X1.out.b.b⟩
    cases h2 : inB s.ppl 0 16384 <;> rw [h2] at H2
    · have HE := Lib.hid (HF.out (by unfold stepB; rw [h1, h2]; rfl))
      clear HF HT h1 h2
      go_wp2_with fail
      refine H1.out.mono ?_
      rintro e w1 ⟨rfl, hb1⟩
      have X1 := Lib.hid (HD.out.step hb1)
      clear a0 a1 a2 a3 a4 k0
      have k1_1 : w1.cell? ⟨D, 1, none⟩ = some (.int .i64 s.ppl) := X1.out.fs.cell 1
      clear hb1
      go_wp2_with fail
      refine (H2.out _).mono ?_
      rintro e w91 ⟨rfl, rfl⟩
      go_wp2_with fail
      go_ret
      exact ⟨ret_bool HE.out.out.symm, X1.out.b.b⟩
    cases h3 : inB s.chg 0 1000 <;> rw [h3] at H3
    · have HE := Lib.hid (HF.out (by unfold stepB; rw [h1, h2, h3]; rfl))
      clear HF HT h1 h2 h3
      go_wp2_with fail
      refine H1.out.mono ?_
      rintro e w1 ⟨rfl, hb1⟩
      have X1 := Lib.hid (HD.out.step hb1)
      clear a0 a1 a2 a3 a4 k0
      have k1_1 : w1.cell? ⟨D, 1, none⟩ = some (.int .i64 s.ppl) := X1.out.fs.cell 1
      have k1_2 : w1.cell? ⟨D, 2, none⟩ = some (.int .i64 s.chg) := X1.out.fs.cell 2
      clear hb1
      go_wp2_with fail
      refine (H2.out _).mono ?_
      rintro e w91 ⟨rfl, rfl⟩
      go_wp2_with fail
      refine (H3.out _).mono ?_
      rintro e w92 ⟨rfl, rfl⟩
      go_wp2_with fail
      go_ret
      exact ⟨ret_bool HE.out.out.symm, X1.out.b.b⟩
    cases h4 : spB s.o0 s.o1 100000 <;> rw [h4] at H4
    · have HE := Lib.hid (HF.out (by unfold stepB; rw [h1, h2, h3, h4]; rfl))
      clear HF HT h1 h2 h3 h4
      go_wp2_with fail
      refine H1.out.mono ?_
      rintro e w1 ⟨rfl, hb1⟩
      have X1 := Lib.hid (HD.out.step hb1)
      clear a0 a1 a2 a3 a4 k0
      have k1_1 : w1.cell? ⟨D, 1, none⟩ = some (.int .i64 s.ppl) := X1.out.fs.cell 1
      have k1_2 : w1.cell? ⟨D, 2, none⟩ = some (.int .i64 s.chg) := X1.out.fs.cell 2
      have k1_3 : w1.cell? ⟨D, 3, none⟩ = some (.int .i64 s.o0) := X1.out.fs.cell 3
      have k1_4 : w1.cell? ⟨D, 4, none⟩ = some (.int .i64 s.o1) := X1.out.fs.cell 4
      clear hb1
      go_wp2_with fail
      refine (H2.out _).mono ?_
      rintro e w91 ⟨rfl, rfl⟩
      go_wp2_with fail
      refine (H3.out _).mono ?_
      rintro e w92 ⟨rfl, rfl⟩
      go_wp2_with fail
      refine (H4.out _).mono ?_
      rintro e w2 ⟨rfl, hb2⟩
      have X2 := Lib.hid (X1.out.step hb2)
      clear hb2
      go_wp2_with fail
      go_ret
      exact ⟨ret_bool HE.out.out.symm, X2.out.b.b⟩
    cases h5 : spB s.s0 s.s1 68719476736 <;> rw [h5] at H5
    · have HE := Lib.hid (HF.out (by unfold stepB; rw [h1, h2, h3, h4, h5]; rfl))
      clear HF HT h1 h2 h3 h4 h5
      go_wp2_with fail
      refine H1.out.mono ?_
      rintro e w1 ⟨rfl, hb1⟩
      have X1 := Lib.hid (HD.out.step hb1)
      clear a0 a1 a2 a3 a4 k0
      have k1_1 : w1.cell? ⟨D, 1, none⟩ = some (.int .i64 s.ppl) := X1.out.fs.cell 1
      have k1_2 : w1.cell? ⟨D, 2, none⟩ = some (.int .i64 s.chg) := X1.out.fs.cell 2
      have k1_3 : w1.cell? ⟨D, 3, none⟩ = some (.int .i64 s.o0) := X1.out.fs.cell 3
      have k1_4 : w1.cell? ⟨D, 4, none⟩ = some (.int .i64 s.o1) := X1.out.fs.cell 4
      have k1_5 : w1.cell? ⟨D, 5, none⟩ = some (.int .i64 s.s0) := X1.out.fs.cell 5
      have k1_6 : w1.cell? ⟨D, 6, none⟩ = some (.int .i64 s.s1) := X1.out.fs.cell 6
      clear hb1
      go_wp2_with fail
      refine (H2.out _).mono ?_
      rintro e w91 ⟨rfl, rfl⟩
      go_wp2_with fail
      refine (H3.out _).mono ?_
      rintro e w92 ⟨rfl, rfl⟩
      go_wp2_with fail
      refine (H4.out _).mono ?_
      rintro e w2 ⟨rfl, hb2⟩
      have X2 := Lib.hid (X1.out.step hb2)
      have k2_5 : w2.cell? ⟨D, 5, none⟩ = some (.int .i64 s.s0) := X2.out.fs.cell 5
      have k2_6 : w2.cell? ⟨D, 6, none⟩ = some (.int .i64 s.s1) := X2.out.fs.cell 6
      clear hb2
      go_wp2_with fail
      refine (H5.out _).mono ?_
      rintro e w3 ⟨rfl, hb3⟩
      have X3 := Lib.hid (X2.out.step hb3)
      clear hb3
      go_wp2_with fail
      go_ret
      exact ⟨ret_bool HE.out.out.symm, X3.out.b.b⟩
    cases h6 : inB s.dry 0 68719476736 <;> rw [h6] at H6
    · have HE := Lib.hid (HF.out (by unfold stepB; rw [h1, h2, h3, h4, h5, h6]; rfl))
      clear HF HT h1 h2 h3 h4 h5 h6
      go_wp2_with fail
      refine H1.out.mono ?_
      rintro e w1 ⟨rfl, hb1⟩
      have X1 := Lib.hid (HD.out.step hb1)
      clear a0 a1 a2 a3 a4 k0
      have k1_1 : w1.cell? ⟨D, 1, none⟩ = some (.int .i64 s.ppl) := X1.out.fs.cell 1
      have k1_2 : w1.cell? ⟨D, 2, none⟩ = some (.int .i64 s.chg) := X1.out.fs.cell 2
      have k1_3 : w1.cell? ⟨D, 3, none⟩ = some (.int .i64 s.o0) := X1.out.fs.cell 3
      have k1_4 : w1.cell? ⟨D, 4, none⟩ = some (.int .i64 s.o1) := X1.out.fs.cell 4
      have k1_5 : w1.cell? ⟨D, 5, none⟩ = some (.int .i64 s.s0) := X1.out.fs.cell 5
      have k1_6 : w1.cell? ⟨D, 6, none⟩ = some (.int .i64 s.s1) := X1.out.fs.cell 6
      have k1_7 : w1.cell? ⟨D, 7, none⟩ = some (.int .i64 s.dry) := X1.out.fs.cell 7
      clear hb1
      go_wp2_with fail
      refine (H2.out _).mono ?_
      rintro e w91 ⟨rfl, rfl⟩
      go_wp2_with fail
      refine (H3.out _).mono ?_
      rintro e w92 ⟨rfl, rfl⟩
      go_wp2_with fail
      refine (H4.out _).mono ?_
      rintro e w2 ⟨rfl, hb2⟩
      have X2 := Lib.hid (X1.out.step hb2)
      have k2_5 : w2.cell? ⟨D, 5, none⟩ = some (.int .i64 s.s0) := X2.out.fs.cell 5
      have k2_6 : w2.cell? ⟨D, 6, none⟩ = some (.int .i64 s.s1) := X2.out.fs.cell 6
      have k2_7 : w2.cell? ⟨D, 7, none⟩ = some (.int .i64 s.dry) := X2.out.fs.cell 7
      clear hb2
      go_wp2_with fail
      refine (H5.out _).mono ?_
      rintro e w3 ⟨rfl, hb3⟩
      have X3 := Lib.hid (X2.out.step hb3)
      have k3_7 : w3.cell? ⟨D, 7, none⟩ = some (.int .i64 s.dry) := X3.out.fs.cell 7
      clear hb3
      go_wp2_with fail
      refine (H6.out _).mono ?_
      rintro e w95 ⟨rfl, rfl⟩
      go_wp2_with fail
      go_ret
      exact ⟨ret_bool HE.out.out.symm, X3.out.b.b⟩
    have HE := Lib.hid (HT.out (by unfold stepB; rw [h1, h2, h3, h4, h5, h6]; rfl))
    clear HF HT h1 h2 h3 h4 h5 h6
    go_wp2_with fail
    refine H1.out.mono ?_
    rintro e w1 ⟨rfl, hb1⟩
    have X1 := Lib.hid (HD.out.step hb1)
    clear a0 a1 a2 a3 a4 k0
    have k1_1 : w1.cell? ⟨D, 1, none⟩ = some (.int .i64 s.ppl) := X1.out.fs.cell 1
    have k1_2 : w1.cell? ⟨D, 2, none⟩ = some (.int .i64 s.chg) := X1.out.fs.cell 2
    have k1_3 : w1.cell? ⟨D, 3, none⟩ = some (.int .i64 s.o0) := X1.out.fs.cell 3
    have k1_4 : w1.cell? ⟨D, 4, none⟩ = some (.int .i64 s.o1) := X1.out.fs.cell 4
    have k1_5 : w1.cell? ⟨D, 5, none⟩ = some (.int .i64 s.s0) := X1.out.fs.cell 5
    have k1_6 : w1.cell? ⟨D, 6, none⟩ = some (.int .i64 s.s1) := X1.out.fs.cell 6
    have k1_7 : w1.cell? ⟨D, 7, none⟩ = some (.int .i64 s.dry) := X1.out.fs.cell 7
    clear hb1
    go_wp2_with fail
    refine (H2.out _).mono ?_
    rintro e w91 ⟨rfl, rfl⟩
    go_wp2_with fail
    refine (H3.out _).mono ?_
    rintro e w92 ⟨rfl, rfl⟩
    go_wp2_with fail
    refine (H4.out _).mono ?_
    rintro e w2 ⟨rfl, hb2⟩
    have X2 := Lib.hid (X1.out.step hb2)
    have k2_5 : w2.cell? ⟨D, 5, none⟩ = some (.int .i64 s.s0) := X2.out.fs.cell 5
    have k2_6 : w2.cell? ⟨D, 6, none⟩ = some (.int .i64 s.s1) := X2.out.fs.cell 6
    have k2_7 : w2.cell? ⟨D, 7, none⟩ = some (.int .i64 s.dry) := X2.out.fs.cell 7
    clear hb2
    go_wp2_with fail
    refine (H5.out _).mono ?_
    rintro e w3 ⟨rfl, hb3⟩
    have X3 := Lib.hid (X2.out.step hb3)
    have k3_7 : w3.cell? ⟨D, 7, none⟩ = some (.int .i64 s.dry) := X3.out.fs.cell 7
    clear hb3
    go_wp2_with fail
    refine (H6.out _).mono ?_
    rintro e w95 ⟨rfl, rfl⟩
    go_wp2_with fail
    go_roundg (L.length - (k + 1))
    case measure => omega
    case rel => exact ⟨k + 1, by omega, Nat.le_refl _, by go_num, X3.out.b, HE.out⟩
structure VB (W w : World) (a : Air) (A B : Option Addr) (ca cb : Nat) (lo hi : Int) : Prop where
  b : SB W w a A B ca cb
  fw : Has w (W.heap.size + 1) 24 #[.int .i64 lo, .int .i64 hi]
theorem VB.step {W w w' : World} {a : Air} {A B : Option Addr} {ca cb : Nat} {lo hi : Int} (h : VB W w a A B ca cb lo hi) (hb : Below w.heap.size w w') : VB W w' a A B ca cb lo hi :=
  ⟨h.b.step hb, h.fw.below hb h.fw.lt⟩
theorem box_vb (W : World) (a : Air) (A B : Option Addr) (ca cb : Nat) (lo hi : Int) : VB W ((W.alloc (.cells (airc a A B ca cb) 26)).alloc (.cells #[.int .i64 lo, .int .i64 hi] 24)) a A B ca cb lo hi :=
  ⟨⟨(below_one W _).alloc (by simp) _, (box_air W a A B ca cb).alloc _⟩, has_newAt (by simp)⟩
theorem insB_eq (a : Air) (lo hi : Int) (L : List Stp) : insB a lo hi L = (airB a && (spB lo hi 274877906944 && stepsB a L)) := rfl
set_option maxRecDepth 100000 in
set_option maxHeartbeats 1000000 in
theorem Valid_any (a : Air) (A B : Option Addr) (ca cb : Nat) (lo hi : Int) (L : List Stp) (AL : Option Addr) (cl : Nat) (W : World) (har : AR W W.heap.size a A B) (hr : SRow W W.heap.size AL L) (hL : L.length ≤ 9223372036854775807) :
    Calls Try.prog 21 #[airv a A B ca cb, .agg #[.int .i64 lo, .int .i64 hi], .slice AL L.length cl] W (BoolPost (insB a lo hi L) W) := by
  have HB := Lib.hid (box_vb W a A B ca cb lo hi)
  have HA := Lib.hid (And.intro har hr)
  have H1 := Lib.hid (fun w h => rAir_any a A B ca cb w h)
  have H2 := Lib.hid (fun w => rspan_any lo hi 274877906944 w)
  have H3 := Lib.hid (fun w h hr hn => Steps_any a A B ca cb L AL cl w h hr hL hn)
  have hn : ∀ c, insB a lo hi L = c → Hid (insB a lo hi L = c) := fun b h => h
  unfold airv at *
  clear har hr
  go_enter Try.func21, Try.ntmps21
  go_upto_region 1 with fail
  generalize ((W.alloc (.cells (airc a A B ca cb) 26)).alloc (.cells #[.int .i64 lo, .int .i64 hi] 24)) = w0 at HB ⊢
  have hcall := H1.out w0 (HA.out.1.step HB.out.b.b)
  have a0 : w0.cell? ⟨W.heap.size, 0, none⟩ = some (.int .i64 a.R) := HB.out.b.fa.cell 0
  have a1 : w0.cell? ⟨W.heap.size, 1, none⟩ = some (.slice A a.T.length ca) := HB.out.b.fa.cell 1
  have a2 : w0.cell? ⟨W.heap.size, 2, none⟩ = some (.slice B a.H.length cb) := HB.out.b.fa.cell 2
  have a3 : w0.cell? ⟨W.heap.size, 3, none⟩ = some (.int .i64 a.b0) := HB.out.b.fa.cell 3
  have a4 : w0.cell? ⟨W.heap.size, 4, none⟩ = some (.int .i64 a.b1) := HB.out.b.fa.cell 4
  cases h1 : airB a <;> rw [h1] at hcall
  · have HE := hn false (by rw [insB_eq, h1]; rfl)
    clear hn h1
    go_wp2_with fail
    refine hcall.mono ?_
    rintro e w1 ⟨rfl, hb1⟩
    have X1 := Lib.hid (HB.out.step hb1)
    clear a0 a1 a2 a3 a4 hb1
    go_wp2_with fail
    go_ret
    exact ⟨ret_bool HE.out.symm, X1.out.b.b⟩
  have hn1 := ((airB_iff a).1 h1).n.1
  cases h2 : spB lo hi 274877906944 <;> rw [h2] at H2
  · have HE := hn false (by rw [insB_eq, h1, h2]; rfl)
    clear hn h1 h2
    go_wp2_with fail
    refine hcall.mono ?_
    rintro e w1 ⟨rfl, hb1⟩
    have X1 := Lib.hid (HB.out.step hb1)
    have c0 : w1.cell? ⟨W.heap.size + 1, 0, none⟩ = some (.int .i64 lo) := X1.out.fw.cell 0
    have c1 : w1.cell? ⟨W.heap.size + 1, 1, none⟩ = some (.int .i64 hi) := X1.out.fw.cell 1
    clear a0 a1 a2 a3 a4 hb1 hcall
    go_wp2_with fail
    refine (H2.out _).mono ?_
    rintro e w2 ⟨rfl, hb2⟩
    have X2 := Lib.hid (X1.out.step hb2)
    clear c0 c1 hb2
    go_wp2_with fail
    go_ret
    exact ⟨ret_bool HE.out.symm, X2.out.b.b⟩
  have HE := hn (stepsB a L) (by rw [insB_eq, h1, h2]; rfl)
  clear hn h1 h2
  go_wp2_with fail
  refine hcall.mono ?_
  rintro e w1 ⟨rfl, hb1⟩
  have X1 := Lib.hid (HB.out.step hb1)
  have c0 : w1.cell? ⟨W.heap.size + 1, 0, none⟩ = some (.int .i64 lo) := X1.out.fw.cell 0
  have c1 : w1.cell? ⟨W.heap.size + 1, 1, none⟩ = some (.int .i64 hi) := X1.out.fw.cell 1
  clear a0 a1 a2 a3 a4 hb1 hcall
  go_wp2_with fail
  refine (H2.out _).mono ?_
  rintro e w2 ⟨rfl, hb2⟩
  have X2 := Lib.hid (X1.out.step hb2)
  clear c0 c1 hb2
  have a0 : w2.cell? ⟨W.heap.size, 0, none⟩ = some (.int .i64 a.R) := X2.out.b.fa.cell 0
  have a1 : w2.cell? ⟨W.heap.size, 1, none⟩ = some (.slice A a.T.length ca) := X2.out.b.fa.cell 1
  have a2 : w2.cell? ⟨W.heap.size, 2, none⟩ = some (.slice B a.H.length cb) := X2.out.b.fa.cell 2
  have a3 : w2.cell? ⟨W.heap.size, 3, none⟩ = some (.int .i64 a.b0) := X2.out.b.fa.cell 3
  have a4 : w2.cell? ⟨W.heap.size, 4, none⟩ = some (.int .i64 a.b1) := X2.out.b.fa.cell 4
  have hcall := H3.out w2 (HA.out.1.step X2.out.b.b) ((HA.out.2.below X2.out.b.b).more X2.out.b.b.size) hn1
  go_wp2_with fail
  refine hcall.mono ?_
  rintro e w3 ⟨rfl, hb3⟩
  have X3 := Lib.hid (X2.out.step hb3)
  clear a0 a1 a2 a3 a4 hb3 hcall
  go_wp2_with fail
  go_ret
  exact ⟨ret_bool HE.out.symm, X3.out.b.b⟩
end Go.Proofs.Ytdmpkeaanaoeaaa

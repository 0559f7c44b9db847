/- The iterator over the moments. -/
import Derived.Test.YtdmpkeaanaoeaaaAirH
import Derived.Test.YtdmpkeaanaoeaaaLateIn
import Derived.Test.YtdmpkeaanaoeaaaRange
import Derived.Test.YtdmpkeaanaoeaaaStl
import Derived.RangeFuncNested
import Derived.RangeFuncBound
import Derived.RangeFuncLeaves
import Derived.Shelf.RegionOpen
import Derived.OwnWalkIn
import Derived.TacticsInMore
import Derived.LoopNIn
import Derived.LoopIn
import Derived.WalkSmall
namespace Go.Proofs.Ytdmpkeaanaoeaaa
open Go.RowKit Go.Shelf
attribute [local go_sem] Oper.semAt_some
theorem below_dl {B : Nat} {w w' : World} (h : Below B w.drew w') : Below B w w' := ⟨h.os, h.tape, h.output, h.size, h.block⟩
theorem below_dr' {B : Nat} {w w' : World} (h : Below B w w') : Below B w w'.drew := ⟨h.os, h.tape, h.output, h.size, h.block⟩
/-- a row of steps that lies below B -/
def SRow (w : World) (B : Nat) (A : Option Addr) (l : List Stp) : Prop :=
  ∀ k (h : k < l.length), ∃ g o, A = some ⟨g, o, none⟩ ∧ g < B ∧ ∀ j, j < 8 → w.cell? ⟨g, o + k * 8 + j, none⟩ = (stpc l[k])[j]?
theorem SRow.below {w w' : World} {B : Nat} {A : Option Addr} {l : List Stp} (h : SRow w B A l) (hb : Below B w w') : SRow w' B A l := fun k hk => by
  obtain ⟨g, o, e, hg, c⟩ := h k hk
  exact ⟨g, o, e, hg, fun j hj => (hb.cell (p := ⟨g, _, none⟩) hg).trans (c j hj)⟩
theorem SRow.more {w : World} {B B' : Nat} {A : Option Addr} {l : List Stp} (h : SRow w B A l) (hB : B ≤ B') : SRow w B' A l := fun k hk => by
  obtain ⟨g, o, e, hg, c⟩ := h k hk
  exact ⟨g, o, e, by omega, c⟩
theorem SRow.step {w w' : World} {A : Option Addr} {l : List Stp} (h : SRow w w.heap.size A l) (hb : Below w.heap.size w w') : SRow w' w'.heap.size A l := (h.below hb).more hb.size
/-- what the iterator reads -/
structure MIt (W : World) (Bl Ba : Nat) (a : Air) (A B : Option Addr) (ca cb : Nat) (L : List Stp) (AL : Option Addr) (cl : Nat) : Prop where
  fl : Has W Bl 27 #[.slice AL L.length cl]
  fa : Has W Ba 26 (airc a A B ca cb)
  fr : SRow W W.heap.size AL L
  ar : AR W W.heap.size a A B
structure MIn (J : Nat → World → Prop) (w : World) (Bl Ba : Nat) (a : Air) (A B : Option Addr) (ca cb : Nat) (L : List Stp) (AL : Option Addr) (cl k gb : Nat) (s : Stp) : Prop where
  j : J k w
  it : MIt w Bl Ba a A B ca cb L AL cl
  s : Has w gb 50 (stpc s)
theorem MIn.cells {J : Nat → World → Prop} {w : World} {Bl Ba : Nat} {a : Air} {A B : Option Addr} {ca cb : Nat} {L : List Stp} {AL : Option Addr} {cl k gb : Nat} {s : Stp} (h : MIn J w Bl Ba a A B ca cb L AL cl k gb s) :
    w.cell? ⟨Ba, 0, none⟩ = some (.int .i64 a.R) ∧ w.cell? ⟨Ba, 1, none⟩ = some (.slice A a.T.length ca) ∧ w.cell? ⟨Ba, 2, none⟩ = some (.slice B a.H.length cb) ∧ w.cell? ⟨Ba, 3, none⟩ = some (.int .i64 a.b0) ∧ w.cell? ⟨Ba, 4, none⟩ = some (.int .i64 a.b1) ∧ w.cell? ⟨gb, 0, none⟩ = some (.int .i64 s.cold) ∧ w.cell? ⟨gb, 1, none⟩ = some (.int .i64 s.ppl) ∧ w.cell? ⟨gb, 2, none⟩ = some (.int .i64 s.chg) ∧ w.cell? ⟨gb, 3, none⟩ = some (.int .i64 s.o0) ∧ w.cell? ⟨gb, 4, none⟩ = some (.int .i64 s.o1) ∧ w.cell? ⟨gb, 5, none⟩ = some (.int .i64 s.s0) ∧ w.cell? ⟨gb, 6, none⟩ = some (.int .i64 s.s1) ∧ w.cell? ⟨gb, 7, none⟩ = some (.int .i64 s.dry) :=
  ⟨h.it.fa.cell 0, h.it.fa.cell 1, h.it.fa.cell 2, h.it.fa.cell 3, h.it.fa.cell 4, h.s.cell 0, h.s.cell 1, h.s.cell 2, h.s.cell 3, h.s.cell 4, h.s.cell 5, h.s.cell 6, h.s.cell 7⟩
abbrev moc (m : Mo) : Array Value := #[.int .i64 m.ch, .int .i64 m.c0, .int .i64 m.c1, .int .i64 m.dr, .int .i64 m.ho]
def mov (m : Mo) : Value := .agg (moc m)
def argE : Value := .iface 30 (.int .i64 1)
def MomPost (a : Air) (L : List Stp) (J : Nat → World → Prop) (e : Ending) (W' : World) : Prop :=
  (∃ v, e = .returned v ∧ (∀ s ∈ L, stepB a s = true) ∧ J L.length W') ∨
  (∃ i, ∃ h : i < L.length, stepB a L[i] = false ∧ e = .panicked [{ v := argE, recovered := false }] ∧ J i W')
set_option maxRecDepth 100000 in
set_option maxHeartbeats 4000000 in
theorem mom_any (l Bl Ba : Nat) (a : Air) (A B : Option Addr) (ca cb : Nat) (L : List Stp) (AL : Option Addr) (cl : Nat) (hL : L.length ≤ 200) (hv : VA a) (J : Nat → World → Prop)
    (hJ : ∀ b W, J b W → MIt W Bl Ba a A B ca cb L AL cl) (hJB : ∀ b W W', J b W → Below W.heap.size W W' → J b W')
    (hY : ∀ i W (h : i < L.length), stepB a L[i] = true → J i W →
      YieldAt Fence.wide 2 Try.prog l #[mov (moOf a L[i])] W fun e W' => e = .returned (.bool true) ∧ J (i + 1) W')
    (W : World) (h0 : J 0 W) :
    CallsIn Fence.wide 3 Try.prog 64 #[.func (.yield l) #[] #[], .pointer (some ⟨Bl, 0, none⟩), .pointer (some ⟨Ba, 0, none⟩)] W (MomPost a L J) := by
  have STEP := Lib.hid (show ∀ (k gb : Nat) (s : Stp) (w w' : World), MIn J w Bl Ba a A B ca cb L AL cl k gb s → Below w.heap.size w w' → MIn J w' Bl Ba a A B ca cb L AL cl k gb s from fun k gb s w w' h hb => ⟨hJB _ _ _ h.j hb, hJ _ _ (hJB _ _ _ h.j hb), h.s.below hb h.s.lt⟩)
  have I0 := hJ _ _ h0
  have c0 : W.cell? ⟨Bl, 0, none⟩ = some (.slice AL L.length cl) := I0.fl.cell 0
  have HJ := Lib.hid hJ
  have HJB := Lib.hid hJB
  have HY := Lib.hid hY
  have HV := Lib.hid hv
  have hn1 := hv.n.1
  clear hJ hJB hY I0 hv
  refine callsIn_of_wp Try.func64 rfl trivial ?_ rfl
  simp only [Try.ntmps64, List.size_toArray, List.length_cons, List.length_nil, Nat.reduceAdd, Nat.reduceSub, Array.replicate_succ, Array.replicate_zero, List.push_toArray, List.append_toArray, List.nil_append, List.cons_append]
  gi_wp2
  gi_loopw [8] (fun it wr => ∃ i : Nat, i ≤ L.length ∧ it = .int .i64 i ∧ Hid ((∀ j (h : j < L.length), j < i → stepB a L[j] = true) ∧ J i wr)) (fun it _ => L.length - (intOf it).toNat)
  case atStart => exact ⟨0, Nat.zero_le _, rfl, fun j _ hj => absurd hj (by omega), h0⟩
  case round =>
    obtain ⟨i, hi, rfl, HI⟩ := hrel
    have I1 := HJ.out _ wr HI.out.2
    by_cases hlt : i < L.length
    · have hlt' : (i : Int) < L.length := by omega
      obtain ⟨g, o, rfl, hg, cc⟩ := I1.fr i hlt
      obtain ⟨s, hsdef⟩ : ∃ s, s = L[i] := ⟨_, rfl⟩
      rw [← hsdef] at cc
      have k0 : wr.cell? ⟨g, o + i * 8, none⟩ = some (.int .i64 s.cold) := cc 0 (by omega)
      have k1 : wr.cell? ⟨g, o + i * 8 + 1, none⟩ = some (.int .i64 s.ppl) := cc 1 (by omega)
      have k2 : wr.cell? ⟨g, o + i * 8 + 2, none⟩ = some (.int .i64 s.chg) := cc 2 (by omega)
      have k3 : wr.cell? ⟨g, o + i * 8 + 3, none⟩ = some (.int .i64 s.o0) := cc 3 (by omega)
      have k4 : wr.cell? ⟨g, o + i * 8 + 4, none⟩ = some (.int .i64 s.o1) := cc 4 (by omega)
      have k5 : wr.cell? ⟨g, o + i * 8 + 5, none⟩ = some (.int .i64 s.s0) := cc 5 (by omega)
      have k6 : wr.cell? ⟨g, o + i * 8 + 6, none⟩ = some (.int .i64 s.s1) := cc 6 (by omega)
      have k7 : wr.cell? ⟨g, o + i * 8 + 7, none⟩ = some (.int .i64 s.dry) := cc 7 (by omega)
      have a0 : wr.cell? ⟨Ba, 0, none⟩ = some (.int .i64 a.R) := I1.fa.cell 0
      have a1 : wr.cell? ⟨Ba, 1, none⟩ = some (.slice A a.T.length ca) := I1.fa.cell 1
      have a2 : wr.cell? ⟨Ba, 2, none⟩ = some (.slice B a.H.length cb) := I1.fa.cell 2
      have a3 : wr.cell? ⟨Ba, 3, none⟩ = some (.int .i64 a.b0) := I1.fa.cell 3
      have a4 : wr.cell? ⟨Ba, 4, none⟩ = some (.int .i64 a.b1) := I1.fa.cell 4
      have hba := I1.fa.lt
      have HS := Lib.hid (fun w h => validStep_any a A B ca cb s w h hn1)
      have HB := Lib.hid (below_one wr (.cells (stpc s) 50))
      have HI1 := Lib.hid (STEP.out i wr.heap.size s _ _ ⟨HJB.out _ _ _ HI.out.2 HB.out, HJ.out _ _ (HJB.out _ _ _ HI.out.2 HB.out), Has.new wr 50 _⟩ (Below.refl _ _))
      have HSd := Lib.hid hsdef
      clear cc I1 hsdef hg
      unfold airv stpv at HS
      gi_wp2_with (fail)
      clear k0 k1 k2 k3 k4 k5 k6 k7
      generalize hw1 : wr.alloc (.cells #[.int .i64 s.cold, .int .i64 s.ppl, .int .i64 s.chg, .int .i64 s.o0, .int .i64 s.o1, .int .i64 s.s0, .int .i64 s.s1, .int .i64 s.dry] 50) = w1 at HI1 ⊢
      generalize wr.heap.size = gb at HI1 ⊢
      clear HB hw1 a0 a1 a2 a3 a4
      refine ⟨trivial, (callsIn_wide.2 (HS.out _ HI1.out.it.ar)).mono ?_⟩
      rintro e w2 ⟨rfl, hb2⟩
      have HI2 := Lib.hid (STEP.out _ _ _ _ _ HI1.out hb2)
      clear hb2 HI1
      cases hst : stepB a s
      · have HE := Lib.hid (show stepB a L[i] = false by rw [← HSd.out]; exact hst)
        dsimp only
        gi_wp2
        exact ⟨rfl, .inr ⟨i, hlt, HE.out, rfl, HI2.out.j⟩⟩
      · have hvs := (stepB_iff a s).1 hst
        have HC := Lib.hid (fun w => comes_any a A B ca cb s w HV.out hvs)
        have HH := Lib.hid (fun w h => holds_any a A B ca cb s.cold w h HV.out hvs.c)
        have HYY := Lib.hid (fun w h => HY.out i w hlt (by rw [← HSd.out]; exact hst) h)
        rw [← HSd.out] at HYY
        have hgd : Hid (∀ j (h : j < L.length), j < i + 1 → stepB a L[j] = true) := fun j h hj => by
          rcases Nat.lt_succ_iff_lt_or_eq.1 hj with h' | rfl
          · exact HI.out.1 j h h'
          · rw [← HSd.out]; exact hst
        unfold airv stpv at HC
        unfold airv at HH
        unfold mov moOf at HYY
        clear hvs hst HS
        dsimp only
        gi_wp2_with (fail)
        refine wpIn_region_late (fun w' : World => w'.cell? ⟨Ba, 0, none⟩ = some (.int .i64 a.R) ∧ w'.cell? ⟨Ba, 1, none⟩ = some (.slice A a.T.length ca) ∧ w'.cell? ⟨Ba, 2, none⟩ = some (.slice B a.H.length cb) ∧ w'.cell? ⟨Ba, 3, none⟩ = some (.int .i64 a.b0) ∧ w'.cell? ⟨Ba, 4, none⟩ = some (.int .i64 a.b1) ∧ w'.cell? ⟨gb, 0, none⟩ = some (.int .i64 s.cold) ∧ w'.cell? ⟨gb, 1, none⟩ = some (.int .i64 s.ppl) ∧ w'.cell? ⟨gb, 2, none⟩ = some (.int .i64 s.chg) ∧ w'.cell? ⟨gb, 3, none⟩ = some (.int .i64 s.o0) ∧ w'.cell? ⟨gb, 4, none⟩ = some (.int .i64 s.o1) ∧ w'.cell? ⟨gb, 5, none⟩ = some (.int .i64 s.s0) ∧ w'.cell? ⟨gb, 6, none⟩ = some (.int .i64 s.s1) ∧ w'.cell? ⟨gb, 7, none⟩ = some (.int .i64 s.dry)) [13, 14] (by kernel_rfl) ?_
        refine wpLateIn_take (i := 0) (oi := ?oi0) (v := ?v0) [13, 14] rfl ?hi0 (by kernel_rfl) (by kernel_rfl) (by kernel_rfl) (by kernel_rfl) (by kernel_rfl) ?hQ0 ⟨Or.inl ⟨?hw0, ?hy0⟩, ?hz0⟩ HI2.out.cells ?rest0
        case hi0 => (simp only [List.getElem?_toArray, List.getElem?_cons_zero]; rfl)
        case hQ0 => exact fun _ _ _ h => h
        case hw0 => rfl
        case hz0 => exact fun _ => rfl
        case hy0 =>
          intro w' hSw
          obtain ⟨r0, r1, r2, r3, r4, r5, r6, r7, r8, r9, r10, r11, r12⟩ := hSw
          go_simp
          try exact rfl
        simp only [Act.put, List.setIfInBounds_toArray, List.set_cons_zero, List.set_cons_succ]
        refine wpLateIn_take (i := 1) (oi := ?oi1) (v := ?v1) [2, 12, 13, 14] rfl ?hi1 (by kernel_rfl) (by kernel_rfl) (by kernel_rfl) (by kernel_rfl) (by kernel_rfl) ?hQ1 ⟨Or.inl ⟨?hw1, ?hy1⟩, ?hz1⟩ HI2.out.cells ?rest1
        case hi1 => (simp only [List.getElem?_toArray, List.getElem?_cons_zero, List.getElem?_cons_succ]; rfl)
        case hQ1 => exact fun _ _ _ h => h
        case hw1 => rfl
        case hz1 => exact fun _ => rfl
        case hy1 =>
          intro w' hSw
          obtain ⟨r0, r1, r2, r3, r4, r5, r6, r7, r8, r9, r10, r11, r12⟩ := hSw
          go_simp
          try exact rfl
        simp only [Act.put, List.setIfInBounds_toArray, List.set_cons_zero, List.set_cons_succ]
        refine wpLateIn_take (i := 2) (oi := ?oi2) (v := ?v2) [12, 13, 14] rfl ?hi2 (by kernel_rfl) (by kernel_rfl) (by kernel_rfl) (by kernel_rfl) (by kernel_rfl) ?hQ2 ⟨Or.inl ⟨?hw2, ?hy2⟩, ?hz2⟩ HI2.out.cells ?rest2
        case hi2 => (simp only [List.getElem?_toArray, List.getElem?_cons_zero, List.getElem?_cons_succ]; rfl)
        case hQ2 => exact fun _ _ _ h => h
        case hw2 => rfl
        case hz2 => exact fun _ => rfl
        case hy2 =>
          intro w' hSw
          obtain ⟨r0, r1, r2, r3, r4, r5, r6, r7, r8, r9, r10, r11, r12⟩ := hSw
          go_simp
          try exact rfl
        simp only [Act.put, List.setIfInBounds_toArray, List.set_cons_zero, List.set_cons_succ]
        refine wpLateIn_take (i := 3) (oi := ?oi3) (v := ?v3) [5, 11, 12, 13, 14] rfl ?hi3 (by kernel_rfl) (by kernel_rfl) (by kernel_rfl) (by kernel_rfl) (by kernel_rfl) ?hQ3 ⟨Or.inl ⟨?hw3, ?hy3⟩, ?hz3⟩ HI2.out.cells ?rest3
        case hi3 => (simp only [List.getElem?_toArray, List.getElem?_cons_zero, List.getElem?_cons_succ]; rfl)
        case hQ3 => exact fun _ _ _ h => h
        case hw3 => rfl
        case hz3 => exact fun _ => rfl
        case hy3 =>
          intro w' hSw
          obtain ⟨r0, r1, r2, r3, r4, r5, r6, r7, r8, r9, r10, r11, r12⟩ := hSw
          go_simp
          try exact rfl
        simp only [Act.put, List.setIfInBounds_toArray, List.set_cons_zero, List.set_cons_succ]
        refine wpLateIn_take (i := 4) (oi := ?oi4) (v := ?v4) [5, 11, 12, 13, 14] rfl ?hi4 (by kernel_rfl) (by kernel_rfl) (by kernel_rfl) (by kernel_rfl) (by kernel_rfl) ?hQ4 ⟨Or.inl ⟨?hw4, ?hy4⟩, ?hz4⟩ HI2.out.cells ?rest4
        case hi4 => (simp only [List.getElem?_toArray, List.getElem?_cons_zero, List.getElem?_cons_succ]; rfl)
        case hQ4 => exact fun _ _ _ h => h
        case hw4 => rfl
        case hz4 => exact fun _ => rfl
        case hy4 =>
          intro w' hSw
          obtain ⟨r0, r1, r2, r3, r4, r5, r6, r7, r8, r9, r10, r11, r12⟩ := hSw
          go_simp
          try exact rfl
        simp only [Act.put, List.setIfInBounds_toArray, List.set_cons_zero, List.set_cons_succ]
        refine wpLateIn_take (i := 6) (oi := ?oi6) (v := ?v6) [7, 12, 13, 14] rfl ?hi6 (by kernel_rfl) (by kernel_rfl) (by kernel_rfl) (by kernel_rfl) (by kernel_rfl) ?hQ6 ⟨Or.inl ⟨?hw6, ?hy6⟩, ?hz6⟩ HI2.out.cells ?rest6
        case hi6 => (simp only [List.getElem?_toArray, List.getElem?_cons_zero, List.getElem?_cons_succ]; rfl)
        case hQ6 => exact fun _ _ _ h => h
        case hw6 => rfl
        case hz6 => exact fun _ => rfl
        case hy6 =>
          intro w' hSw
          obtain ⟨r0, r1, r2, r3, r4, r5, r6, r7, r8, r9, r10, r11, r12⟩ := hSw
          go_simp
          try exact rfl
        simp only [Act.put, List.setIfInBounds_toArray, List.set_cons_zero, List.set_cons_succ]
        refine wpLateIn_take (i := 7) (oi := ?oi7) (v := ?v7) [12, 13, 14] rfl ?hi7 (by kernel_rfl) (by kernel_rfl) (by kernel_rfl) (by kernel_rfl) (by kernel_rfl) ?hQ7 ⟨Or.inl ⟨?hw7, ?hy7⟩, ?hz7⟩ HI2.out.cells ?rest7
        case hi7 => (simp only [List.getElem?_toArray, List.getElem?_cons_zero, List.getElem?_cons_succ]; rfl)
        case hQ7 => exact fun _ _ _ h => h
        case hw7 => rfl
        case hz7 => exact fun _ => rfl
        case hy7 =>
          intro w' hSw
          obtain ⟨r0, r1, r2, r3, r4, r5, r6, r7, r8, r9, r10, r11, r12⟩ := hSw
          go_simp
          try exact rfl
        simp only [Act.put, List.setIfInBounds_toArray, List.set_cons_zero, List.set_cons_succ]
        refine wpLateIn_take (i := 8) (oi := ?oi8) (v := ?v8) [11, 12, 13, 14] rfl ?hi8 (by kernel_rfl) (by kernel_rfl) (by kernel_rfl) (by kernel_rfl) (by kernel_rfl) ?hQ8 ⟨Or.inl ⟨?hw8, ?hy8⟩, ?hz8⟩ HI2.out.cells ?rest8
        case hi8 => (simp only [List.getElem?_toArray, List.getElem?_cons_zero, List.getElem?_cons_succ]; rfl)
        case hQ8 => exact fun _ _ _ h => h
        case hw8 => rfl
        case hz8 => exact fun _ => rfl
        case hy8 =>
          intro w' hSw
          obtain ⟨r0, r1, r2, r3, r4, r5, r6, r7, r8, r9, r10, r11, r12⟩ := hSw
          go_simp
          try exact rfl
        simp only [Act.put, List.setIfInBounds_toArray, List.set_cons_zero, List.set_cons_succ]
        refine wpLateIn_take (i := 9) (oi := ?oi9) (v := ?v9) [10, 11, 12, 13, 14] rfl ?hi9 (by kernel_rfl) (by kernel_rfl) (by kernel_rfl) (by kernel_rfl) (by kernel_rfl) ?hQ9 ⟨Or.inl ⟨?hw9, ?hy9⟩, ?hz9⟩ HI2.out.cells ?rest9
        case hi9 => (simp only [List.getElem?_toArray, List.getElem?_cons_zero, List.getElem?_cons_succ]; rfl)
        case hQ9 => exact fun _ _ _ h => h
        case hw9 => rfl
        case hz9 => exact fun _ => rfl
        case hy9 =>
          intro w' hSw
          obtain ⟨r0, r1, r2, r3, r4, r5, r6, r7, r8, r9, r10, r11, r12⟩ := hSw
          go_simp
          try exact rfl
        simp only [Act.put, List.setIfInBounds_toArray, List.set_cons_zero, List.set_cons_succ]
        refine wpLateIn_take (i := 10) (oi := ?oi10) (v := ?v10) [11, 12, 13, 14] rfl ?hi10 (by kernel_rfl) (by kernel_rfl) (by kernel_rfl) (by kernel_rfl) (by kernel_rfl) ?hQ10 ⟨Or.inl ⟨?hw10, ?hy10⟩, ?hz10⟩ HI2.out.cells ?rest10
        case hi10 => (simp only [List.getElem?_toArray, List.getElem?_cons_zero, List.getElem?_cons_succ]; rfl)
        case hQ10 => exact fun _ _ _ h => h
        case hw10 => rfl
        case hz10 => exact fun _ => rfl
        case hy10 =>
          intro w' hSw
          obtain ⟨r0, r1, r2, r3, r4, r5, r6, r7, r8, r9, r10, r11, r12⟩ := hSw
          go_simp
          try exact rfl
        simp only [Act.put, List.setIfInBounds_toArray, List.set_cons_zero, List.set_cons_succ]
        refine wpLateIn_one (i := 5) (o := ?o5) (by kernel_rfl) ?ho5 ?hk5
        case ho5 => (simp only [List.getElem?_toArray, List.getElem?_cons_zero, List.getElem?_cons_succ]; rfl)
        intro K hK
        go_simp
        refine ⟨trivial, (callsIn_wide.2 (HC.out _)).mono ?_⟩
        rintro e w3 ⟨rfl, hb3⟩
        have HI3 := Lib.hid (STEP.out _ _ _ _ _ HI2.out (below_dl hb3))
        clear hb3
        refine hK.out _ _ (fun _ => HI3.out.cells) ?_
        clear hK K
        try simp only [Act.put, List.setIfInBounds_toArray, List.set_cons_zero, List.set_cons_succ]
        refine wpLateIn_one (i := 11) (o := ?o11) (by kernel_rfl) ?ho11 ?hk11
        case ho11 => (simp only [List.getElem?_toArray, List.getElem?_cons_zero, List.getElem?_cons_succ]; rfl)
        intro K hK
        go_simp
        refine ⟨trivial, (callsIn_wide.2 (HH.out _ HI3.out.it.ar)).mono ?_⟩
        rintro e w4 ⟨rfl, hb4⟩
        have HI4 := Lib.hid (STEP.out _ _ _ _ _ HI3.out hb4)
        clear hb4
        refine hK.out _ _ (fun _ => HI4.out.cells) ?_
        clear hK K
        try simp only [Act.put, List.setIfInBounds_toArray, List.set_cons_zero, List.set_cons_succ]
        refine wpLateIn_one (i := 12) (o := ?o12) (by kernel_rfl) ?ho12 ?hk12
        case ho12 => (simp only [List.getElem?_toArray, List.getElem?_cons_zero, List.getElem?_cons_succ]; rfl)
        intro K hK
        go_simp
        refine hK.out _ _ (fun _ => HI4.out.cells) ?_
        clear hK K
        try simp only [Act.put, List.setIfInBounds_toArray, List.set_cons_zero, List.set_cons_succ]
        refine wpLateIn_one (i := 13) (o := ?o13) (by kernel_rfl) ?ho13 ?hk13
        case ho13 => (simp only [List.getElem?_toArray, List.getElem?_cons_zero, List.getElem?_cons_succ]; rfl)
        intro K hK
        go_simp
        obtain ⟨fn, tmps, assign, body, hy, hR⟩ := HYY.out w4 HI4.out.j
        go_simp
        refine hR.mono ?_
        rintro e w5 ⟨rfl, hJ5⟩
        have HJ5 := Lib.hid hJ5
        clear hJ5
        refine hK.out _ _ (fun h => absurd h (by decide)) ?_
        clear hK K
        try simp only [Act.put, List.setIfInBounds_toArray, List.set_cons_zero, List.set_cons_succ]
        refine wpLateIn_one (i := 14) (o := ?o14) (by kernel_rfl) ?ho14 ?hk14
        case ho14 => (simp only [List.getElem?_toArray, List.getElem?_cons_zero, List.getElem?_cons_succ]; rfl)
        intro K hK
        go_simp
        refine hK.out _ _ (fun h => absurd h (by decide)) ?_
        clear hK K
        try simp only [Act.put, List.setIfInBounds_toArray, List.set_cons_zero, List.set_cons_succ]
        refine wpLateIn_done (by kernel_rfl) ?_ _
        try simp only [Act.put, List.setIfInBounds_toArray, List.set_cons_zero, List.set_cons_succ]
        gi_wp2
        go_roundw
        case rel => exact ⟨i + 1, by omega, by go_num, hgd.out, HJ5.out⟩
        case measure => simp [intOf]; omega
    · have hge : ¬ (i : Int) < L.length := by omega
      have hil : i = L.length := by omega
      have HX := Lib.hid hil
      clear hil
      gi_wp2
      go_end0
      exact .inl ⟨_, rfl, fun s hs => by
        obtain ⟨j, hj, rfl⟩ := List.mem_iff_getElem.1 hs
        exact HI.out.1 j hj (by rw [HX.out]; exact hj), by rw [← HX.out]; exact HI.out.2⟩
end Go.Proofs.Ytdmpkeaanaoeaaa

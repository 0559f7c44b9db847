/- Contracts: the place of one whom the judge gives all, or the least. -/
import Derived.Test.YtmclchaalmonnaaAll
import Derived.Test.YtmclchaalmonnaaOuA
namespace Go.Proofs.Ytmclchaalmonnaa
open Go.RowKit Go.Lib
attribute [local irreducible] wpQuiet
theorem Try.info33 : (Try.prog.info? 33).map (fun i => (i.zero, i.size, i.bytes)) = some (some (.agg #[.int .i64 0, .int .i64 0, .int .i64 0, .int .i64 0]), 4, 32) := by kernel_rfl
theorem scc_one (x : Sc) : ∀ u ∈ (scc x).toList, u.oneCell' = true := by
  intro u hu
  simp only [List.mem_cons, List.not_mem_nil, or_false] at hu
  rcases hu with rfl | rfl | rfl | rfl <;> rfl
theorem scrow_own {w : World} {base : Nat} {v : Value} {l : List Sc} (h : w.ownsRow base 33 4 v l.length (nvl scc l)) : ∃ A cap, v = .slice A l.length cap ∧ ScRow w w.heap.size A l := by
  obtain ⟨A, cap, rfl, hr⟩ := own_nrow (f := scc) (fun _ => rfl) h
  exact ⟨A, cap, rfl, hr⟩
/-- a score behind its contest is known -/
theorem prog_put {r : Ru} {l : List Sk} {s : Sk} {j : Nat} {f g : Nat → Int} (h : contestB r l = true) (hs : s ∈ l) (hf : ∀ i, i < s.calls.length → -5 ≤ f i ∧ f i ≤ 5) (hg : ∀ i, i < s.parts.length → 0 ≤ g i ∧ g i ≤ 40) : progR r (putS s j f g) = (progP r (putS s j f g), 0) :=
  progR_one (put_ok hf hg (contest_one.2 ⟨_, contest_each h s hs⟩))
/-- all that lies fixed: what was captured, the new scores, one skating's copy -/
structure PLW (W w : World) (r : Ru) (A : Option Addr) (c : Nat) (P4 P6 j E : Nat) (x : Sk) (AC AP : Option Addr) (cc cp : Nat) (v : Value) (es : List Sc) : Prop where
  b : Below W.heap.size W w
  f4 : Has w P4 24 (ruc r A c)
  f6 : Has w P6 3 #[.int .i64 j]
  fe : Has w E 28 (skc x AC AP cc cp)
  o : w.ownsRow W.heap.size 33 4 v es.length (nvl scc es)
theorem PLW.step {W w w' : World} {r : Ru} {A : Option Addr} {c P4 P6 j E : Nat} {x : Sk} {AC AP : Option Addr} {cc cp : Nat} {v : Value} {es : List Sc} (h : PLW W w r A c P4 P6 j E x AC AP cc cp v es) (hb : Below w.heap.size w w') : PLW W w' r A c P4 P6 j E x AC AP cc cp v es :=
  ⟨h.b.trans (hb.mono h.b.size), h.f4.below hb h.f4.lt, h.f6.below hb h.f6.lt, h.fe.below hb h.fe.lt, own_step h.o hb⟩
theorem sc_new {w : World} {b : Nat} {t : TypeId} {x : Sc} (h : Has w b t (scc x)) : ∀ i u, (nvl scc [x])[i]? = some u → w.cell? ((⟨b, 0, none⟩ : Addr).add i) = some u := fun i u hu => by
  rw [addr_add, h.cell, Nat.zero_add, ← hu]
  simp [nvl]
set_option maxRecDepth 100000 in
set_option maxHeartbeats 4000000 in
theorem place32_any (r : Ru) (A : Option Addr) (c : Nat) (l : List Sk) (L : Option Addr) (k0 j w : Nat) (b : Bool) (W : World) (hr : RuR W W.heap.size r A) (hs : SRow W W.heap.size L l) (hct : contestB r l = true) (hj : j < nP l) (h8 : l.length ≤ 8) (hw : w < l.length) (P5 P11 P4 P6 : Nat) (h5 : Has W P5 30 #[.slice L l.length k0]) (h11 : Has W P11 3 #[.int .i64 w]) (h4 : Has W P4 24 (ruc r A c)) (h6 : Has W P6 3 #[.int .i64 j]) :
    Calls Try.prog 32 #[.bool b, .pointer (some ⟨P5, 0, none⟩), .pointer (some ⟨P11, 0, none⟩), .pointer (some ⟨P4, 0, none⟩), .pointer (some ⟨P6, 0, none⟩)] W (IntPost ((ranksP (mixP r l j w b)).getD w 0) W) := by
  obtain ⟨i0, hi, hz0, hz1, hz2⟩ := info_parts Try.info33
  obtain ⟨M, hM⟩ : ∃ M, M = mixP r l j w b := ⟨_, rfl⟩
  have hML : M.length = l.length := by rw [hM]; simp [mixP]
  have HML := Lib.hid hML
  have HMG : Hid (∀ k (h : k < l.length) (h' : k < M.length), M[k] = if b = decide (k = w) then progP r (markP l[k] j 5 40) else progP r (markP l[k] j (-5) 0)) := Lib.hid fun k h h' => by subst hM; simp [mixP]
  rw [← hM]
  have HC := Lib.hid (And.intro h5 (And.intro h11 (And.intro h4 h6)))
  have HS := Lib.hid hs
  have hlen : ∀ s ∈ l, (∀ q ∈ s.calls, j < q.marks.length ∧ q.marks.length ≤ 1000) ∧ (∀ m ∈ s.parts, j < m.length ∧ m.length ≤ 1000) ∧ s.calls.length ≤ 1000 ∧ s.parts.length ≤ 1000 := fun s hsm => by
    have h1 := contest_each hct s hsm
    have h2 := (contest_ok hct).2 s hsm
    obtain ⟨l1, l2⟩ := h1.len
    refine ⟨fun q hq => ?_, fun m hm => ?_, by have := h2.nc; omega, by have := h2.np; omega⟩
    · rw [l1 q hq]; have := (h2.c q hq).1.l9; rw [l1 q hq] at this; omega
    · rw [l2 m hm]; have := (h2.p m hm).2.1; rw [l2 m hm] at this; omega
  have HAL := Lib.hid (fun (x : Sk) (hx : x ∈ l) AC AP cc cp (gr qu : Int) w (hsk : SkR w w.heap.size x AC AP) => All_any x AC AP cc cp j gr qu w hsk (hlen x hx).2.2.1 (hlen x hx).2.2.2 (hlen x hx).1 (hlen x hx).2.1)
  have HPR := Lib.hid (fun (x : Sk) (hx : x ∈ l) (gr qu : Int) (hg : (-5 ≤ gr ∧ gr ≤ 5) ∧ 0 ≤ qu ∧ qu ≤ 40) AC AP cc cp w (hb : Below W.heap.size W w) (hsk : SkR w w.heap.size (markP x j gr qu) AC AP) =>
    (show Calls Try.prog 14 #[ruv r A c, skv (markP x j gr qu) AC AP cc cp] w (SEPost (progP r (markP x j gr qu), 0) w) from by
      have h := Program_any r A c (markP x j gr qu) AC AP cc cp w ((hr.below hb).more hb.size) hsk
      rw [mark_put] at h ⊢
      rwa [prog_put hct hx (fun _ _ => hg.1) (fun _ _ => hg.2)] at h))
  have HRK := Lib.hid (fun A' k' w (ha : ScRow w w.heap.size A' M) => (show Calls Try.prog 19 #[.slice A' M.length k'] w (RIPost (ranksP M, 0) w) from by
    have h := Ranks_any M A' k' w ha (by unfold big; omega)
    rwa [show ranksR M = (ranksP M, 0) from by unfold ranksR; rw [if_neg (by omega)]] at h))
  unfold MkPost at HAL
  unfold SEPost at HPR
  unfold RIPost at HRK
  have hl8 := h8
  have p5 : W.cell? ⟨P5, 0, none⟩ = some (.slice L l.length k0) := h5.cell 0
  clear hr hs hct hj h8 h5 h11 h4 h6 hM hML hlen
  unfold ruv skv scv at *
  go_enter Try.func32, Try.ntmps32
  go_wp2_with fail
  clear p5
  go_loopg [18, 7] l.length (fun gk i v wr => ∃ k : Nat, k ≤ l.length ∧ l.length - k ≤ gk ∧ i = .int .i64 k ∧ ∃ es : List Sc, Hid (Below W.heap.size W wr ∧ wr.ownsRow W.heap.size 33 4 v es.length (nvl scc es) ∧ es = M.take k))
  case atStart => exact ⟨0, Nat.zero_le _, Nat.le_refl _, rfl, [], Lib.hid ⟨Below.refl _ _, own_nil _ _ _ _, by simp⟩⟩
  case round =>
    obtain ⟨k, hk, hgk, rfl, es, HW⟩ := hrel
    by_cases hlt : k < l.length
    rotate_left
    · have hge : ¬ (k : Int) < l.length := by omega
      obtain rfl : es = M := by rw [HW.out.2.2, List.take_of_length_le (by rw [HML.out]; omega)]
      obtain ⟨A7, c7, rfl, hsr⟩ := scrow_own HW.out.2.1
      have H1 := Lib.hid (And.intro HW.out.1 hsr)
      have p5 : wr.cell? ⟨P5, 0, none⟩ = some (.slice L l.length k0) := (HC.out.1.below H1.out.1 HC.out.1.lt).cell 0
      clear hsr HW hk hgk hlt HMG HAL HPR
      go_wp2_with fail
      refine (HRK.out _ _ _ H1.out.2).mono ?_
      rintro e w2 ⟨A2, c2, rfl, hrow, -, hb2⟩
      have H2 := Lib.hid (H1.out.1.trans (hb2.mono H1.out.1.size))
      have hpl : (ranksP es).length = l.length := by rw [← HML.out]; simp [ranksP]
      have HRW := Lib.hid hrow
      have p5' : w2.cell? ⟨P5, 0, none⟩ = some (.slice L l.length k0) := (HC.out.1.below H2.out HC.out.1.lt).cell 0
      have p11 : w2.cell? ⟨P11, 0, none⟩ = some (.int .i64 w) := (HC.out.2.1.below H2.out HC.out.2.1.lt).cell 0
      obtain ⟨g, o, hg, -, -, hc⟩ := hrow w (by simpa [hpl] using hw)
      have HV : Hid ((ranksP es)[w]'(by rw [hpl]; exact hw) = (ranksP es).getD w 0) := Lib.hid (by rw [List.getD_eq_getElem?_getD, List.getElem?_eq_getElem (by rw [hpl]; exact hw)]; rfl)
      have hw2 : (w : Int) < l.length := by omega
      dsimp only at hg hc HV ⊢
      obtain ⟨z, hz⟩ : ∃ z, z = (ranksP es)[w]'(by rw [hpl]; exact hw) := ⟨_, rfl⟩
      rw [← hz] at hc HV
      rw [hpl]
      subst hg
      clear hrow hb2 hz HRW p5 hge
      go_wp2_with fail
      go_ret
      exact ⟨ret_int HV.out, H2.out⟩
    have hlt2 : (k : Int) < l.length := by omega
    obtain ⟨g, o, AC, AP, cc, cp, hg, hgs, hc, hsk⟩ := HS.out k hlt
    have HSK := Lib.hid hsk
    have hxm : l[k] ∈ l := List.getElem_mem hlt
    obtain ⟨x, hx⟩ : ∃ x, x = l[k] := ⟨_, rfl⟩
    rw [← hx] at hc hxm HSK
    have HXM := Lib.hid hxm
    have HNX : Hid (∀ y, y = (if b = decide (k = w) then progP r (markP x j 5 40) else progP r (markP x j (-5) 0)) → es ++ [y] = M.take (k + 1)) := Lib.hid fun y hy => by
      rw [List.take_succ_eq_append_getElem (by rw [HML.out]; exact hlt), HMG.out k hlt, ← HW.out.2.2, hy, hx]
    subst hg
    have y0 : wr.cell? ⟨g, o + k * 3, none⟩ = some (.slice AC x.calls.length cc) := (HW.out.1.cell (p := ⟨g, _, none⟩) hgs).trans (hc 0 (by omega))
    have y1 : wr.cell? ⟨g, o + k * 3 + 1, none⟩ = some (.slice AP x.parts.length cp) := (HW.out.1.cell (p := ⟨g, _, none⟩) hgs).trans (hc 1 (by omega))
    have y2 : wr.cell? ⟨g, o + k * 3 + 2, none⟩ = some (.int .i64 x.over) := (HW.out.1.cell (p := ⟨g, _, none⟩) hgs).trans (hc 2 (by omega))
    obtain ⟨A7, c7, rfl, -⟩ := own_slice HW.out.2.1
    have hesl : es.length ≤ 8 := by have := congrArg List.length HW.out.2.2; simp at this; omega
    have H1 : Hid (PLW W (wr.alloc (.cells (skc x AC AP cc cp) 28)) r A c P4 P6 j wr.heap.size x AC AP cc cp (.slice A7 es.length c7) es ∧ W.heap.size < wr.heap.size + 1) :=
      Lib.hid ⟨⟨HW.out.1.trans ((below_one _ _).mono HW.out.1.size), (HC.out.2.2.1.below HW.out.1 HC.out.2.2.1.lt).alloc _, (HC.out.2.2.2.below HW.out.1 HC.out.2.2.2.lt).alloc _, Has.new _ _ _, own_step HW.out.2.1 (below_one _ _)⟩, by have := HW.out.1.size; omega⟩
    clear hgs hc hsk hxm hx HW hk
    go_upto_region 5 with fail
    generalize wr.alloc (.cells (skc x AC AP cc cp) 28) = w1 at H1 ⊢
    generalize wr.heap.size = E at H1 ⊢
    clear y0 y1 y2
    have p11 : w1.cell? ⟨P11, 0, none⟩ = some (.int .i64 w) := (HC.out.2.1.below H1.out.1.b HC.out.2.1.lt).cell 0
    have HKP : Hid (∀ w', PLW W w' r A c P4 P6 j E x AC AP cc cp (.slice A7 es.length c7) es → w'.cell? ⟨P4, 0, none⟩ = some (.slice A r.bases.length c) ∧ w'.cell? ⟨P4, 1, none⟩ = some (.int .i64 r.factor) ∧ w'.cell? ⟨P4, 2, none⟩ = some (.int .i64 r.most) ∧ w'.cell? ⟨E, 0, none⟩ = some (.slice AC x.calls.length cc) ∧ w'.cell? ⟨E, 1, none⟩ = some (.slice AP x.parts.length cp) ∧ w'.cell? ⟨E, 2, none⟩ = some (.int .i64 x.over) ∧ w'.cell? ⟨P6, 0, none⟩ = some (.int .i64 j)) := Lib.hid fun w' h => ⟨h.f4.cell 0, h.f4.cell 1, h.f4.cell 2, h.fe.cell 0, h.fe.cell 1, h.fe.cell 2, h.f6.cell 0⟩
    by_cases hbk : b = decide (k = w)
    · have q : (b == ((k : Int) == (w : Int))) = true := by
        have hz : ((k : Int) == (w : Int)) = decide (k = w) := by
          by_cases h : k = w
          · simp [h]
          · have : ¬ (k : Int) = w := by omega
            simp [h, this]
        rw [hbk, hz]; simp
      have HNY := Lib.hid (HNX.out _ rfl)
      rw [if_pos hbk] at HNY
      clear hbk HNX
      obtain ⟨X, hX⟩ : ∃ X, X = progP r (markP x j 5 40) := ⟨_, rfl⟩
      have HP2 := Lib.hid (fun AC AP cc cp w hb hsk => HPR.out x HXM.out 5 40 (by omega) AC AP cc cp w hb hsk)
      rw [← hX] at HNY HP2
      clear hX
      go_upto_region 8 with fail
      go_cut [12, 13] (fun u12 u13 wx => ∃ b9, u12 = .pointer (some ⟨b9, 0, none⟩) ∧ u13 = .int .i64 0 ∧ Hid (PLW W wx r A c P4 P6 j E x AC AP cc cp (.slice A7 es.length c7) es ∧ Has wx b9 33 (scc X)))
      case first =>
        have H1p : Hid (PLW W w1.drew r A c P4 P6 j E x AC AP cc cp (.slice A7 es.length c7) es) := Lib.hid (H1.out.1.step ((Below.refl _ _).drew))
        have K1p : Hid (w1.drew.cell? ⟨P4, 0, none⟩ = some (.slice A r.bases.length c) ∧ w1.drew.cell? ⟨P4, 1, none⟩ = some (.int .i64 r.factor) ∧ w1.drew.cell? ⟨P4, 2, none⟩ = some (.int .i64 r.most) ∧ w1.drew.cell? ⟨E, 0, none⟩ = some (.slice AC x.calls.length cc) ∧ w1.drew.cell? ⟨E, 1, none⟩ = some (.slice AP x.parts.length cp) ∧ w1.drew.cell? ⟨E, 2, none⟩ = some (.int .i64 x.over) ∧ w1.drew.cell? ⟨P6, 0, none⟩ = some (.int .i64 j)) := Lib.hid (HKP.out _ H1p.out)
        clear p11 q
        refine wp_region_late (fun w' : World => w'.cell? ⟨P4, 0, none⟩ = some (.slice A r.bases.length c) ∧ w'.cell? ⟨P4, 1, none⟩ = some (.int .i64 r.factor) ∧ w'.cell? ⟨P4, 2, none⟩ = some (.int .i64 r.most) ∧ w'.cell? ⟨E, 0, none⟩ = some (.slice AC x.calls.length cc) ∧ w'.cell? ⟨E, 1, none⟩ = some (.slice AP x.parts.length cp) ∧ w'.cell? ⟨E, 2, none⟩ = some (.int .i64 x.over) ∧ w'.cell? ⟨P6, 0, none⟩ = some (.int .i64 j)) [] (by kernel_rfl) ?_
        generalize w1.drew = w1p at H1p K1p ⊢
        obtain ⟨Np, hNp⟩ : ∃ N, N = w1p.heap.size := ⟨_, rfl⟩
        have Bbp : Hid (Below Np w1p w1p ∧ Np ≤ w1p.heap.size) := Lib.hid ⟨Below.refl _ _, Nat.le_of_eq hNp⟩
        have NHp := Lib.hid hNp
        clear hNp
        refine wpLate_take (i := 0) (oi := ?oi0p1_) (v := ?v0p1_) [6, 7, 8, 9, 11, 12] ?hi0p1_ (by kernel_rfl) (by kernel_rfl) (by kernel_rfl) (by kernel_rfl) (by kernel_rfl) ?hQ0p1_ (Or.inl ⟨?hw0p1_, ?hy0p1_⟩) K1p.out ?rest0p1_
        case hi0p1_ => (simp only [List.getElem?_toArray, List.getElem?_cons_zero]; rfl)
        case hQ0p1_ => exact fun _ _ _ h => h
        case hw0p1_ => rfl
        case hy0p1_ =>
          intro w' hSw
          obtain ⟨r0, r1, r2, r3, r4, r5, r6⟩ := hSw
          go_simp
          try exact rfl
        try simp only [Act.put, List.setIfInBounds_toArray, List.set_cons_zero, List.set_cons_succ]
        refine wpLate_take (i := 1) (oi := ?oi1p2_) (v := ?v1p2_) [5, 6, 7, 8, 9, 11, 12] ?hi1p2_ (by kernel_rfl) (by kernel_rfl) (by kernel_rfl) (by kernel_rfl) (by kernel_rfl) ?hQ1p2_ (Or.inl ⟨?hw1p2_, ?hy1p2_⟩) K1p.out ?rest1p2_
        case hi1p2_ => (simp only [List.getElem?_toArray, List.getElem?_cons_zero, List.getElem?_cons_succ]; rfl)
        case hQ1p2_ => exact fun _ _ _ h => h
        case hw1p2_ => rfl
        case hy1p2_ =>
          intro w' hSw
          obtain ⟨r0, r1, r2, r3, r4, r5, r6⟩ := hSw
          go_simp
          try exact rfl
        try simp only [Act.put, List.setIfInBounds_toArray, List.set_cons_zero, List.set_cons_succ]
        refine wpLate_take (i := 2) (oi := ?oi2p3_) (v := ?v2p3_) [5, 6, 7, 8, 9, 11, 12] ?hi2p3_ (by kernel_rfl) (by kernel_rfl) (by kernel_rfl) (by kernel_rfl) (by kernel_rfl) ?hQ2p3_ (Or.inl ⟨?hw2p3_, ?hy2p3_⟩) K1p.out ?rest2p3_
        case hi2p3_ => (simp only [List.getElem?_toArray, List.getElem?_cons_zero, List.getElem?_cons_succ]; rfl)
        case hQ2p3_ => exact fun _ _ _ h => h
        case hw2p3_ => rfl
        case hy2p3_ =>
          intro w' hSw
          obtain ⟨r0, r1, r2, r3, r4, r5, r6⟩ := hSw
          go_simp
          try exact rfl
        try simp only [Act.put, List.setIfInBounds_toArray, List.set_cons_zero, List.set_cons_succ]
        refine wpLate_take (i := 3) (oi := ?oi3p4_) (v := ?v3p4_) [5, 6, 7, 8, 9, 11, 12] ?hi3p4_ (by kernel_rfl) (by kernel_rfl) (by kernel_rfl) (by kernel_rfl) (by kernel_rfl) ?hQ3p4_ (Or.inl ⟨?hw3p4_, ?hy3p4_⟩) K1p.out ?rest3p4_
        case hi3p4_ => (simp only [List.getElem?_toArray, List.getElem?_cons_zero, List.getElem?_cons_succ]; rfl)
        case hQ3p4_ => exact fun _ _ _ h => h
        case hw3p4_ => rfl
        case hy3p4_ =>
          intro w' hSw
          obtain ⟨r0, r1, r2, r3, r4, r5, r6⟩ := hSw
          go_simp
          try exact rfl
        try simp only [Act.put, List.setIfInBounds_toArray, List.set_cons_zero, List.set_cons_succ]
        refine wpLate_take (i := 4) (oi := ?oi4p5_) (v := ?v4p5_) [5, 6, 7, 8, 9, 11, 12] ?hi4p5_ (by kernel_rfl) (by kernel_rfl) (by kernel_rfl) (by kernel_rfl) (by kernel_rfl) ?hQ4p5_ (Or.inl ⟨?hw4p5_, ?hy4p5_⟩) K1p.out ?rest4p5_
        case hi4p5_ => (simp only [List.getElem?_toArray, List.getElem?_cons_zero, List.getElem?_cons_succ]; rfl)
        case hQ4p5_ => exact fun _ _ _ h => h
        case hw4p5_ => rfl
        case hy4p5_ =>
          intro w' hSw
          obtain ⟨r0, r1, r2, r3, r4, r5, r6⟩ := hSw
          go_simp
          try exact rfl
        try simp only [Act.put, List.setIfInBounds_toArray, List.set_cons_zero, List.set_cons_succ]
        refine wpLate_two (i := 5) (j := 10) (o := ?oAp6_) (u := ?uAp6_) (by kernel_rfl) ?hoAp6_ ?huAp6_ ?hkAp6_ ?hkBp6_
        case hoAp6_ => (simp only [List.getElem?_toArray, List.getElem?_cons_zero, List.getElem?_cons_succ]; rfl)
        case huAp6_ => (simp only [List.getElem?_toArray, List.getElem?_cons_zero, List.getElem?_cons_succ]; rfl)
        case hkAp6_ =>
          intro K hK
          go_simp
          refine (HAL.out x HXM.out AC AP cc cp 5 40 _ ((HSK.out.below H1p.out.b).more H1p.out.b.size)).mono ?_
          rintro e wpa1 ⟨BC, BP, bc, bp, rfl, hsk9, hb9⟩
          have Mpa2 : Hid (SkR wpa1 wpa1.heap.size (markP x j 5 40) BC BP) := Lib.hid hsk9
          clear hsk9
          have Hpa3 : Hid (PLW W wpa1 r A c P4 P6 j E x AC AP cc cp (.slice A7 es.length c7) es) := Lib.hid ((H1p.out).step hb9)
          have Kpa4 : Hid (wpa1.cell? ⟨P4, 0, none⟩ = some (.slice A r.bases.length c) ∧ wpa1.cell? ⟨P4, 1, none⟩ = some (.int .i64 r.factor) ∧ wpa1.cell? ⟨P4, 2, none⟩ = some (.int .i64 r.most) ∧ wpa1.cell? ⟨E, 0, none⟩ = some (.slice AC x.calls.length cc) ∧ wpa1.cell? ⟨E, 1, none⟩ = some (.slice AP x.parts.length cp) ∧ wpa1.cell? ⟨E, 2, none⟩ = some (.int .i64 x.over) ∧ wpa1.cell? ⟨P6, 0, none⟩ = some (.int .i64 j)) := Lib.hid (HKP.out _ (Hpa3.out))
          have Epa5 : Hid (Below Np w1p wpa1 ∧ Np ≤ wpa1.heap.size) := Lib.hid (⟨(Bbp.out).1.trans ((hb9).mono (Bbp.out).2), Nat.le_trans (Bbp.out).2 (hb9).size⟩)
          clear hb9
          go_simp
          refine hK.out _ _ (fun h => Kpa4.out) ?_
          clear hK K
          try simp only [Act.put, List.setIfInBounds_toArray, List.set_cons_zero, List.set_cons_succ]
          refine wpLate_two (i := 6) (j := 10) (o := ?oApa6_) (u := ?uApa6_) (by kernel_rfl) ?hoApa6_ ?huApa6_ ?hkApa6_ ?hkBpa6_
          case hoApa6_ => (simp only [List.getElem?_toArray, List.getElem?_cons_zero, List.getElem?_cons_succ]; rfl)
          case huApa6_ => (simp only [List.getElem?_toArray, List.getElem?_cons_zero, List.getElem?_cons_succ]; rfl)
          case hkApa6_ =>
            intro K hK
            go_simp
            refine (HP2.out _ _ _ _ _ Hpa3.out.b Mpa2.out).mono ?_
            rintro e wpac1 ⟨rfl, hb9⟩
            have Hpac2 : Hid (PLW W wpac1 r A c P4 P6 j E x AC AP cc cp (.slice A7 es.length c7) es) := Lib.hid ((Hpa3.out).step hb9)
            have Kpac3 : Hid (wpac1.cell? ⟨P4, 0, none⟩ = some (.slice A r.bases.length c) ∧ wpac1.cell? ⟨P4, 1, none⟩ = some (.int .i64 r.factor) ∧ wpac1.cell? ⟨P4, 2, none⟩ = some (.int .i64 r.most) ∧ wpac1.cell? ⟨E, 0, none⟩ = some (.slice AC x.calls.length cc) ∧ wpac1.cell? ⟨E, 1, none⟩ = some (.slice AP x.parts.length cp) ∧ wpac1.cell? ⟨E, 2, none⟩ = some (.int .i64 x.over) ∧ wpac1.cell? ⟨P6, 0, none⟩ = some (.int .i64 j)) := Lib.hid (HKP.out _ (Hpac2.out))
            have Epac4 : Hid (Below Np w1p wpac1 ∧ Np ≤ wpac1.heap.size) := Lib.hid (⟨(Epa5.out).1.trans ((hb9).mono (Epa5.out).2), Nat.le_trans (Epa5.out).2 (hb9).size⟩)
            have Epac5 : Hid (SkR wpac1 wpac1.heap.size (markP x j 5 40) BC BP) := Lib.hid ((Mpa2.out).step hb9)
            clear hb9
            go_simp
            refine hK.out _ _ (fun h => Kpac3.out) ?_
            clear hK K
            try simp only [Act.put, List.setIfInBounds_toArray, List.set_cons_zero, List.set_cons_succ]
            refine wpLate_take (i := 7) (oi := ?oi7pac6_) (v := ?v7pac6_) [8, 9, 11, 12] ?hi7pac6_ (by kernel_rfl) (by kernel_rfl) (by kernel_rfl) (by kernel_rfl) (by kernel_rfl) ?hQ7pac6_ (Or.inl ⟨?hw7pac6_, ?hy7pac6_⟩) Kpac3.out ?rest7pac6_
            case hi7pac6_ => (simp only [List.getElem?_toArray, List.getElem?_cons_zero, List.getElem?_cons_succ]; rfl)
            case hQ7pac6_ => exact fun _ _ _ h => h
            case hw7pac6_ => rfl
            case hy7pac6_ =>
              intro w' hSw
              obtain ⟨r0, r1, r2, r3, r4, r5, r6⟩ := hSw
              go_simp
              try exact rfl
            try simp only [Act.put, List.setIfInBounds_toArray, List.set_cons_zero, List.set_cons_succ]
            refine wpLate_take (i := 8) (oi := ?oi8pac7_) (v := ?v8pac7_) [11, 12] ?hi8pac7_ (by kernel_rfl) (by kernel_rfl) (by kernel_rfl) (by kernel_rfl) (by kernel_rfl) ?hQ8pac7_ (Or.inl ⟨?hw8pac7_, ?hy8pac7_⟩) Kpac3.out ?rest8pac7_
            case hi8pac7_ => (simp only [List.getElem?_toArray, List.getElem?_cons_zero, List.getElem?_cons_succ]; rfl)
            case hQ8pac7_ => exact fun _ _ _ h => h
            case hw8pac7_ => rfl
            case hy8pac7_ =>
              intro w' hSw
              obtain ⟨r0, r1, r2, r3, r4, r5, r6⟩ := hSw
              go_simp
              try exact rfl
            try simp only [Act.put, List.setIfInBounds_toArray, List.set_cons_zero, List.set_cons_succ]
            refine wpLate_take (i := 9) (oi := ?oi9pac8_) (v := ?v9pac8_) [12] ?hi9pac8_ (by kernel_rfl) (by kernel_rfl) (by kernel_rfl) (by kernel_rfl) (by kernel_rfl) ?hQ9pac8_ (Or.inl ⟨?hw9pac8_, ?hy9pac8_⟩) Kpac3.out ?rest9pac8_
            case hi9pac8_ => (simp only [List.getElem?_toArray, List.getElem?_cons_zero, List.getElem?_cons_succ]; rfl)
            case hQ9pac8_ => exact fun _ _ _ h => h
            case hw9pac8_ => rfl
            case hy9pac8_ =>
              intro w' hSw
              obtain ⟨r0, r1, r2, r3, r4, r5, r6⟩ := hSw
              go_simp
              try exact rfl
            try simp only [Act.put, List.setIfInBounds_toArray, List.set_cons_zero, List.set_cons_succ]
            refine wpLate_one (i := 10) (o := ?o10pac9_) (by kernel_rfl) ?ho10pac9_ ?hk10pac9_
            case ho10pac9_ => (simp only [List.getElem?_toArray, List.getElem?_cons_zero, List.getElem?_cons_succ]; rfl)
            intro K hK
            go_simp
            have Epac12 : Hid (Has (wpac1.alloc (.cells #[.int .i64 0, .int .i64 0, .int .i64 0, .int .i64 0] 33)) wpac1.heap.size 33 #[.int .i64 0, .int .i64 0, .int .i64 0, .int .i64 0] ∧ wpac1.heap.size < (wpac1.alloc (.cells #[.int .i64 0, .int .i64 0, .int .i64 0, .int .i64 0] 33)).heap.size ∧ Np ≤ wpac1.heap.size) := Lib.hid ⟨Has.new _ _ _, by simp, Epac4.out.2⟩
            have Hpac13 : Hid (PLW W (wpac1.alloc (.cells #[.int .i64 0, .int .i64 0, .int .i64 0, .int .i64 0] 33)) r A c P4 P6 j E x AC AP cc cp (.slice A7 es.length c7) es) := Lib.hid ((Hpac2.out).step (below_one wpac1 (.cells #[.int .i64 0, .int .i64 0, .int .i64 0, .int .i64 0] 33)))
            have Kpac14 : Hid ((wpac1.alloc (.cells #[.int .i64 0, .int .i64 0, .int .i64 0, .int .i64 0] 33)).cell? ⟨P4, 0, none⟩ = some (.slice A r.bases.length c) ∧ (wpac1.alloc (.cells #[.int .i64 0, .int .i64 0, .int .i64 0, .int .i64 0] 33)).cell? ⟨P4, 1, none⟩ = some (.int .i64 r.factor) ∧ (wpac1.alloc (.cells #[.int .i64 0, .int .i64 0, .int .i64 0, .int .i64 0] 33)).cell? ⟨P4, 2, none⟩ = some (.int .i64 r.most) ∧ (wpac1.alloc (.cells #[.int .i64 0, .int .i64 0, .int .i64 0, .int .i64 0] 33)).cell? ⟨E, 0, none⟩ = some (.slice AC x.calls.length cc) ∧ (wpac1.alloc (.cells #[.int .i64 0, .int .i64 0, .int .i64 0, .int .i64 0] 33)).cell? ⟨E, 1, none⟩ = some (.slice AP x.parts.length cp) ∧ (wpac1.alloc (.cells #[.int .i64 0, .int .i64 0, .int .i64 0, .int .i64 0] 33)).cell? ⟨E, 2, none⟩ = some (.int .i64 x.over) ∧ (wpac1.alloc (.cells #[.int .i64 0, .int .i64 0, .int .i64 0, .int .i64 0] 33)).cell? ⟨P6, 0, none⟩ = some (.int .i64 j)) := Lib.hid (HKP.out _ (Hpac13.out))
            have Epac15 : Hid (Below Np w1p (wpac1.alloc (.cells #[.int .i64 0, .int .i64 0, .int .i64 0, .int .i64 0] 33)) ∧ Np ≤ (wpac1.alloc (.cells #[.int .i64 0, .int .i64 0, .int .i64 0, .int .i64 0] 33)).heap.size) := Lib.hid (⟨(Epac4.out).1.trans (((below_one wpac1 (.cells #[.int .i64 0, .int .i64 0, .int .i64 0, .int .i64 0] 33))).mono (Epac4.out).2), Nat.le_trans (Epac4.out).2 ((below_one wpac1 (.cells #[.int .i64 0, .int .i64 0, .int .i64 0, .int .i64 0] 33))).size⟩)
            have Epac16 : Hid (SkR (wpac1.alloc (.cells #[.int .i64 0, .int .i64 0, .int .i64 0, .int .i64 0] 33)) (wpac1.alloc (.cells #[.int .i64 0, .int .i64 0, .int .i64 0, .int .i64 0] 33)).heap.size (markP x j 5 40) BC BP) := Lib.hid ((Epac5.out).step (below_one wpac1 (.cells #[.int .i64 0, .int .i64 0, .int .i64 0, .int .i64 0] 33)))
            refine hK.out _ _ (fun h => Kpac14.out) ?_
            clear hK K
            try simp only [Act.put, List.setIfInBounds_toArray, List.set_cons_zero, List.set_cons_succ]
            generalize wpac1.alloc (.cells #[.int .i64 0, .int .i64 0, .int .i64 0, .int .i64 0] 33) = wpac10 at Hpac13 Kpac14 Epac15 Epac16 Epac12 ⊢
            generalize wpac1.heap.size = bpac11 at Epac12 ⊢
            refine wpLate_one (i := 11) (o := ?o11pac17_) (by kernel_rfl) ?ho11pac17_ ?hk11pac17_
            case ho11pac17_ => (simp only [List.getElem?_toArray, List.getElem?_cons_zero, List.getElem?_cons_succ]; rfl)
            intro K hK
            have l0 : wpac10.cell? ⟨bpac11, 0, none⟩ = some (.int .i64 0) := Epac12.out.1.cell 0
            have l1 : wpac10.cell? ⟨bpac11, 1, none⟩ = some (.int .i64 0) := Epac12.out.1.cell 1
            have l2 : wpac10.cell? ⟨bpac11, 2, none⟩ = some (.int .i64 0) := Epac12.out.1.cell 2
            have l3 : wpac10.cell? ⟨bpac11, 3, none⟩ = some (.int .i64 0) := Epac12.out.1.cell 3
            have f0 := Epac12.out.1.frozen 0
            have f1 := Epac12.out.1.frozen 1
            have f2 := Epac12.out.1.frozen 2
            have f3 := Epac12.out.1.frozen 3
            have HFpac : Hid (PLW W ((((wpac10.setCell ⟨bpac11, 0, none⟩ (.int .i64 X.elements)).setCell ⟨bpac11, 1, none⟩ (.int .i64 X.parts)).setCell ⟨bpac11, 2, none⟩ (.int .i64 X.off)).setCell ⟨bpac11, 3, none⟩ (.int .i64 X.total)) r A c P4 P6 j E x AC AP cc cp (.slice A7 es.length c7) es ∧ Has ((((wpac10.setCell ⟨bpac11, 0, none⟩ (.int .i64 X.elements)).setCell ⟨bpac11, 1, none⟩ (.int .i64 X.parts)).setCell ⟨bpac11, 2, none⟩ (.int .i64 X.off)).setCell ⟨bpac11, 3, none⟩ (.int .i64 X.total)) bpac11 33 (scc X)) := Lib.hid ⟨H1p.out.step (by rw [← NHp.out]; exact ((((Epac15.out.1.setCell Epac12.out.2.2 _).setCell Epac12.out.2.2 _).setCell Epac12.out.2.2 _).setCell Epac12.out.2.2 _)), (((Epac12.out.1.set 0 _).set 1 _).set 2 _).set 3 _⟩
            go_simp
            refine hK.out _ _ (fun h => HKP.out _ HFpac.out.1) ?_
            clear hK K
            try simp only [Act.put, List.setIfInBounds_toArray, List.set_cons_zero, List.set_cons_succ]
            refine wpLate_one (i := 12) (o := ?o12pac18_) (by kernel_rfl) ?ho12pac18_ ?hk12pac18_
            case ho12pac18_ => (simp only [List.getElem?_toArray, List.getElem?_cons_zero, List.getElem?_cons_succ]; rfl)
            intro K hK
            go_simp
            refine hK.out _ _ (fun h => HKP.out _ HFpac.out.1) ?_
            clear hK K
            try simp only [Act.put, List.setIfInBounds_toArray, List.set_cons_zero, List.set_cons_succ]
            refine wpLate_done (by kernel_rfl) ?_ _
            try simp only [Act.put, List.setIfInBounds_toArray, List.set_cons_zero, List.set_cons_succ]
            try go_wp2_with fail
            go_meet
            exact ⟨bpac11, rfl, rfl, HFpac⟩
          case hkBpa6_ =>
            intro K hK
            go_simp
            have Epad3 : Hid (Has (wpa1.alloc (.cells #[.int .i64 0, .int .i64 0, .int .i64 0, .int .i64 0] 33)) wpa1.heap.size 33 #[.int .i64 0, .int .i64 0, .int .i64 0, .int .i64 0] ∧ wpa1.heap.size < (wpa1.alloc (.cells #[.int .i64 0, .int .i64 0, .int .i64 0, .int .i64 0] 33)).heap.size ∧ Np ≤ wpa1.heap.size) := Lib.hid ⟨Has.new _ _ _, by simp, Epa5.out.2⟩
            have Hpad4 : Hid (PLW W (wpa1.alloc (.cells #[.int .i64 0, .int .i64 0, .int .i64 0, .int .i64 0] 33)) r A c P4 P6 j E x AC AP cc cp (.slice A7 es.length c7) es) := Lib.hid ((Hpa3.out).step (below_one wpa1 (.cells #[.int .i64 0, .int .i64 0, .int .i64 0, .int .i64 0] 33)))
            have Kpad5 : Hid ((wpa1.alloc (.cells #[.int .i64 0, .int .i64 0, .int .i64 0, .int .i64 0] 33)).cell? ⟨P4, 0, none⟩ = some (.slice A r.bases.length c) ∧ (wpa1.alloc (.cells #[.int .i64 0, .int .i64 0, .int .i64 0, .int .i64 0] 33)).cell? ⟨P4, 1, none⟩ = some (.int .i64 r.factor) ∧ (wpa1.alloc (.cells #[.int .i64 0, .int .i64 0, .int .i64 0, .int .i64 0] 33)).cell? ⟨P4, 2, none⟩ = some (.int .i64 r.most) ∧ (wpa1.alloc (.cells #[.int .i64 0, .int .i64 0, .int .i64 0, .int .i64 0] 33)).cell? ⟨E, 0, none⟩ = some (.slice AC x.calls.length cc) ∧ (wpa1.alloc (.cells #[.int .i64 0, .int .i64 0, .int .i64 0, .int .i64 0] 33)).cell? ⟨E, 1, none⟩ = some (.slice AP x.parts.length cp) ∧ (wpa1.alloc (.cells #[.int .i64 0, .int .i64 0, .int .i64 0, .int .i64 0] 33)).cell? ⟨E, 2, none⟩ = some (.int .i64 x.over) ∧ (wpa1.alloc (.cells #[.int .i64 0, .int .i64 0, .int .i64 0, .int .i64 0] 33)).cell? ⟨P6, 0, none⟩ = some (.int .i64 j)) := Lib.hid (HKP.out _ (Hpad4.out))
            have Epad6 : Hid (Below Np w1p (wpa1.alloc (.cells #[.int .i64 0, .int .i64 0, .int .i64 0, .int .i64 0] 33)) ∧ Np ≤ (wpa1.alloc (.cells #[.int .i64 0, .int .i64 0, .int .i64 0, .int .i64 0] 33)).heap.size) := Lib.hid (⟨(Epa5.out).1.trans (((below_one wpa1 (.cells #[.int .i64 0, .int .i64 0, .int .i64 0, .int .i64 0] 33))).mono (Epa5.out).2), Nat.le_trans (Epa5.out).2 ((below_one wpa1 (.cells #[.int .i64 0, .int .i64 0, .int .i64 0, .int .i64 0] 33))).size⟩)
            have Epad7 : Hid (SkR (wpa1.alloc (.cells #[.int .i64 0, .int .i64 0, .int .i64 0, .int .i64 0] 33)) (wpa1.alloc (.cells #[.int .i64 0, .int .i64 0, .int .i64 0, .int .i64 0] 33)).heap.size (markP x j 5 40) BC BP) := Lib.hid ((Mpa2.out).step (below_one wpa1 (.cells #[.int .i64 0, .int .i64 0, .int .i64 0, .int .i64 0] 33)))
            refine hK.out _ _ (fun h => Kpad5.out) ?_
            clear hK K
            try simp only [Act.put, List.setIfInBounds_toArray, List.set_cons_zero, List.set_cons_succ]
            generalize wpa1.alloc (.cells #[.int .i64 0, .int .i64 0, .int .i64 0, .int .i64 0] 33) = wpad1 at Hpad4 Kpad5 Epad6 Epad7 Epad3 ⊢
            generalize wpa1.heap.size = bpad2 at Epad3 ⊢
            refine wpLate_one (i := 6) (o := ?o6pad8_) (by kernel_rfl) ?ho6pad8_ ?hk6pad8_
            case ho6pad8_ => (simp only [List.getElem?_toArray, List.getElem?_cons_zero, List.getElem?_cons_succ]; rfl)
            intro K hK
            go_simp
            refine (HP2.out _ _ _ _ _ Hpad4.out.b Epad7.out).mono ?_
            rintro e wpad9 ⟨rfl, hb9⟩
            have Hpad10 : Hid (PLW W wpad9 r A c P4 P6 j E x AC AP cc cp (.slice A7 es.length c7) es) := Lib.hid ((Hpad4.out).step hb9)
            have Kpad11 : Hid (wpad9.cell? ⟨P4, 0, none⟩ = some (.slice A r.bases.length c) ∧ wpad9.cell? ⟨P4, 1, none⟩ = some (.int .i64 r.factor) ∧ wpad9.cell? ⟨P4, 2, none⟩ = some (.int .i64 r.most) ∧ wpad9.cell? ⟨E, 0, none⟩ = some (.slice AC x.calls.length cc) ∧ wpad9.cell? ⟨E, 1, none⟩ = some (.slice AP x.parts.length cp) ∧ wpad9.cell? ⟨E, 2, none⟩ = some (.int .i64 x.over) ∧ wpad9.cell? ⟨P6, 0, none⟩ = some (.int .i64 j)) := Lib.hid (HKP.out _ (Hpad10.out))
            have Epad12 : Hid (Below Np w1p wpad9 ∧ Np ≤ wpad9.heap.size) := Lib.hid (⟨(Epad6.out).1.trans ((hb9).mono (Epad6.out).2), Nat.le_trans (Epad6.out).2 (hb9).size⟩)
            have Epad13 : Hid (SkR wpad9 wpad9.heap.size (markP x j 5 40) BC BP) := Lib.hid ((Epad7.out).step hb9)
            have Epad14 : Hid (Has wpad9 bpad2 33 #[.int .i64 0, .int .i64 0, .int .i64 0, .int .i64 0] ∧ bpad2 < wpad9.heap.size ∧ Np ≤ bpad2) := Lib.hid (⟨(Epad3.out).1.below hb9 (Epad3.out).2.1, Nat.lt_of_lt_of_le (Epad3.out).2.1 (hb9).size, (Epad3.out).2.2⟩)
            clear hb9
            go_simp
            refine hK.out _ _ (fun h => Kpad11.out) ?_
            clear hK K
            try simp only [Act.put, List.setIfInBounds_toArray, List.set_cons_zero, List.set_cons_succ]
            refine wpLate_take (i := 7) (oi := ?oi7pad15_) (v := ?v7pad15_) [8, 9, 11, 12] ?hi7pad15_ (by kernel_rfl) (by kernel_rfl) (by kernel_rfl) (by kernel_rfl) (by kernel_rfl) ?hQ7pad15_ (Or.inl ⟨?hw7pad15_, ?hy7pad15_⟩) Kpad11.out ?rest7pad15_
            case hi7pad15_ => (simp only [List.getElem?_toArray, List.getElem?_cons_zero, List.getElem?_cons_succ]; rfl)
            case hQ7pad15_ => exact fun _ _ _ h => h
            case hw7pad15_ => rfl
            case hy7pad15_ =>
              intro w' hSw
              obtain ⟨r0, r1, r2, r3, r4, r5, r6⟩ := hSw
              go_simp
              try exact rfl
            try simp only [Act.put, List.setIfInBounds_toArray, List.set_cons_zero, List.set_cons_succ]
            refine wpLate_take (i := 8) (oi := ?oi8pad16_) (v := ?v8pad16_) [11, 12] ?hi8pad16_ (by kernel_rfl) (by kernel_rfl) (by kernel_rfl) (by kernel_rfl) (by kernel_rfl) ?hQ8pad16_ (Or.inl ⟨?hw8pad16_, ?hy8pad16_⟩) Kpad11.out ?rest8pad16_
            case hi8pad16_ => (simp only [List.getElem?_toArray, List.getElem?_cons_zero, List.getElem?_cons_succ]; rfl)
            case hQ8pad16_ => exact fun _ _ _ h => h
            case hw8pad16_ => rfl
            case hy8pad16_ =>
              intro w' hSw
              obtain ⟨r0, r1, r2, r3, r4, r5, r6⟩ := hSw
              go_simp
              try exact rfl
            try simp only [Act.put, List.setIfInBounds_toArray, List.set_cons_zero, List.set_cons_succ]
            refine wpLate_take (i := 9) (oi := ?oi9pad17_) (v := ?v9pad17_) [12] ?hi9pad17_ (by kernel_rfl) (by kernel_rfl) (by kernel_rfl) (by kernel_rfl) (by kernel_rfl) ?hQ9pad17_ (Or.inl ⟨?hw9pad17_, ?hy9pad17_⟩) Kpad11.out ?rest9pad17_
            case hi9pad17_ => (simp only [List.getElem?_toArray, List.getElem?_cons_zero, List.getElem?_cons_succ]; rfl)
            case hQ9pad17_ => exact fun _ _ _ h => h
            case hw9pad17_ => rfl
            case hy9pad17_ =>
              intro w' hSw
              obtain ⟨r0, r1, r2, r3, r4, r5, r6⟩ := hSw
              go_simp
              try exact rfl
            try simp only [Act.put, List.setIfInBounds_toArray, List.set_cons_zero, List.set_cons_succ]
            refine wpLate_one (i := 11) (o := ?o11pad18_) (by kernel_rfl) ?ho11pad18_ ?hk11pad18_
            case ho11pad18_ => (simp only [List.getElem?_toArray, List.getElem?_cons_zero, List.getElem?_cons_succ]; rfl)
            intro K hK
            have l0 : wpad9.cell? ⟨bpad2, 0, none⟩ = some (.int .i64 0) := Epad14.out.1.cell 0
            have l1 : wpad9.cell? ⟨bpad2, 1, none⟩ = some (.int .i64 0) := Epad14.out.1.cell 1
            have l2 : wpad9.cell? ⟨bpad2, 2, none⟩ = some (.int .i64 0) := Epad14.out.1.cell 2
            have l3 : wpad9.cell? ⟨bpad2, 3, none⟩ = some (.int .i64 0) := Epad14.out.1.cell 3
            have f0 := Epad14.out.1.frozen 0
            have f1 := Epad14.out.1.frozen 1
            have f2 := Epad14.out.1.frozen 2
            have f3 := Epad14.out.1.frozen 3
            have HFpad : Hid (PLW W ((((wpad9.setCell ⟨bpad2, 0, none⟩ (.int .i64 X.elements)).setCell ⟨bpad2, 1, none⟩ (.int .i64 X.parts)).setCell ⟨bpad2, 2, none⟩ (.int .i64 X.off)).setCell ⟨bpad2, 3, none⟩ (.int .i64 X.total)) r A c P4 P6 j E x AC AP cc cp (.slice A7 es.length c7) es ∧ Has ((((wpad9.setCell ⟨bpad2, 0, none⟩ (.int .i64 X.elements)).setCell ⟨bpad2, 1, none⟩ (.int .i64 X.parts)).setCell ⟨bpad2, 2, none⟩ (.int .i64 X.off)).setCell ⟨bpad2, 3, none⟩ (.int .i64 X.total)) bpad2 33 (scc X)) := Lib.hid ⟨H1p.out.step (by rw [← NHp.out]; exact ((((Epad12.out.1.setCell Epad14.out.2.2 _).setCell Epad14.out.2.2 _).setCell Epad14.out.2.2 _).setCell Epad14.out.2.2 _)), (((Epad14.out.1.set 0 _).set 1 _).set 2 _).set 3 _⟩
            go_simp
            refine hK.out _ _ (fun h => HKP.out _ HFpad.out.1) ?_
            clear hK K
            try simp only [Act.put, List.setIfInBounds_toArray, List.set_cons_zero, List.set_cons_succ]
            refine wpLate_one (i := 12) (o := ?o12pad19_) (by kernel_rfl) ?ho12pad19_ ?hk12pad19_
            case ho12pad19_ => (simp only [List.getElem?_toArray, List.getElem?_cons_zero, List.getElem?_cons_succ]; rfl)
            intro K hK
            go_simp
            refine hK.out _ _ (fun h => HKP.out _ HFpad.out.1) ?_
            clear hK K
            try simp only [Act.put, List.setIfInBounds_toArray, List.set_cons_zero, List.set_cons_succ]
            refine wpLate_done (by kernel_rfl) ?_ _
            try simp only [Act.put, List.setIfInBounds_toArray, List.set_cons_zero, List.set_cons_succ]
            try go_wp2_with fail
            go_meet
            exact ⟨bpad2, rfl, rfl, HFpad⟩
        case hkBp6_ =>
          intro K hK
          go_simp
          have Epb3 : Hid (Has (w1p.alloc (.cells #[.int .i64 0, .int .i64 0, .int .i64 0, .int .i64 0] 33)) w1p.heap.size 33 #[.int .i64 0, .int .i64 0, .int .i64 0, .int .i64 0] ∧ w1p.heap.size < (w1p.alloc (.cells #[.int .i64 0, .int .i64 0, .int .i64 0, .int .i64 0] 33)).heap.size ∧ Np ≤ w1p.heap.size) := Lib.hid ⟨Has.new _ _ _, by simp, Bbp.out.2⟩
          have Hpb4 : Hid (PLW W (w1p.alloc (.cells #[.int .i64 0, .int .i64 0, .int .i64 0, .int .i64 0] 33)) r A c P4 P6 j E x AC AP cc cp (.slice A7 es.length c7) es) := Lib.hid ((H1p.out).step (below_one w1p (.cells #[.int .i64 0, .int .i64 0, .int .i64 0, .int .i64 0] 33)))
          have Kpb5 : Hid ((w1p.alloc (.cells #[.int .i64 0, .int .i64 0, .int .i64 0, .int .i64 0] 33)).cell? ⟨P4, 0, none⟩ = some (.slice A r.bases.length c) ∧ (w1p.alloc (.cells #[.int .i64 0, .int .i64 0, .int .i64 0, .int .i64 0] 33)).cell? ⟨P4, 1, none⟩ = some (.int .i64 r.factor) ∧ (w1p.alloc (.cells #[.int .i64 0, .int .i64 0, .int .i64 0, .int .i64 0] 33)).cell? ⟨P4, 2, none⟩ = some (.int .i64 r.most) ∧ (w1p.alloc (.cells #[.int .i64 0, .int .i64 0, .int .i64 0, .int .i64 0] 33)).cell? ⟨E, 0, none⟩ = some (.slice AC x.calls.length cc) ∧ (w1p.alloc (.cells #[.int .i64 0, .int .i64 0, .int .i64 0, .int .i64 0] 33)).cell? ⟨E, 1, none⟩ = some (.slice AP x.parts.length cp) ∧ (w1p.alloc (.cells #[.int .i64 0, .int .i64 0, .int .i64 0, .int .i64 0] 33)).cell? ⟨E, 2, none⟩ = some (.int .i64 x.over) ∧ (w1p.alloc (.cells #[.int .i64 0, .int .i64 0, .int .i64 0, .int .i64 0] 33)).cell? ⟨P6, 0, none⟩ = some (.int .i64 j)) := Lib.hid (HKP.out _ (Hpb4.out))
          have Epb6 : Hid (Below Np w1p (w1p.alloc (.cells #[.int .i64 0, .int .i64 0, .int .i64 0, .int .i64 0] 33)) ∧ Np ≤ (w1p.alloc (.cells #[.int .i64 0, .int .i64 0, .int .i64 0, .int .i64 0] 33)).heap.size) := Lib.hid (⟨(Bbp.out).1.trans (((below_one w1p (.cells #[.int .i64 0, .int .i64 0, .int .i64 0, .int .i64 0] 33))).mono (Bbp.out).2), Nat.le_trans (Bbp.out).2 ((below_one w1p (.cells #[.int .i64 0, .int .i64 0, .int .i64 0, .int .i64 0] 33))).size⟩)
          refine hK.out _ _ (fun h => Kpb5.out) ?_
          clear hK K
          try simp only [Act.put, List.setIfInBounds_toArray, List.set_cons_zero, List.set_cons_succ]
          generalize w1p.alloc (.cells #[.int .i64 0, .int .i64 0, .int .i64 0, .int .i64 0] 33) = wpb1 at Hpb4 Kpb5 Epb6 Epb3 ⊢
          generalize w1p.heap.size = bpb2 at Epb3 ⊢
          refine wpLate_one (i := 5) (o := ?o5pb7_) (by kernel_rfl) ?ho5pb7_ ?hk5pb7_
          case ho5pb7_ => (simp only [List.getElem?_toArray, List.getElem?_cons_zero, List.getElem?_cons_succ]; rfl)
          intro K hK
          go_simp
          refine (HAL.out x HXM.out AC AP cc cp 5 40 _ ((HSK.out.below Hpb4.out.b).more Hpb4.out.b.size)).mono ?_
          rintro e wpb8 ⟨BC, BP, bc, bp, rfl, hsk9, hb9⟩
          have Mpb9 : Hid (SkR wpb8 wpb8.heap.size (markP x j 5 40) BC BP) := Lib.hid hsk9
          clear hsk9
          have Hpb10 : Hid (PLW W wpb8 r A c P4 P6 j E x AC AP cc cp (.slice A7 es.length c7) es) := Lib.hid ((Hpb4.out).step hb9)
          have Kpb11 : Hid (wpb8.cell? ⟨P4, 0, none⟩ = some (.slice A r.bases.length c) ∧ wpb8.cell? ⟨P4, 1, none⟩ = some (.int .i64 r.factor) ∧ wpb8.cell? ⟨P4, 2, none⟩ = some (.int .i64 r.most) ∧ wpb8.cell? ⟨E, 0, none⟩ = some (.slice AC x.calls.length cc) ∧ wpb8.cell? ⟨E, 1, none⟩ = some (.slice AP x.parts.length cp) ∧ wpb8.cell? ⟨E, 2, none⟩ = some (.int .i64 x.over) ∧ wpb8.cell? ⟨P6, 0, none⟩ = some (.int .i64 j)) := Lib.hid (HKP.out _ (Hpb10.out))
          have Epb12 : Hid (Below Np w1p wpb8 ∧ Np ≤ wpb8.heap.size) := Lib.hid (⟨(Epb6.out).1.trans ((hb9).mono (Epb6.out).2), Nat.le_trans (Epb6.out).2 (hb9).size⟩)
          have Epb13 : Hid (Has wpb8 bpb2 33 #[.int .i64 0, .int .i64 0, .int .i64 0, .int .i64 0] ∧ bpb2 < wpb8.heap.size ∧ Np ≤ bpb2) := Lib.hid (⟨(Epb3.out).1.below hb9 (Epb3.out).2.1, Nat.lt_of_lt_of_le (Epb3.out).2.1 (hb9).size, (Epb3.out).2.2⟩)
          clear hb9
          go_simp
          refine hK.out _ _ (fun h => Kpb11.out) ?_
          clear hK K
          try simp only [Act.put, List.setIfInBounds_toArray, List.set_cons_zero, List.set_cons_succ]
          refine wpLate_one (i := 6) (o := ?o6pb14_) (by kernel_rfl) ?ho6pb14_ ?hk6pb14_
          case ho6pb14_ => (simp only [List.getElem?_toArray, List.getElem?_cons_zero, List.getElem?_cons_succ]; rfl)
          intro K hK
          go_simp
          refine (HP2.out _ _ _ _ _ Hpb10.out.b Mpb9.out).mono ?_
          rintro e wpb15 ⟨rfl, hb9⟩
          have Hpb16 : Hid (PLW W wpb15 r A c P4 P6 j E x AC AP cc cp (.slice A7 es.length c7) es) := Lib.hid ((Hpb10.out).step hb9)
          have Kpb17 : Hid (wpb15.cell? ⟨P4, 0, none⟩ = some (.slice A r.bases.length c) ∧ wpb15.cell? ⟨P4, 1, none⟩ = some (.int .i64 r.factor) ∧ wpb15.cell? ⟨P4, 2, none⟩ = some (.int .i64 r.most) ∧ wpb15.cell? ⟨E, 0, none⟩ = some (.slice AC x.calls.length cc) ∧ wpb15.cell? ⟨E, 1, none⟩ = some (.slice AP x.parts.length cp) ∧ wpb15.cell? ⟨E, 2, none⟩ = some (.int .i64 x.over) ∧ wpb15.cell? ⟨P6, 0, none⟩ = some (.int .i64 j)) := Lib.hid (HKP.out _ (Hpb16.out))
          have Epb18 : Hid (Below Np w1p wpb15 ∧ Np ≤ wpb15.heap.size) := Lib.hid (⟨(Epb12.out).1.trans ((hb9).mono (Epb12.out).2), Nat.le_trans (Epb12.out).2 (hb9).size⟩)
          have Epb19 : Hid (Has wpb15 bpb2 33 #[.int .i64 0, .int .i64 0, .int .i64 0, .int .i64 0] ∧ bpb2 < wpb15.heap.size ∧ Np ≤ bpb2) := Lib.hid (⟨(Epb13.out).1.below hb9 (Epb13.out).2.1, Nat.lt_of_lt_of_le (Epb13.out).2.1 (hb9).size, (Epb13.out).2.2⟩)
          have Epb20 : Hid (SkR wpb15 wpb15.heap.size (markP x j 5 40) BC BP) := Lib.hid ((Mpb9.out).step hb9)
          clear hb9
          go_simp
          refine hK.out _ _ (fun h => Kpb17.out) ?_
          clear hK K
          try simp only [Act.put, List.setIfInBounds_toArray, List.set_cons_zero, List.set_cons_succ]
          refine wpLate_take (i := 7) (oi := ?oi7pb21_) (v := ?v7pb21_) [8, 9, 11, 12] ?hi7pb21_ (by kernel_rfl) (by kernel_rfl) (by kernel_rfl) (by kernel_rfl) (by kernel_rfl) ?hQ7pb21_ (Or.inl ⟨?hw7pb21_, ?hy7pb21_⟩) Kpb17.out ?rest7pb21_
          case hi7pb21_ => (simp only [List.getElem?_toArray, List.getElem?_cons_zero, List.getElem?_cons_succ]; rfl)
          case hQ7pb21_ => exact fun _ _ _ h => h
          case hw7pb21_ => rfl
          case hy7pb21_ =>
            intro w' hSw
            obtain ⟨r0, r1, r2, r3, r4, r5, r6⟩ := hSw
            go_simp
            try exact rfl
          try simp only [Act.put, List.setIfInBounds_toArray, List.set_cons_zero, List.set_cons_succ]
          refine wpLate_take (i := 8) (oi := ?oi8pb22_) (v := ?v8pb22_) [11, 12] ?hi8pb22_ (by kernel_rfl) (by kernel_rfl) (by kernel_rfl) (by kernel_rfl) (by kernel_rfl) ?hQ8pb22_ (Or.inl ⟨?hw8pb22_, ?hy8pb22_⟩) Kpb17.out ?rest8pb22_
          case hi8pb22_ => (simp only [List.getElem?_toArray, List.getElem?_cons_zero, List.getElem?_cons_succ]; rfl)
          case hQ8pb22_ => exact fun _ _ _ h => h
          case hw8pb22_ => rfl
          case hy8pb22_ =>
            intro w' hSw
            obtain ⟨r0, r1, r2, r3, r4, r5, r6⟩ := hSw
            go_simp
            try exact rfl
          try simp only [Act.put, List.setIfInBounds_toArray, List.set_cons_zero, List.set_cons_succ]
          refine wpLate_take (i := 9) (oi := ?oi9pb23_) (v := ?v9pb23_) [12] ?hi9pb23_ (by kernel_rfl) (by kernel_rfl) (by kernel_rfl) (by kernel_rfl) (by kernel_rfl) ?hQ9pb23_ (Or.inl ⟨?hw9pb23_, ?hy9pb23_⟩) Kpb17.out ?rest9pb23_
          case hi9pb23_ => (simp only [List.getElem?_toArray, List.getElem?_cons_zero, List.getElem?_cons_succ]; rfl)
          case hQ9pb23_ => exact fun _ _ _ h => h
          case hw9pb23_ => rfl
          case hy9pb23_ =>
            intro w' hSw
            obtain ⟨r0, r1, r2, r3, r4, r5, r6⟩ := hSw
            go_simp
            try exact rfl
          try simp only [Act.put, List.setIfInBounds_toArray, List.set_cons_zero, List.set_cons_succ]
          refine wpLate_one (i := 11) (o := ?o11pb24_) (by kernel_rfl) ?ho11pb24_ ?hk11pb24_
          case ho11pb24_ => (simp only [List.getElem?_toArray, List.getElem?_cons_zero, List.getElem?_cons_succ]; rfl)
          intro K hK
          have l0 : wpb15.cell? ⟨bpb2, 0, none⟩ = some (.int .i64 0) := Epb19.out.1.cell 0
          have l1 : wpb15.cell? ⟨bpb2, 1, none⟩ = some (.int .i64 0) := Epb19.out.1.cell 1
          have l2 : wpb15.cell? ⟨bpb2, 2, none⟩ = some (.int .i64 0) := Epb19.out.1.cell 2
          have l3 : wpb15.cell? ⟨bpb2, 3, none⟩ = some (.int .i64 0) := Epb19.out.1.cell 3
          have f0 := Epb19.out.1.frozen 0
          have f1 := Epb19.out.1.frozen 1
          have f2 := Epb19.out.1.frozen 2
          have f3 := Epb19.out.1.frozen 3
          have HFpb : Hid (PLW W ((((wpb15.setCell ⟨bpb2, 0, none⟩ (.int .i64 X.elements)).setCell ⟨bpb2, 1, none⟩ (.int .i64 X.parts)).setCell ⟨bpb2, 2, none⟩ (.int .i64 X.off)).setCell ⟨bpb2, 3, none⟩ (.int .i64 X.total)) r A c P4 P6 j E x AC AP cc cp (.slice A7 es.length c7) es ∧ Has ((((wpb15.setCell ⟨bpb2, 0, none⟩ (.int .i64 X.elements)).setCell ⟨bpb2, 1, none⟩ (.int .i64 X.parts)).setCell ⟨bpb2, 2, none⟩ (.int .i64 X.off)).setCell ⟨bpb2, 3, none⟩ (.int .i64 X.total)) bpb2 33 (scc X)) := Lib.hid ⟨H1p.out.step (by rw [← NHp.out]; exact ((((Epb18.out.1.setCell Epb19.out.2.2 _).setCell Epb19.out.2.2 _).setCell Epb19.out.2.2 _).setCell Epb19.out.2.2 _)), (((Epb19.out.1.set 0 _).set 1 _).set 2 _).set 3 _⟩
          go_simp
          refine hK.out _ _ (fun h => HKP.out _ HFpb.out.1) ?_
          clear hK K
          try simp only [Act.put, List.setIfInBounds_toArray, List.set_cons_zero, List.set_cons_succ]
          refine wpLate_one (i := 12) (o := ?o12pb25_) (by kernel_rfl) ?ho12pb25_ ?hk12pb25_
          case ho12pb25_ => (simp only [List.getElem?_toArray, List.getElem?_cons_zero, List.getElem?_cons_succ]; rfl)
          intro K hK
          go_simp
          refine hK.out _ _ (fun h => HKP.out _ HFpb.out.1) ?_
          clear hK K
          try simp only [Act.put, List.setIfInBounds_toArray, List.set_cons_zero, List.set_cons_succ]
          refine wpLate_done (by kernel_rfl) ?_ _
          try simp only [Act.put, List.setIfInBounds_toArray, List.set_cons_zero, List.set_cons_succ]
          try go_wp2_with fail
          go_meet
          exact ⟨bpb2, rfl, rfl, HFpb⟩
      case rest =>
        obtain ⟨b9, rfl, rfl, H9⟩ := hcut
        rename World => w9
        clear H1 HKP HAL HPR HP2
        have l0 : w9.cell? ⟨b9, 0, none⟩ = some (.int .i64 X.elements) := H9.out.2.cell 0
        have l1 : w9.cell? ⟨b9, 1, none⟩ = some (.int .i64 X.parts) := H9.out.2.cell 1
        have l2 : w9.cell? ⟨b9, 2, none⟩ = some (.int .i64 X.off) := H9.out.2.cell 2
        have l3 : w9.cell? ⟨b9, 3, none⟩ = some (.int .i64 X.total) := H9.out.2.cell 3
        have HO9 : Hid ((w9.alloc (.cells (scc X) 33)).ownsRow W.heap.size 33 4 (.slice A7 es.length c7) es.length (nvl scc es)) := Lib.hid (own_step H9.out.1.o (below_one _ _))
        have HNEW := Lib.hid (sc_new (Has.new w9 33 (scc X)))
        have HB9 := Lib.hid H9.out.1.b
        clear H9
        go_wp2_with (at_builtin; refine wpList_append_lies _ rfl _ _ 41 rfl W.heap.size 33 i0 (.agg #[.int .i64 0, .int .i64 0, .int .i64 0, .int .i64 0]) 4 32 Try.underlying41 hi hz0 hz1 hz2 rfl (by decide) (.slice A7 es.length c7) es.length (nvl scc es) rfl HO9.out ⟨w9.heap.size, 0, none⟩ 1 1 (nvl scc [X]) rfl ?r1 HNEW.out (nvl_one scc_one _) ?r2 ?r3 ?r4 ?r5 _ rfl ?_)
        case r1 => rfl
        case r2 => omega
        case r3 => unfold maxLen; omega
        case r4 => omega
        case r5 => have := HB9.out.size; simp; omega
        rintro g1 cap1 w5 hown1 hgr1 hgg1 hlt1
        have H5 := Lib.hid (And.intro ((HB9.out.trans ((below_one w9 (.cells (scc X) 33)).mono HB9.out.size)).trans (grown_step hgr1 (by have := HB9.out.size; simp; omega) (fun b hb => (own_block HO9.out b hb).1))) hown1)
        clear hown1 hgr1 hgg1 hlt1 l0 l1 l2 l3 HO9 HNEW
        go_wp2_with fail
        go_roundg (l.length - (k + 1))
        case measure => omega
        case rel => exact ⟨k + 1, by omega, Nat.le_refl _, by go_num, es ++ [X], Lib.hid ⟨H5.out.1, by rw [nvl_append, List.length_append]; exact H5.out.2, HNY.out⟩⟩
    · have q : (b == ((k : Int) == (w : Int))) = false := by
        have hz : ((k : Int) == (w : Int)) = decide (k = w) := by
          by_cases h : k = w
          · simp [h]
          · have : ¬ (k : Int) = w := by omega
            simp [h, this]
        rw [hz]
        exact beq_false_of_ne hbk
      have HNY := Lib.hid (HNX.out _ rfl)
      rw [if_neg hbk] at HNY
      clear hbk HNX
      obtain ⟨X, hX⟩ : ∃ X, X = progP r (markP x j (-5) 0) := ⟨_, rfl⟩
      have HP2 := Lib.hid (fun AC AP cc cp w hb hsk => HPR.out x HXM.out (-5) 0 (by omega) AC AP cc cp w hb hsk)
      rw [← hX] at HNY HP2
      clear hX
      go_upto_region 8 with fail
      go_cut [12, 13] (fun u12 u13 wx => ∃ b9, u12 = .pointer (some ⟨b9, 0, none⟩) ∧ u13 = .int .i64 0 ∧ Hid (PLW W wx r A c P4 P6 j E x AC AP cc cp (.slice A7 es.length c7) es ∧ Has wx b9 33 (scc X)))
      case first =>
        have H1n : Hid (PLW W w1.drew r A c P4 P6 j E x AC AP cc cp (.slice A7 es.length c7) es) := Lib.hid (H1.out.1.step ((Below.refl _ _).drew))
        have K1n : Hid (w1.drew.cell? ⟨P4, 0, none⟩ = some (.slice A r.bases.length c) ∧ w1.drew.cell? ⟨P4, 1, none⟩ = some (.int .i64 r.factor) ∧ w1.drew.cell? ⟨P4, 2, none⟩ = some (.int .i64 r.most) ∧ w1.drew.cell? ⟨E, 0, none⟩ = some (.slice AC x.calls.length cc) ∧ w1.drew.cell? ⟨E, 1, none⟩ = some (.slice AP x.parts.length cp) ∧ w1.drew.cell? ⟨E, 2, none⟩ = some (.int .i64 x.over) ∧ w1.drew.cell? ⟨P6, 0, none⟩ = some (.int .i64 j)) := Lib.hid (HKP.out _ H1n.out)
        clear p11 q
        refine wp_region_late (fun w' : World => w'.cell? ⟨P4, 0, none⟩ = some (.slice A r.bases.length c) ∧ w'.cell? ⟨P4, 1, none⟩ = some (.int .i64 r.factor) ∧ w'.cell? ⟨P4, 2, none⟩ = some (.int .i64 r.most) ∧ w'.cell? ⟨E, 0, none⟩ = some (.slice AC x.calls.length cc) ∧ w'.cell? ⟨E, 1, none⟩ = some (.slice AP x.parts.length cp) ∧ w'.cell? ⟨E, 2, none⟩ = some (.int .i64 x.over) ∧ w'.cell? ⟨P6, 0, none⟩ = some (.int .i64 j)) [] (by kernel_rfl) ?_
        generalize w1.drew = w1n at H1n K1n ⊢
        obtain ⟨Nn, hNn⟩ : ∃ N, N = w1n.heap.size := ⟨_, rfl⟩
        have Bbn : Hid (Below Nn w1n w1n ∧ Nn ≤ w1n.heap.size) := Lib.hid ⟨Below.refl _ _, Nat.le_of_eq hNn⟩
        have NHn := Lib.hid hNn
        clear hNn
        refine wpLate_take (i := 0) (oi := ?oi0n1_) (v := ?v0n1_) [6, 7, 8, 9, 11, 12] ?hi0n1_ (by kernel_rfl) (by kernel_rfl) (by kernel_rfl) (by kernel_rfl) (by kernel_rfl) ?hQ0n1_ (Or.inl ⟨?hw0n1_, ?hy0n1_⟩) K1n.out ?rest0n1_
        case hi0n1_ => (simp only [List.getElem?_toArray, List.getElem?_cons_zero]; rfl)
        case hQ0n1_ => exact fun _ _ _ h => h
        case hw0n1_ => rfl
        case hy0n1_ =>
          intro w' hSw
          obtain ⟨r0, r1, r2, r3, r4, r5, r6⟩ := hSw
          go_simp
          try exact rfl
        try simp only [Act.put, List.setIfInBounds_toArray, List.set_cons_zero, List.set_cons_succ]
        refine wpLate_take (i := 1) (oi := ?oi1n2_) (v := ?v1n2_) [5, 6, 7, 8, 9, 11, 12] ?hi1n2_ (by kernel_rfl) (by kernel_rfl) (by kernel_rfl) (by kernel_rfl) (by kernel_rfl) ?hQ1n2_ (Or.inl ⟨?hw1n2_, ?hy1n2_⟩) K1n.out ?rest1n2_
        case hi1n2_ => (simp only [List.getElem?_toArray, List.getElem?_cons_zero, List.getElem?_cons_succ]; rfl)
        case hQ1n2_ => exact fun _ _ _ h => h
        case hw1n2_ => rfl
        case hy1n2_ =>
          intro w' hSw
          obtain ⟨r0, r1, r2, r3, r4, r5, r6⟩ := hSw
          go_simp
          try exact rfl
        try simp only [Act.put, List.setIfInBounds_toArray, List.set_cons_zero, List.set_cons_succ]
        refine wpLate_take (i := 2) (oi := ?oi2n3_) (v := ?v2n3_) [5, 6, 7, 8, 9, 11, 12] ?hi2n3_ (by kernel_rfl) (by kernel_rfl) (by kernel_rfl) (by kernel_rfl) (by kernel_rfl) ?hQ2n3_ (Or.inl ⟨?hw2n3_, ?hy2n3_⟩) K1n.out ?rest2n3_
        case hi2n3_ => (simp only [List.getElem?_toArray, List.getElem?_cons_zero, List.getElem?_cons_succ]; rfl)
        case hQ2n3_ => exact fun _ _ _ h => h
        case hw2n3_ => rfl
        case hy2n3_ =>
          intro w' hSw
          obtain ⟨r0, r1, r2, r3, r4, r5, r6⟩ := hSw
          go_simp
          try exact rfl
        try simp only [Act.put, List.setIfInBounds_toArray, List.set_cons_zero, List.set_cons_succ]
        refine wpLate_take (i := 3) (oi := ?oi3n4_) (v := ?v3n4_) [5, 6, 7, 8, 9, 11, 12] ?hi3n4_ (by kernel_rfl) (by kernel_rfl) (by kernel_rfl) (by kernel_rfl) (by kernel_rfl) ?hQ3n4_ (Or.inl ⟨?hw3n4_, ?hy3n4_⟩) K1n.out ?rest3n4_
        case hi3n4_ => (simp only [List.getElem?_toArray, List.getElem?_cons_zero, List.getElem?_cons_succ]; rfl)
        case hQ3n4_ => exact fun _ _ _ h => h
        case hw3n4_ => rfl
        case hy3n4_ =>
          intro w' hSw
          obtain ⟨r0, r1, r2, r3, r4, r5, r6⟩ := hSw
          go_simp
          try exact rfl
        try simp only [Act.put, List.setIfInBounds_toArray, List.set_cons_zero, List.set_cons_succ]
        refine wpLate_take (i := 4) (oi := ?oi4n5_) (v := ?v4n5_) [5, 6, 7, 8, 9, 11, 12] ?hi4n5_ (by kernel_rfl) (by kernel_rfl) (by kernel_rfl) (by kernel_rfl) (by kernel_rfl) ?hQ4n5_ (Or.inl ⟨?hw4n5_, ?hy4n5_⟩) K1n.out ?rest4n5_
        case hi4n5_ => (simp only [List.getElem?_toArray, List.getElem?_cons_zero, List.getElem?_cons_succ]; rfl)
        case hQ4n5_ => exact fun _ _ _ h => h
        case hw4n5_ => rfl
        case hy4n5_ =>
          intro w' hSw
          obtain ⟨r0, r1, r2, r3, r4, r5, r6⟩ := hSw
          go_simp
          try exact rfl
        try simp only [Act.put, List.setIfInBounds_toArray, List.set_cons_zero, List.set_cons_succ]
        refine wpLate_two (i := 5) (j := 10) (o := ?oAn6_) (u := ?uAn6_) (by kernel_rfl) ?hoAn6_ ?huAn6_ ?hkAn6_ ?hkBn6_
        case hoAn6_ => (simp only [List.getElem?_toArray, List.getElem?_cons_zero, List.getElem?_cons_succ]; rfl)
        case huAn6_ => (simp only [List.getElem?_toArray, List.getElem?_cons_zero, List.getElem?_cons_succ]; rfl)
        case hkAn6_ =>
          intro K hK
          go_simp
          refine (HAL.out x HXM.out AC AP cc cp (-5) 0 _ ((HSK.out.below H1n.out.b).more H1n.out.b.size)).mono ?_
          rintro e wna1 ⟨BC, BP, bc, bp, rfl, hsk9, hb9⟩
          have Mna2 : Hid (SkR wna1 wna1.heap.size (markP x j (-5) 0) BC BP) := Lib.hid hsk9
          clear hsk9
          have Hna3 : Hid (PLW W wna1 r A c P4 P6 j E x AC AP cc cp (.slice A7 es.length c7) es) := Lib.hid ((H1n.out).step hb9)
          have Kna4 : Hid (wna1.cell? ⟨P4, 0, none⟩ = some (.slice A r.bases.length c) ∧ wna1.cell? ⟨P4, 1, none⟩ = some (.int .i64 r.factor) ∧ wna1.cell? ⟨P4, 2, none⟩ = some (.int .i64 r.most) ∧ wna1.cell? ⟨E, 0, none⟩ = some (.slice AC x.calls.length cc) ∧ wna1.cell? ⟨E, 1, none⟩ = some (.slice AP x.parts.length cp) ∧ wna1.cell? ⟨E, 2, none⟩ = some (.int .i64 x.over) ∧ wna1.cell? ⟨P6, 0, none⟩ = some (.int .i64 j)) := Lib.hid (HKP.out _ (Hna3.out))
          have Ena5 : Hid (Below Nn w1n wna1 ∧ Nn ≤ wna1.heap.size) := Lib.hid (⟨(Bbn.out).1.trans ((hb9).mono (Bbn.out).2), Nat.le_trans (Bbn.out).2 (hb9).size⟩)
          clear hb9
          go_simp
          refine hK.out _ _ (fun h => Kna4.out) ?_
          clear hK K
          try simp only [Act.put, List.setIfInBounds_toArray, List.set_cons_zero, List.set_cons_succ]
          refine wpLate_two (i := 6) (j := 10) (o := ?oAna6_) (u := ?uAna6_) (by kernel_rfl) ?hoAna6_ ?huAna6_ ?hkAna6_ ?hkBna6_
          case hoAna6_ => (simp only [List.getElem?_toArray, List.getElem?_cons_zero, List.getElem?_cons_succ]; rfl)
          case huAna6_ => (simp only [List.getElem?_toArray, List.getElem?_cons_zero, List.getElem?_cons_succ]; rfl)
          case hkAna6_ =>
            intro K hK
            go_simp
            refine (HP2.out _ _ _ _ _ Hna3.out.b Mna2.out).mono ?_
            rintro e wnac1 ⟨rfl, hb9⟩
            have Hnac2 : Hid (PLW W wnac1 r A c P4 P6 j E x AC AP cc cp (.slice A7 es.length c7) es) := Lib.hid ((Hna3.out).step hb9)
            have Knac3 : Hid (wnac1.cell? ⟨P4, 0, none⟩ = some (.slice A r.bases.length c) ∧ wnac1.cell? ⟨P4, 1, none⟩ = some (.int .i64 r.factor) ∧ wnac1.cell? ⟨P4, 2, none⟩ = some (.int .i64 r.most) ∧ wnac1.cell? ⟨E, 0, none⟩ = some (.slice AC x.calls.length cc) ∧ wnac1.cell? ⟨E, 1, none⟩ = some (.slice AP x.parts.length cp) ∧ wnac1.cell? ⟨E, 2, none⟩ = some (.int .i64 x.over) ∧ wnac1.cell? ⟨P6, 0, none⟩ = some (.int .i64 j)) := Lib.hid (HKP.out _ (Hnac2.out))
            have Enac4 : Hid (Below Nn w1n wnac1 ∧ Nn ≤ wnac1.heap.size) := Lib.hid (⟨(Ena5.out).1.trans ((hb9).mono (Ena5.out).2), Nat.le_trans (Ena5.out).2 (hb9).size⟩)
            have Enac5 : Hid (SkR wnac1 wnac1.heap.size (markP x j (-5) 0) BC BP) := Lib.hid ((Mna2.out).step hb9)
            clear hb9
            go_simp
            refine hK.out _ _ (fun h => Knac3.out) ?_
            clear hK K
            try simp only [Act.put, List.setIfInBounds_toArray, List.set_cons_zero, List.set_cons_succ]
            refine wpLate_take (i := 7) (oi := ?oi7nac6_) (v := ?v7nac6_) [8, 9, 11, 12] ?hi7nac6_ (by kernel_rfl) (by kernel_rfl) (by kernel_rfl) (by kernel_rfl) (by kernel_rfl) ?hQ7nac6_ (Or.inl ⟨?hw7nac6_, ?hy7nac6_⟩) Knac3.out ?rest7nac6_
            case hi7nac6_ => (simp only [List.getElem?_toArray, List.getElem?_cons_zero, List.getElem?_cons_succ]; rfl)
            case hQ7nac6_ => exact fun _ _ _ h => h
            case hw7nac6_ => rfl
            case hy7nac6_ =>
              intro w' hSw
              obtain ⟨r0, r1, r2, r3, r4, r5, r6⟩ := hSw
              go_simp
              try exact rfl
            try simp only [Act.put, List.setIfInBounds_toArray, List.set_cons_zero, List.set_cons_succ]
            refine wpLate_take (i := 8) (oi := ?oi8nac7_) (v := ?v8nac7_) [11, 12] ?hi8nac7_ (by kernel_rfl) (by kernel_rfl) (by kernel_rfl) (by kernel_rfl) (by kernel_rfl) ?hQ8nac7_ (Or.inl ⟨?hw8nac7_, ?hy8nac7_⟩) Knac3.out ?rest8nac7_
            case hi8nac7_ => (simp only [List.getElem?_toArray, List.getElem?_cons_zero, List.getElem?_cons_succ]; rfl)
            case hQ8nac7_ => exact fun _ _ _ h => h
            case hw8nac7_ => rfl
            case hy8nac7_ =>
              intro w' hSw
              obtain ⟨r0, r1, r2, r3, r4, r5, r6⟩ := hSw
              go_simp
              try exact rfl
            try simp only [Act.put, List.setIfInBounds_toArray, List.set_cons_zero, List.set_cons_succ]
            refine wpLate_take (i := 9) (oi := ?oi9nac8_) (v := ?v9nac8_) [12] ?hi9nac8_ (by kernel_rfl) (by kernel_rfl) (by kernel_rfl) (by kernel_rfl) (by kernel_rfl) ?hQ9nac8_ (Or.inl ⟨?hw9nac8_, ?hy9nac8_⟩) Knac3.out ?rest9nac8_
            case hi9nac8_ => (simp only [List.getElem?_toArray, List.getElem?_cons_zero, List.getElem?_cons_succ]; rfl)
            case hQ9nac8_ => exact fun _ _ _ h => h
            case hw9nac8_ => rfl
            case hy9nac8_ =>
              intro w' hSw
              obtain ⟨r0, r1, r2, r3, r4, r5, r6⟩ := hSw
              go_simp
              try exact rfl
            try simp only [Act.put, List.setIfInBounds_toArray, List.set_cons_zero, List.set_cons_succ]
            refine wpLate_one (i := 10) (o := ?o10nac9_) (by kernel_rfl) ?ho10nac9_ ?hk10nac9_
            case ho10nac9_ => (simp only [List.getElem?_toArray, List.getElem?_cons_zero, List.getElem?_cons_succ]; rfl)
            intro K hK
            go_simp
            have Enac12 : Hid (Has (wnac1.alloc (.cells #[.int .i64 0, .int .i64 0, .int .i64 0, .int .i64 0] 33)) wnac1.heap.size 33 #[.int .i64 0, .int .i64 0, .int .i64 0, .int .i64 0] ∧ wnac1.heap.size < (wnac1.alloc (.cells #[.int .i64 0, .int .i64 0, .int .i64 0, .int .i64 0] 33)).heap.size ∧ Nn ≤ wnac1.heap.size) := Lib.hid ⟨Has.new _ _ _, by simp, Enac4.out.2⟩
            have Hnac13 : Hid (PLW W (wnac1.alloc (.cells #[.int .i64 0, .int .i64 0, .int .i64 0, .int .i64 0] 33)) r A c P4 P6 j E x AC AP cc cp (.slice A7 es.length c7) es) := Lib.hid ((Hnac2.out).step (below_one wnac1 (.cells #[.int .i64 0, .int .i64 0, .int .i64 0, .int .i64 0] 33)))
            have Knac14 : Hid ((wnac1.alloc (.cells #[.int .i64 0, .int .i64 0, .int .i64 0, .int .i64 0] 33)).cell? ⟨P4, 0, none⟩ = some (.slice A r.bases.length c) ∧ (wnac1.alloc (.cells #[.int .i64 0, .int .i64 0, .int .i64 0, .int .i64 0] 33)).cell? ⟨P4, 1, none⟩ = some (.int .i64 r.factor) ∧ (wnac1.alloc (.cells #[.int .i64 0, .int .i64 0, .int .i64 0, .int .i64 0] 33)).cell? ⟨P4, 2, none⟩ = some (.int .i64 r.most) ∧ (wnac1.alloc (.cells #[.int .i64 0, .int .i64 0, .int .i64 0, .int .i64 0] 33)).cell? ⟨E, 0, none⟩ = some (.slice AC x.calls.length cc) ∧ (wnac1.alloc (.cells #[.int .i64 0, .int .i64 0, .int .i64 0, .int .i64 0] 33)).cell? ⟨E, 1, none⟩ = some (.slice AP x.parts.length cp) ∧ (wnac1.alloc (.cells #[.int .i64 0, .int .i64 0, .int .i64 0, .int .i64 0] 33)).cell? ⟨E, 2, none⟩ = some (.int .i64 x.over) ∧ (wnac1.alloc (.cells #[.int .i64 0, .int .i64 0, .int .i64 0, .int .i64 0] 33)).cell? ⟨P6, 0, none⟩ = some (.int .i64 j)) := Lib.hid (HKP.out _ (Hnac13.out))
            have Enac15 : Hid (Below Nn w1n (wnac1.alloc (.cells #[.int .i64 0, .int .i64 0, .int .i64 0, .int .i64 0] 33)) ∧ Nn ≤ (wnac1.alloc (.cells #[.int .i64 0, .int .i64 0, .int .i64 0, .int .i64 0] 33)).heap.size) := Lib.hid (⟨(Enac4.out).1.trans (((below_one wnac1 (.cells #[.int .i64 0, .int .i64 0, .int .i64 0, .int .i64 0] 33))).mono (Enac4.out).2), Nat.le_trans (Enac4.out).2 ((below_one wnac1 (.cells #[.int .i64 0, .int .i64 0, .int .i64 0, .int .i64 0] 33))).size⟩)
            have Enac16 : Hid (SkR (wnac1.alloc (.cells #[.int .i64 0, .int .i64 0, .int .i64 0, .int .i64 0] 33)) (wnac1.alloc (.cells #[.int .i64 0, .int .i64 0, .int .i64 0, .int .i64 0] 33)).heap.size (markP x j (-5) 0) BC BP) := Lib.hid ((Enac5.out).step (below_one wnac1 (.cells #[.int .i64 0, .int .i64 0, .int .i64 0, .int .i64 0] 33)))
            refine hK.out _ _ (fun h => Knac14.out) ?_
            clear hK K
            try simp only [Act.put, List.setIfInBounds_toArray, List.set_cons_zero, List.set_cons_succ]
            generalize wnac1.alloc (.cells #[.int .i64 0, .int .i64 0, .int .i64 0, .int .i64 0] 33) = wnac10 at Hnac13 Knac14 Enac15 Enac16 Enac12 ⊢
            generalize wnac1.heap.size = bnac11 at Enac12 ⊢
            refine wpLate_one (i := 11) (o := ?o11nac17_) (by kernel_rfl) ?ho11nac17_ ?hk11nac17_
            case ho11nac17_ => (simp only [List.getElem?_toArray, List.getElem?_cons_zero, List.getElem?_cons_succ]; rfl)
            intro K hK
            have l0 : wnac10.cell? ⟨bnac11, 0, none⟩ = some (.int .i64 0) := Enac12.out.1.cell 0
            have l1 : wnac10.cell? ⟨bnac11, 1, none⟩ = some (.int .i64 0) := Enac12.out.1.cell 1
            have l2 : wnac10.cell? ⟨bnac11, 2, none⟩ = some (.int .i64 0) := Enac12.out.1.cell 2
            have l3 : wnac10.cell? ⟨bnac11, 3, none⟩ = some (.int .i64 0) := Enac12.out.1.cell 3
            have f0 := Enac12.out.1.frozen 0
            have f1 := Enac12.out.1.frozen 1
            have f2 := Enac12.out.1.frozen 2
            have f3 := Enac12.out.1.frozen 3
            have HFnac : Hid (PLW W ((((wnac10.setCell ⟨bnac11, 0, none⟩ (.int .i64 X.elements)).setCell ⟨bnac11, 1, none⟩ (.int .i64 X.parts)).setCell ⟨bnac11, 2, none⟩ (.int .i64 X.off)).setCell ⟨bnac11, 3, none⟩ (.int .i64 X.total)) r A c P4 P6 j E x AC AP cc cp (.slice A7 es.length c7) es ∧ Has ((((wnac10.setCell ⟨bnac11, 0, none⟩ (.int .i64 X.elements)).setCell ⟨bnac11, 1, none⟩ (.int .i64 X.parts)).setCell ⟨bnac11, 2, none⟩ (.int .i64 X.off)).setCell ⟨bnac11, 3, none⟩ (.int .i64 X.total)) bnac11 33 (scc X)) := Lib.hid ⟨H1n.out.step (by rw [← NHn.out]; exact ((((Enac15.out.1.setCell Enac12.out.2.2 _).setCell Enac12.out.2.2 _).setCell Enac12.out.2.2 _).setCell Enac12.out.2.2 _)), (((Enac12.out.1.set 0 _).set 1 _).set 2 _).set 3 _⟩
            go_simp
            refine hK.out _ _ (fun h => HKP.out _ HFnac.out.1) ?_
            clear hK K
            try simp only [Act.put, List.setIfInBounds_toArray, List.set_cons_zero, List.set_cons_succ]
            refine wpLate_one (i := 12) (o := ?o12nac18_) (by kernel_rfl) ?ho12nac18_ ?hk12nac18_
            case ho12nac18_ => (simp only [List.getElem?_toArray, List.getElem?_cons_zero, List.getElem?_cons_succ]; rfl)
            intro K hK
            go_simp
            refine hK.out _ _ (fun h => HKP.out _ HFnac.out.1) ?_
            clear hK K
            try simp only [Act.put, List.setIfInBounds_toArray, List.set_cons_zero, List.set_cons_succ]
            refine wpLate_done (by kernel_rfl) ?_ _
            try simp only [Act.put, List.setIfInBounds_toArray, List.set_cons_zero, List.set_cons_succ]
            try go_wp2_with fail
            go_meet
            exact ⟨bnac11, rfl, rfl, HFnac⟩
          case hkBna6_ =>
            intro K hK
            go_simp
            have Enad3 : Hid (Has (wna1.alloc (.cells #[.int .i64 0, .int .i64 0, .int .i64 0, .int .i64 0] 33)) wna1.heap.size 33 #[.int .i64 0, .int .i64 0, .int .i64 0, .int .i64 0] ∧ wna1.heap.size < (wna1.alloc (.cells #[.int .i64 0, .int .i64 0, .int .i64 0, .int .i64 0] 33)).heap.size ∧ Nn ≤ wna1.heap.size) := Lib.hid ⟨Has.new _ _ _, by simp, Ena5.out.2⟩
            have Hnad4 : Hid (PLW W (wna1.alloc (.cells #[.int .i64 0, .int .i64 0, .int .i64 0, .int .i64 0] 33)) r A c P4 P6 j E x AC AP cc cp (.slice A7 es.length c7) es) := Lib.hid ((Hna3.out).step (below_one wna1 (.cells #[.int .i64 0, .int .i64 0, .int .i64 0, .int .i64 0] 33)))
            have Knad5 : Hid ((wna1.alloc (.cells #[.int .i64 0, .int .i64 0, .int .i64 0, .int .i64 0] 33)).cell? ⟨P4, 0, none⟩ = some (.slice A r.bases.length c) ∧ (wna1.alloc (.cells #[.int .i64 0, .int .i64 0, .int .i64 0, .int .i64 0] 33)).cell? ⟨P4, 1, none⟩ = some (.int .i64 r.factor) ∧ (wna1.alloc (.cells #[.int .i64 0, .int .i64 0, .int .i64 0, .int .i64 0] 33)).cell? ⟨P4, 2, none⟩ = some (.int .i64 r.most) ∧ (wna1.alloc (.cells #[.int .i64 0, .int .i64 0, .int .i64 0, .int .i64 0] 33)).cell? ⟨E, 0, none⟩ = some (.slice AC x.calls.length cc) ∧ (wna1.alloc (.cells #[.int .i64 0, .int .i64 0, .int .i64 0, .int .i64 0] 33)).cell? ⟨E, 1, none⟩ = some (.slice AP x.parts.length cp) ∧ (wna1.alloc (.cells #[.int .i64 0, .int .i64 0, .int .i64 0, .int .i64 0] 33)).cell? ⟨E, 2, none⟩ = some (.int .i64 x.over) ∧ (wna1.alloc (.cells #[.int .i64 0, .int .i64 0, .int .i64 0, .int .i64 0] 33)).cell? ⟨P6, 0, none⟩ = some (.int .i64 j)) := Lib.hid (HKP.out _ (Hnad4.out))
            have Enad6 : Hid (Below Nn w1n (wna1.alloc (.cells #[.int .i64 0, .int .i64 0, .int .i64 0, .int .i64 0] 33)) ∧ Nn ≤ (wna1.alloc (.cells #[.int .i64 0, .int .i64 0, .int .i64 0, .int .i64 0] 33)).heap.size) := Lib.hid (⟨(Ena5.out).1.trans (((below_one wna1 (.cells #[.int .i64 0, .int .i64 0, .int .i64 0, .int .i64 0] 33))).mono (Ena5.out).2), Nat.le_trans (Ena5.out).2 ((below_one wna1 (.cells #[.int .i64 0, .int .i64 0, .int .i64 0, .int .i64 0] 33))).size⟩)
            have Enad7 : Hid (SkR (wna1.alloc (.cells #[.int .i64 0, .int .i64 0, .int .i64 0, .int .i64 0] 33)) (wna1.alloc (.cells #[.int .i64 0, .int .i64 0, .int .i64 0, .int .i64 0] 33)).heap.size (markP x j (-5) 0) BC BP) := Lib.hid ((Mna2.out).step (below_one wna1 (.cells #[.int .i64 0, .int .i64 0, .int .i64 0, .int .i64 0] 33)))
            refine hK.out _ _ (fun h => Knad5.out) ?_
            clear hK K
            try simp only [Act.put, List.setIfInBounds_toArray, List.set_cons_zero, List.set_cons_succ]
            generalize wna1.alloc (.cells #[.int .i64 0, .int .i64 0, .int .i64 0, .int .i64 0] 33) = wnad1 at Hnad4 Knad5 Enad6 Enad7 Enad3 ⊢
            generalize wna1.heap.size = bnad2 at Enad3 ⊢
            refine wpLate_one (i := 6) (o := ?o6nad8_) (by kernel_rfl) ?ho6nad8_ ?hk6nad8_
            case ho6nad8_ => (simp only [List.getElem?_toArray, List.getElem?_cons_zero, List.getElem?_cons_succ]; rfl)
            intro K hK
            go_simp
            refine (HP2.out _ _ _ _ _ Hnad4.out.b Enad7.out).mono ?_
            rintro e wnad9 ⟨rfl, hb9⟩
            have Hnad10 : Hid (PLW W wnad9 r A c P4 P6 j E x AC AP cc cp (.slice A7 es.length c7) es) := Lib.hid ((Hnad4.out).step hb9)
            have Knad11 : Hid (wnad9.cell? ⟨P4, 0, none⟩ = some (.slice A r.bases.length c) ∧ wnad9.cell? ⟨P4, 1, none⟩ = some (.int .i64 r.factor) ∧ wnad9.cell? ⟨P4, 2, none⟩ = some (.int .i64 r.most) ∧ wnad9.cell? ⟨E, 0, none⟩ = some (.slice AC x.calls.length cc) ∧ wnad9.cell? ⟨E, 1, none⟩ = some (.slice AP x.parts.length cp) ∧ wnad9.cell? ⟨E, 2, none⟩ = some (.int .i64 x.over) ∧ wnad9.cell? ⟨P6, 0, none⟩ = some (.int .i64 j)) := Lib.hid (HKP.out _ (Hnad10.out))
            have Enad12 : Hid (Below Nn w1n wnad9 ∧ Nn ≤ wnad9.heap.size) := Lib.hid (⟨(Enad6.out).1.trans ((hb9).mono (Enad6.out).2), Nat.le_trans (Enad6.out).2 (hb9).size⟩)
            have Enad13 : Hid (SkR wnad9 wnad9.heap.size (markP x j (-5) 0) BC BP) := Lib.hid ((Enad7.out).step hb9)
            have Enad14 : Hid (Has wnad9 bnad2 33 #[.int .i64 0, .int .i64 0, .int .i64 0, .int .i64 0] ∧ bnad2 < wnad9.heap.size ∧ Nn ≤ bnad2) := Lib.hid (⟨(Enad3.out).1.below hb9 (Enad3.out).2.1, Nat.lt_of_lt_of_le (Enad3.out).2.1 (hb9).size, (Enad3.out).2.2⟩)
            clear hb9
            go_simp
            refine hK.out _ _ (fun h => Knad11.out) ?_
            clear hK K
            try simp only [Act.put, List.setIfInBounds_toArray, List.set_cons_zero, List.set_cons_succ]
            refine wpLate_take (i := 7) (oi := ?oi7nad15_) (v := ?v7nad15_) [8, 9, 11, 12] ?hi7nad15_ (by kernel_rfl) (by kernel_rfl) (by kernel_rfl) (by kernel_rfl) (by kernel_rfl) ?hQ7nad15_ (Or.inl ⟨?hw7nad15_, ?hy7nad15_⟩) Knad11.out ?rest7nad15_
            case hi7nad15_ => (simp only [List.getElem?_toArray, List.getElem?_cons_zero, List.getElem?_cons_succ]; rfl)
            case hQ7nad15_ => exact fun _ _ _ h => h
            case hw7nad15_ => rfl
            case hy7nad15_ =>
              intro w' hSw
              obtain ⟨r0, r1, r2, r3, r4, r5, r6⟩ := hSw
              go_simp
              try exact rfl
            try simp only [Act.put, List.setIfInBounds_toArray, List.set_cons_zero, List.set_cons_succ]
            refine wpLate_take (i := 8) (oi := ?oi8nad16_) (v := ?v8nad16_) [11, 12] ?hi8nad16_ (by kernel_rfl) (by kernel_rfl) (by kernel_rfl) (by kernel_rfl) (by kernel_rfl) ?hQ8nad16_ (Or.inl ⟨?hw8nad16_, ?hy8nad16_⟩) Knad11.out ?rest8nad16_
            case hi8nad16_ => (simp only [List.getElem?_toArray, List.getElem?_cons_zero, List.getElem?_cons_succ]; rfl)
            case hQ8nad16_ => exact fun _ _ _ h => h
            case hw8nad16_ => rfl
            case hy8nad16_ =>
              intro w' hSw
              obtain ⟨r0, r1, r2, r3, r4, r5, r6⟩ := hSw
              go_simp
              try exact rfl
            try simp only [Act.put, List.setIfInBounds_toArray, List.set_cons_zero, List.set_cons_succ]
            refine wpLate_take (i := 9) (oi := ?oi9nad17_) (v := ?v9nad17_) [12] ?hi9nad17_ (by kernel_rfl) (by kernel_rfl) (by kernel_rfl) (by kernel_rfl) (by kernel_rfl) ?hQ9nad17_ (Or.inl ⟨?hw9nad17_, ?hy9nad17_⟩) Knad11.out ?rest9nad17_
            case hi9nad17_ => (simp only [List.getElem?_toArray, List.getElem?_cons_zero, List.getElem?_cons_succ]; rfl)
            case hQ9nad17_ => exact fun _ _ _ h => h
            case hw9nad17_ => rfl
            case hy9nad17_ =>
              intro w' hSw
              obtain ⟨r0, r1, r2, r3, r4, r5, r6⟩ := hSw
              go_simp
              try exact rfl
            try simp only [Act.put, List.setIfInBounds_toArray, List.set_cons_zero, List.set_cons_succ]
            refine wpLate_one (i := 11) (o := ?o11nad18_) (by kernel_rfl) ?ho11nad18_ ?hk11nad18_
            case ho11nad18_ => (simp only [List.getElem?_toArray, List.getElem?_cons_zero, List.getElem?_cons_succ]; rfl)
            intro K hK
            have l0 : wnad9.cell? ⟨bnad2, 0, none⟩ = some (.int .i64 0) := Enad14.out.1.cell 0
            have l1 : wnad9.cell? ⟨bnad2, 1, none⟩ = some (.int .i64 0) := Enad14.out.1.cell 1
            have l2 : wnad9.cell? ⟨bnad2, 2, none⟩ = some (.int .i64 0) := Enad14.out.1.cell 2
            have l3 : wnad9.cell? ⟨bnad2, 3, none⟩ = some (.int .i64 0) := Enad14.out.1.cell 3
            have f0 := Enad14.out.1.frozen 0
            have f1 := Enad14.out.1.frozen 1
            have f2 := Enad14.out.1.frozen 2
            have f3 := Enad14.out.1.frozen 3
            have HFnad : Hid (PLW W ((((wnad9.setCell ⟨bnad2, 0, none⟩ (.int .i64 X.elements)).setCell ⟨bnad2, 1, none⟩ (.int .i64 X.parts)).setCell ⟨bnad2, 2, none⟩ (.int .i64 X.off)).setCell ⟨bnad2, 3, none⟩ (.int .i64 X.total)) r A c P4 P6 j E x AC AP cc cp (.slice A7 es.length c7) es ∧ Has ((((wnad9.setCell ⟨bnad2, 0, none⟩ (.int .i64 X.elements)).setCell ⟨bnad2, 1, none⟩ (.int .i64 X.parts)).setCell ⟨bnad2, 2, none⟩ (.int .i64 X.off)).setCell ⟨bnad2, 3, none⟩ (.int .i64 X.total)) bnad2 33 (scc X)) := Lib.hid ⟨H1n.out.step (by rw [← NHn.out]; exact ((((Enad12.out.1.setCell Enad14.out.2.2 _).setCell Enad14.out.2.2 _).setCell Enad14.out.2.2 _).setCell Enad14.out.2.2 _)), (((Enad14.out.1.set 0 _).set 1 _).set 2 _).set 3 _⟩
            go_simp
            refine hK.out _ _ (fun h => HKP.out _ HFnad.out.1) ?_
            clear hK K
            try simp only [Act.put, List.setIfInBounds_toArray, List.set_cons_zero, List.set_cons_succ]
            refine wpLate_one (i := 12) (o := ?o12nad19_) (by kernel_rfl) ?ho12nad19_ ?hk12nad19_
            case ho12nad19_ => (simp only [List.getElem?_toArray, List.getElem?_cons_zero, List.getElem?_cons_succ]; rfl)
            intro K hK
            go_simp
            refine hK.out _ _ (fun h => HKP.out _ HFnad.out.1) ?_
            clear hK K
            try simp only [Act.put, List.setIfInBounds_toArray, List.set_cons_zero, List.set_cons_succ]
            refine wpLate_done (by kernel_rfl) ?_ _
            try simp only [Act.put, List.setIfInBounds_toArray, List.set_cons_zero, List.set_cons_succ]
            try go_wp2_with fail
            go_meet
            exact ⟨bnad2, rfl, rfl, HFnad⟩
        case hkBn6_ =>
          intro K hK
          go_simp
          have Enb3 : Hid (Has (w1n.alloc (.cells #[.int .i64 0, .int .i64 0, .int .i64 0, .int .i64 0] 33)) w1n.heap.size 33 #[.int .i64 0, .int .i64 0, .int .i64 0, .int .i64 0] ∧ w1n.heap.size < (w1n.alloc (.cells #[.int .i64 0, .int .i64 0, .int .i64 0, .int .i64 0] 33)).heap.size ∧ Nn ≤ w1n.heap.size) := Lib.hid ⟨Has.new _ _ _, by simp, Bbn.out.2⟩
          have Hnb4 : Hid (PLW W (w1n.alloc (.cells #[.int .i64 0, .int .i64 0, .int .i64 0, .int .i64 0] 33)) r A c P4 P6 j E x AC AP cc cp (.slice A7 es.length c7) es) := Lib.hid ((H1n.out).step (below_one w1n (.cells #[.int .i64 0, .int .i64 0, .int .i64 0, .int .i64 0] 33)))
          have Knb5 : Hid ((w1n.alloc (.cells #[.int .i64 0, .int .i64 0, .int .i64 0, .int .i64 0] 33)).cell? ⟨P4, 0, none⟩ = some (.slice A r.bases.length c) ∧ (w1n.alloc (.cells #[.int .i64 0, .int .i64 0, .int .i64 0, .int .i64 0] 33)).cell? ⟨P4, 1, none⟩ = some (.int .i64 r.factor) ∧ (w1n.alloc (.cells #[.int .i64 0, .int .i64 0, .int .i64 0, .int .i64 0] 33)).cell? ⟨P4, 2, none⟩ = some (.int .i64 r.most) ∧ (w1n.alloc (.cells #[.int .i64 0, .int .i64 0, .int .i64 0, .int .i64 0] 33)).cell? ⟨E, 0, none⟩ = some (.slice AC x.calls.length cc) ∧ (w1n.alloc (.cells #[.int .i64 0, .int .i64 0, .int .i64 0, .int .i64 0] 33)).cell? ⟨E, 1, none⟩ = some (.slice AP x.parts.length cp) ∧ (w1n.alloc (.cells #[.int .i64 0, .int .i64 0, .int .i64 0, .int .i64 0] 33)).cell? ⟨E, 2, none⟩ = some (.int .i64 x.over) ∧ (w1n.alloc (.cells #[.int .i64 0, .int .i64 0, .int .i64 0, .int .i64 0] 33)).cell? ⟨P6, 0, none⟩ = some (.int .i64 j)) := Lib.hid (HKP.out _ (Hnb4.out))
          have Enb6 : Hid (Below Nn w1n (w1n.alloc (.cells #[.int .i64 0, .int .i64 0, .int .i64 0, .int .i64 0] 33)) ∧ Nn ≤ (w1n.alloc (.cells #[.int .i64 0, .int .i64 0, .int .i64 0, .int .i64 0] 33)).heap.size) := Lib.hid (⟨(Bbn.out).1.trans (((below_one w1n (.cells #[.int .i64 0, .int .i64 0, .int .i64 0, .int .i64 0] 33))).mono (Bbn.out).2), Nat.le_trans (Bbn.out).2 ((below_one w1n (.cells #[.int .i64 0, .int .i64 0, .int .i64 0, .int .i64 0] 33))).size⟩)
          refine hK.out _ _ (fun h => Knb5.out) ?_
          clear hK K
          try simp only [Act.put, List.setIfInBounds_toArray, List.set_cons_zero, List.set_cons_succ]
          generalize w1n.alloc (.cells #[.int .i64 0, .int .i64 0, .int .i64 0, .int .i64 0] 33) = wnb1 at Hnb4 Knb5 Enb6 Enb3 ⊢
          generalize w1n.heap.size = bnb2 at Enb3 ⊢
          refine wpLate_one (i := 5) (o := ?o5nb7_) (by kernel_rfl) ?ho5nb7_ ?hk5nb7_
          case ho5nb7_ => (simp only [List.getElem?_toArray, List.getElem?_cons_zero, List.getElem?_cons_succ]; rfl)
          intro K hK
          go_simp
          refine (HAL.out x HXM.out AC AP cc cp (-5) 0 _ ((HSK.out.below Hnb4.out.b).more Hnb4.out.b.size)).mono ?_
          rintro e wnb8 ⟨BC, BP, bc, bp, rfl, hsk9, hb9⟩
          have Mnb9 : Hid (SkR wnb8 wnb8.heap.size (markP x j (-5) 0) BC BP) := Lib.hid hsk9
          clear hsk9
          have Hnb10 : Hid (PLW W wnb8 r A c P4 P6 j E x AC AP cc cp (.slice A7 es.length c7) es) := Lib.hid ((Hnb4.out).step hb9)
          have Knb11 : Hid (wnb8.cell? ⟨P4, 0, none⟩ = some (.slice A r.bases.length c) ∧ wnb8.cell? ⟨P4, 1, none⟩ = some (.int .i64 r.factor) ∧ wnb8.cell? ⟨P4, 2, none⟩ = some (.int .i64 r.most) ∧ wnb8.cell? ⟨E, 0, none⟩ = some (.slice AC x.calls.length cc) ∧ wnb8.cell? ⟨E, 1, none⟩ = some (.slice AP x.parts.length cp) ∧ wnb8.cell? ⟨E, 2, none⟩ = some (.int .i64 x.over) ∧ wnb8.cell? ⟨P6, 0, none⟩ = some (.int .i64 j)) := Lib.hid (HKP.out _ (Hnb10.out))
          have Enb12 : Hid (Below Nn w1n wnb8 ∧ Nn ≤ wnb8.heap.size) := Lib.hid (⟨(Enb6.out).1.trans ((hb9).mono (Enb6.out).2), Nat.le_trans (Enb6.out).2 (hb9).size⟩)
          have Enb13 : Hid (Has wnb8 bnb2 33 #[.int .i64 0, .int .i64 0, .int .i64 0, .int .i64 0] ∧ bnb2 < wnb8.heap.size ∧ Nn ≤ bnb2) := Lib.hid (⟨(Enb3.out).1.below hb9 (Enb3.out).2.1, Nat.lt_of_lt_of_le (Enb3.out).2.1 (hb9).size, (Enb3.out).2.2⟩)
          clear hb9
          go_simp
          refine hK.out _ _ (fun h => Knb11.out) ?_
          clear hK K
          try simp only [Act.put, List.setIfInBounds_toArray, List.set_cons_zero, List.set_cons_succ]
          refine wpLate_one (i := 6) (o := ?o6nb14_) (by kernel_rfl) ?ho6nb14_ ?hk6nb14_
          case ho6nb14_ => (simp only [List.getElem?_toArray, List.getElem?_cons_zero, List.getElem?_cons_succ]; rfl)
          intro K hK
          go_simp
          refine (HP2.out _ _ _ _ _ Hnb10.out.b Mnb9.out).mono ?_
          rintro e wnb15 ⟨rfl, hb9⟩
          have Hnb16 : Hid (PLW W wnb15 r A c P4 P6 j E x AC AP cc cp (.slice A7 es.length c7) es) := Lib.hid ((Hnb10.out).step hb9)
          have Knb17 : Hid (wnb15.cell? ⟨P4, 0, none⟩ = some (.slice A r.bases.length c) ∧ wnb15.cell? ⟨P4, 1, none⟩ = some (.int .i64 r.factor) ∧ wnb15.cell? ⟨P4, 2, none⟩ = some (.int .i64 r.most) ∧ wnb15.cell? ⟨E, 0, none⟩ = some (.slice AC x.calls.length cc) ∧ wnb15.cell? ⟨E, 1, none⟩ = some (.slice AP x.parts.length cp) ∧ wnb15.cell? ⟨E, 2, none⟩ = some (.int .i64 x.over) ∧ wnb15.cell? ⟨P6, 0, none⟩ = some (.int .i64 j)) := Lib.hid (HKP.out _ (Hnb16.out))
          have Enb18 : Hid (Below Nn w1n wnb15 ∧ Nn ≤ wnb15.heap.size) := Lib.hid (⟨(Enb12.out).1.trans ((hb9).mono (Enb12.out).2), Nat.le_trans (Enb12.out).2 (hb9).size⟩)
          have Enb19 : Hid (Has wnb15 bnb2 33 #[.int .i64 0, .int .i64 0, .int .i64 0, .int .i64 0] ∧ bnb2 < wnb15.heap.size ∧ Nn ≤ bnb2) := Lib.hid (⟨(Enb13.out).1.below hb9 (Enb13.out).2.1, Nat.lt_of_lt_of_le (Enb13.out).2.1 (hb9).size, (Enb13.out).2.2⟩)
          have Enb20 : Hid (SkR wnb15 wnb15.heap.size (markP x j (-5) 0) BC BP) := Lib.hid ((Mnb9.out).step hb9)
          clear hb9
          go_simp
          refine hK.out _ _ (fun h => Knb17.out) ?_
          clear hK K
          try simp only [Act.put, List.setIfInBounds_toArray, List.set_cons_zero, List.set_cons_succ]
          refine wpLate_take (i := 7) (oi := ?oi7nb21_) (v := ?v7nb21_) [8, 9, 11, 12] ?hi7nb21_ (by kernel_rfl) (by kernel_rfl) (by kernel_rfl) (by kernel_rfl) (by kernel_rfl) ?hQ7nb21_ (Or.inl ⟨?hw7nb21_, ?hy7nb21_⟩) Knb17.out ?rest7nb21_
          case hi7nb21_ => (simp only [List.getElem?_toArray, List.getElem?_cons_zero, List.getElem?_cons_succ]; rfl)
          case hQ7nb21_ => exact fun _ _ _ h => h
          case hw7nb21_ => rfl
          case hy7nb21_ =>
            intro w' hSw
            obtain ⟨r0, r1, r2, r3, r4, r5, r6⟩ := hSw
            go_simp
            try exact rfl
          try simp only [Act.put, List.setIfInBounds_toArray, List.set_cons_zero, List.set_cons_succ]
          refine wpLate_take (i := 8) (oi := ?oi8nb22_) (v := ?v8nb22_) [11, 12] ?hi8nb22_ (by kernel_rfl) (by kernel_rfl) (by kernel_rfl) (by kernel_rfl) (by kernel_rfl) ?hQ8nb22_ (Or.inl ⟨?hw8nb22_, ?hy8nb22_⟩) Knb17.out ?rest8nb22_
          case hi8nb22_ => (simp only [List.getElem?_toArray, List.getElem?_cons_zero, List.getElem?_cons_succ]; rfl)
          case hQ8nb22_ => exact fun _ _ _ h => h
          case hw8nb22_ => rfl
          case hy8nb22_ =>
            intro w' hSw
            obtain ⟨r0, r1, r2, r3, r4, r5, r6⟩ := hSw
            go_simp
            try exact rfl
          try simp only [Act.put, List.setIfInBounds_toArray, List.set_cons_zero, List.set_cons_succ]
          refine wpLate_take (i := 9) (oi := ?oi9nb23_) (v := ?v9nb23_) [12] ?hi9nb23_ (by kernel_rfl) (by kernel_rfl) (by kernel_rfl) (by kernel_rfl) (by kernel_rfl) ?hQ9nb23_ (Or.inl ⟨?hw9nb23_, ?hy9nb23_⟩) Knb17.out ?rest9nb23_
          case hi9nb23_ => (simp only [List.getElem?_toArray, List.getElem?_cons_zero, List.getElem?_cons_succ]; rfl)
          case hQ9nb23_ => exact fun _ _ _ h => h
          case hw9nb23_ => rfl
          case hy9nb23_ =>
            intro w' hSw
            obtain ⟨r0, r1, r2, r3, r4, r5, r6⟩ := hSw
            go_simp
            try exact rfl
          try simp only [Act.put, List.setIfInBounds_toArray, List.set_cons_zero, List.set_cons_succ]
          refine wpLate_one (i := 11) (o := ?o11nb24_) (by kernel_rfl) ?ho11nb24_ ?hk11nb24_
          case ho11nb24_ => (simp only [List.getElem?_toArray, List.getElem?_cons_zero, List.getElem?_cons_succ]; rfl)
          intro K hK
          have l0 : wnb15.cell? ⟨bnb2, 0, none⟩ = some (.int .i64 0) := Enb19.out.1.cell 0
          have l1 : wnb15.cell? ⟨bnb2, 1, none⟩ = some (.int .i64 0) := Enb19.out.1.cell 1
          have l2 : wnb15.cell? ⟨bnb2, 2, none⟩ = some (.int .i64 0) := Enb19.out.1.cell 2
          have l3 : wnb15.cell? ⟨bnb2, 3, none⟩ = some (.int .i64 0) := Enb19.out.1.cell 3
          have f0 := Enb19.out.1.frozen 0
          have f1 := Enb19.out.1.frozen 1
          have f2 := Enb19.out.1.frozen 2
          have f3 := Enb19.out.1.frozen 3
          have HFnb : Hid (PLW W ((((wnb15.setCell ⟨bnb2, 0, none⟩ (.int .i64 X.elements)).setCell ⟨bnb2, 1, none⟩ (.int .i64 X.parts)).setCell ⟨bnb2, 2, none⟩ (.int .i64 X.off)).setCell ⟨bnb2, 3, none⟩ (.int .i64 X.total)) r A c P4 P6 j E x AC AP cc cp (.slice A7 es.length c7) es ∧ Has ((((wnb15.setCell ⟨bnb2, 0, none⟩ (.int .i64 X.elements)).setCell ⟨bnb2, 1, none⟩ (.int .i64 X.parts)).setCell ⟨bnb2, 2, none⟩ (.int .i64 X.off)).setCell ⟨bnb2, 3, none⟩ (.int .i64 X.total)) bnb2 33 (scc X)) := Lib.hid ⟨H1n.out.step (by rw [← NHn.out]; exact ((((Enb18.out.1.setCell Enb19.out.2.2 _).setCell Enb19.out.2.2 _).setCell Enb19.out.2.2 _).setCell Enb19.out.2.2 _)), (((Enb19.out.1.set 0 _).set 1 _).set 2 _).set 3 _⟩
          go_simp
          refine hK.out _ _ (fun h => HKP.out _ HFnb.out.1) ?_
          clear hK K
          try simp only [Act.put, List.setIfInBounds_toArray, List.set_cons_zero, List.set_cons_succ]
          refine wpLate_one (i := 12) (o := ?o12nb25_) (by kernel_rfl) ?ho12nb25_ ?hk12nb25_
          case ho12nb25_ => (simp only [List.getElem?_toArray, List.getElem?_cons_zero, List.getElem?_cons_succ]; rfl)
          intro K hK
          go_simp
          refine hK.out _ _ (fun h => HKP.out _ HFnb.out.1) ?_
          clear hK K
          try simp only [Act.put, List.setIfInBounds_toArray, List.set_cons_zero, List.set_cons_succ]
          refine wpLate_done (by kernel_rfl) ?_ _
          try simp only [Act.put, List.setIfInBounds_toArray, List.set_cons_zero, List.set_cons_succ]
          try go_wp2_with fail
          go_meet
          exact ⟨bnb2, rfl, rfl, HFnb⟩
      case rest =>
        obtain ⟨b9, rfl, rfl, H9⟩ := hcut
        rename World => w9
        clear H1 HKP HAL HPR HP2
        have l0 : w9.cell? ⟨b9, 0, none⟩ = some (.int .i64 X.elements) := H9.out.2.cell 0
        have l1 : w9.cell? ⟨b9, 1, none⟩ = some (.int .i64 X.parts) := H9.out.2.cell 1
        have l2 : w9.cell? ⟨b9, 2, none⟩ = some (.int .i64 X.off) := H9.out.2.cell 2
        have l3 : w9.cell? ⟨b9, 3, none⟩ = some (.int .i64 X.total) := H9.out.2.cell 3
        have HO9 : Hid ((w9.alloc (.cells (scc X) 33)).ownsRow W.heap.size 33 4 (.slice A7 es.length c7) es.length (nvl scc es)) := Lib.hid (own_step H9.out.1.o (below_one _ _))
        have HNEW := Lib.hid (sc_new (Has.new w9 33 (scc X)))
        have HB9 := Lib.hid H9.out.1.b
        clear H9
        go_wp2_with (at_builtin; refine wpList_append_lies _ rfl _ _ 41 rfl W.heap.size 33 i0 (.agg #[.int .i64 0, .int .i64 0, .int .i64 0, .int .i64 0]) 4 32 Try.underlying41 hi hz0 hz1 hz2 rfl (by decide) (.slice A7 es.length c7) es.length (nvl scc es) rfl HO9.out ⟨w9.heap.size, 0, none⟩ 1 1 (nvl scc [X]) rfl ?r1 HNEW.out (nvl_one scc_one _) ?r2 ?r3 ?r4 ?r5 _ rfl ?_)
        case r1 => rfl
        case r2 => omega
        case r3 => unfold maxLen; omega
        case r4 => omega
        case r5 => have := HB9.out.size; simp; omega
        rintro g1 cap1 w5 hown1 hgr1 hgg1 hlt1
        have H5 := Lib.hid (And.intro ((HB9.out.trans ((below_one w9 (.cells (scc X) 33)).mono HB9.out.size)).trans (grown_step hgr1 (by have := HB9.out.size; simp; omega) (fun b hb => (own_block HO9.out b hb).1))) hown1)
        clear hown1 hgr1 hgg1 hlt1 l0 l1 l2 l3 HO9 HNEW
        go_wp2_with fail
        go_roundg (l.length - (k + 1))
        case measure => omega
        case rel => exact ⟨k + 1, by omega, Nat.le_refl _, by go_num, es ++ [X], Lib.hid ⟨H5.out.1, by rw [nvl_append, List.length_append]; exact H5.out.2, HNY.out⟩⟩
end Go.Proofs.Ytmclchaalmonnaa

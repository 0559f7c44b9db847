/- The document's program, Program, Values. -/
import Derived.Test.YtmclchaalmonnaaRfD
namespace Go.Proofs.Ytmclchaalmonnaa
open Go.RowKit Go.Lib
attribute [local irreducible] wpQuiet
structure DP (W w : World) (r : Ru) (A : Option Addr) (c : Nat) (s : Sk) (AC AP : Option Addr) (cc cp : Nat) (x : Sc) : Prop where
  v : VB W w r A c s AC AP cc cp
  fr : Has w (W.heap.size + 1 + 1) 33 #[.int .i64 0, .int .i64 0, .int .i64 0, .int .i64 0]
  fo : Has w (W.heap.size + 1 + 1 + 1) 33 (scc x)
section
variable {W w w' : World} {r : Ru} {A : Option Addr} {c : Nat} {s : Sk} {AC AP : Option Addr} {cc cp : Nat} {x : Sc}
theorem DP.step (h : DP W w r A c s AC AP cc cp x) (hb : Below w.heap.size w w') : DP W w' r A c s AC AP cc cp x := ⟨h.v.step hb, h.fr.below hb h.fr.lt, h.fo.below hb h.fo.lt⟩
theorem DP.drew (h : DP W w r A c s AC AP cc cp x) : DP W w.drew r A c s AC AP cc cp x := h.step ((Below.refl _ _).drew)
theorem VB.far (h : VB W w r A c s AC AP cc cp) {p : Addr} (hp : W.heap.size + 1 < p.block) (v : Value) : VB W (w.setCell p v) r A c s AC AP cc cp := by
  have hb : Below W.heap.size w (w.setCell p v) := (Below.refl _ _).setCell (by omega) _
  exact ⟨⟨h.r.b.trans hb, h.r.fr.far (by omega) _, h.r.rr.below hb⟩, h.fs.far (by omega) _, h.rs.below hb⟩
theorem DP.set (h : DP W w r A c s AC AP cc cp x) (i : Nat) (n : Int) (y : Sc) (hy : (scc x).setIfInBounds i (.int .i64 n) = scc y) : DP W (w.setCell ⟨W.heap.size + 1 + 1 + 1, i, none⟩ (.int .i64 n)) r A c s AC AP cc cp y :=
  ⟨h.v.far (by simp only; omega) _, h.fr.far (by simp only; omega) _, hy ▸ h.fo.set i _⟩
end
theorem res41 {w : World} {D : Nat} {a b c d : Value} {tmps : Array Value} (h : Has w D 33 #[a, b, c, d]) (h4 : tmps[4]?.getD undef = .pointer (some ⟨D, 0, none⟩)) :
    (results Try.f41 tmps).run Try.prog w = .ok (.agg #[a, b, c, d]) w := by
  have c0 := h.cell 0; have c1 := h.cell 1; have c2 := h.cell 2; have c3 := h.cell 3
  simp at c0 c1 c2 c3
  simp [results, Try.results41, go_sem, h4, c0, c1, c2, c3]
set_option maxRecDepth 100000 in
set_option maxHeartbeats 2000000 in
theorem dprogram_any (r : Ru) (A : Option Addr) (c : Nat) (s : Sk) (AC AP : Option Addr) (cc cp : Nat) (W : World) (hr : RuR W W.heap.size r A) (hs : SkR W W.heap.size s AC AP) (hvr : VR r) (hvs : VS r s) :
    Calls Try.prog 41 #[ruv r A c, skv s AC AP cc cp] W (ScPost (progP r s) W) := by
  have HB : Hid (DP W ((((W.alloc (.cells (ruc r A c) 24)).alloc (.cells (skc s AC AP cc cp) 28)).alloc (.cells #[.int .i64 0, .int .i64 0, .int .i64 0, .int .i64 0] 33)).alloc (.cells #[.int .i64 0, .int .i64 0, .int .i64 0, .int .i64 0] 33)) r A c s AC AP cc cp zeroSc) :=
    Lib.hid ⟨((VB.start hr hs).step (below_one _ _)).step (below_one _ _), (has_newAt (by simp)).alloc _, has_newAt (by simp)⟩
  have HVL := Lib.hid (fun (x : Sc) w (k : Nat) (hk : k < s.calls.length) (h : DP W w r A c s AC AP cc cp x) => dvalue_any r A c s AC AP cc cp k w (h.v.r.rr.more h.v.r.b.size) (h.v.rs.more h.v.r.b.size) hvr hvs hk)
  have HCT := Lib.hid (fun (x : Sc) w (m : List Int) (hm : m ∈ s.parts) M k (h : DP W w r A c s AC AP cc cp x) (hr : IRow w w.heap.size M m) => counts_any m M k w hr (hvs.p m hm).1 (hvs.p m hm).2.1 (fun y hy => by have := (hvs.p m hm).2.2 y hy; omega))
  have HOF := Lib.hid (fun f w (hf : f ≤ 1000) => Off_any f s.over.toNat w hf (by have := hvs.o; omega))
  have hov := hvs.o
  rw [show (s.over.toNat : Int) = s.over by omega] at HOF
  have hvb := vals_bd hvr hvs
  have hpb := parts_bd hvr hvs
  have hnc := hvs.nc
  have hnp := hvs.np
  have HVB := Lib.hid (And.intro hvb (sum_take_bd hvb))
  have HPB := Lib.hid (And.intro hpb (sum_take_bd hpb))
  have HVS := Lib.hid (And.intro hvr hvs)
  have hvl : (valsP r s).length = s.calls.length := by simp [valsP]
  have hpl : (s.parts.map (partP r.factor)).length = s.parts.length := by simp
  have HLN := Lib.hid (And.intro hvl hpl)
  have HVA : Hid (∀ k (h : k < s.calls.length) (h' : k < (valsP r s).length), (valsP r s)[k] = valP r s.calls s.calls[k]) := Lib.hid fun k h h' => by simp [valsP]
  have HPA : Hid (∀ k (h : k < s.parts.length) (h' : k < (s.parts.map (partP r.factor)).length), (s.parts.map (partP r.factor))[k] = partP r.factor s.parts[k]) := Lib.hid fun k h h' => by simp
  have HX : Hid (progP r s = ⟨(valsP r s).sum, (s.parts.map (partP r.factor)).sum, dOff (fallsP s.calls) s.over, max ((valsP r s).sum + (s.parts.map (partP r.factor)).sum - dOff (fallsP s.calls) s.over) 0⟩) := Lib.hid rfl
  obtain ⟨X, hX⟩ : ∃ X, X = progP r s := ⟨_, rfl⟩
  rw [← hX] at HX ⊢
  obtain ⟨vl, hvl'⟩ : ∃ vl, vl = valsP r s := ⟨_, rfl⟩
  obtain ⟨pl, hpl'⟩ : ∃ vl, vl = s.parts.map (partP r.factor) := ⟨_, rfl⟩
  rw [← hvl'] at HVB HVA HX HLN
  rw [← hpl'] at HPB HPA HX HLN
  unfold TwoPost at HCT
  unfold IntPost at HVL HOF
  clear hr hs hvr hvs hvb hpb hX hvl hpl hvl' hpl'
  unfold ruv skv at *
  go_enter Try.func41, Try.ntmps41
  go_upto_region 2 with fail
  generalize (((W.alloc (.cells (ruc r A c) 24)).alloc (.cells (skc s AC AP cc cp) 28)).alloc (.cells #[.int .i64 0, .int .i64 0, .int .i64 0, .int .i64 0] 33)).alloc (.cells #[.int .i64 0, .int .i64 0, .int .i64 0, .int .i64 0] 33) = w0 at HB ⊢
  go_wp2_with fail
  go_loopg [7, 6] s.calls.length (fun gk i n wr => ∃ k : Nat, k ≤ s.calls.length ∧ s.calls.length - k ≤ gk ∧ i = .int .i64 k ∧ n = .int .i64 (fallsP (s.calls.take k) : Nat) ∧ Hid (DP W wr r A c s AC AP cc cp ⟨(vl.take k).sum, 0, 0, 0⟩))
  case atStart => exact ⟨0, Nat.zero_le _, Nat.le_refl _, rfl, rfl, HB⟩
  case round =>
    clear HB
    obtain ⟨k, hk, hgk, rfl, rfl, HW⟩ := hrel
    have y0 : wr.cell? ⟨W.heap.size + 1, 0, none⟩ = some (.slice AC s.calls.length cc) := HW.out.v.fs.cell 0
    by_cases hlt : k < s.calls.length
    rotate_left
    · have hge : ¬ (k : Int) < s.calls.length := by omega
      have hke : k = s.calls.length := by omega
      have HW1 : Hid (DP W wr r A c s AC AP cc cp ⟨vl.sum, 0, 0, 0⟩) := Lib.hid (by have := HW.out; rw [List.take_of_length_le (by rw [HLN.out.1]; omega)] at this; exact this)
      have HFE : Hid (fallsP (s.calls.take k) = fallsP s.calls) := Lib.hid (by rw [List.take_of_length_le (by omega)])
      have hfl : fallsP (s.calls.take k) ≤ 16 := Nat.le_trans (falls_le _ _) (by omega)
      have hvs1 := HVB.out.2 vl.length (Nat.le_refl _)
      rw [List.take_length, HLN.out.1] at hvs1
      obtain ⟨f, hf⟩ : ∃ f, f = fallsP (s.calls.take k) := ⟨_, rfl⟩
      rw [← hf] at HFE hfl ⊢
      obtain ⟨E, hE⟩ : ∃ E, E = vl.sum := ⟨_, rfl⟩
      rw [← hE] at HW1 hvs1 HX
      have hEb : -48000000 ≤ E ∧ E ≤ 48000000 := by omega
      clear hke hf hE hvs1 hk hgk hlt HW HVL HVA HVB
      go_wp2_with fail
      clear hge y0
      obtain ⟨w3, rfl⟩ : ∃ w3, w3 = wr := ⟨_, rfl⟩
      go_loopg [8] s.parts.length (fun gk i wr => ∃ k : Nat, k ≤ s.parts.length ∧ s.parts.length - k ≤ gk ∧ i = .int .i64 k ∧ Hid (DP W wr r A c s AC AP cc cp ⟨E, (pl.take k).sum, 0, 0⟩))
      case atStart => exact ⟨0, Nat.zero_le _, Nat.le_refl _, rfl, HW1⟩
      case round =>
        clear HW1
        obtain ⟨k, hk, hgk, rfl, HW⟩ := hrel
        have y1 : wr.cell? ⟨W.heap.size + 1, 1, none⟩ = some (.slice AP s.parts.length cp) := HW.out.v.fs.cell 1
        by_cases hlt : k < s.parts.length
        rotate_left
        · have hge : ¬ (k : Int) < s.parts.length := by omega
          have HW2 : Hid (DP W wr r A c s AC AP cc cp ⟨E, pl.sum, 0, 0⟩) := Lib.hid (by have := HW.out; rw [List.take_of_length_le (by rw [HLN.out.2]; omega)] at this; exact this)
          have hps1 := HPB.out.2 pl.length (Nat.le_refl _)
          rw [List.take_length, HLN.out.2] at hps1
          obtain ⟨P, hP⟩ : ∃ P, P = pl.sum := ⟨_, rfl⟩
          rw [← hP] at HW2 hps1 HX
          have hPb : -5000000 ≤ P ∧ P ≤ 5000000 := by omega
          have HO := Lib.hid (fun w => HOF.out f w (by omega))
          rw [HFE.out] at HO
          have hob : 0 ≤ dOff (fallsP s.calls) s.over ∧ dOff (fallsP s.calls) s.over ≤ 1000000 := by
            rw [← HFE.out]
            unfold dOff
            omega
          obtain ⟨O, hO⟩ : ∃ O, O = dOff (fallsP s.calls) s.over := ⟨_, rfl⟩
          rw [← hO] at HX HO hob
          rw [← HFE.out] at HO
          have y2 : wr.cell? ⟨W.heap.size + 1, 2, none⟩ = some (.int .i64 s.over) := HW2.out.v.fs.cell 2
          clear hps1 hP hO hk hgk hlt HW HCT HPA HPB HOF
          go_wp2_with fail
          refine (HO.out _).mono ?_
          rintro e w4 ⟨rfl, hb4⟩
          have H4 := Lib.hid (HW2.out.step hb4)
          clear hb4 y1 y2 HW2
          have o0 : w4.cell? ⟨W.heap.size + 1 + 1 + 1, 0, none⟩ = some (.int .i64 E) := H4.out.fo.cell 0
          have o1 : w4.cell? ⟨W.heap.size + 1 + 1 + 1, 1, none⟩ = some (.int .i64 P) := H4.out.fo.cell 1
          have o2 : w4.cell? ⟨W.heap.size + 1 + 1 + 1, 2, none⟩ = some (.int .i64 0) := H4.out.fo.cell 2
          have o3 : w4.cell? ⟨W.heap.size + 1 + 1 + 1, 3, none⟩ = some (.int .i64 0) := H4.out.fo.cell 3
          have g2 := H4.out.fo.frozen 2
          have g3 := H4.out.fo.frozen 3
          have H5 := Lib.hid (H4.out.set 2 O ⟨E, P, O, 0⟩ rfl)
          go_upto_region 15 with fail
          clear o0 o1 o2 o3 g2 g3 H4
          generalize w4.setCell ⟨W.heap.size + 1 + 1 + 1, 2, none⟩ (.int .i64 O) = w5 at H5 ⊢
          have o0 : w5.cell? ⟨W.heap.size + 1 + 1 + 1, 0, none⟩ = some (.int .i64 E) := H5.out.fo.cell 0
          have o1 : w5.cell? ⟨W.heap.size + 1 + 1 + 1, 1, none⟩ = some (.int .i64 P) := H5.out.fo.cell 1
          have o2 : w5.cell? ⟨W.heap.size + 1 + 1 + 1, 2, none⟩ = some (.int .i64 O) := H5.out.fo.cell 2
          have o3 : w5.cell? ⟨W.heap.size + 1 + 1 + 1, 3, none⟩ = some (.int .i64 0) := H5.out.fo.cell 3
          have g3 := H5.out.fo.frozen 3
          have H6 := Lib.hid (fun t => H5.out.set 3 t ⟨E, P, O, t⟩ rfl)
          rw [Int.max_comm] at HX
          have H7 := Lib.hid (H6.out (max 0 (E + P - O)))
          go_upto_region 16 with fail
          generalize w5.setCell ⟨W.heap.size + 1 + 1 + 1, 3, none⟩ (.int .i64 (max 0 (E + P - O))) = w6 at H7 ⊢
          clear o0 o1 o2 o3 g3 H6 H5
          generalize max 0 (E + P - O) = T at H7 HX ⊢
          have o0 : w6.cell? ⟨W.heap.size + 1 + 1 + 1, 0, none⟩ = some (.int .i64 E) := H7.out.fo.cell 0
          have o1 : w6.cell? ⟨W.heap.size + 1 + 1 + 1, 1, none⟩ = some (.int .i64 P) := H7.out.fo.cell 1
          have o2 : w6.cell? ⟨W.heap.size + 1 + 1 + 1, 2, none⟩ = some (.int .i64 O) := H7.out.fo.cell 2
          have o3 : w6.cell? ⟨W.heap.size + 1 + 1 + 1, 3, none⟩ = some (.int .i64 T) := H7.out.fo.cell 3
          have z0 : w6.cell? ⟨W.heap.size + 1 + 1, 0, none⟩ = some (.int .i64 0) := H7.out.fr.cell 0
          have z1 : w6.cell? ⟨W.heap.size + 1 + 1, 1, none⟩ = some (.int .i64 0) := H7.out.fr.cell 1
          have z2 : w6.cell? ⟨W.heap.size + 1 + 1, 2, none⟩ = some (.int .i64 0) := H7.out.fr.cell 2
          have z3 : w6.cell? ⟨W.heap.size + 1 + 1, 3, none⟩ = some (.int .i64 0) := H7.out.fr.cell 3
          have f0 := H7.out.fr.frozen 0
          have f1 := H7.out.fr.frozen 1
          have f2 := H7.out.fr.frozen 2
          have f3 := H7.out.fr.frozen 3
          go_wp2_with fail
          try simp only [Exit.inBlock, Exit.then]
          refine bodyPost_ret (v := .agg #[.int .i64 E, .int .i64 P, .int .i64 O, .int .i64 T]) (res41 (D := W.heap.size + 1 + 1) (has_put4 H7.out.fr) rfl) rfl ?_
          exact ⟨by rw [HX.out]; rfl, below_put4 H7.out.v.r.b (by omega)⟩
        have hlt2 : (k : Int) < s.parts.length := by omega
        have hpk : k < pl.length := by rw [HLN.out.2]; exact hlt
        have HPK := Lib.hid (HPA.out k hlt hpk)
        have HSU : Hid ((pl.take (k + 1)).sum = (pl.take k).sum + pl[k]) := Lib.hid (sum_take_succ hpk)
        have hb1 := HPB.out.1 _ (List.getElem_mem hpk)
        have hb2 := HPB.out.2 k (by omega)
        obtain ⟨g, o, M, m, hg, hgs, hc, hm, hml⟩ := (HW.out.v.rs.more HW.out.v.r.b.size).p k hlt
        have hvp := HVS.out.2.p _ (List.getElem_mem hlt)
        have hfa := HVS.out.1.f
        have HCX := Lib.hid (HCT.out _ wr _ (List.getElem_mem hlt) M m HW.out hm)
        obtain ⟨y, hy⟩ : ∃ y, y = s.parts[k] := ⟨_, rfl⟩
        rw [← hy] at hc hml hvp HCX HPK
        have hpd : partP r.factor y = rnd ((mid y).sum * r.factor) (4 * ((mid y).length : Int)) := rfl
        rw [hpd] at HPK
        have hmll := mid_len_bd hvp.1 hvp.2.1
        have hms := mid_sum_bd (M := 40) (by omega) hvp.1 hvp.2.1 (fun z hz => by have := hvp.2.2 z hz; omega)
        obtain ⟨S, hS⟩ : ∃ S, S = (mid y).sum := ⟨_, rfl⟩
        obtain ⟨n, hn⟩ : ∃ n, n = (mid y).length := ⟨_, rfl⟩
        rw [← hS] at hms HCX HPK
        rw [← hn] at hmll HCX HPK
        obtain ⟨q, hq⟩ : ∃ q, q = S * r.factor := ⟨_, rfl⟩
        have hqb : -360000 ≤ q ∧ q ≤ 360000 := by
          have := mul_bd (a := S) (b := r.factor) (A := 360) (B := 1000) (by omega) hfa (by omega)
          omega
        rw [← hq] at HPK
        obtain ⟨x, hx⟩ : ∃ x, x = pl[k] := ⟨_, rfl⟩
        rw [← hx] at hb1 HSU HPK
        have HRX := Lib.hid (fun w => Round_any q (4 * (n : Int)) w (by omega) (by omega))
        rw [← HPK.out] at HRX
        obtain ⟨V, hV⟩ : ∃ V, V = (pl.take k).sum := ⟨_, rfl⟩
        rw [← hV] at hb2 HSU
        simp only [← hV] at HW
        have hb3 : -5000000 ≤ V ∧ V ≤ 5000000 := by omega
        have e1 : IntKind.i64.wrap (S * r.factor) = q := by rw [← hq]; exact IntWalk.i64_in _ (by omega)
        have e2 : IntKind.i64.wrap (4 * (n : Int)) = 4 * (n : Int) := IntWalk.i64_in _ (by omega)
        have e3 : IntKind.i64.wrap (V + x) = V + x := IntWalk.i64_in _ (by omega)
        unfold big at hml
        subst hg
        clear hpd hvp hS hn hq hx hV hy hm hgs hb2 HPK HCT HPA HPB HOF hmll hms hqb hfa
        go_wp2_with fail
        refine HCX.out.mono ?_
        rintro e w4 ⟨rfl, hb4⟩
        have H4 := Lib.hid (HW.out.step hb4)
        clear hb4 hc y1 HCX
        go_upto_region 13 with fail
        have H5 := Lib.hid H4.out.drew
        have K5 : Hid (w4.drew.cell? ⟨W.heap.size + 1 + 1 + 1, 1, none⟩ = some (.int .i64 V) ∧ w4.drew.cell? ⟨W.heap.size, 1, none⟩ = some (.int .i64 r.factor)) := Lib.hid ⟨H5.out.fo.cell 1, H5.out.v.r.fr.cell 1⟩
        clear H4
        refine wp_region_late (fun w' : World => w'.cell? ⟨W.heap.size + 1 + 1 + 1, 1, none⟩ = some (.int .i64 V) ∧ w'.cell? ⟨W.heap.size, 1, none⟩ = some (.int .i64 r.factor)) [11] (by kernel_rfl) ?_
        generalize w4.drew = w5 at H5 K5 ⊢
        refine wpLate_take (i := 0) (oi := ?oi0r13_) (v := ?v0r13_) [1, 9, 10, 11] ?hi0r13_ (by kernel_rfl) (by kernel_rfl) (by kernel_rfl) (by kernel_rfl) (by kernel_rfl) ?hQ0r13_ (Or.inl ⟨?hw0r13_, ?hy0r13_⟩) K5.out ?rest0r13_
        case hi0r13_ => (simp only [List.getElem?_toArray, List.getElem?_cons_zero]; rfl)
        case hQ0r13_ => exact fun _ _ _ h => h
        case hw0r13_ => rfl
        case hy0r13_ =>
          intro w' hSw
          obtain ⟨r0, r1⟩ := hSw
          go_simp
          try exact rfl
        try simp only [Act.put, List.setIfInBounds_toArray, List.set_cons_zero, List.set_cons_succ]
        refine wpLate_take (i := 1) (oi := ?oi1r13_) (v := ?v1r13_) [9, 10, 11] ?hi1r13_ (by kernel_rfl) (by kernel_rfl) (by kernel_rfl) (by kernel_rfl) (by kernel_rfl) ?hQ1r13_ (Or.inl ⟨?hw1r13_, ?hy1r13_⟩) K5.out ?rest1r13_
        case hi1r13_ => (simp only [List.getElem?_toArray, List.getElem?_cons_zero, List.getElem?_cons_succ]; rfl)
        case hQ1r13_ => exact fun _ _ _ h => h
        case hw1r13_ => rfl
        case hy1r13_ =>
          intro w' hSw
          obtain ⟨r0, r1⟩ := hSw
          go_simp
          try exact rfl
        try simp only [Act.put, List.setIfInBounds_toArray, List.set_cons_zero, List.set_cons_succ]
        refine wpLate_take (i := 2) (oi := ?oi2r13_) (v := ?v2r13_) [5, 8, 9, 10, 11] ?hi2r13_ (by kernel_rfl) (by kernel_rfl) (by kernel_rfl) (by kernel_rfl) (by kernel_rfl) ?hQ2r13_ (Or.inl ⟨?hw2r13_, ?hy2r13_⟩) K5.out ?rest2r13_
        case hi2r13_ => (simp only [List.getElem?_toArray, List.getElem?_cons_zero, List.getElem?_cons_succ]; rfl)
        case hQ2r13_ => exact fun _ _ _ h => h
        case hw2r13_ => rfl
        case hy2r13_ =>
          intro w' hSw
          obtain ⟨r0, r1⟩ := hSw
          go_simp
          try exact rfl
        try simp only [Act.put, List.setIfInBounds_toArray, List.set_cons_zero, List.set_cons_succ]
        refine wpLate_take (i := 3) (oi := ?oi3r13_) (v := ?v3r13_) [4, 5, 8, 9, 10, 11] ?hi3r13_ (by kernel_rfl) (by kernel_rfl) (by kernel_rfl) (by kernel_rfl) (by kernel_rfl) ?hQ3r13_ (Or.inl ⟨?hw3r13_, ?hy3r13_⟩) K5.out ?rest3r13_
        case hi3r13_ => (simp only [List.getElem?_toArray, List.getElem?_cons_zero, List.getElem?_cons_succ]; rfl)
        case hQ3r13_ => exact fun _ _ _ h => h
        case hw3r13_ => rfl
        case hy3r13_ =>
          intro w' hSw
          obtain ⟨r0, r1⟩ := hSw
          go_simp
          try exact rfl
        try simp only [Act.put, List.setIfInBounds_toArray, List.set_cons_zero, List.set_cons_succ]
        refine wpLate_take (i := 4) (oi := ?oi4r13_) (v := ?v4r13_) [5, 8, 9, 10, 11] ?hi4r13_ (by kernel_rfl) (by kernel_rfl) (by kernel_rfl) (by kernel_rfl) (by kernel_rfl) ?hQ4r13_ (Or.inl ⟨?hw4r13_, ?hy4r13_⟩) K5.out ?rest4r13_
        case hi4r13_ => (simp only [List.getElem?_toArray, List.getElem?_cons_zero, List.getElem?_cons_succ]; rfl)
        case hQ4r13_ => exact fun _ _ _ h => h
        case hw4r13_ => rfl
        case hy4r13_ =>
          intro w' hSw
          obtain ⟨r0, r1⟩ := hSw
          go_simp
          try exact rfl
        try simp only [Act.put, List.setIfInBounds_toArray, List.set_cons_zero, List.set_cons_succ]
        refine wpLate_take (i := 5) (oi := ?oi5r13_) (v := ?v5r13_) [8, 9, 10, 11] ?hi5r13_ (by kernel_rfl) (by kernel_rfl) (by kernel_rfl) (by kernel_rfl) (by kernel_rfl) ?hQ5r13_ (Or.inl ⟨?hw5r13_, ?hy5r13_⟩) K5.out ?rest5r13_
        case hi5r13_ => (simp only [List.getElem?_toArray, List.getElem?_cons_zero, List.getElem?_cons_succ]; rfl)
        case hQ5r13_ => exact fun _ _ _ h => h
        case hw5r13_ => rfl
        case hy5r13_ =>
          intro w' hSw
          obtain ⟨r0, r1⟩ := hSw
          go_simp
          try exact rfl
        try simp only [Act.put, List.setIfInBounds_toArray, List.set_cons_zero, List.set_cons_succ]
        refine wpLate_take (i := 6) (oi := ?oi6r13_) (v := ?v6r13_) [7, 8, 9, 10, 11] ?hi6r13_ (by kernel_rfl) (by kernel_rfl) (by kernel_rfl) (by kernel_rfl) (by kernel_rfl) ?hQ6r13_ (Or.inl ⟨?hw6r13_, ?hy6r13_⟩) K5.out ?rest6r13_
        case hi6r13_ => (simp only [List.getElem?_toArray, List.getElem?_cons_zero, List.getElem?_cons_succ]; rfl)
        case hQ6r13_ => exact fun _ _ _ h => h
        case hw6r13_ => rfl
        case hy6r13_ =>
          intro w' hSw
          obtain ⟨r0, r1⟩ := hSw
          go_simp
          try exact rfl
        try simp only [Act.put, List.setIfInBounds_toArray, List.set_cons_zero, List.set_cons_succ]
        refine wpLate_take (i := 7) (oi := ?oi7r13_) (v := ?v7r13_) [8, 9, 10, 11] ?hi7r13_ (by kernel_rfl) (by kernel_rfl) (by kernel_rfl) (by kernel_rfl) (by kernel_rfl) ?hQ7r13_ (Or.inl ⟨?hw7r13_, ?hy7r13_⟩) K5.out ?rest7r13_
        case hi7r13_ => (simp only [List.getElem?_toArray, List.getElem?_cons_zero, List.getElem?_cons_succ]; rfl)
        case hQ7r13_ => exact fun _ _ _ h => h
        case hw7r13_ => rfl
        case hy7r13_ =>
          intro w' hSw
          obtain ⟨r0, r1⟩ := hSw
          go_simp
          try exact rfl
        try simp only [Act.put, List.setIfInBounds_toArray, List.set_cons_zero, List.set_cons_succ]
        refine wpLate_one (i := 8) (o := ?o8r13_) (by kernel_rfl) ?ho8r13_ ?hk8r13_
        case ho8r13_ => (simp only [List.getElem?_toArray, List.getElem?_cons_zero, List.getElem?_cons_succ]; rfl)
        intro K hK
        go_simp
        refine (HRX.out _).mono ?_
        rintro e W6 ⟨rfl, rfl⟩
        go_simp
        refine hK.out _ _ (fun h => K5.out) ?_
        clear hK K
        try simp only [Act.put, List.setIfInBounds_toArray, List.set_cons_zero, List.set_cons_succ]
        refine wpLate_take (i := 9) (oi := ?oi9r13_) (v := ?v9r13_) [10, 11] ?hi9r13_ (by kernel_rfl) (by kernel_rfl) (by kernel_rfl) (by kernel_rfl) (by kernel_rfl) ?hQ9r13_ (Or.inl ⟨?hw9r13_, ?hy9r13_⟩) K5.out ?rest9r13_
        case hi9r13_ => (simp only [List.getElem?_toArray, List.getElem?_cons_zero, List.getElem?_cons_succ]; rfl)
        case hQ9r13_ => exact fun _ _ _ h => h
        case hw9r13_ => rfl
        case hy9r13_ =>
          intro w' hSw
          obtain ⟨r0, r1⟩ := hSw
          go_simp
          try exact rfl
        try simp only [Act.put, List.setIfInBounds_toArray, List.set_cons_zero, List.set_cons_succ]
        refine wpLate_take (i := 10) (oi := ?oi10r13_) (v := ?v10r13_) [11] ?hi10r13_ (by kernel_rfl) (by kernel_rfl) (by kernel_rfl) (by kernel_rfl) (by kernel_rfl) ?hQ10r13_ (Or.inl ⟨?hw10r13_, ?hy10r13_⟩) K5.out ?rest10r13_
        case hi10r13_ => (simp only [List.getElem?_toArray, List.getElem?_cons_zero, List.getElem?_cons_succ]; rfl)
        case hQ10r13_ => exact fun _ _ _ h => h
        case hw10r13_ => rfl
        case hy10r13_ =>
          intro w' hSw
          obtain ⟨r0, r1⟩ := hSw
          go_simp
          try exact rfl
        try simp only [Act.put, List.setIfInBounds_toArray, List.set_cons_zero, List.set_cons_succ]
        refine wpLate_one (i := 11) (o := ?o11r13_) (by kernel_rfl) ?ho11r13_ ?hk11r13_
        case ho11r13_ => (simp only [List.getElem?_toArray, List.getElem?_cons_zero, List.getElem?_cons_succ]; rfl)
        intro K hK
        have l0 : W6.cell? ⟨W.heap.size + 1 + 1 + 1, 1, none⟩ = some (.int .i64 V) := K5.out.1
        have lf := H5.out.fo.frozen 1
        go_simp
        refine hK.out _ _ (fun h => absurd h (by decide)) ?_
        clear hK K
        try simp only [Act.put, List.setIfInBounds_toArray, List.set_cons_zero, List.set_cons_succ]
        refine wpLate_done (by kernel_rfl) ?_ _
        try simp only [Act.put, List.setIfInBounds_toArray, List.set_cons_zero, List.set_cons_succ]
        have H7 := Lib.hid (H5.out.set 1 (V + x) ⟨E, V + x, 0, 0⟩ rfl)
        clear l0 lf K5 H5
        go_wp2_with fail
        go_roundg (s.parts.length - (k + 1))
        case measure => omega
        case rel => exact ⟨k + 1, by omega, Nat.le_refl _, by go_num, Lib.hid (by rw [HSU.out]; exact H7.out)⟩
    have hlt2 : (k : Int) < s.calls.length := by omega
    have HVX : Hid (∀ w, DP W w r A c s AC AP cc cp ⟨(vl.take k).sum, 0, 0, 0⟩ → Calls Try.prog 43 #[.agg (ruc r A c), .agg (skc s AC AP cc cp), .int .i64 k] w fun e W' => e = .returned (.int .i64 (vl[k]'(by rw [HLN.out.1]; exact hlt))) ∧ Below w.heap.size w W') := Lib.hid fun w h => by
      have := HVL.out _ w k hlt h
      rw [← HVA.out k hlt (by rw [HLN.out.1]; exact hlt)] at this
      exact this
    have hvk : k < vl.length := by rw [HLN.out.1]; exact hlt
    have HSU : Hid ((vl.take (k + 1)).sum = (vl.take k).sum + vl[k]) := Lib.hid (sum_take_succ hvk)
    have hb1 := HVB.out.1 _ (List.getElem_mem hvk)
    have hb2 := HVB.out.2 k (by omega)
    have HFS := Lib.hid (And.intro (falls_succ hlt) (falls_le s.calls k))
    obtain ⟨g, o, M, m, hg, hgs, hc, -, -⟩ := (HW.out.v.rs.more HW.out.v.r.b.size).c k hlt
    have HCF : Hid (∀ w' x, DP W w' r A c s AC AP cc cp x → w'.cell? ⟨g, o + k * 6 + 4, none⟩ = some (.bool s.calls[k].fall)) := Lib.hid fun w' x h => by
      obtain ⟨g', o', M', m', hg', -, hc', -, -⟩ := h.v.rs.c k hlt
      rw [hg] at hg'
      cases hg'
      exact hc' 4 (by omega)
    obtain ⟨fb, hfb⟩ : ∃ b, b = s.calls[k].fall := ⟨_, rfl⟩
    rw [← hfb] at HCF HFS
    obtain ⟨x, hx⟩ : ∃ x, x = vl[k] := ⟨_, rfl⟩
    rw [← hx] at hb1 HSU
    simp only [← hx] at HVX
    obtain ⟨V, hV⟩ : ∃ V, V = (vl.take k).sum := ⟨_, rfl⟩
    rw [← hV] at hb2 HSU
    simp only [← hV] at HVX HW
    have hb3 : -48000000 ≤ V ∧ V ≤ 48000000 := by omega
    clear hb2
    have e1 : IntKind.i64.wrap (V + x) = V + x := IntWalk.i64_in _ (by omega)
    obtain ⟨q, hq⟩ : ∃ q, q = fallsP (s.calls.take k) := ⟨_, rfl⟩
    rw [← hq] at HFS ⊢
    have hq16 : q ≤ 16 := Nat.le_trans HFS.out.2 (by omega)
    have CS : Hid (∀ w', DP W w' r A c s AC AP cc cp ⟨V, 0, 0, 0⟩ → w'.cell? ⟨W.heap.size + 1 + 1 + 1, 0, none⟩ = some (.int .i64 V) ∧ w'.cell? ⟨W.heap.size, 0, none⟩ = some (.slice A r.bases.length c) ∧ w'.cell? ⟨W.heap.size, 1, none⟩ = some (.int .i64 r.factor) ∧ w'.cell? ⟨W.heap.size, 2, none⟩ = some (.int .i64 r.most) ∧ w'.cell? ⟨W.heap.size + 1, 0, none⟩ = some (.slice AC s.calls.length cc) ∧ w'.cell? ⟨W.heap.size + 1, 1, none⟩ = some (.slice AP s.parts.length cp) ∧ w'.cell? ⟨W.heap.size + 1, 2, none⟩ = some (.int .i64 s.over)) := Lib.hid fun w' h => ⟨h.fo.cell 0, h.v.r.fr.cell 0, h.v.r.fr.cell 1, h.v.r.fr.cell 2, h.v.fs.cell 0, h.v.fs.cell 1, h.v.fs.cell 2⟩
    subst hg
    clear hfb hx hV hq hc hgs HVL HVA HVB HPB HPA HCT HOF hb1
    go_upto_region 6 with fail
    have H5 := Lib.hid HW.out.drew
    have K5 := Lib.hid (CS.out _ H5.out)
    clear y0
    refine wp_region_late (fun w' : World => w'.cell? ⟨W.heap.size + 1 + 1 + 1, 0, none⟩ = some (.int .i64 V) ∧ w'.cell? ⟨W.heap.size, 0, none⟩ = some (.slice A r.bases.length c) ∧ w'.cell? ⟨W.heap.size, 1, none⟩ = some (.int .i64 r.factor) ∧ w'.cell? ⟨W.heap.size, 2, none⟩ = some (.int .i64 r.most) ∧ w'.cell? ⟨W.heap.size + 1, 0, none⟩ = some (.slice (some ⟨g, o, none⟩) s.calls.length cc) ∧ w'.cell? ⟨W.heap.size + 1, 1, none⟩ = some (.slice AP s.parts.length cp) ∧ w'.cell? ⟨W.heap.size + 1, 2, none⟩ = some (.int .i64 s.over)) [8] (by kernel_rfl) ?_
    generalize wr.drew = w5 at H5 K5 ⊢
    refine wpLate_take (i := 0) (oi := ?oi0r6_) (v := ?v0r6_) [1, 6, 7, 8] ?hi0r6_ (by kernel_rfl) (by kernel_rfl) (by kernel_rfl) (by kernel_rfl) (by kernel_rfl) ?hQ0r6_ (Or.inl ⟨?hw0r6_, ?hy0r6_⟩) K5.out ?rest0r6_
    case hi0r6_ => (simp only [List.getElem?_toArray, List.getElem?_cons_zero]; rfl)
    case hQ0r6_ => exact fun _ _ _ h => h
    case hw0r6_ => rfl
    case hy0r6_ =>
      intro w' hSw
      obtain ⟨r0, r1, r2, r3, r4, r5, r6⟩ := hSw
      go_simp
      try exact rfl
    try simp only [Act.put, List.setIfInBounds_toArray, List.set_cons_zero, List.set_cons_succ]
    refine wpLate_take (i := 1) (oi := ?oi1r6_) (v := ?v1r6_) [6, 7, 8] ?hi1r6_ (by kernel_rfl) (by kernel_rfl) (by kernel_rfl) (by kernel_rfl) (by kernel_rfl) ?hQ1r6_ (Or.inl ⟨?hw1r6_, ?hy1r6_⟩) K5.out ?rest1r6_
    case hi1r6_ => (simp only [List.getElem?_toArray, List.getElem?_cons_zero, List.getElem?_cons_succ]; rfl)
    case hQ1r6_ => exact fun _ _ _ h => h
    case hw1r6_ => rfl
    case hy1r6_ =>
      intro w' hSw
      obtain ⟨r0, r1, r2, r3, r4, r5, r6⟩ := hSw
      go_simp
      try exact rfl
    try simp only [Act.put, List.setIfInBounds_toArray, List.set_cons_zero, List.set_cons_succ]
    refine wpLate_take (i := 2) (oi := ?oi2r6_) (v := ?v2r6_) [5, 6, 7, 8] ?hi2r6_ (by kernel_rfl) (by kernel_rfl) (by kernel_rfl) (by kernel_rfl) (by kernel_rfl) ?hQ2r6_ (Or.inl ⟨?hw2r6_, ?hy2r6_⟩) K5.out ?rest2r6_
    case hi2r6_ => (simp only [List.getElem?_toArray, List.getElem?_cons_zero, List.getElem?_cons_succ]; rfl)
    case hQ2r6_ => exact fun _ _ _ h => h
    case hw2r6_ => rfl
    case hy2r6_ =>
      intro w' hSw
      obtain ⟨r0, r1, r2, r3, r4, r5, r6⟩ := hSw
      go_simp
      try exact rfl
    try simp only [Act.put, List.setIfInBounds_toArray, List.set_cons_zero, List.set_cons_succ]
    refine wpLate_take (i := 3) (oi := ?oi3r6_) (v := ?v3r6_) [5, 6, 7, 8] ?hi3r6_ (by kernel_rfl) (by kernel_rfl) (by kernel_rfl) (by kernel_rfl) (by kernel_rfl) ?hQ3r6_ (Or.inl ⟨?hw3r6_, ?hy3r6_⟩) K5.out ?rest3r6_
    case hi3r6_ => (simp only [List.getElem?_toArray, List.getElem?_cons_zero, List.getElem?_cons_succ]; rfl)
    case hQ3r6_ => exact fun _ _ _ h => h
    case hw3r6_ => rfl
    case hy3r6_ =>
      intro w' hSw
      obtain ⟨r0, r1, r2, r3, r4, r5, r6⟩ := hSw
      go_simp
      try exact rfl
    try simp only [Act.put, List.setIfInBounds_toArray, List.set_cons_zero, List.set_cons_succ]
    refine wpLate_take (i := 4) (oi := ?oi4r6_) (v := ?v4r6_) [5, 6, 7, 8] ?hi4r6_ (by kernel_rfl) (by kernel_rfl) (by kernel_rfl) (by kernel_rfl) (by kernel_rfl) ?hQ4r6_ (Or.inl ⟨?hw4r6_, ?hy4r6_⟩) K5.out ?rest4r6_
    case hi4r6_ => (simp only [List.getElem?_toArray, List.getElem?_cons_zero, List.getElem?_cons_succ]; rfl)
    case hQ4r6_ => exact fun _ _ _ h => h
    case hw4r6_ => rfl
    case hy4r6_ =>
      intro w' hSw
      obtain ⟨r0, r1, r2, r3, r4, r5, r6⟩ := hSw
      go_simp
      try exact rfl
    try simp only [Act.put, List.setIfInBounds_toArray, List.set_cons_zero, List.set_cons_succ]
    refine wpLate_one (i := 5) (o := ?o5r6_) (by kernel_rfl) ?ho5r6_ ?hk5r6_
    case ho5r6_ => (simp only [List.getElem?_toArray, List.getElem?_cons_zero, List.getElem?_cons_succ]; rfl)
    intro K hK
    go_simp
    refine (HVX.out _ H5.out).mono ?_
    rintro e W6 ⟨rfl, hb⟩
    have H6 := Lib.hid (H5.out.step hb)
    have K6 := Lib.hid (CS.out _ H6.out)
    clear hb H5 K5
    go_simp
    refine hK.out _ _ (fun h => K6.out) ?_
    clear hK K
    try simp only [Act.put, List.setIfInBounds_toArray, List.set_cons_zero, List.set_cons_succ]
    refine wpLate_take (i := 6) (oi := ?oi6r6_) (v := ?v6r6_) [7, 8] ?hi6r6_ (by kernel_rfl) (by kernel_rfl) (by kernel_rfl) (by kernel_rfl) (by kernel_rfl) ?hQ6r6_ (Or.inl ⟨?hw6r6_, ?hy6r6_⟩) K6.out ?rest6r6_
    case hi6r6_ => (simp only [List.getElem?_toArray, List.getElem?_cons_zero, List.getElem?_cons_succ]; rfl)
    case hQ6r6_ => exact fun _ _ _ h => h
    case hw6r6_ => rfl
    case hy6r6_ =>
      intro w' hSw
      obtain ⟨r0, r1, r2, r3, r4, r5, r6⟩ := hSw
      go_simp
      try exact rfl
    try simp only [Act.put, List.setIfInBounds_toArray, List.set_cons_zero, List.set_cons_succ]
    refine wpLate_take (i := 7) (oi := ?oi7r6_) (v := ?v7r6_) [8] ?hi7r6_ (by kernel_rfl) (by kernel_rfl) (by kernel_rfl) (by kernel_rfl) (by kernel_rfl) ?hQ7r6_ (Or.inl ⟨?hw7r6_, ?hy7r6_⟩) K6.out ?rest7r6_
    case hi7r6_ => (simp only [List.getElem?_toArray, List.getElem?_cons_zero, List.getElem?_cons_succ]; rfl)
    case hQ7r6_ => exact fun _ _ _ h => h
    case hw7r6_ => rfl
    case hy7r6_ =>
      intro w' hSw
      obtain ⟨r0, r1, r2, r3, r4, r5, r6⟩ := hSw
      go_simp
      try exact rfl
    try simp only [Act.put, List.setIfInBounds_toArray, List.set_cons_zero, List.set_cons_succ]
    refine wpLate_one (i := 8) (o := ?o8r6_) (by kernel_rfl) ?ho8r6_ ?hk8r6_
    case ho8r6_ => (simp only [List.getElem?_toArray, List.getElem?_cons_zero, List.getElem?_cons_succ]; rfl)
    intro K hK
    have l0 : W6.cell? ⟨W.heap.size + 1 + 1 + 1, 0, none⟩ = some (.int .i64 V) := H6.out.fo.cell 0
    have lf := H6.out.fo.frozen 0
    go_simp
    refine hK.out _ _ (fun h => absurd h (by decide)) ?_
    clear hK K
    try simp only [Act.put, List.setIfInBounds_toArray, List.set_cons_zero, List.set_cons_succ]
    refine wpLate_done (by kernel_rfl) ?_ _
    try simp only [Act.put, List.setIfInBounds_toArray, List.set_cons_zero, List.set_cons_succ]
    have H7 := Lib.hid (H6.out.set 0 (V + x) ⟨V + x, 0, 0, 0⟩ rfl)
    have hcf : (W6.setCell ⟨W.heap.size + 1 + 1 + 1, 0, none⟩ (.int .i64 (V + x))).cell? ⟨g, o + k * 6 + 4, none⟩ = some (.bool fb) := HCF.out _ _ H7.out
    clear l0 lf K6 H6 CS HVX HCF
    generalize W6.setCell ⟨W.heap.size + 1 + 1 + 1, 0, none⟩ (.int .i64 (V + x)) = w7 at H7 hcf ⊢
    have y0 : w7.cell? ⟨W.heap.size + 1, 0, none⟩ = some (.slice (some ⟨g, o, none⟩) s.calls.length cc) := H7.out.v.fs.cell 0
    cases fb
    · have HQ : Hid (fallsP (s.calls.take (k + 1)) = q) := Lib.hid HFS.out.1
      clear HFS
      go_wp2_with fail
      go_roundg (s.calls.length - (k + 1))
      case measure => omega
      case rel => exact ⟨k + 1, by omega, Nat.le_refl _, by go_num, by rw [HQ.out], Lib.hid (by rw [HSU.out]; exact H7.out)⟩
    · have HQ : Hid (fallsP (s.calls.take (k + 1)) = q + 1) := Lib.hid HFS.out.1
      clear HFS
      go_wp2_with fail
      go_roundg (s.calls.length - (k + 1))
      case measure => omega
      case rel => exact ⟨k + 1, by omega, Nat.le_refl _, by go_num, by rw [HQ.out]; go_num, Lib.hid (by rw [HSU.out]; exact H7.out)⟩
end Go.Proofs.Ytmclchaalmonnaa

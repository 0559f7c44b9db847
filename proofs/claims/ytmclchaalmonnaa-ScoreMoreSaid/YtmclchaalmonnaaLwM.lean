/- The law of what more marks, falls, seconds do. -/
import Derived.Test.YtmclchaalmonnaaMoB
namespace Go.Proofs.Ytmclchaalmonnaa
open Go.RowKit Go.Lib
attribute [local irreducible] wpQuiet
set_option maxRecDepth 100000 in
set_option maxHeartbeats 4000000 in
theorem moreLaw_any (r : Ru) (A : Option Addr) (c : Nat) (s : Sk) (AC AP : Option Addr) (cc cp : Nat) (n2 n3 : Int) (W : World) (hr : RuR W W.heap.size r A) (hs : SkR W W.heap.size s AC AP) (hn2 : 0 ≤ n2 ∧ n2 ≤ 255) (hn3 : 0 ≤ n3 ∧ n3 ≤ 255) :
    Calls Try.prog 10 #[ruv r A c, skv s AC AP cc cp, .int .u8 n2, .int .u8 n3] W (BoolPost true W) := by
  have HB : Hid (VL W ((W.alloc (.cells (ruc r A c) 24)).alloc (.cells (skc s AC AP cc cp) 28)) r A c s AC AP cc cp) := Lib.hid ⟨(below_one W _).alloc (by simp) _, (Has.new _ _ _).alloc _, has_newAt (by simp)⟩
  have HRS := Lib.hid (And.intro hr hs)
  have HG := Lib.hid (fun w (h : Below W.heap.size W w) g (hg : Has w g 28 (skc s AC AP cc cp)) => great_any [s] (some ⟨g, 0, none⟩) 1 1 w (by omega) (srow_one hg hg.lt ((hs.below h).more h.size)) (by simp [big]))
  have HAw := Lib.hid (fun w => alive_any w)
  have HP := Lib.hid (fun (s' : Sk) AC AP cc cp w (h : Below W.heap.size W w) (hs : SkR w w.heap.size s' AC AP) => Program_any r A c s' AC AP cc cp w ((hr.below h).more h.size) hs)
  have HP0 := Lib.hid (fun w (h : Below W.heap.size W w) => Program_any r A c s AC AP cc cp w ((hr.below h).more h.size) ((hs.below h).more h.size))
  have HCT := Lib.hid (fun w (h : Below W.heap.size W w) g (hg : Has w g 28 (skc s AC AP cc cp)) => Contest_any r A c [s] (some ⟨g, 0, none⟩) 1 w ((hr.below h).more h.size) (srow_one hg hg.lt ((hs.below h).more h.size)) (by simp [big]))
  have hrl := hr.l
  unfold big at hrl
  have HN2 := Lib.hid hn2
  have HN3 := Lib.hid hn3
  clear hn2 hn3
  generalize greatB [s] 1 = G at HG
  obtain ⟨X, hX⟩ : ∃ X, X = progR r s := ⟨_, rfl⟩
  rw [← hX] at HP0
  rw [progR_ct] at hX
  obtain ⟨cb, hcb⟩ : ∃ b, b = contestB r [s] := ⟨_, rfl⟩
  rw [← hcb] at HCT hX
  have HCB := Lib.hid hcb.symm
  obtain ⟨x, xe⟩ := X
  have HX := Lib.hid hX
  unfold BoolPost at HG HAw HCT
  unfold SEPost at HP HP0
  dsimp only [List.length_cons, List.length_nil] at HG HP HP0 HCT
  unfold scv at HP HP0
  clear hr hs hX hcb
  unfold ruv skv at *
  go_enter Try.func10, Try.ntmps10
  go_upto_region 1 with fail
  generalize (W.alloc (.cells (ruc r A c) 24)).alloc (.cells (skc s AC AP cc cp) 28) = w0 at HB ⊢
  have x0 : w0.cell? ⟨W.heap.size, 0, none⟩ = some (.slice A r.bases.length c) := HB.out.fr.cell 0
  have x1 : w0.cell? ⟨W.heap.size, 1, none⟩ = some (.int .i64 r.factor) := HB.out.fr.cell 1
  have x2 : w0.cell? ⟨W.heap.size, 2, none⟩ = some (.int .i64 r.most) := HB.out.fr.cell 2
  have y0 : w0.cell? ⟨W.heap.size + 1, 0, none⟩ = some (.slice AC s.calls.length cc) := HB.out.fs.cell 0
  have y1 : w0.cell? ⟨W.heap.size + 1, 1, none⟩ = some (.slice AP s.parts.length cp) := HB.out.fs.cell 1
  have y2 : w0.cell? ⟨W.heap.size + 1, 2, none⟩ = some (.int .i64 s.over) := HB.out.fs.cell 2
  by_cases h80 : (80 : Int) < r.bases.length
  · clear HP HP0 HCT HG
    go_wp2_with fail
    refine (HAw.out _).mono ?_
    rintro e w1 ⟨rfl, hb1⟩
    have H1 := Lib.hid (HB.out.step hb1)
    clear hb1
    go_wp2_with fail
    go_ret
    exact ⟨rfl, H1.out.b⟩
  have HB1 := Lib.hid (And.intro (HB.out.step (below_one w0 (.cells (skc s AC AP cc cp) 28))) (Has.new w0 28 (skc s AC AP cc cp)))
  go_wp2_with fail
  refine (HG.out _ HB1.out.1.b _ HB1.out.2).mono ?_
  rintro e w1 ⟨rfl, hb1⟩
  have H1 := Lib.hid (HB1.out.1.step hb1)
  clear hb1 x0 x1 x2 y0 y1 y2 HB HB1 HG h80
  cases G
  rotate_left
  · clear HP HP0 HCT
    go_wp2_with fail
    refine (HAw.out _).mono ?_
    rintro e w2 ⟨rfl, hb1⟩
    have H2 := Lib.hid (H1.out.step hb1)
    clear hb1
    go_wp2_with fail
    go_ret
    exact ⟨rfl, H2.out.b⟩
  cases cb
  · obtain ⟨rfl, rfl⟩ : x = zeroSc ∧ xe = 1 := by have := HX.out; simpa using this
    clear HP HCT HX
    dsimp only [zeroSc] at HP0
    have x0 : w1.cell? ⟨W.heap.size, 0, none⟩ = some (.slice A r.bases.length c) := H1.out.fr.cell 0
    have x1 : w1.cell? ⟨W.heap.size, 1, none⟩ = some (.int .i64 r.factor) := H1.out.fr.cell 1
    have x2 : w1.cell? ⟨W.heap.size, 2, none⟩ = some (.int .i64 r.most) := H1.out.fr.cell 2
    have y0 : w1.cell? ⟨W.heap.size + 1, 0, none⟩ = some (.slice AC s.calls.length cc) := H1.out.fs.cell 0
    have y1 : w1.cell? ⟨W.heap.size + 1, 1, none⟩ = some (.slice AP s.parts.length cp) := H1.out.fs.cell 1
    have y2 : w1.cell? ⟨W.heap.size + 1, 2, none⟩ = some (.int .i64 s.over) := H1.out.fs.cell 2
    have he := fun w => eql33 0 0 0 0 0 0 0 0 w
    rw [show decide ((0 : Int) = 0 ∧ (0 : Int) = 0 ∧ (0 : Int) = 0 ∧ (0 : Int) = 0) = true by decide] at he
    go_wp2_with fail
    refine (HP0.out _ H1.out.b).mono ?_
    rintro e w2 ⟨rfl, hb2⟩
    have H2 : Hid (XW W (w2.alloc (.cells #[.int .i64 0, .int .i64 0, .int .i64 0, .int .i64 0] 33)) r A c s AC AP cc cp w2.heap.size zeroSc) := Lib.hid ⟨(H1.out.step hb2).step (below_one _ _), Has.new _ _ _⟩
    clear hb2 x0 x1 x2 y0 y1 y2 H1
    go_upto_region 4 with fail
    generalize w2.alloc (.cells #[.int .i64 0, .int .i64 0, .int .i64 0, .int .i64 0] 33) = w3 at H2 ⊢
    generalize w2.heap.size = D at H2 ⊢
    have a0 : w3.cell? ⟨D, 0, none⟩ = some (.int .i64 0) := H2.out.fx.cell 0
    have a1 : w3.cell? ⟨D, 1, none⟩ = some (.int .i64 0) := H2.out.fx.cell 1
    have a2 : w3.cell? ⟨D, 2, none⟩ = some (.int .i64 0) := H2.out.fx.cell 2
    have a3 : w3.cell? ⟨D, 3, none⟩ = some (.int .i64 0) := H2.out.fx.cell 3
    go_wp2_with fail
    refine (HAw.out _).mono ?_
    rintro e w4 ⟨rfl, hb4⟩
    have H4 := Lib.hid (H2.out.step hb4)
    clear hb4 a0 a1 a2 a3 he
    go_wp2_with fail
    go_ret
    exact ⟨rfl, H4.out.v.b⟩
  obtain ⟨hxx, rfl⟩ : x = progP r s ∧ xe = 0 := by have := HX.out; simpa using this
  have HXX := Lib.hid hxx
  have HOK := Lib.hid (contest_ok HCB.out)
  have hvs := HOK.out.2 s List.mem_cons_self
  have hnc := hvs.nc
  have hov := hvs.o
  have HVS := Lib.hid hvs
  have HOF := Lib.hid (fun f w (hf : f ≤ 1000) => Off_any f s.over.toNat w hf (by omega))
  rw [show (s.over.toNat : Int) = s.over by omega] at HOF
  have HOX : Hid (dOff (fallsP s.calls) s.over = x.off) := Lib.hid (by rw [hxx]; rfl)
  unfold IntPost at HOF
  clear hvs hxx HX HOK
  have x0 : w1.cell? ⟨W.heap.size, 0, none⟩ = some (.slice A r.bases.length c) := H1.out.fr.cell 0
  have x1 : w1.cell? ⟨W.heap.size, 1, none⟩ = some (.int .i64 r.factor) := H1.out.fr.cell 1
  have x2 : w1.cell? ⟨W.heap.size, 2, none⟩ = some (.int .i64 r.most) := H1.out.fr.cell 2
  have y0 : w1.cell? ⟨W.heap.size + 1, 0, none⟩ = some (.slice AC s.calls.length cc) := H1.out.fs.cell 0
  have y1 : w1.cell? ⟨W.heap.size + 1, 1, none⟩ = some (.slice AP s.parts.length cp) := H1.out.fs.cell 1
  have y2 : w1.cell? ⟨W.heap.size + 1, 2, none⟩ = some (.int .i64 s.over) := H1.out.fs.cell 2
  go_wp2_with fail
  refine (HP0.out _ H1.out.b).mono ?_
  rintro e w2 ⟨rfl, hb2⟩
  have H2 : Hid (XW W (w2.alloc (.cells #[.int .i64 x.elements, .int .i64 x.parts, .int .i64 x.off, .int .i64 x.total] 33)) r A c s AC AP cc cp w2.heap.size x ∧ W.heap.size + 1 < w2.heap.size) := Lib.hid ⟨⟨(H1.out.step hb2).step (below_one _ _), Has.new _ _ _⟩, Nat.lt_of_lt_of_le H1.out.fs.lt hb2.size⟩
  clear hb2 x0 x1 x2 y0 y1 y2 H1 HP0
  go_upto_region 4 with fail
  generalize w2.alloc (.cells #[.int .i64 x.elements, .int .i64 x.parts, .int .i64 x.off, .int .i64 x.total] 33) = w3 at H2 ⊢
  generalize w2.heap.size = D at H2 ⊢
  have HD := Lib.hid H2.out.2
  replace H2 := Lib.hid H2.out.1
  have y0 : w3.cell? ⟨W.heap.size + 1, 0, none⟩ = some (.slice AC s.calls.length cc) := H2.out.v.fs.cell 0
  go_wp2_with fail
  clear y0
  go_loopg [11, 51] s.calls.length (fun gk n i wr => ∃ k : Nat, k ≤ s.calls.length ∧ s.calls.length - k ≤ gk ∧ i = .int .i64 k ∧ n = .int .i64 (fallsP (s.calls.take k) : Nat) ∧ Hid (XW W wr r A c s AC AP cc cp D x))
  case atStart => exact ⟨0, Nat.zero_le _, Nat.le_refl _, rfl, rfl, H2⟩
  case round =>
    clear H2
    obtain ⟨k, hk, hgk, rfl, rfl, HW⟩ := hrel
    by_cases hlt : k < s.calls.length
    rotate_left
    · have hge : ¬ (k : Int) < s.calls.length := by omega
      have HF : Hid (fallsP (s.calls.take k) = fallsP s.calls) := Lib.hid (by rw [List.take_of_length_le (by omega)])
      have hfl : fallsP (s.calls.take k) ≤ 16 := Nat.le_trans (falls_le _ _) (by omega)
      obtain ⟨f, hf⟩ : ∃ f, f = fallsP (s.calls.take k) := ⟨_, rfl⟩
      rw [← hf] at HF hfl ⊢
      clear hf hk hgk hlt
      have HO := Lib.hid (fun w => HOF.out f w (by omega))
      rw [HF.out, HOX.out, ← HF.out] at HO
      clear HOF HF HOX
      go_upto_region 13 with fail
      have H5 := Lib.hid HW.out.drew
      have K5 : Hid (wr.drew.cell? ⟨D, 2, none⟩ = some (.int .i64 x.off) ∧ wr.drew.cell? ⟨W.heap.size + 1, 2, none⟩ = some (.int .i64 s.over)) := Lib.hid ⟨H5.out.fx.cell 2, H5.out.v.fs.cell 2⟩
      clear HW
      refine wp_region_late (fun w' : World => w'.cell? ⟨D, 2, none⟩ = some (.int .i64 x.off) ∧ w'.cell? ⟨W.heap.size + 1, 2, none⟩ = some (.int .i64 s.over)) [] (by kernel_rfl) ?_
      generalize wr.drew = w5 at H5 K5 ⊢
      refine wpLate_take (i := 0) (oi := ?oi0r13_) (v := ?v0r13_) [1, 6] ?hi0r13_ (by kernel_rfl) (by kernel_rfl) (by kernel_rfl) (by kernel_rfl) (by kernel_rfl) ?hQ0r13_ (Or.inl ⟨?hw0r13_, ?hy0r13_⟩) K5.out ?rest0r13_
      case hi0r13_ => (simp only [List.getElem?_toArray, List.getElem?_cons_zero]; rfl)
      case hQ0r13_ => exact fun _ _ _ h => h
      case hw0r13_ => rfl
      case hy0r13_ =>
        intro w' hSw
        obtain ⟨r0, r1⟩ := hSw
        go_simp
        try exact rfl
      try simp only [Act.put, List.setIfInBounds_toArray, List.set_cons_zero, List.set_cons_succ]
      refine wpLate_take (i := 1) (oi := ?oi1r13_) (v := ?v1r13_) [6] ?hi1r13_ (by kernel_rfl) (by kernel_rfl) (by kernel_rfl) (by kernel_rfl) (by kernel_rfl) ?hQ1r13_ (Or.inl ⟨?hw1r13_, ?hy1r13_⟩) K5.out ?rest1r13_
      case hi1r13_ => (simp only [List.getElem?_toArray, List.getElem?_cons_zero, List.getElem?_cons_succ]; rfl)
      case hQ1r13_ => exact fun _ _ _ h => h
      case hw1r13_ => rfl
      case hy1r13_ =>
        intro w' hSw
        obtain ⟨r0, r1⟩ := hSw
        go_simp
        try exact rfl
      try simp only [Act.put, List.setIfInBounds_toArray, List.set_cons_zero, List.set_cons_succ]
      refine wpLate_take (i := 2) (oi := ?oi2r13_) (v := ?v2r13_) [5, 6] ?hi2r13_ (by kernel_rfl) (by kernel_rfl) (by kernel_rfl) (by kernel_rfl) (by kernel_rfl) ?hQ2r13_ (Or.inl ⟨?hw2r13_, ?hy2r13_⟩) K5.out ?rest2r13_
      case hi2r13_ => (simp only [List.getElem?_toArray, List.getElem?_cons_zero, List.getElem?_cons_succ]; rfl)
      case hQ2r13_ => exact fun _ _ _ h => h
      case hw2r13_ => rfl
      case hy2r13_ =>
        intro w' hSw
        obtain ⟨r0, r1⟩ := hSw
        go_simp
        try exact rfl
      try simp only [Act.put, List.setIfInBounds_toArray, List.set_cons_zero, List.set_cons_succ]
      refine wpLate_take (i := 3) (oi := ?oi3r13_) (v := ?v3r13_) [4, 5, 6] ?hi3r13_ (by kernel_rfl) (by kernel_rfl) (by kernel_rfl) (by kernel_rfl) (by kernel_rfl) ?hQ3r13_ (Or.inl ⟨?hw3r13_, ?hy3r13_⟩) K5.out ?rest3r13_
      case hi3r13_ => (simp only [List.getElem?_toArray, List.getElem?_cons_zero, List.getElem?_cons_succ]; rfl)
      case hQ3r13_ => exact fun _ _ _ h => h
      case hw3r13_ => rfl
      case hy3r13_ =>
        intro w' hSw
        obtain ⟨r0, r1⟩ := hSw
        go_simp
        try exact rfl
      try simp only [Act.put, List.setIfInBounds_toArray, List.set_cons_zero, List.set_cons_succ]
      refine wpLate_take (i := 4) (oi := ?oi4r13_) (v := ?v4r13_) [5, 6] ?hi4r13_ (by kernel_rfl) (by kernel_rfl) (by kernel_rfl) (by kernel_rfl) (by kernel_rfl) ?hQ4r13_ (Or.inl ⟨?hw4r13_, ?hy4r13_⟩) K5.out ?rest4r13_
      case hi4r13_ => (simp only [List.getElem?_toArray, List.getElem?_cons_zero, List.getElem?_cons_succ]; rfl)
      case hQ4r13_ => exact fun _ _ _ h => h
      case hw4r13_ => rfl
      case hy4r13_ =>
        intro w' hSw
        obtain ⟨r0, r1⟩ := hSw
        go_simp
        try exact rfl
      try simp only [Act.put, List.setIfInBounds_toArray, List.set_cons_zero, List.set_cons_succ]
      refine wpLate_one (i := 5) (o := ?o5r13_) (by kernel_rfl) ?ho5r13_ ?hk5r13_
      case ho5r13_ => (simp only [List.getElem?_toArray, List.getElem?_cons_zero, List.getElem?_cons_succ]; rfl)
      intro K hK
      go_simp
      refine (HO.out _).mono ?_
      rintro e W6 ⟨rfl, hb⟩
      have H6 := Lib.hid (H5.out.step hb)
      have K6 : Hid (W6.cell? ⟨D, 2, none⟩ = some (.int .i64 x.off) ∧ W6.cell? ⟨W.heap.size + 1, 2, none⟩ = some (.int .i64 s.over)) := Lib.hid ⟨H6.out.fx.cell 2, H6.out.v.fs.cell 2⟩
      clear hb H5 K5 HO
      go_simp
      refine hK.out _ _ (fun h => K6.out) ?_
      clear hK K
      try simp only [Act.put, List.setIfInBounds_toArray, List.set_cons_zero, List.set_cons_succ]
      refine wpLate_take (i := 6) (oi := ?oi6r13_) (v := ?v6r13_) [] ?hi6r13_ (by kernel_rfl) (by kernel_rfl) (by kernel_rfl) (by kernel_rfl) (by kernel_rfl) ?hQ6r13_ (Or.inl ⟨?hw6r13_, ?hy6r13_⟩) K6.out ?rest6r13_
      case hi6r13_ => (simp only [List.getElem?_toArray, List.getElem?_cons_zero, List.getElem?_cons_succ]; rfl)
      case hQ6r13_ => exact fun _ _ _ h => h
      case hw6r13_ => rfl
      case hy6r13_ =>
        intro w' hSw
        obtain ⟨r0, r1⟩ := hSw
        go_simp
        try exact rfl
      try simp only [Act.put, List.setIfInBounds_toArray, List.set_cons_zero, List.set_cons_succ]
      refine wpLate_done (by kernel_rfl) ?_ _
      try simp only [Act.put, List.setIfInBounds_toArray, List.set_cons_zero, List.set_cons_succ]
      clear K6
      have y0 : W6.cell? ⟨W.heap.size + 1, 0, none⟩ = some (.slice AC s.calls.length cc) := H6.out.v.fs.cell 0
      have y1 : W6.cell? ⟨W.heap.size + 1, 1, none⟩ = some (.slice AP s.parts.length cp) := H6.out.v.fs.cell 1
      have y2 : W6.cell? ⟨W.heap.size + 1, 2, none⟩ = some (.int .i64 s.over) := H6.out.v.fs.cell 2
      have H7 : Hid (XW W (W6.alloc (.cells (skc s AC AP cc cp) 28)) r A c s AC AP cc cp D x ∧ Has (W6.alloc (.cells (skc s AC AP cc cp) 28)) W6.heap.size 28 (skc s AC AP cc cp) ∧ D < W6.heap.size) := Lib.hid ⟨H6.out.step (below_one _ _), Has.new _ _ _, H6.out.fx.lt⟩
      go_upto_region 16 with fail
      clear y0 y1 y2 H6
      generalize W6.alloc (.cells (skc s AC AP cc cp) 28) = w7 at H7 ⊢
      generalize W6.heap.size = L at H7 ⊢
      have y2 : w7.cell? ⟨W.heap.size + 1, 2, none⟩ = some (.int .i64 s.over) := H7.out.1.v.fs.cell 2
      have l2 : w7.cell? ⟨L, 2, none⟩ = some (.int .i64 s.over) := H7.out.2.1.cell 2
      have lf := H7.out.2.1.frozen 2
      have e1 : IntKind.i64.wrap (s.over + 5) = s.over + 5 := IntWalk.i64_in _ (by omega)
      have HPL : Hid (∀ w, Below W.heap.size W w → Calls Try.prog 14 #[.agg (ruc r A c), .agg #[.slice AC s.calls.length cc, .slice AP s.parts.length cp, .int .i64 (min 600 (s.over + 5))]] w fun e W' => e = .returned (.tuple #[.agg (scc (progP r (lateS s))), .int .i64 0]) ∧ Below w.heap.size w W') := Lib.hid fun w h => by
        have hs' := (HRS.out.2.below h).more h.size
        have := HP.out (lateS s) AC AP cc cp w h ⟨hs'.c, hs'.p, hs'.lc, hs'.lp⟩
        rw [progR_one (contest_late HCB.out)] at this
        exact this
      have HSC := late_sc (r := r) HVS.out
      rw [← HXX.out] at HSC
      have H8 : Hid (XW W (w7.setCell ⟨L, 2, none⟩ (.int .i64 (min 600 (s.over + 5)))) r A c s AC AP cc cp D x ∧ Has (w7.setCell ⟨L, 2, none⟩ (.int .i64 (min 600 (s.over + 5)))) L 28 #[.slice AC s.calls.length cc, .slice AP s.parts.length cp, .int .i64 (min 600 (s.over + 5))]) := Lib.hid (by
        have hD := HD.out
        have hL := H7.out.2.2
        have hb : Below (W.heap.size + 1 + 1) w7 (w7.setCell ⟨L, 2, none⟩ (.int .i64 (min 600 (s.over + 5)))) := (Below.refl _ _).setCell (by simp only; omega) _
        exact ⟨⟨H7.out.1.v.high hb (by omega), H7.out.1.fx.far (by simp only; omega) _⟩, H7.out.2.1.set 2 _⟩)
      obtain ⟨b, hb⟩ : ∃ b, b = progP r (lateS s) := ⟨_, rfl⟩
      rw [← hb] at HSC HPL
      clear hb
      obtain ⟨be, bp, bo, bt⟩ := b
      obtain ⟨rfl, ho1, ho2⟩ : be = x.elements ∧ x.off ≤ bo ∧ bt ≤ x.total := HSC
      dsimp only [scc] at HPL
      go_upto_region 17 with fail
      generalize w7.setCell ⟨L, 2, none⟩ (.int .i64 (min 600 (s.over + 5))) = w8 at H8 ⊢
      generalize min 600 (s.over + 5) = ov at H8 HPL ⊢
      clear y2 l2 lf e1 H7
      have x0 : w8.cell? ⟨W.heap.size, 0, none⟩ = some (.slice A r.bases.length c) := H8.out.1.v.fr.cell 0
      have x1 : w8.cell? ⟨W.heap.size, 1, none⟩ = some (.int .i64 r.factor) := H8.out.1.v.fr.cell 1
      have x2 : w8.cell? ⟨W.heap.size, 2, none⟩ = some (.int .i64 r.most) := H8.out.1.v.fr.cell 2
      have l0 : w8.cell? ⟨L, 0, none⟩ = some (.slice AC s.calls.length cc) := H8.out.2.cell 0
      have l1 : w8.cell? ⟨L, 1, none⟩ = some (.slice AP s.parts.length cp) := H8.out.2.cell 1
      have l2 : w8.cell? ⟨L, 2, none⟩ = some (.int .i64 ov) := H8.out.2.cell 2
      go_wp2_with fail
      refine (HPL.out _ H8.out.1.v.b).mono ?_
      rintro e w9 ⟨rfl, hb9⟩
      have H9 : Hid (XW W (w9.alloc (.cells #[.int .i64 x.elements, .int .i64 bp, .int .i64 bo, .int .i64 bt] 33)) r A c s AC AP cc cp D x ∧ Has (w9.alloc (.cells #[.int .i64 x.elements, .int .i64 bp, .int .i64 bo, .int .i64 bt] 33)) w9.heap.size 33 #[.int .i64 x.elements, .int .i64 bp, .int .i64 bo, .int .i64 bt] ∧ D < w9.heap.size) := Lib.hid ⟨(H8.out.1.step hb9).step (below_one _ _), Has.new _ _ _, Nat.lt_of_lt_of_le H8.out.1.fx.lt hb9.size⟩
      clear hb9 x0 x1 x2 l0 l1 l2 H8 HPL
      go_upto_region 18 with fail
      generalize w9.alloc (.cells #[.int .i64 x.elements, .int .i64 bp, .int .i64 bo, .int .i64 bt] 33) = w10 at H9 ⊢
      generalize w9.heap.size = F at H9 ⊢
      have a0 : w10.cell? ⟨D, 0, none⟩ = some (.int .i64 x.elements) := H9.out.1.fx.cell 0
      have a1 : w10.cell? ⟨D, 1, none⟩ = some (.int .i64 x.parts) := H9.out.1.fx.cell 1
      have a2 : w10.cell? ⟨D, 2, none⟩ = some (.int .i64 x.off) := H9.out.1.fx.cell 2
      have a3 : w10.cell? ⟨D, 3, none⟩ = some (.int .i64 x.total) := H9.out.1.fx.cell 3
      have b0 : w10.cell? ⟨F, 0, none⟩ = some (.int .i64 x.elements) := H9.out.2.1.cell 0
      have b1 : w10.cell? ⟨F, 1, none⟩ = some (.int .i64 bp) := H9.out.2.1.cell 1
      have b2 : w10.cell? ⟨F, 2, none⟩ = some (.int .i64 bo) := H9.out.2.1.cell 2
      have b3 : w10.cell? ⟨F, 3, none⟩ = some (.int .i64 bt) := H9.out.2.1.cell 3
      have u1 : ¬ x.total < bt := by omega
      have u2 : ¬ bo < x.off := by omega
      have y0 : w10.cell? ⟨W.heap.size + 1, 0, none⟩ = some (.slice AC s.calls.length cc) := H9.out.1.v.fs.cell 0
      have y1 : w10.cell? ⟨W.heap.size + 1, 1, none⟩ = some (.slice AP s.parts.length cp) := H9.out.1.v.fs.cell 1
      have y2 : w10.cell? ⟨W.heap.size + 1, 2, none⟩ = some (.int .i64 s.over) := H9.out.1.v.fs.cell 2
      have x0 : w10.cell? ⟨W.heap.size, 0, none⟩ = some (.slice A r.bases.length c) := H9.out.1.v.fr.cell 0
      have x1 : w10.cell? ⟨W.heap.size, 1, none⟩ = some (.int .i64 r.factor) := H9.out.1.v.fr.cell 1
      have x2 : w10.cell? ⟨W.heap.size, 2, none⟩ = some (.int .i64 r.most) := H9.out.1.v.fr.cell 2
      by_cases hl0 : s.calls.length = 0
      · have hq : ((s.calls.length : Int) == 0) = true := by simp [hl0]
        clear HP HCT hl0
        go_wp2_with fail
        refine (HAw.out _).mono ?_
        rintro e w11 ⟨rfl, hb⟩
        have H11 := Lib.hid (H9.out.1.step hb)
        clear hb
        go_wp2_with fail
        go_ret
        exact ⟨rfl, H11.out.v.b⟩
      have hq : ((s.calls.length : Int) == 0) = false := by simpa using hl0
      have HB1 : Hid (XW W (w10.alloc (.cells (skc s AC AP cc cp) 28)) r A c s AC AP cc cp D x ∧ Has (w10.alloc (.cells (skc s AC AP cc cp) 28)) w10.heap.size 28 (skc s AC AP cc cp) ∧ Has (w10.alloc (.cells (skc s AC AP cc cp) 28)) F 33 #[.int .i64 x.elements, .int .i64 bp, .int .i64 bo, .int .i64 bt]) := Lib.hid ⟨H9.out.1.step (below_one _ _), Has.new _ _ _, H9.out.2.1.alloc _⟩
      go_wp2_with fail
      refine (HCT.out _ HB1.out.1.v.b _ HB1.out.2.1).mono ?_
      rintro e w11 ⟨rfl, hb11⟩
      have H11 : Hid (XW W w11 r A c s AC AP cc cp D x ∧ Has w11 F 33 #[.int .i64 x.elements, .int .i64 bp, .int .i64 bo, .int .i64 bt] ∧ D < F) := Lib.hid ⟨HB1.out.1.step hb11, HB1.out.2.2.below hb11 HB1.out.2.2.lt, H9.out.2.2⟩
      clear hb11 x0 x1 x2 y0 y1 y2 a0 a1 a2 a3 b0 b1 b2 b3 u1 u2 H9 HB1 HCT
      obtain ⟨k, hk⟩ : ∃ k, k = n2.toNat % s.calls.length := ⟨_, rfl⟩
      have hkl : k < s.calls.length := by rw [hk]; exact Nat.mod_lt _ (by omega)
      have hLz : ¬ (s.calls.length : Int) = 0 := by omega
      have ec : IntKind.i64.wrap n2 = n2 := IntWalk.i64_in _ (by have := HN2.out; omega)
      have em : n2.tmod (s.calls.length : Int) = (k : Int) := by
        have hn := HN2.out
        rw [Int.tmod_eq_emod_of_nonneg hn.1, hk]
        have h1 : n2 = ((n2.toNat : Nat) : Int) := by omega
        rw [Int.natCast_emod, ← h1]
      have HK := Lib.hid hk
      have y0 : w11.cell? ⟨W.heap.size + 1, 0, none⟩ = some (.slice AC s.calls.length cc) := H11.out.1.v.fs.cell 0
      clear hk
      go_upto_region 23 with fail
      clear ec em y0 hLz
      go_cut [18, 19, 120, 121] (fun u18 u19 u120 u121 wx => ∃ p q, u18 = .pointer (some ⟨p, 0, none⟩) ∧ u19 = .pointer (some ⟨q, 0, none⟩) ∧ Hid (YW W wx r A c s AC AP cc cp D F p q x #[.int .i64 x.elements, .int .i64 bp, .int .i64 bo, .int .i64 bt] #[.slice AC s.calls.length cc, .slice AP s.parts.length cp, .int .i64 s.over] #[.slice AC s.calls.length cc, .slice AP s.parts.length cp, .int .i64 s.over]))
      case first =>
        have H5 := Lib.hid (show XW W w11.drew r A c s AC AP cc cp D x ∧ Has w11.drew F 33 #[.int .i64 x.elements, .int .i64 bp, .int .i64 bo, .int .i64 bt] ∧ D < F ∧ W.heap.size + 1 < D from ⟨H11.out.1.drew, H11.out.2.1.drew, H11.out.2.2, HD.out⟩)
        have K5 : Hid (w11.drew.cell? ⟨W.heap.size + 1, 0, none⟩ = some (.slice AC s.calls.length cc) ∧ w11.drew.cell? ⟨W.heap.size + 1, 1, none⟩ = some (.slice AP s.parts.length cp) ∧ w11.drew.cell? ⟨W.heap.size + 1, 2, none⟩ = some (.int .i64 s.over)) := Lib.hid ⟨(H5.out.1).v.fs.cell 0, (H5.out.1).v.fs.cell 1, (H5.out.1).v.fs.cell 2⟩
        refine wp_region_late (fun w' : World => w'.cell? ⟨W.heap.size + 1, 0, none⟩ = some (.slice AC s.calls.length cc) ∧ w'.cell? ⟨W.heap.size + 1, 1, none⟩ = some (.slice AP s.parts.length cp) ∧ w'.cell? ⟨W.heap.size + 1, 2, none⟩ = some (.int .i64 s.over)) [] (by kernel_rfl) ?_
        generalize w11.drew = w5 at H5 K5 ⊢
        refine wpLate_take (i := 0) (oi := ?oi0r23_) (v := ?v0r23_) [4, 5] ?hi0r23_ (by kernel_rfl) (by kernel_rfl) (by kernel_rfl) (by kernel_rfl) (by kernel_rfl) ?hQ0r23_ (Or.inl ⟨?hw0r23_, ?hy0r23_⟩) K5.out ?rest0r23_
        case hi0r23_ => (simp only [List.getElem?_toArray, List.getElem?_cons_zero]; rfl)
        case hQ0r23_ => exact fun _ _ _ h => h
        case hw0r23_ => rfl
        case hy0r23_ =>
          intro w' hSw
          obtain ⟨r0, r1, r2⟩ := hSw
          go_simp
          try exact rfl
        try simp only [Act.put, List.setIfInBounds_toArray, List.set_cons_zero, List.set_cons_succ]
        refine wpLate_take (i := 1) (oi := ?oi1r23_) (v := ?v1r23_) [5] ?hi1r23_ (by kernel_rfl) (by kernel_rfl) (by kernel_rfl) (by kernel_rfl) (by kernel_rfl) ?hQ1r23_ (Or.inl ⟨?hw1r23_, ?hy1r23_⟩) K5.out ?rest1r23_
        case hi1r23_ => (simp only [List.getElem?_toArray, List.getElem?_cons_zero, List.getElem?_cons_succ]; rfl)
        case hQ1r23_ => exact fun _ _ _ h => h
        case hw1r23_ => rfl
        case hy1r23_ =>
          intro w' hSw
          obtain ⟨r0, r1, r2⟩ := hSw
          go_simp
          try exact rfl
        try simp only [Act.put, List.setIfInBounds_toArray, List.set_cons_zero, List.set_cons_succ]
        refine wpLate_two (i := 2) (j := 3) (o := ?oA) (u := ?uA) (by kernel_rfl) ?hoA ?huA ?hkA ?hkB
        case hoA => (simp only [List.getElem?_toArray, List.getElem?_cons_zero, List.getElem?_cons_succ]; rfl)
        case huA => (simp only [List.getElem?_toArray, List.getElem?_cons_zero, List.getElem?_cons_succ]; rfl)
        case hkA =>
          intro K hK
          go_simp
          refine hK.out _ _ (fun h => ⟨(H5.out.1.step (below_one w5 (.cells #[.slice none 0 0, .slice none 0 0, .int .i64 0] 28))).v.fs.cell 0, (H5.out.1.step (below_one w5 (.cells #[.slice none 0 0, .slice none 0 0, .int .i64 0] 28))).v.fs.cell 1, (H5.out.1.step (below_one w5 (.cells #[.slice none 0 0, .slice none 0 0, .int .i64 0] 28))).v.fs.cell 2⟩) ?_
          clear hK K
          try simp only [Act.put, List.setIfInBounds_toArray, List.set_cons_zero, List.set_cons_succ]
          refine wpLate_one (i := 3) (o := ?oA2) (by kernel_rfl) ?hoA2 ?hkA2
          case hoA2 => (simp only [List.getElem?_toArray, List.getElem?_cons_zero, List.getElem?_cons_succ]; rfl)
          intro K hK
          go_simp
          refine hK.out _ _ (fun h => ⟨((H5.out.1.step (below_one w5 (.cells #[.slice none 0 0, .slice none 0 0, .int .i64 0] 28))).step (below_one (w5.alloc (.cells #[.slice none 0 0, .slice none 0 0, .int .i64 0] 28)) (.cells #[.slice none 0 0, .slice none 0 0, .int .i64 0] 28))).v.fs.cell 0, ((H5.out.1.step (below_one w5 (.cells #[.slice none 0 0, .slice none 0 0, .int .i64 0] 28))).step (below_one (w5.alloc (.cells #[.slice none 0 0, .slice none 0 0, .int .i64 0] 28)) (.cells #[.slice none 0 0, .slice none 0 0, .int .i64 0] 28))).v.fs.cell 1, ((H5.out.1.step (below_one w5 (.cells #[.slice none 0 0, .slice none 0 0, .int .i64 0] 28))).step (below_one (w5.alloc (.cells #[.slice none 0 0, .slice none 0 0, .int .i64 0] 28)) (.cells #[.slice none 0 0, .slice none 0 0, .int .i64 0] 28))).v.fs.cell 2⟩) ?_
          clear hK K
          try simp only [Act.put, List.setIfInBounds_toArray, List.set_cons_zero, List.set_cons_succ]
          have HY : Hid (YW W ((w5.alloc (.cells #[.slice none 0 0, .slice none 0 0, .int .i64 0] 28)).alloc (.cells #[.slice none 0 0, .slice none 0 0, .int .i64 0] 28)) r A c s AC AP cc cp D F w5.heap.size (w5.heap.size + 1) x #[.int .i64 x.elements, .int .i64 bp, .int .i64 bo, .int .i64 bt] #[.slice none 0 0, .slice none 0 0, .int .i64 0] #[.slice none 0 0, .slice none 0 0, .int .i64 0]) := Lib.hid ⟨(H5.out.1.step (below_one _ _)).step (below_one _ _), (H5.out.2.1.alloc _).alloc _, (Has.new _ _ _).alloc _, has_newAt (by simp), H5.out.2.2.1, by have := H5.out.2.1.lt; omega, by have := H5.out.2.1.lt; omega, by omega, H5.out.2.2.2⟩
          generalize (w5.alloc (.cells #[.slice none 0 0, .slice none 0 0, .int .i64 0] 28)).alloc (.cells #[.slice none 0 0, .slice none 0 0, .int .i64 0] 28) = w6 at HY ⊢
          try simp only [World.size_alloc] at HY ⊢
          generalize w5.heap.size + 1 = q at HY ⊢
          generalize w5.heap.size = p at HY ⊢
          have p0 := HY.out.fp.cell 0
          have f0 := HY.out.fp.frozen 0
          have p1 := HY.out.fp.cell 1
          have f1 := HY.out.fp.frozen 1
          have p2 := HY.out.fp.cell 2
          have f2 := HY.out.fp.frozen 2
          simp at p0 p1 p2
          have HY2 : Hid (YW W (((w6.setCell ⟨p, 0, none⟩ (.slice AC s.calls.length cc)).setCell ⟨p, 1, none⟩ (.slice AP s.parts.length cp)).setCell ⟨p, 2, none⟩ (.int .i64 s.over)) r A c s AC AP cc cp D F p q x #[.int .i64 x.elements, .int .i64 bp, .int .i64 bo, .int .i64 bt] #[.slice AC s.calls.length cc, .slice AP s.parts.length cp, .int .i64 s.over] #[.slice none 0 0, .slice none 0 0, .int .i64 0]) := Lib.hid (((HY.out.setP 0 _ rfl).setP 1 _ rfl).setP 2 _ rfl)
          refine wpLate_one (i := 4) (o := ?oA4) (by kernel_rfl) ?hoA4 ?hkA4
          case hoA4 => (simp only [List.getElem?_toArray, List.getElem?_cons_zero, List.getElem?_cons_succ]; rfl)
          intro K hK
          go_simp
          refine hK.out _ _ (fun h => ⟨(HY2.out.x).v.fs.cell 0, (HY2.out.x).v.fs.cell 1, (HY2.out.x).v.fs.cell 2⟩) ?_
          clear hK K
          try simp only [Act.put, List.setIfInBounds_toArray, List.set_cons_zero, List.set_cons_succ]
          clear p0 p1 p2 f0 f1 f2 HY
          generalize (((w6.setCell ⟨p, 0, none⟩ (.slice AC s.calls.length cc)).setCell ⟨p, 1, none⟩ (.slice AP s.parts.length cp)).setCell ⟨p, 2, none⟩ (.int .i64 s.over)) = w7 at HY2 ⊢
          have p0 := HY2.out.fq.cell 0
          have f0 := HY2.out.fq.frozen 0
          have p1 := HY2.out.fq.cell 1
          have f1 := HY2.out.fq.frozen 1
          have p2 := HY2.out.fq.cell 2
          have f2 := HY2.out.fq.frozen 2
          simp at p0 p1 p2
          have HY3 : Hid (YW W (((w7.setCell ⟨q, 0, none⟩ (.slice AC s.calls.length cc)).setCell ⟨q, 1, none⟩ (.slice AP s.parts.length cp)).setCell ⟨q, 2, none⟩ (.int .i64 s.over)) r A c s AC AP cc cp D F p q x #[.int .i64 x.elements, .int .i64 bp, .int .i64 bo, .int .i64 bt] #[.slice AC s.calls.length cc, .slice AP s.parts.length cp, .int .i64 s.over] #[.slice AC s.calls.length cc, .slice AP s.parts.length cp, .int .i64 s.over]) := Lib.hid (((HY2.out.setQ 0 _ rfl).setQ 1 _ rfl).setQ 2 _ rfl)
          refine wpLate_one (i := 5) (o := ?oA5) (by kernel_rfl) ?hoA5 ?hkA5
          case hoA5 => (simp only [List.getElem?_toArray, List.getElem?_cons_zero, List.getElem?_cons_succ]; rfl)
          intro K hK
          go_simp
          refine hK.out _ _ (fun h => ⟨(HY3.out.x).v.fs.cell 0, (HY3.out.x).v.fs.cell 1, (HY3.out.x).v.fs.cell 2⟩) ?_
          clear hK K
          try simp only [Act.put, List.setIfInBounds_toArray, List.set_cons_zero, List.set_cons_succ]
          refine wpLate_done (by kernel_rfl) ?_ _
          try simp only [Act.put, List.setIfInBounds_toArray, List.set_cons_zero, List.set_cons_succ]
          try go_wp2_with fail
          go_meet
          exact ⟨_, _, rfl, rfl, HY3⟩
        case hkB =>
          intro K hK
          go_simp
          refine hK.out _ _ (fun h => ⟨(H5.out.1.step (below_one w5 (.cells #[.slice none 0 0, .slice none 0 0, .int .i64 0] 28))).v.fs.cell 0, (H5.out.1.step (below_one w5 (.cells #[.slice none 0 0, .slice none 0 0, .int .i64 0] 28))).v.fs.cell 1, (H5.out.1.step (below_one w5 (.cells #[.slice none 0 0, .slice none 0 0, .int .i64 0] 28))).v.fs.cell 2⟩) ?_
          clear hK K
          try simp only [Act.put, List.setIfInBounds_toArray, List.set_cons_zero, List.set_cons_succ]
          refine wpLate_one (i := 2) (o := ?oB2) (by kernel_rfl) ?hoB2 ?hkB2
          case hoB2 => (simp only [List.getElem?_toArray, List.getElem?_cons_zero, List.getElem?_cons_succ]; rfl)
          intro K hK
          go_simp
          refine hK.out _ _ (fun h => ⟨((H5.out.1.step (below_one w5 (.cells #[.slice none 0 0, .slice none 0 0, .int .i64 0] 28))).step (below_one (w5.alloc (.cells #[.slice none 0 0, .slice none 0 0, .int .i64 0] 28)) (.cells #[.slice none 0 0, .slice none 0 0, .int .i64 0] 28))).v.fs.cell 0, ((H5.out.1.step (below_one w5 (.cells #[.slice none 0 0, .slice none 0 0, .int .i64 0] 28))).step (below_one (w5.alloc (.cells #[.slice none 0 0, .slice none 0 0, .int .i64 0] 28)) (.cells #[.slice none 0 0, .slice none 0 0, .int .i64 0] 28))).v.fs.cell 1, ((H5.out.1.step (below_one w5 (.cells #[.slice none 0 0, .slice none 0 0, .int .i64 0] 28))).step (below_one (w5.alloc (.cells #[.slice none 0 0, .slice none 0 0, .int .i64 0] 28)) (.cells #[.slice none 0 0, .slice none 0 0, .int .i64 0] 28))).v.fs.cell 2⟩) ?_
          clear hK K
          try simp only [Act.put, List.setIfInBounds_toArray, List.set_cons_zero, List.set_cons_succ]
          have HY : Hid (YW W ((w5.alloc (.cells #[.slice none 0 0, .slice none 0 0, .int .i64 0] 28)).alloc (.cells #[.slice none 0 0, .slice none 0 0, .int .i64 0] 28)) r A c s AC AP cc cp D F (w5.heap.size + 1) w5.heap.size x #[.int .i64 x.elements, .int .i64 bp, .int .i64 bo, .int .i64 bt] #[.slice none 0 0, .slice none 0 0, .int .i64 0] #[.slice none 0 0, .slice none 0 0, .int .i64 0]) := Lib.hid ⟨(H5.out.1.step (below_one _ _)).step (below_one _ _), (H5.out.2.1.alloc _).alloc _, has_newAt (by simp), (Has.new _ _ _).alloc _, H5.out.2.2.1, by have := H5.out.2.1.lt; omega, by have := H5.out.2.1.lt; omega, by omega, H5.out.2.2.2⟩
          generalize (w5.alloc (.cells #[.slice none 0 0, .slice none 0 0, .int .i64 0] 28)).alloc (.cells #[.slice none 0 0, .slice none 0 0, .int .i64 0] 28) = w6 at HY ⊢
          try simp only [World.size_alloc] at HY ⊢
          generalize w5.heap.size + 1 = p at HY ⊢
          generalize w5.heap.size = q at HY ⊢
          have p0 := HY.out.fp.cell 0
          have f0 := HY.out.fp.frozen 0
          have p1 := HY.out.fp.cell 1
          have f1 := HY.out.fp.frozen 1
          have p2 := HY.out.fp.cell 2
          have f2 := HY.out.fp.frozen 2
          simp at p0 p1 p2
          have HY2 : Hid (YW W (((w6.setCell ⟨p, 0, none⟩ (.slice AC s.calls.length cc)).setCell ⟨p, 1, none⟩ (.slice AP s.parts.length cp)).setCell ⟨p, 2, none⟩ (.int .i64 s.over)) r A c s AC AP cc cp D F p q x #[.int .i64 x.elements, .int .i64 bp, .int .i64 bo, .int .i64 bt] #[.slice AC s.calls.length cc, .slice AP s.parts.length cp, .int .i64 s.over] #[.slice none 0 0, .slice none 0 0, .int .i64 0]) := Lib.hid (((HY.out.setP 0 _ rfl).setP 1 _ rfl).setP 2 _ rfl)
          refine wpLate_one (i := 4) (o := ?oB4) (by kernel_rfl) ?hoB4 ?hkB4
          case hoB4 => (simp only [List.getElem?_toArray, List.getElem?_cons_zero, List.getElem?_cons_succ]; rfl)
          intro K hK
          go_simp
          refine hK.out _ _ (fun h => ⟨(HY2.out.x).v.fs.cell 0, (HY2.out.x).v.fs.cell 1, (HY2.out.x).v.fs.cell 2⟩) ?_
          clear hK K
          try simp only [Act.put, List.setIfInBounds_toArray, List.set_cons_zero, List.set_cons_succ]
          clear p0 p1 p2 f0 f1 f2 HY
          generalize (((w6.setCell ⟨p, 0, none⟩ (.slice AC s.calls.length cc)).setCell ⟨p, 1, none⟩ (.slice AP s.parts.length cp)).setCell ⟨p, 2, none⟩ (.int .i64 s.over)) = w7 at HY2 ⊢
          have p0 := HY2.out.fq.cell 0
          have f0 := HY2.out.fq.frozen 0
          have p1 := HY2.out.fq.cell 1
          have f1 := HY2.out.fq.frozen 1
          have p2 := HY2.out.fq.cell 2
          have f2 := HY2.out.fq.frozen 2
          simp at p0 p1 p2
          have HY3 : Hid (YW W (((w7.setCell ⟨q, 0, none⟩ (.slice AC s.calls.length cc)).setCell ⟨q, 1, none⟩ (.slice AP s.parts.length cp)).setCell ⟨q, 2, none⟩ (.int .i64 s.over)) r A c s AC AP cc cp D F p q x #[.int .i64 x.elements, .int .i64 bp, .int .i64 bo, .int .i64 bt] #[.slice AC s.calls.length cc, .slice AP s.parts.length cp, .int .i64 s.over] #[.slice AC s.calls.length cc, .slice AP s.parts.length cp, .int .i64 s.over]) := Lib.hid (((HY2.out.setQ 0 _ rfl).setQ 1 _ rfl).setQ 2 _ rfl)
          refine wpLate_one (i := 5) (o := ?oB5) (by kernel_rfl) ?hoB5 ?hkB5
          case hoB5 => (simp only [List.getElem?_toArray, List.getElem?_cons_zero, List.getElem?_cons_succ]; rfl)
          intro K hK
          go_simp
          refine hK.out _ _ (fun h => ⟨(HY3.out.x).v.fs.cell 0, (HY3.out.x).v.fs.cell 1, (HY3.out.x).v.fs.cell 2⟩) ?_
          clear hK K
          try simp only [Act.put, List.setIfInBounds_toArray, List.set_cons_zero, List.set_cons_succ]
          refine wpLate_done (by kernel_rfl) ?_ _
          try simp only [Act.put, List.setIfInBounds_toArray, List.set_cons_zero, List.set_cons_succ]
          try go_wp2_with fail
          go_meet
          exact ⟨_, _, rfl, rfl, HY3⟩
      case rest =>
        obtain ⟨p, q, rfl, rfl, H12⟩ := hcut
        rename World => w12
        clear H11
        obtain ⟨E, hEl, hEc, hE⟩ := ents_of HRS.out.2.c
        obtain ⟨-, -, he3⟩ := ents_cells hEl hE
        obtain ⟨-, -, g0, o0, hAC, hg0, -⟩ := hE 0 (by omega) (by omega)
        have HCL : Hid (∀ w', Below W.heap.size W w' → ∀ j u, (fl6 E)[j]? = some u → w'.cell? ((⟨g0, o0, none⟩ : Addr).add j) = some u) := Lib.hid fun w' hb j u hu => by
          have h1 := he3 _ hAC j u hu
          rw [addr_add] at h1 ⊢
          exact (hb.cell (p := ⟨g0, _, none⟩) hg0).trans h1
        have HER : Hid (∀ e ∈ E, IRow W W.heap.size e.M e.c.marks ∧ e.c.marks.length ≤ big) := Lib.hid fun e he => by
          obtain ⟨i, hi, rfl⟩ := List.getElem_of_mem he
          obtain ⟨h1, -, g, o, -, -, -, h2⟩ := hE i (by omega) hi
          rw [h1]
          refine ⟨h2, ?_⟩
          obtain ⟨g, o, M, m, -, -, -, -, hl⟩ := HRS.out.2.c i (by omega)
          exact hl
        have HCL2 := HCL
        have HEC := Lib.hid (And.intro hEl hEc)
        have hEL := hEl
        have hpos : 0 < s.calls.length := by omega
        obtain ⟨HS, hHS, hpS, hqS⟩ : ∃ HS, HS ≤ w12.drew.heap.size ∧ p < HS ∧ q < HS := ⟨w12.heap.size, Nat.le_refl _, H12.out.fp.lt, H12.out.fq.lt⟩
        subst hAC
        clear hEl hEc hE he3 hg0
        obtain ⟨i0, hi, hz0, hz1, hz2⟩ := info_parts Try.info52
        go_upto_region 24 with fail
        go_cut [125] (fun u125 wx => ∃ g h c1 c2, Hid (YW W wx r (A) c s (some ⟨g0, o0, none⟩) AP cc cp D F p q x #[.int .i64 x.elements, .int .i64 bp, .int .i64 bo, .int .i64 bt] #[.slice (some ⟨g, 0, none⟩) s.calls.length c1, .slice AP s.parts.length cp, .int .i64 s.over] #[.slice (some ⟨h, 0, none⟩) s.calls.length c2, .slice AP s.parts.length cp, .int .i64 s.over] ∧ RowC wx g E ∧ RowC wx h E ∧ HS ≤ g ∧ HS ≤ h ∧ g ≠ h))
        case first =>
          have HY13 : Hid (YW W w12.drew r (A) c s (some ⟨g0, o0, none⟩) AP cc cp D F p q x #[.int .i64 x.elements, .int .i64 bp, .int .i64 bo, .int .i64 bt] #[.slice (some ⟨g0, o0, none⟩) s.calls.length cc, .slice AP s.parts.length cp, .int .i64 s.over] #[.slice (some ⟨g0, o0, none⟩) s.calls.length cc, .slice AP s.parts.length cp, .int .i64 s.over] ∧ HS ≤ w12.drew.heap.size) := Lib.hid ⟨H12.out.drew, hHS⟩
          have K13 : Hid (w12.drew.cell? ⟨W.heap.size + 1, 0, none⟩ = some (.slice (some ⟨g0, o0, none⟩) s.calls.length cc) ∧ w12.drew.cell? ⟨W.heap.size + 1, 1, none⟩ = some (.slice AP s.parts.length cp)) := Lib.hid ⟨(HY13.out).1.x.v.fs.cell 0, (HY13.out).1.x.v.fs.cell 1⟩
          refine wp_region_late (fun w' : World => w'.cell? ⟨W.heap.size + 1, 0, none⟩ = some (.slice (some ⟨g0, o0, none⟩) s.calls.length cc) ∧ w'.cell? ⟨W.heap.size + 1, 1, none⟩ = some (.slice AP s.parts.length cp)) [] (by kernel_rfl) ?_
          generalize w12.drew = w13 at HY13 K13 hHS ⊢
          refine wpLate_take (i := 1) (oi := ?oi1z1) (v := ?v1z1) [2, 3, 7, 8, 9, 10, 11] ?hi1z1 (by kernel_rfl) (by kernel_rfl) (by kernel_rfl) (by kernel_rfl) (by kernel_rfl) ?hQ1z1 (Or.inl ⟨?hw1z1, ?hy1z1⟩) K13.out ?rest1z1
          case hi1z1 => (simp only [List.getElem?_toArray, List.getElem?_cons_zero, List.getElem?_cons_succ]; rfl)
          case hQ1z1 => exact fun _ _ _ h => h
          case hw1z1 => rfl
          case hy1z1 =>
            intro w' hSw
            obtain ⟨r0, r1⟩ := hSw
            go_simp
            try exact rfl
          try simp only [Act.put, List.setIfInBounds_toArray, List.set_cons_zero, List.set_cons_succ]
          refine wpLate_take (i := 2) (oi := ?oi2z2) (v := ?v2z2) [3, 7, 8, 9, 10, 11] ?hi2z2 (by kernel_rfl) (by kernel_rfl) (by kernel_rfl) (by kernel_rfl) (by kernel_rfl) ?hQ2z2 (Or.inl ⟨?hw2z2, ?hy2z2⟩) K13.out ?rest2z2
          case hi2z2 => (simp only [List.getElem?_toArray, List.getElem?_cons_zero, List.getElem?_cons_succ]; rfl)
          case hQ2z2 => exact fun _ _ _ h => h
          case hw2z2 => rfl
          case hy2z2 =>
            intro w' hSw
            obtain ⟨r0, r1⟩ := hSw
            go_simp
            try exact rfl
          try simp only [Act.put, List.setIfInBounds_toArray, List.set_cons_zero, List.set_cons_succ]
          refine wpLate_take (i := 5) (oi := ?oi5z3) (v := ?v5z3) [6, 7, 9, 10, 11] ?hi5z3 (by kernel_rfl) (by kernel_rfl) (by kernel_rfl) (by kernel_rfl) (by kernel_rfl) ?hQ5z3 (Or.inl ⟨?hw5z3, ?hy5z3⟩) K13.out ?rest5z3
          case hi5z3 => (simp only [List.getElem?_toArray, List.getElem?_cons_zero, List.getElem?_cons_succ]; rfl)
          case hQ5z3 => exact fun _ _ _ h => h
          case hw5z3 => rfl
          case hy5z3 =>
            intro w' hSw
            obtain ⟨r0, r1⟩ := hSw
            go_simp
            try exact rfl
          try simp only [Act.put, List.setIfInBounds_toArray, List.set_cons_zero, List.set_cons_succ]
          refine wpLate_take (i := 6) (oi := ?oi6z4) (v := ?v6z4) [7, 9, 10, 11] ?hi6z4 (by kernel_rfl) (by kernel_rfl) (by kernel_rfl) (by kernel_rfl) (by kernel_rfl) ?hQ6z4 (Or.inl ⟨?hw6z4, ?hy6z4⟩) K13.out ?rest6z4
          case hi6z4 => (simp only [List.getElem?_toArray, List.getElem?_cons_zero, List.getElem?_cons_succ]; rfl)
          case hQ6z4 => exact fun _ _ _ h => h
          case hw6z4 => rfl
          case hy6z4 =>
            intro w' hSw
            obtain ⟨r0, r1⟩ := hSw
            go_simp
            try exact rfl
          try simp only [Act.put, List.setIfInBounds_toArray, List.set_cons_zero, List.set_cons_succ]
          refine wpLate_two (i := 0) (j := 4) (o := ?oAz5) (u := ?uAz5) (by kernel_rfl) ?hoAz5 ?huAz5 ?hkAz5 ?hkBz5
          case hoAz5 => (simp only [List.getElem?_toArray, List.getElem?_cons_zero]; rfl)
          case huAz5 => (simp only [List.getElem?_toArray, List.getElem?_cons_zero, List.getElem?_cons_succ]; rfl)
          case hkAz5 =>
            intro K hK
            go_simp
            have HYza6 : Hid (YW W (w13.alloc (.cells #[] 52)) r (A) c s (some ⟨g0, o0, none⟩) AP cc cp D F p q x #[.int .i64 x.elements, .int .i64 bp, .int .i64 bo, .int .i64 bt] #[.slice (some ⟨g0, o0, none⟩) s.calls.length cc, .slice AP s.parts.length cp, .int .i64 s.over] #[.slice (some ⟨g0, o0, none⟩) s.calls.length cc, .slice AP s.parts.length cp, .int .i64 s.over] ∧ HS ≤ (w13.alloc (.cells #[] 52)).heap.size) := Lib.hid ⟨HY13.out.1.step (below_one _ _), Nat.le_trans HY13.out.2 (below_one w13 _).size⟩
            have HEza6 : Hid (Emp (w13.alloc (.cells #[] 52)) HS w13.heap.size) := Lib.hid (Emp.new w13 HY13.out.2)
            refine hK.out _ _ (fun h => ⟨(HYza6.out).1.x.v.fs.cell 0, (HYza6.out).1.x.v.fs.cell 1⟩) ?_
            clear hK K
            try simp only [Act.put, List.setIfInBounds_toArray, List.set_cons_zero, List.set_cons_succ]
            generalize w13.alloc (.cells #[] 52) = wza6 at HYza6 HEza6 ⊢
            generalize w13.heap.size = bza6 at HEza6  ⊢
            refine wpLate_two (i := 3) (j := 4) (o := ?oAza7) (u := ?uAza7) (by kernel_rfl) ?hoAza7 ?huAza7 ?hkAza7 ?hkBza7
            case hoAza7 => (simp only [List.getElem?_toArray, List.getElem?_cons_zero, List.getElem?_cons_succ]; rfl)
            case huAza7 => (simp only [List.getElem?_toArray, List.getElem?_cons_zero, List.getElem?_cons_succ]; rfl)
            case hkAza7 =>
              intro K hK
              refine step_append_lies _ rfl (.tmp 122) (.tmp 124) 25 rfl bza6 52 i0 (.agg #[.int .i64 0, .int .i64 0, .int .i64 0, .bool false, .bool false, .slice none 0 0]) 6 56 Try.underlying25 hi hz0 hz1 hz2 rfl (by decide) (.slice (some ⟨bza6, 0, none⟩) 0 0) 0 [] rfl HEza6.out.own ⟨g0, o0, none⟩ s.calls.length cc (fl6 E) rfl ?q1zac8 (HCL.out _ HYza6.out.1.x.v.b) (fl6_one E) ?q2zac8 ?q3zac8 ?q4zac8 ?q5zac8 _ rfl ?_
              case q1zac8 => rw [fl6_len, hEL]
              case q2zac8 => omega
              case q3zac8 => unfold maxLen; omega
              case q4zac8 => omega
              case q5zac8 => exact Nat.le_of_lt HEza6.out.2.lt
              intro gzac8 capzac8 wzac8 hown hgr hgb hlt
              have hgr' : wza6.grownBy wzac8 (some bza6) := hgr
              have hgb' : gzac8 = bza6 ∨ gzac8 = wza6.heap.size := hgb.elim (fun e => .inl (by have e' : some bza6 = some gzac8 := e; exact (Option.some.inj e').symm)) .inr
              have hf := HEza6.out.fill hEL hpos hown hgr'
              have HYzac8 : Hid (YW W wzac8 r (A) c s (some ⟨g0, o0, none⟩) AP cc cp D F p q x #[.int .i64 x.elements, .int .i64 bp, .int .i64 bo, .int .i64 bt] #[.slice (some ⟨g0, o0, none⟩) s.calls.length cc, .slice AP s.parts.length cp, .int .i64 s.over] #[.slice (some ⟨g0, o0, none⟩) s.calls.length cc, .slice AP s.parts.length cp, .int .i64 s.over] ∧ HS ≤ wzac8.heap.size) := Lib.hid ⟨HYza6.out.1.low hf.2.2 hpS hqS, Nat.le_trans HYza6.out.2 hf.2.2.size⟩
              have HRzac8 : Hid (RowC wzac8 gzac8 E ∧ HS ≤ gzac8) := Lib.hid ⟨hf.1, hf.2.1⟩
              try simp only [Nat.zero_add]
              refine hK.out _ _ (fun h => ⟨(HYzac8.out).1.x.v.fs.cell 0, (HYzac8.out).1.x.v.fs.cell 1⟩) ?_
              clear hK K hown hgr hgr' hgb hgb' hlt hf
              try simp only [Act.put, List.setIfInBounds_toArray, List.set_cons_zero, List.set_cons_succ]
              have KQ : Hid (wzac8.cell? ⟨W.heap.size + 1, 0, none⟩ = some (.slice (some ⟨g0, o0, none⟩) s.calls.length cc) ∧ wzac8.cell? ⟨W.heap.size + 1, 1, none⟩ = some (.slice AP s.parts.length cp)) := Lib.hid ⟨(HYzac8.out).1.x.v.fs.cell 0, (HYzac8.out).1.x.v.fs.cell 1⟩
              refine wpLate_take (i := 8) (oi := ?oi8zac9) (v := ?v8zac9) [9, 10, 11] ?hi8zac9 (by kernel_rfl) (by kernel_rfl) (by kernel_rfl) (by kernel_rfl) (by kernel_rfl) ?hQ8zac9 (Or.inl ⟨?hw8zac9, ?hy8zac9⟩) KQ.out ?rest8zac9
              case hi8zac9 => (simp only [List.getElem?_toArray, List.getElem?_cons_zero, List.getElem?_cons_succ]; rfl)
              case hQ8zac9 => exact fun _ _ _ h => h
              case hw8zac9 => rfl
              case hy8zac9 =>
                intro w' hSw
                obtain ⟨r0, r1⟩ := hSw
                go_simp
                try exact rfl
              try simp only [Act.put, List.setIfInBounds_toArray, List.set_cons_zero, List.set_cons_succ]
              refine wpLate_one (i := 4) (o := ?o4zac10) (by kernel_rfl) ?ho4zac10 ?hk4zac10
              case ho4zac10 => (simp only [List.getElem?_toArray, List.getElem?_cons_zero, List.getElem?_cons_succ]; rfl)
              intro K hK
              go_simp
              have HYzac11 : Hid (YW W (wzac8.alloc (.cells #[] 52)) r (A) c s (some ⟨g0, o0, none⟩) AP cc cp D F p q x #[.int .i64 x.elements, .int .i64 bp, .int .i64 bo, .int .i64 bt] #[.slice (some ⟨g0, o0, none⟩) s.calls.length cc, .slice AP s.parts.length cp, .int .i64 s.over] #[.slice (some ⟨g0, o0, none⟩) s.calls.length cc, .slice AP s.parts.length cp, .int .i64 s.over] ∧ HS ≤ (wzac8.alloc (.cells #[] 52)).heap.size) := Lib.hid ⟨HYzac8.out.1.step (below_one _ _), Nat.le_trans HYzac8.out.2 (below_one wzac8 _).size⟩
              have HEzac11 : Hid (Emp (wzac8.alloc (.cells #[] 52)) HS wzac8.heap.size) := Lib.hid (Emp.new wzac8 HYzac8.out.2)
              have HOzac11 : Hid (RowC (wzac8.alloc (.cells #[] 52)) gzac8 E ∧ HS ≤ gzac8) := Lib.hid ⟨HRzac8.out.1.step (below_one _ _), HRzac8.out.2⟩
              have hnzac11 : gzac8 ≠ wzac8.heap.size := by have := HRzac8.out.1.lt; omega
              refine hK.out _ _ (fun h => ⟨(HYzac11.out).1.x.v.fs.cell 0, (HYzac11.out).1.x.v.fs.cell 1⟩) ?_
              clear hK K
              try simp only [Act.put, List.setIfInBounds_toArray, List.set_cons_zero, List.set_cons_succ]
              generalize wzac8.alloc (.cells #[] 52) = wzac11 at HYzac11 HEzac11 HOzac11 ⊢
              generalize wzac8.heap.size = bzac11 at HEzac11 hnzac11 ⊢
              refine wpLate_one (i := 7) (o := ?o7zac12) (by kernel_rfl) ?ho7zac12 ?hk7zac12
              case ho7zac12 => (simp only [List.getElem?_toArray, List.getElem?_cons_zero, List.getElem?_cons_succ]; rfl)
              intro K hK
              refine step_append_lies _ rfl (.tmp 126) (.tmp 128) 25 rfl bzac11 52 i0 (.agg #[.int .i64 0, .int .i64 0, .int .i64 0, .bool false, .bool false, .slice none 0 0]) 6 56 Try.underlying25 hi hz0 hz1 hz2 rfl (by decide) (.slice (some ⟨bzac11, 0, none⟩) 0 0) 0 [] rfl HEzac11.out.own ⟨g0, o0, none⟩ s.calls.length cc (fl6 E) rfl ?q1zac13 (HCL.out _ HYzac11.out.1.x.v.b) (fl6_one E) ?q2zac13 ?q3zac13 ?q4zac13 ?q5zac13 _ rfl ?_
              case q1zac13 => rw [fl6_len, hEL]
              case q2zac13 => omega
              case q3zac13 => unfold maxLen; omega
              case q4zac13 => omega
              case q5zac13 => exact Nat.le_of_lt HEzac11.out.2.lt
              intro gzac13 capzac13 wzac13 hown hgr hgb hlt
              have hgr' : wzac11.grownBy wzac13 (some bzac11) := hgr
              have hgb' : gzac13 = bzac11 ∨ gzac13 = wzac11.heap.size := hgb.elim (fun e => .inl (by have e' : some bzac11 = some gzac13 := e; exact (Option.some.inj e').symm)) .inr
              have hf := HEzac11.out.fill hEL hpos hown hgr'
              have HYzac13 : Hid (YW W wzac13 r (A) c s (some ⟨g0, o0, none⟩) AP cc cp D F p q x #[.int .i64 x.elements, .int .i64 bp, .int .i64 bo, .int .i64 bt] #[.slice (some ⟨g0, o0, none⟩) s.calls.length cc, .slice AP s.parts.length cp, .int .i64 s.over] #[.slice (some ⟨g0, o0, none⟩) s.calls.length cc, .slice AP s.parts.length cp, .int .i64 s.over] ∧ HS ≤ wzac13.heap.size) := Lib.hid ⟨HYzac11.out.1.low hf.2.2 hpS hqS, Nat.le_trans HYzac11.out.2 hf.2.2.size⟩
              have HRzac13 : Hid (RowC wzac13 gzac13 E ∧ HS ≤ gzac13) := Lib.hid ⟨hf.1, hf.2.1⟩
              have HOzac13 : Hid (RowC wzac13 gzac8 E ∧ HS ≤ gzac8) := Lib.hid ⟨HOzac11.out.1.grown hgr' (by omega : gzac8 ≠ bzac11), HOzac11.out.2⟩
              have hnzac13 : gzac8 ≠ gzac13 := by have := HOzac11.out.1.lt; omega
              try simp only [Nat.zero_add]
              refine hK.out _ _ (fun h => ⟨(HYzac13.out).1.x.v.fs.cell 0, (HYzac13.out).1.x.v.fs.cell 1⟩) ?_
              clear hK K hown hgr hgr' hgb hgb' hlt hf
              try simp only [Act.put, List.setIfInBounds_toArray, List.set_cons_zero, List.set_cons_succ]
              refine wpLate_one (i := 9) (o := ?o9zac14) (by kernel_rfl) ?ho9zac14 ?hk9zac14
              case ho9zac14 => (simp only [List.getElem?_toArray, List.getElem?_cons_zero, List.getElem?_cons_succ]; rfl)
              intro K hK
              have p0 : wzac13.cell? ⟨p, 0, none⟩ = some (.slice (some ⟨g0, o0, none⟩) s.calls.length cc) := HYzac13.out.1.fp.cell 0
              have f0 := HYzac13.out.1.fp.frozen 0
              have HZ : Hid ((YW W (wzac13.setCell ⟨p, 0, none⟩ (.slice (some ⟨gzac8, 0, none⟩) s.calls.length capzac8)) r (A) c s (some ⟨g0, o0, none⟩) AP cc cp D F p q x #[.int .i64 x.elements, .int .i64 bp, .int .i64 bo, .int .i64 bt] #[.slice (some ⟨gzac8, 0, none⟩) s.calls.length capzac8, .slice AP s.parts.length cp, .int .i64 s.over] #[.slice (some ⟨g0, o0, none⟩) s.calls.length cc, .slice AP s.parts.length cp, .int .i64 s.over] ∧ HS ≤ (wzac13.setCell ⟨p, 0, none⟩ (.slice (some ⟨gzac8, 0, none⟩) s.calls.length capzac8)).heap.size) ∧ RowC (wzac13.setCell ⟨p, 0, none⟩ (.slice (some ⟨gzac8, 0, none⟩) s.calls.length capzac8)) gzac8 E ∧ RowC (wzac13.setCell ⟨p, 0, none⟩ (.slice (some ⟨gzac8, 0, none⟩) s.calls.length capzac8)) gzac13 E) := Lib.hid ⟨⟨HYzac13.out.1.setP 0 _ rfl, by simpa [World.setCell] using HYzac13.out.2⟩, HOzac13.out.1.far (by have := HOzac13.out.2; simp only; omega) _, HRzac13.out.1.far (by have := HRzac13.out.2; simp only; omega) _⟩
              go_simp
              refine hK.out _ _ (fun h => ⟨(HZ.out.1).1.x.v.fs.cell 0, (HZ.out.1).1.x.v.fs.cell 1⟩) ?_
              clear hK K p0 f0
              try simp only [Act.put, List.setIfInBounds_toArray, List.set_cons_zero, List.set_cons_succ]
              generalize wzac13.setCell ⟨p, 0, none⟩ (.slice (some ⟨gzac8, 0, none⟩) s.calls.length capzac8) = wz at HZ ⊢
              have KZ : Hid (wz.cell? ⟨W.heap.size + 1, 0, none⟩ = some (.slice (some ⟨g0, o0, none⟩) s.calls.length cc) ∧ wz.cell? ⟨W.heap.size + 1, 1, none⟩ = some (.slice AP s.parts.length cp)) := Lib.hid ⟨(HZ.out.1).1.x.v.fs.cell 0, (HZ.out.1).1.x.v.fs.cell 1⟩
              refine wpLate_take (i := 10) (oi := ?oi10zac16) (v := ?v10zac16) [11] ?hi10zac16 (by kernel_rfl) (by kernel_rfl) (by kernel_rfl) (by kernel_rfl) (by kernel_rfl) ?hQ10zac16 (Or.inl ⟨?hw10zac16, ?hy10zac16⟩) KZ.out ?rest10zac16
              case hi10zac16 => (simp only [List.getElem?_toArray, List.getElem?_cons_zero, List.getElem?_cons_succ]; rfl)
              case hQ10zac16 => exact fun _ _ _ h => h
              case hw10zac16 => rfl
              case hy10zac16 =>
                intro w' hSw
                obtain ⟨r0, r1⟩ := hSw
                go_simp
                try exact rfl
              try simp only [Act.put, List.setIfInBounds_toArray, List.set_cons_zero, List.set_cons_succ]
              refine wpLate_one (i := 11) (o := ?o11zac17) (by kernel_rfl) ?ho11zac17 ?hk11zac17
              case ho11zac17 => (simp only [List.getElem?_toArray, List.getElem?_cons_zero, List.getElem?_cons_succ]; rfl)
              intro K hK
              have p0 : wz.cell? ⟨q, 0, none⟩ = some (.slice (some ⟨g0, o0, none⟩) s.calls.length cc) := HZ.out.1.1.fq.cell 0
              have f0 := HZ.out.1.1.fq.frozen 0
              have HZ2 : Hid ((YW W (wz.setCell ⟨q, 0, none⟩ (.slice (some ⟨gzac13, 0, none⟩) s.calls.length capzac13)) r (A) c s (some ⟨g0, o0, none⟩) AP cc cp D F p q x #[.int .i64 x.elements, .int .i64 bp, .int .i64 bo, .int .i64 bt] #[.slice (some ⟨gzac8, 0, none⟩) s.calls.length capzac8, .slice AP s.parts.length cp, .int .i64 s.over] #[.slice (some ⟨gzac13, 0, none⟩) s.calls.length capzac13, .slice AP s.parts.length cp, .int .i64 s.over] ∧ HS ≤ (wz.setCell ⟨q, 0, none⟩ (.slice (some ⟨gzac13, 0, none⟩) s.calls.length capzac13)).heap.size) ∧ RowC (wz.setCell ⟨q, 0, none⟩ (.slice (some ⟨gzac13, 0, none⟩) s.calls.length capzac13)) gzac8 E ∧ RowC (wz.setCell ⟨q, 0, none⟩ (.slice (some ⟨gzac13, 0, none⟩) s.calls.length capzac13)) gzac13 E) := Lib.hid ⟨⟨HZ.out.1.1.setQ 0 _ rfl, by simpa [World.setCell] using HZ.out.1.2⟩, HZ.out.2.1.far (by have := HOzac13.out.2; simp only; omega) _, HZ.out.2.2.far (by have := HRzac13.out.2; simp only; omega) _⟩
              go_simp
              refine hK.out _ _ (fun h => ⟨(HZ2.out.1).1.x.v.fs.cell 0, (HZ2.out.1).1.x.v.fs.cell 1⟩) ?_
              clear hK K p0 f0
              try simp only [Act.put, List.setIfInBounds_toArray, List.set_cons_zero, List.set_cons_succ]
              refine wpLate_done (by kernel_rfl) ?_ _
              try simp only [Act.put, List.setIfInBounds_toArray, List.set_cons_zero, List.set_cons_succ]
              try go_wp2_with fail
              go_meet
              exact ⟨gzac8, gzac13, capzac8, capzac13, Lib.hid ⟨HZ2.out.1.1, HZ2.out.2.1, HZ2.out.2.2, HOzac13.out.2, HRzac13.out.2, by omega⟩⟩
            case hkBza7 =>
              intro K hK
              go_simp
              have HYzad8 : Hid (YW W (wza6.alloc (.cells #[] 52)) r (A) c s (some ⟨g0, o0, none⟩) AP cc cp D F p q x #[.int .i64 x.elements, .int .i64 bp, .int .i64 bo, .int .i64 bt] #[.slice (some ⟨g0, o0, none⟩) s.calls.length cc, .slice AP s.parts.length cp, .int .i64 s.over] #[.slice (some ⟨g0, o0, none⟩) s.calls.length cc, .slice AP s.parts.length cp, .int .i64 s.over] ∧ HS ≤ (wza6.alloc (.cells #[] 52)).heap.size) := Lib.hid ⟨HYza6.out.1.step (below_one _ _), Nat.le_trans HYza6.out.2 (below_one wza6 _).size⟩
              have HEzad8 : Hid (Emp (wza6.alloc (.cells #[] 52)) HS wza6.heap.size) := Lib.hid (Emp.new wza6 HYza6.out.2)
              have HOzad8 : Hid (Emp (wza6.alloc (.cells #[] 52)) HS bza6) := Lib.hid (HEza6.out.step (below_one _ _))
              have hnzad8 : bza6 ≠ wza6.heap.size := by have := HEza6.out.2.lt; omega
              refine hK.out _ _ (fun h => ⟨(HYzad8.out).1.x.v.fs.cell 0, (HYzad8.out).1.x.v.fs.cell 1⟩) ?_
              clear hK K
              try simp only [Act.put, List.setIfInBounds_toArray, List.set_cons_zero, List.set_cons_succ]
              generalize wza6.alloc (.cells #[] 52) = wzad8 at HYzad8 HEzad8 HOzad8 ⊢
              generalize wza6.heap.size = bzad8 at HEzad8 hnzad8 ⊢
              refine wpLate_one (i := 3) (o := ?o3zad9) (by kernel_rfl) ?ho3zad9 ?hk3zad9
              case ho3zad9 => (simp only [List.getElem?_toArray, List.getElem?_cons_zero, List.getElem?_cons_succ]; rfl)
              intro K hK
              refine step_append_lies _ rfl (.tmp 122) (.tmp 124) 25 rfl bza6 52 i0 (.agg #[.int .i64 0, .int .i64 0, .int .i64 0, .bool false, .bool false, .slice none 0 0]) 6 56 Try.underlying25 hi hz0 hz1 hz2 rfl (by decide) (.slice (some ⟨bza6, 0, none⟩) 0 0) 0 [] rfl HOzad8.out.own ⟨g0, o0, none⟩ s.calls.length cc (fl6 E) rfl ?q1zad10 (HCL.out _ HYzad8.out.1.x.v.b) (fl6_one E) ?q2zad10 ?q3zad10 ?q4zad10 ?q5zad10 _ rfl ?_
              case q1zad10 => rw [fl6_len, hEL]
              case q2zad10 => omega
              case q3zad10 => unfold maxLen; omega
              case q4zad10 => omega
              case q5zad10 => exact Nat.le_of_lt HOzad8.out.2.lt
              intro gzad10 capzad10 wzad10 hown hgr hgb hlt
              have hgr' : wzad8.grownBy wzad10 (some bza6) := hgr
              have hgb' : gzad10 = bza6 ∨ gzad10 = wzad8.heap.size := hgb.elim (fun e => .inl (by have e' : some bza6 = some gzad10 := e; exact (Option.some.inj e').symm)) .inr
              have hf := HOzad8.out.fill hEL hpos hown hgr'
              have HYzad10 : Hid (YW W wzad10 r (A) c s (some ⟨g0, o0, none⟩) AP cc cp D F p q x #[.int .i64 x.elements, .int .i64 bp, .int .i64 bo, .int .i64 bt] #[.slice (some ⟨g0, o0, none⟩) s.calls.length cc, .slice AP s.parts.length cp, .int .i64 s.over] #[.slice (some ⟨g0, o0, none⟩) s.calls.length cc, .slice AP s.parts.length cp, .int .i64 s.over] ∧ HS ≤ wzad10.heap.size) := Lib.hid ⟨HYzad8.out.1.low hf.2.2 hpS hqS, Nat.le_trans HYzad8.out.2 hf.2.2.size⟩
              have HRzad10 : Hid (RowC wzad10 gzad10 E ∧ HS ≤ gzad10) := Lib.hid ⟨hf.1, hf.2.1⟩
              have HOzad10 : Hid (Emp wzad10 HS bzad8) := Lib.hid (HEzad8.out.grown hgr' (by omega : bzad8 ≠ bza6))
              have hnzad10 : bzad8 ≠ gzad10 := by have := HEzad8.out.2.lt; omega
              try simp only [Nat.zero_add]
              refine hK.out _ _ (fun h => ⟨(HYzad10.out).1.x.v.fs.cell 0, (HYzad10.out).1.x.v.fs.cell 1⟩) ?_
              clear hK K hown hgr hgr' hgb hgb' hlt hf
              try simp only [Act.put, List.setIfInBounds_toArray, List.set_cons_zero, List.set_cons_succ]
              have KQ : Hid (wzad10.cell? ⟨W.heap.size + 1, 0, none⟩ = some (.slice (some ⟨g0, o0, none⟩) s.calls.length cc) ∧ wzad10.cell? ⟨W.heap.size + 1, 1, none⟩ = some (.slice AP s.parts.length cp)) := Lib.hid ⟨(HYzad10.out).1.x.v.fs.cell 0, (HYzad10.out).1.x.v.fs.cell 1⟩
              refine wpLate_take (i := 8) (oi := ?oi8zad11) (v := ?v8zad11) [9, 10, 11] ?hi8zad11 (by kernel_rfl) (by kernel_rfl) (by kernel_rfl) (by kernel_rfl) (by kernel_rfl) ?hQ8zad11 (Or.inl ⟨?hw8zad11, ?hy8zad11⟩) KQ.out ?rest8zad11
              case hi8zad11 => (simp only [List.getElem?_toArray, List.getElem?_cons_zero, List.getElem?_cons_succ]; rfl)
              case hQ8zad11 => exact fun _ _ _ h => h
              case hw8zad11 => rfl
              case hy8zad11 =>
                intro w' hSw
                obtain ⟨r0, r1⟩ := hSw
                go_simp
                try exact rfl
              try simp only [Act.put, List.setIfInBounds_toArray, List.set_cons_zero, List.set_cons_succ]
              refine wpLate_one (i := 7) (o := ?o7zad12) (by kernel_rfl) ?ho7zad12 ?hk7zad12
              case ho7zad12 => (simp only [List.getElem?_toArray, List.getElem?_cons_zero, List.getElem?_cons_succ]; rfl)
              intro K hK
              refine step_append_lies _ rfl (.tmp 126) (.tmp 128) 25 rfl bzad8 52 i0 (.agg #[.int .i64 0, .int .i64 0, .int .i64 0, .bool false, .bool false, .slice none 0 0]) 6 56 Try.underlying25 hi hz0 hz1 hz2 rfl (by decide) (.slice (some ⟨bzad8, 0, none⟩) 0 0) 0 [] rfl HOzad10.out.own ⟨g0, o0, none⟩ s.calls.length cc (fl6 E) rfl ?q1zad13 (HCL.out _ HYzad10.out.1.x.v.b) (fl6_one E) ?q2zad13 ?q3zad13 ?q4zad13 ?q5zad13 _ rfl ?_
              case q1zad13 => rw [fl6_len, hEL]
              case q2zad13 => omega
              case q3zad13 => unfold maxLen; omega
              case q4zad13 => omega
              case q5zad13 => exact Nat.le_of_lt HOzad10.out.2.lt
              intro gzad13 capzad13 wzad13 hown hgr hgb hlt
              have hgr' : wzad10.grownBy wzad13 (some bzad8) := hgr
              have hgb' : gzad13 = bzad8 ∨ gzad13 = wzad10.heap.size := hgb.elim (fun e => .inl (by have e' : some bzad8 = some gzad13 := e; exact (Option.some.inj e').symm)) .inr
              have hf := HOzad10.out.fill hEL hpos hown hgr'
              have HYzad13 : Hid (YW W wzad13 r (A) c s (some ⟨g0, o0, none⟩) AP cc cp D F p q x #[.int .i64 x.elements, .int .i64 bp, .int .i64 bo, .int .i64 bt] #[.slice (some ⟨g0, o0, none⟩) s.calls.length cc, .slice AP s.parts.length cp, .int .i64 s.over] #[.slice (some ⟨g0, o0, none⟩) s.calls.length cc, .slice AP s.parts.length cp, .int .i64 s.over] ∧ HS ≤ wzad13.heap.size) := Lib.hid ⟨HYzad10.out.1.low hf.2.2 hpS hqS, Nat.le_trans HYzad10.out.2 hf.2.2.size⟩
              have HRzad13 : Hid (RowC wzad13 gzad13 E ∧ HS ≤ gzad13) := Lib.hid ⟨hf.1, hf.2.1⟩
              have HOzad13 : Hid (RowC wzad13 gzad10 E ∧ HS ≤ gzad10) := Lib.hid ⟨HRzad10.out.1.grown hgr' (by omega : gzad10 ≠ bzad8), HRzad10.out.2⟩
              have hnzad13 : gzad10 ≠ gzad13 := by have := HRzad10.out.1.lt; omega
              try simp only [Nat.zero_add]
              refine hK.out _ _ (fun h => ⟨(HYzad13.out).1.x.v.fs.cell 0, (HYzad13.out).1.x.v.fs.cell 1⟩) ?_
              clear hK K hown hgr hgr' hgb hgb' hlt hf
              try simp only [Act.put, List.setIfInBounds_toArray, List.set_cons_zero, List.set_cons_succ]
              refine wpLate_one (i := 9) (o := ?o9zad14) (by kernel_rfl) ?ho9zad14 ?hk9zad14
              case ho9zad14 => (simp only [List.getElem?_toArray, List.getElem?_cons_zero, List.getElem?_cons_succ]; rfl)
              intro K hK
              have p0 : wzad13.cell? ⟨p, 0, none⟩ = some (.slice (some ⟨g0, o0, none⟩) s.calls.length cc) := HYzad13.out.1.fp.cell 0
              have f0 := HYzad13.out.1.fp.frozen 0
              have HZ : Hid ((YW W (wzad13.setCell ⟨p, 0, none⟩ (.slice (some ⟨gzad10, 0, none⟩) s.calls.length capzad10)) r (A) c s (some ⟨g0, o0, none⟩) AP cc cp D F p q x #[.int .i64 x.elements, .int .i64 bp, .int .i64 bo, .int .i64 bt] #[.slice (some ⟨gzad10, 0, none⟩) s.calls.length capzad10, .slice AP s.parts.length cp, .int .i64 s.over] #[.slice (some ⟨g0, o0, none⟩) s.calls.length cc, .slice AP s.parts.length cp, .int .i64 s.over] ∧ HS ≤ (wzad13.setCell ⟨p, 0, none⟩ (.slice (some ⟨gzad10, 0, none⟩) s.calls.length capzad10)).heap.size) ∧ RowC (wzad13.setCell ⟨p, 0, none⟩ (.slice (some ⟨gzad10, 0, none⟩) s.calls.length capzad10)) gzad10 E ∧ RowC (wzad13.setCell ⟨p, 0, none⟩ (.slice (some ⟨gzad10, 0, none⟩) s.calls.length capzad10)) gzad13 E) := Lib.hid ⟨⟨HYzad13.out.1.setP 0 _ rfl, by simpa [World.setCell] using HYzad13.out.2⟩, HOzad13.out.1.far (by have := HOzad13.out.2; simp only; omega) _, HRzad13.out.1.far (by have := HRzad13.out.2; simp only; omega) _⟩
              go_simp
              refine hK.out _ _ (fun h => ⟨(HZ.out.1).1.x.v.fs.cell 0, (HZ.out.1).1.x.v.fs.cell 1⟩) ?_
              clear hK K p0 f0
              try simp only [Act.put, List.setIfInBounds_toArray, List.set_cons_zero, List.set_cons_succ]
              generalize wzad13.setCell ⟨p, 0, none⟩ (.slice (some ⟨gzad10, 0, none⟩) s.calls.length capzad10) = wz at HZ ⊢
              have KZ : Hid (wz.cell? ⟨W.heap.size + 1, 0, none⟩ = some (.slice (some ⟨g0, o0, none⟩) s.calls.length cc) ∧ wz.cell? ⟨W.heap.size + 1, 1, none⟩ = some (.slice AP s.parts.length cp)) := Lib.hid ⟨(HZ.out.1).1.x.v.fs.cell 0, (HZ.out.1).1.x.v.fs.cell 1⟩
              refine wpLate_take (i := 10) (oi := ?oi10zad16) (v := ?v10zad16) [11] ?hi10zad16 (by kernel_rfl) (by kernel_rfl) (by kernel_rfl) (by kernel_rfl) (by kernel_rfl) ?hQ10zad16 (Or.inl ⟨?hw10zad16, ?hy10zad16⟩) KZ.out ?rest10zad16
              case hi10zad16 => (simp only [List.getElem?_toArray, List.getElem?_cons_zero, List.getElem?_cons_succ]; rfl)
              case hQ10zad16 => exact fun _ _ _ h => h
              case hw10zad16 => rfl
              case hy10zad16 =>
                intro w' hSw
                obtain ⟨r0, r1⟩ := hSw
                go_simp
                try exact rfl
              try simp only [Act.put, List.setIfInBounds_toArray, List.set_cons_zero, List.set_cons_succ]
              refine wpLate_one (i := 11) (o := ?o11zad17) (by kernel_rfl) ?ho11zad17 ?hk11zad17
              case ho11zad17 => (simp only [List.getElem?_toArray, List.getElem?_cons_zero, List.getElem?_cons_succ]; rfl)
              intro K hK
              have p0 : wz.cell? ⟨q, 0, none⟩ = some (.slice (some ⟨g0, o0, none⟩) s.calls.length cc) := HZ.out.1.1.fq.cell 0
              have f0 := HZ.out.1.1.fq.frozen 0
              have HZ2 : Hid ((YW W (wz.setCell ⟨q, 0, none⟩ (.slice (some ⟨gzad13, 0, none⟩) s.calls.length capzad13)) r (A) c s (some ⟨g0, o0, none⟩) AP cc cp D F p q x #[.int .i64 x.elements, .int .i64 bp, .int .i64 bo, .int .i64 bt] #[.slice (some ⟨gzad10, 0, none⟩) s.calls.length capzad10, .slice AP s.parts.length cp, .int .i64 s.over] #[.slice (some ⟨gzad13, 0, none⟩) s.calls.length capzad13, .slice AP s.parts.length cp, .int .i64 s.over] ∧ HS ≤ (wz.setCell ⟨q, 0, none⟩ (.slice (some ⟨gzad13, 0, none⟩) s.calls.length capzad13)).heap.size) ∧ RowC (wz.setCell ⟨q, 0, none⟩ (.slice (some ⟨gzad13, 0, none⟩) s.calls.length capzad13)) gzad10 E ∧ RowC (wz.setCell ⟨q, 0, none⟩ (.slice (some ⟨gzad13, 0, none⟩) s.calls.length capzad13)) gzad13 E) := Lib.hid ⟨⟨HZ.out.1.1.setQ 0 _ rfl, by simpa [World.setCell] using HZ.out.1.2⟩, HZ.out.2.1.far (by have := HOzad13.out.2; simp only; omega) _, HZ.out.2.2.far (by have := HRzad13.out.2; simp only; omega) _⟩
              go_simp
              refine hK.out _ _ (fun h => ⟨(HZ2.out.1).1.x.v.fs.cell 0, (HZ2.out.1).1.x.v.fs.cell 1⟩) ?_
              clear hK K p0 f0
              try simp only [Act.put, List.setIfInBounds_toArray, List.set_cons_zero, List.set_cons_succ]
              refine wpLate_done (by kernel_rfl) ?_ _
              try simp only [Act.put, List.setIfInBounds_toArray, List.set_cons_zero, List.set_cons_succ]
              try go_wp2_with fail
              go_meet
              exact ⟨gzad10, gzad13, capzad10, capzad13, Lib.hid ⟨HZ2.out.1.1, HZ2.out.2.1, HZ2.out.2.2, HOzad13.out.2, HRzad13.out.2, by omega⟩⟩
          case hkBz5 =>
            intro K hK
            go_simp
            have HYzb6 : Hid (YW W (w13.alloc (.cells #[] 52)) r (A) c s (some ⟨g0, o0, none⟩) AP cc cp D F p q x #[.int .i64 x.elements, .int .i64 bp, .int .i64 bo, .int .i64 bt] #[.slice (some ⟨g0, o0, none⟩) s.calls.length cc, .slice AP s.parts.length cp, .int .i64 s.over] #[.slice (some ⟨g0, o0, none⟩) s.calls.length cc, .slice AP s.parts.length cp, .int .i64 s.over] ∧ HS ≤ (w13.alloc (.cells #[] 52)).heap.size) := Lib.hid ⟨HY13.out.1.step (below_one _ _), Nat.le_trans HY13.out.2 (below_one w13 _).size⟩
            have HEzb6 : Hid (Emp (w13.alloc (.cells #[] 52)) HS w13.heap.size) := Lib.hid (Emp.new w13 HY13.out.2)
            refine hK.out _ _ (fun h => ⟨(HYzb6.out).1.x.v.fs.cell 0, (HYzb6.out).1.x.v.fs.cell 1⟩) ?_
            clear hK K
            try simp only [Act.put, List.setIfInBounds_toArray, List.set_cons_zero, List.set_cons_succ]
            generalize w13.alloc (.cells #[] 52) = wzb6 at HYzb6 HEzb6 ⊢
            generalize w13.heap.size = bzb6 at HEzb6  ⊢
            refine wpLate_one (i := 0) (o := ?o0zb7) (by kernel_rfl) ?ho0zb7 ?hk0zb7
            case ho0zb7 => (simp only [List.getElem?_toArray, List.getElem?_cons_zero]; rfl)
            intro K hK
            go_simp
            have HYzb8 : Hid (YW W (wzb6.alloc (.cells #[] 52)) r (A) c s (some ⟨g0, o0, none⟩) AP cc cp D F p q x #[.int .i64 x.elements, .int .i64 bp, .int .i64 bo, .int .i64 bt] #[.slice (some ⟨g0, o0, none⟩) s.calls.length cc, .slice AP s.parts.length cp, .int .i64 s.over] #[.slice (some ⟨g0, o0, none⟩) s.calls.length cc, .slice AP s.parts.length cp, .int .i64 s.over] ∧ HS ≤ (wzb6.alloc (.cells #[] 52)).heap.size) := Lib.hid ⟨HYzb6.out.1.step (below_one _ _), Nat.le_trans HYzb6.out.2 (below_one wzb6 _).size⟩
            have HEzb8 : Hid (Emp (wzb6.alloc (.cells #[] 52)) HS wzb6.heap.size) := Lib.hid (Emp.new wzb6 HYzb6.out.2)
            have HOzb8 : Hid (Emp (wzb6.alloc (.cells #[] 52)) HS bzb6) := Lib.hid (HEzb6.out.step (below_one _ _))
            have hnzb8 : bzb6 ≠ wzb6.heap.size := by have := HEzb6.out.2.lt; omega
            refine hK.out _ _ (fun h => ⟨(HYzb8.out).1.x.v.fs.cell 0, (HYzb8.out).1.x.v.fs.cell 1⟩) ?_
            clear hK K
            try simp only [Act.put, List.setIfInBounds_toArray, List.set_cons_zero, List.set_cons_succ]
            generalize wzb6.alloc (.cells #[] 52) = wzb8 at HYzb8 HEzb8 HOzb8 ⊢
            generalize wzb6.heap.size = bzb8 at HEzb8 hnzb8 ⊢
            refine wpLate_one (i := 3) (o := ?o3zb9) (by kernel_rfl) ?ho3zb9 ?hk3zb9
            case ho3zb9 => (simp only [List.getElem?_toArray, List.getElem?_cons_zero, List.getElem?_cons_succ]; rfl)
            intro K hK
            refine step_append_lies _ rfl (.tmp 122) (.tmp 124) 25 rfl bzb8 52 i0 (.agg #[.int .i64 0, .int .i64 0, .int .i64 0, .bool false, .bool false, .slice none 0 0]) 6 56 Try.underlying25 hi hz0 hz1 hz2 rfl (by decide) (.slice (some ⟨bzb8, 0, none⟩) 0 0) 0 [] rfl HEzb8.out.own ⟨g0, o0, none⟩ s.calls.length cc (fl6 E) rfl ?q1zb10 (HCL.out _ HYzb8.out.1.x.v.b) (fl6_one E) ?q2zb10 ?q3zb10 ?q4zb10 ?q5zb10 _ rfl ?_
            case q1zb10 => rw [fl6_len, hEL]
            case q2zb10 => omega
            case q3zb10 => unfold maxLen; omega
            case q4zb10 => omega
            case q5zb10 => exact Nat.le_of_lt HEzb8.out.2.lt
            intro gzb10 capzb10 wzb10 hown hgr hgb hlt
            have hgr' : wzb8.grownBy wzb10 (some bzb8) := hgr
            have hgb' : gzb10 = bzb8 ∨ gzb10 = wzb8.heap.size := hgb.elim (fun e => .inl (by have e' : some bzb8 = some gzb10 := e; exact (Option.some.inj e').symm)) .inr
            have hf := HEzb8.out.fill hEL hpos hown hgr'
            have HYzb10 : Hid (YW W wzb10 r (A) c s (some ⟨g0, o0, none⟩) AP cc cp D F p q x #[.int .i64 x.elements, .int .i64 bp, .int .i64 bo, .int .i64 bt] #[.slice (some ⟨g0, o0, none⟩) s.calls.length cc, .slice AP s.parts.length cp, .int .i64 s.over] #[.slice (some ⟨g0, o0, none⟩) s.calls.length cc, .slice AP s.parts.length cp, .int .i64 s.over] ∧ HS ≤ wzb10.heap.size) := Lib.hid ⟨HYzb8.out.1.low hf.2.2 hpS hqS, Nat.le_trans HYzb8.out.2 hf.2.2.size⟩
            have HRzb10 : Hid (RowC wzb10 gzb10 E ∧ HS ≤ gzb10) := Lib.hid ⟨hf.1, hf.2.1⟩
            have HOzb10 : Hid (Emp wzb10 HS bzb6) := Lib.hid (HOzb8.out.grown hgr' (by omega : bzb6 ≠ bzb8))
            have hnzb10 : bzb6 ≠ gzb10 := by have := HOzb8.out.2.lt; omega
            try simp only [Nat.zero_add]
            refine hK.out _ _ (fun h => ⟨(HYzb10.out).1.x.v.fs.cell 0, (HYzb10.out).1.x.v.fs.cell 1⟩) ?_
            clear hK K hown hgr hgr' hgb hgb' hlt hf
            try simp only [Act.put, List.setIfInBounds_toArray, List.set_cons_zero, List.set_cons_succ]
            have KQ : Hid (wzb10.cell? ⟨W.heap.size + 1, 0, none⟩ = some (.slice (some ⟨g0, o0, none⟩) s.calls.length cc) ∧ wzb10.cell? ⟨W.heap.size + 1, 1, none⟩ = some (.slice AP s.parts.length cp)) := Lib.hid ⟨(HYzb10.out).1.x.v.fs.cell 0, (HYzb10.out).1.x.v.fs.cell 1⟩
            refine wpLate_take (i := 8) (oi := ?oi8zb11) (v := ?v8zb11) [9, 10, 11] ?hi8zb11 (by kernel_rfl) (by kernel_rfl) (by kernel_rfl) (by kernel_rfl) (by kernel_rfl) ?hQ8zb11 (Or.inl ⟨?hw8zb11, ?hy8zb11⟩) KQ.out ?rest8zb11
            case hi8zb11 => (simp only [List.getElem?_toArray, List.getElem?_cons_zero, List.getElem?_cons_succ]; rfl)
            case hQ8zb11 => exact fun _ _ _ h => h
            case hw8zb11 => rfl
            case hy8zb11 =>
              intro w' hSw
              obtain ⟨r0, r1⟩ := hSw
              go_simp
              try exact rfl
            try simp only [Act.put, List.setIfInBounds_toArray, List.set_cons_zero, List.set_cons_succ]
            refine wpLate_one (i := 7) (o := ?o7zb12) (by kernel_rfl) ?ho7zb12 ?hk7zb12
            case ho7zb12 => (simp only [List.getElem?_toArray, List.getElem?_cons_zero, List.getElem?_cons_succ]; rfl)
            intro K hK
            refine step_append_lies _ rfl (.tmp 126) (.tmp 128) 25 rfl bzb6 52 i0 (.agg #[.int .i64 0, .int .i64 0, .int .i64 0, .bool false, .bool false, .slice none 0 0]) 6 56 Try.underlying25 hi hz0 hz1 hz2 rfl (by decide) (.slice (some ⟨bzb6, 0, none⟩) 0 0) 0 [] rfl HOzb10.out.own ⟨g0, o0, none⟩ s.calls.length cc (fl6 E) rfl ?q1zb13 (HCL.out _ HYzb10.out.1.x.v.b) (fl6_one E) ?q2zb13 ?q3zb13 ?q4zb13 ?q5zb13 _ rfl ?_
            case q1zb13 => rw [fl6_len, hEL]
            case q2zb13 => omega
            case q3zb13 => unfold maxLen; omega
            case q4zb13 => omega
            case q5zb13 => exact Nat.le_of_lt HOzb10.out.2.lt
            intro gzb13 capzb13 wzb13 hown hgr hgb hlt
            have hgr' : wzb10.grownBy wzb13 (some bzb6) := hgr
            have hgb' : gzb13 = bzb6 ∨ gzb13 = wzb10.heap.size := hgb.elim (fun e => .inl (by have e' : some bzb6 = some gzb13 := e; exact (Option.some.inj e').symm)) .inr
            have hf := HOzb10.out.fill hEL hpos hown hgr'
            have HYzb13 : Hid (YW W wzb13 r (A) c s (some ⟨g0, o0, none⟩) AP cc cp D F p q x #[.int .i64 x.elements, .int .i64 bp, .int .i64 bo, .int .i64 bt] #[.slice (some ⟨g0, o0, none⟩) s.calls.length cc, .slice AP s.parts.length cp, .int .i64 s.over] #[.slice (some ⟨g0, o0, none⟩) s.calls.length cc, .slice AP s.parts.length cp, .int .i64 s.over] ∧ HS ≤ wzb13.heap.size) := Lib.hid ⟨HYzb10.out.1.low hf.2.2 hpS hqS, Nat.le_trans HYzb10.out.2 hf.2.2.size⟩
            have HRzb13 : Hid (RowC wzb13 gzb13 E ∧ HS ≤ gzb13) := Lib.hid ⟨hf.1, hf.2.1⟩
            have HOzb13 : Hid (RowC wzb13 gzb10 E ∧ HS ≤ gzb10) := Lib.hid ⟨HRzb10.out.1.grown hgr' (by omega : gzb10 ≠ bzb6), HRzb10.out.2⟩
            have hnzb13 : gzb10 ≠ gzb13 := by have := HRzb10.out.1.lt; omega
            try simp only [Nat.zero_add]
            refine hK.out _ _ (fun h => ⟨(HYzb13.out).1.x.v.fs.cell 0, (HYzb13.out).1.x.v.fs.cell 1⟩) ?_
            clear hK K hown hgr hgr' hgb hgb' hlt hf
            try simp only [Act.put, List.setIfInBounds_toArray, List.set_cons_zero, List.set_cons_succ]
            refine wpLate_one (i := 9) (o := ?o9zb14) (by kernel_rfl) ?ho9zb14 ?hk9zb14
            case ho9zb14 => (simp only [List.getElem?_toArray, List.getElem?_cons_zero, List.getElem?_cons_succ]; rfl)
            intro K hK
            have p0 : wzb13.cell? ⟨p, 0, none⟩ = some (.slice (some ⟨g0, o0, none⟩) s.calls.length cc) := HYzb13.out.1.fp.cell 0
            have f0 := HYzb13.out.1.fp.frozen 0
            have HZ : Hid ((YW W (wzb13.setCell ⟨p, 0, none⟩ (.slice (some ⟨gzb10, 0, none⟩) s.calls.length capzb10)) r (A) c s (some ⟨g0, o0, none⟩) AP cc cp D F p q x #[.int .i64 x.elements, .int .i64 bp, .int .i64 bo, .int .i64 bt] #[.slice (some ⟨gzb10, 0, none⟩) s.calls.length capzb10, .slice AP s.parts.length cp, .int .i64 s.over] #[.slice (some ⟨g0, o0, none⟩) s.calls.length cc, .slice AP s.parts.length cp, .int .i64 s.over] ∧ HS ≤ (wzb13.setCell ⟨p, 0, none⟩ (.slice (some ⟨gzb10, 0, none⟩) s.calls.length capzb10)).heap.size) ∧ RowC (wzb13.setCell ⟨p, 0, none⟩ (.slice (some ⟨gzb10, 0, none⟩) s.calls.length capzb10)) gzb10 E ∧ RowC (wzb13.setCell ⟨p, 0, none⟩ (.slice (some ⟨gzb10, 0, none⟩) s.calls.length capzb10)) gzb13 E) := Lib.hid ⟨⟨HYzb13.out.1.setP 0 _ rfl, by simpa [World.setCell] using HYzb13.out.2⟩, HOzb13.out.1.far (by have := HOzb13.out.2; simp only; omega) _, HRzb13.out.1.far (by have := HRzb13.out.2; simp only; omega) _⟩
            go_simp
            refine hK.out _ _ (fun h => ⟨(HZ.out.1).1.x.v.fs.cell 0, (HZ.out.1).1.x.v.fs.cell 1⟩) ?_
            clear hK K p0 f0
            try simp only [Act.put, List.setIfInBounds_toArray, List.set_cons_zero, List.set_cons_succ]
            generalize wzb13.setCell ⟨p, 0, none⟩ (.slice (some ⟨gzb10, 0, none⟩) s.calls.length capzb10) = wz at HZ ⊢
            have KZ : Hid (wz.cell? ⟨W.heap.size + 1, 0, none⟩ = some (.slice (some ⟨g0, o0, none⟩) s.calls.length cc) ∧ wz.cell? ⟨W.heap.size + 1, 1, none⟩ = some (.slice AP s.parts.length cp)) := Lib.hid ⟨(HZ.out.1).1.x.v.fs.cell 0, (HZ.out.1).1.x.v.fs.cell 1⟩
            refine wpLate_take (i := 10) (oi := ?oi10zb16) (v := ?v10zb16) [11] ?hi10zb16 (by kernel_rfl) (by kernel_rfl) (by kernel_rfl) (by kernel_rfl) (by kernel_rfl) ?hQ10zb16 (Or.inl ⟨?hw10zb16, ?hy10zb16⟩) KZ.out ?rest10zb16
            case hi10zb16 => (simp only [List.getElem?_toArray, List.getElem?_cons_zero, List.getElem?_cons_succ]; rfl)
            case hQ10zb16 => exact fun _ _ _ h => h
            case hw10zb16 => rfl
            case hy10zb16 =>
              intro w' hSw
              obtain ⟨r0, r1⟩ := hSw
              go_simp
              try exact rfl
            try simp only [Act.put, List.setIfInBounds_toArray, List.set_cons_zero, List.set_cons_succ]
            refine wpLate_one (i := 11) (o := ?o11zb17) (by kernel_rfl) ?ho11zb17 ?hk11zb17
            case ho11zb17 => (simp only [List.getElem?_toArray, List.getElem?_cons_zero, List.getElem?_cons_succ]; rfl)
            intro K hK
            have p0 : wz.cell? ⟨q, 0, none⟩ = some (.slice (some ⟨g0, o0, none⟩) s.calls.length cc) := HZ.out.1.1.fq.cell 0
            have f0 := HZ.out.1.1.fq.frozen 0
            have HZ2 : Hid ((YW W (wz.setCell ⟨q, 0, none⟩ (.slice (some ⟨gzb13, 0, none⟩) s.calls.length capzb13)) r (A) c s (some ⟨g0, o0, none⟩) AP cc cp D F p q x #[.int .i64 x.elements, .int .i64 bp, .int .i64 bo, .int .i64 bt] #[.slice (some ⟨gzb10, 0, none⟩) s.calls.length capzb10, .slice AP s.parts.length cp, .int .i64 s.over] #[.slice (some ⟨gzb13, 0, none⟩) s.calls.length capzb13, .slice AP s.parts.length cp, .int .i64 s.over] ∧ HS ≤ (wz.setCell ⟨q, 0, none⟩ (.slice (some ⟨gzb13, 0, none⟩) s.calls.length capzb13)).heap.size) ∧ RowC (wz.setCell ⟨q, 0, none⟩ (.slice (some ⟨gzb13, 0, none⟩) s.calls.length capzb13)) gzb10 E ∧ RowC (wz.setCell ⟨q, 0, none⟩ (.slice (some ⟨gzb13, 0, none⟩) s.calls.length capzb13)) gzb13 E) := Lib.hid ⟨⟨HZ.out.1.1.setQ 0 _ rfl, by simpa [World.setCell] using HZ.out.1.2⟩, HZ.out.2.1.far (by have := HOzb13.out.2; simp only; omega) _, HZ.out.2.2.far (by have := HRzb13.out.2; simp only; omega) _⟩
            go_simp
            refine hK.out _ _ (fun h => ⟨(HZ2.out.1).1.x.v.fs.cell 0, (HZ2.out.1).1.x.v.fs.cell 1⟩) ?_
            clear hK K p0 f0
            try simp only [Act.put, List.setIfInBounds_toArray, List.set_cons_zero, List.set_cons_succ]
            refine wpLate_done (by kernel_rfl) ?_ _
            try simp only [Act.put, List.setIfInBounds_toArray, List.set_cons_zero, List.set_cons_succ]
            try go_wp2_with fail
            go_meet
            exact ⟨gzb10, gzb13, capzb10, capzb13, Lib.hid ⟨HZ2.out.1.1, HZ2.out.2.1, HZ2.out.2.2, HOzb13.out.2, HRzb13.out.2, by omega⟩⟩
        case rest =>
          obtain ⟨g, h, c1, c2, H14⟩ := hcut
          rename World => w14
          clear H12 HCL
          have hkl2 : (k : Int) < s.calls.length := by omega
          have hkE : k < E.length := by rw [hEL]; exact hkl
          have p0 : w14.cell? ⟨p, 0, none⟩ = some (.slice (some ⟨g, 0, none⟩) s.calls.length c1) := H14.out.1.fp.cell 0
          have p1 : w14.cell? ⟨g, k * 6 + 4, none⟩ = some (.bool E[k].c.fall) := H14.out.2.1.cell hkE (j := 4) (by omega)
          have f1 := H14.out.2.1.frozen (k * 6 + 4)
          have HNP : Hid (p ≠ g ∧ q ≠ g ∧ p ≠ h ∧ q ≠ h ∧ F < g ∧ F < h) := Lib.hid (by have := H14.out.1.hp; have := H14.out.2.2.2.1; have := H14.out.2.2.2.2.1; omega)
          obtain ⟨e1, he1⟩ : ∃ e1 : En, e1 = ⟨fallC E[k].c, E[k].M, E[k].m, E[k].at_⟩ := ⟨_, rfl⟩
          have H15 : Hid (YW W (w14.setCell ⟨g, k * 6 + 4, none⟩ (.bool true)) r A c s (some ⟨g0, o0, none⟩) AP cc cp D F p q x #[.int .i64 x.elements, .int .i64 bp, .int .i64 bo, .int .i64 bt] #[.slice (some ⟨g, 0, none⟩) s.calls.length c1, .slice AP s.parts.length cp, .int .i64 s.over] #[.slice (some ⟨h, 0, none⟩) s.calls.length c2, .slice AP s.parts.length cp, .int .i64 s.over] ∧ RowC (w14.setCell ⟨g, k * 6 + 4, none⟩ (.bool true)) g (E.set k e1) ∧ RowC (w14.setCell ⟨g, k * 6 + 4, none⟩ (.bool true)) h E) := Lib.hid ⟨H14.out.1.far (by simp only; exact HNP.out.2.2.2.2.1) (by simp only; exact HNP.out.1) (by simp only; exact HNP.out.2.1) _, H14.out.2.1.set hkE (by omega) (by rw [he1]; rfl), H14.out.2.2.1.far (by simp only; exact fun e => H14.out.2.2.2.2.2 e.symm) _⟩
          have HGH : Hid (g ≠ h) := Lib.hid H14.out.2.2.2.2.2
          go_upto_region 26 with fail
          generalize w14.setCell ⟨g, k * 6 + 4, none⟩ (.bool true) = w15 at H15 ⊢
          clear p0 p1 f1 H14
          have hMr := (HER.out _ (List.getElem_mem hkE)).1
          have HCK : Hid (E[k].c = s.calls[k]) := Lib.hid (by
            have h1 := HEC.out.2
            have h2 : (E.map (·.c))[k]'(by simpa using hkE) = s.calls[k] := by simp only [h1]
            simpa using h2)
          have hvc := (HVS.out.c _ (List.getElem_mem hkl)).1
          have HVC := Lib.hid hvc
          have hml1 := hvc.l1
          have hml9 := hvc.l9
          rw [HCK.out] at hMr
          obtain ⟨gM, oM, hgM, hgMs, -⟩ := hMr 0 (by omega)
          have HMR := Lib.hid hMr
          have HGM := Lib.hid hgM
          have HM5 : Hid (∀ w', Below W.heap.size W w' → w'.cell? ⟨g0, o0 + k * 6 + 5, none⟩ = some (.slice (some ⟨gM, oM, none⟩) s.calls[k].marks.length E[k].m)) := Lib.hid fun w' hb => by
            have h1 := HCL2.out w' hb (k * 6 + 5) (.slice E[k].M E[k].c.marks.length E[k].m) (flat_get enc6 6 enc6_len E k hkE 5 (by omega))
            rw [addr_add, ← Nat.add_assoc] at h1
            rw [h1, HCK.out, hgM]
          have H15a := Lib.hid (H15.out.1.step (below_one w15 (.cells #[] 3)))
          have y0 : (w15.alloc (.cells #[] 3)).cell? ⟨W.heap.size + 1, 0, none⟩ = some (.slice (some ⟨g0, o0, none⟩) s.calls.length cc) := H15a.out.x.v.fs.cell 0
          have m5 := HM5.out _ H15a.out.x.v.b
          obtain ⟨ml, hmle⟩ : ∃ ml, ml = s.calls[k].marks := ⟨_, rfl⟩
          generalize hem : E[k].m = em at m5
          rw [← hmle] at hml1 hml9 m5 HMR
          have HML := Lib.hid hmle
          clear hmle hMr hem hgM
          obtain ⟨i3, hi3, hx0, hx1, hx2⟩ := info_parts Try.info3
          have HNEW : Hid (∀ j u, (ivl ml)[j]? = some u → (w15.alloc (.cells #[] 3)).cell? ((⟨gM, oM, none⟩ : Addr).add j) = some u) := Lib.hid fun j u hu => by
            have hj : j < ml.length := by have := (List.getElem?_eq_some_iff.1 hu).1; simpa [ivl] using this
            obtain ⟨g', o', e', hg', hc'⟩ := HMR.out j hj
            rw [HGM.out] at e'; cases e'
            rw [addr_add, (below_one w15 _).cell (p := ⟨gM, _, none⟩) (Nat.lt_of_lt_of_le hgMs H15.out.1.x.v.b.size), (H15.out.1.x.v.b.cell (p := ⟨gM, _, none⟩) hgMs), hc']
            simpa [ivl, hj] using hu
          have HOW : Hid ((w15.alloc (.cells #[] 3)).ownsRow w15.heap.size 3 1 (.slice (some ⟨w15.heap.size, 0, none⟩) 0 0) 0 []) := Lib.hid (own_made w15 3 1)
          go_wp2_with (at_builtin; go_loud (refine wpList_append_lies _ rfl _ _ 22 rfl w15.heap.size 3 i3 (.int .i64 0) 1 8 Try.underlying22 hi3 hx0 hx1 hx2 rfl (by decide) (.slice (some ⟨w15.heap.size, 0, none⟩) 0 0) 0 [] rfl HOW.out ⟨gM, oM, none⟩ ml.length em (ivl ml) rfl ?q1 HNEW.out (ivl_one _) ?q2 ?q3 ?q4 ?q5 _ rfl ?_))
          case q1 => simp [ivl]
          case q2 => omega
          case q3 => unfold maxLen; omega
          case q4 => omega
          case q5 => simp
          rintro gm capm w16 hown hgr hgg hlt
          have hcb := copy_below hgr
          have hri := RowI.of_own (n := ml.length) (l := ml) (g := gm) rfl (by rw [Nat.zero_add, List.nil_append]; exact hown)
          have H16 : Hid (YW W w16 r A c s (some ⟨g0, o0, none⟩) AP cc cp D F p q x #[.int .i64 x.elements, .int .i64 bp, .int .i64 bo, .int .i64 bt] #[.slice (some ⟨g, 0, none⟩) s.calls.length c1, .slice AP s.parts.length cp, .int .i64 s.over] #[.slice (some ⟨h, 0, none⟩) s.calls.length c2, .slice AP s.parts.length cp, .int .i64 s.over] ∧ RowC w16 g (E.set k e1) ∧ RowC w16 h E ∧ RowI w16 gm ml) := Lib.hid ⟨H15.out.1.step hcb, H15.out.2.1.step hcb, H15.out.2.2.step hcb, hri.1⟩
          have HGM2 : Hid (gm ≠ g ∧ gm ≠ h ∧ gm ≠ p ∧ gm ≠ q ∧ F < gm) := Lib.hid (by
            have h1 := hri.2
            have h2 := H15.out.2.1.lt
            have h3 := H15.out.2.2.lt
            have h4 := H15.out.1.fp.lt
            have h5 := H15.out.1.fq.lt
            have h6 := H15.out.1.ff.lt
            omega)
          clear hcb hri hown hgr hgg hlt y0 m5 H15 H15a HNEW HOW
          obtain ⟨j, hj⟩ : ∃ j, j = n3.toNat % ml.length := ⟨_, rfl⟩
          have hjl : j < ml.length := by rw [hj]; exact Nat.mod_lt _ (by omega)
          have hjl2 : (j : Int) < ml.length := by omega
          have hLz : ¬ (ml.length : Int) = 0 := by omega
          have ec : IntKind.i64.wrap n3 = n3 := IntWalk.i64_in _ (by have := HN3.out; omega)
          have em3 : n3.tmod (ml.length : Int) = (j : Int) := by
            have hn := HN3.out
            rw [Int.tmod_eq_emod_of_nonneg hn.1, hj]
            have h1 : n3 = ((n3.toNat : Nat) : Int) := by omega
            rw [Int.natCast_emod, ← h1]
          have hvb := HVC.out.m ml[j] (by rw [← HML.out]; exact List.getElem_mem hjl)
          obtain ⟨v, hv⟩ : ∃ v, v = ml[j] := ⟨_, rfl⟩
          have mj : w16.cell? ⟨gm, j, none⟩ = some (.int .i64 v) := by rw [hv]; exact H16.out.2.2.2.cell hjl
          have mf := H16.out.2.2.2.frozen j
          rw [← hv] at hvb
          have ev : IntKind.i64.wrap (v + 1) = v + 1 := IntWalk.i64_in _ (by omega)
          have HV := Lib.hid hv
          clear hj hv
          have H17 : Hid (YW W (w16.setCell ⟨gm, j, none⟩ (.int .i64 (min 5 (v + 1)))) r A c s (some ⟨g0, o0, none⟩) AP cc cp D F p q x #[.int .i64 x.elements, .int .i64 bp, .int .i64 bo, .int .i64 bt] #[.slice (some ⟨g, 0, none⟩) s.calls.length c1, .slice AP s.parts.length cp, .int .i64 s.over] #[.slice (some ⟨h, 0, none⟩) s.calls.length c2, .slice AP s.parts.length cp, .int .i64 s.over] ∧ RowC (w16.setCell ⟨gm, j, none⟩ (.int .i64 (min 5 (v + 1)))) g (E.set k e1) ∧ RowC (w16.setCell ⟨gm, j, none⟩ (.int .i64 (min 5 (v + 1)))) h E ∧ RowI (w16.setCell ⟨gm, j, none⟩ (.int .i64 (min 5 (v + 1)))) gm (ml.set j (min 5 (v + 1)))) := Lib.hid (by
            have hh := HGM2.out
            exact ⟨H16.out.1.far (by simp only; omega) (by simp only; omega) (by simp only; omega) _, H16.out.2.1.far (by simp only; omega) _, H16.out.2.2.1.far (by simp only; omega) _, H16.out.2.2.2.set hjl _⟩)
          try simp only [Nat.zero_add]
          go_upto_region 29 with fail
          generalize w16.setCell ⟨gm, j, none⟩ (.int .i64 (min 5 (v + 1))) = w17 at H17 ⊢
          clear mj mf ev em3 ec hLz H16
          have q0 : w17.cell? ⟨q, 0, none⟩ = some (.slice (some ⟨h, 0, none⟩) s.calls.length c2) := H17.out.1.fq.cell 0
          have h5 : w17.cell? ⟨h, k * 6 + 5, none⟩ = some (.slice E[k].M E[k].c.marks.length E[k].m) := H17.out.2.2.1.cell hkE (j := 5) (by omega)
          have f5 := H17.out.2.2.1.frozen (k * 6 + 5)
          obtain ⟨e2, he2⟩ : ∃ e2 : En, e2 = ⟨riseC E[k].c j (min 5 (v + 1)), some ⟨gm, 0, none⟩, capm, E[k].at_⟩ := ⟨_, rfl⟩
          have H18 : Hid (YW W (w17.setCell ⟨h, k * 6 + 5, none⟩ (.slice (some ⟨gm, 0, none⟩) ml.length capm)) r A c s (some ⟨g0, o0, none⟩) AP cc cp D F p q x #[.int .i64 x.elements, .int .i64 bp, .int .i64 bo, .int .i64 bt] #[.slice (some ⟨g, 0, none⟩) s.calls.length c1, .slice AP s.parts.length cp, .int .i64 s.over] #[.slice (some ⟨h, 0, none⟩) s.calls.length c2, .slice AP s.parts.length cp, .int .i64 s.over] ∧ RowC (w17.setCell ⟨h, k * 6 + 5, none⟩ (.slice (some ⟨gm, 0, none⟩) ml.length capm)) g (E.set k e1) ∧ RowC (w17.setCell ⟨h, k * 6 + 5, none⟩ (.slice (some ⟨gm, 0, none⟩) ml.length capm)) h (E.set k e2) ∧ RowI (w17.setCell ⟨h, k * 6 + 5, none⟩ (.slice (some ⟨gm, 0, none⟩) ml.length capm)) gm (ml.set j (min 5 (v + 1)))) := Lib.hid (by
            have hh := HGM2.out
            have hn := HNP.out
            refine ⟨H17.out.1.far (by simp only; omega) (by simp only; omega) (by simp only; omega) _, H17.out.2.1.far (by simp only; exact HGH.out) _, H17.out.2.2.1.set hkE (by omega) ?_, H17.out.2.2.2.far (by simp only; omega) _⟩
            rw [he2, HML.out, ← HCK.out]
            simp [enc6, riseC])
          go_upto_region 30 with fail
          generalize w17.setCell ⟨h, k * 6 + 5, none⟩ (.slice (some ⟨gm, 0, none⟩) ml.length capm) = w18 at H18 ⊢
          clear q0 h5 f5 H17
          obtain ⟨z, hz⟩ : ∃ z, z = min 5 (v + 1) := ⟨_, rfl⟩
          rw [← hz] at H18 he2
          have hzv : v ≤ z ∧ -5 ≤ z ∧ z ≤ 5 := by omega
          have hjm : j < s.calls[k].marks.length := by rw [← HML.out]; exact hjl
          have hvm : s.calls[k].marks[j] ≤ z := by
            have h1 := HV.out
            have h2 : ml[j] = s.calls[k].marks[j] := by simp only [HML.out]
            omega
          have he1c : e1.c = fallC s.calls[k] := by rw [he1, ← HCK.out]
          have he2c : e2.c = riseC s.calls[k] j z := by rw [he2, ← HCK.out]
          have HFO : Hid (contestB r [setC s k e1.c] = true ∧ contestB r [setC s k e2.c] = true) := Lib.hid ⟨by rw [he1c]; exact fall_ok hkl HCB.out, by rw [he2c]; exact rise_ok hkl hzv.2 HVS.out HCB.out⟩
          have hfs := fall_sc (r := r) hkl
          have hrs := rise_sc (contest_ok HCB.out).1 HVS.out hkl hjm hvm
          rw [← he1c, ← HXX.out] at hfs
          rw [← he2c, ← HXX.out] at hrs
          have HI1 : Hid (∀ w, Below W.heap.size W w → IRow w w.heap.size e1.M e1.c.marks ∧ e1.c.marks.length ≤ big) := Lib.hid fun w hb => by
            have h1 := HER.out _ (List.getElem_mem hkE)
            rw [he1]
            exact ⟨(h1.1.below hb).more hb.size, h1.2⟩
          have HI2 : Hid (∀ w, RowI w gm (ml.set j z) → IRow w w.heap.size e2.M e2.c.marks ∧ e2.c.marks.length ≤ big) := Lib.hid fun w hb => by
            have h2 : e2.c.marks = ml.set j z := by rw [he2c, HML.out]; rfl
            have h3 : e2.M = some ⟨gm, 0, none⟩ := by rw [he2]
            rw [h2, h3, List.length_set]
            exact ⟨hb.irow, by unfold big; omega⟩
          have HPF : Hid (∀ w, Below W.heap.size W w → RowC w g (E.set k e1) → Calls Try.prog 14 #[.agg (ruc r A c), .agg #[.slice (some ⟨g, 0, none⟩) s.calls.length c1, .slice AP s.parts.length cp, .int .i64 s.over]] w fun e W' => e = .returned (.tuple #[.agg (scc (progP r (setC s k e1.c))), .int .i64 0]) ∧ Below w.heap.size w W') := Lib.hid fun w hb hg => by
            have := HP.out (setC s k e1.c) (some ⟨g, 0, none⟩) AP c1 cp w hb (sk_set HRS.out.2 hb HEC.out.2 HER.out (HI1.out w hb) hg)
            rw [progR_one HFO.out.1] at this
            simp only [skc, setC, List.length_set] at this
            exact this
          have HPH : Hid (∀ w, Below W.heap.size W w → RowC w h (E.set k e2) → RowI w gm (ml.set j z) → Calls Try.prog 14 #[.agg (ruc r A c), .agg #[.slice (some ⟨h, 0, none⟩) s.calls.length c2, .slice AP s.parts.length cp, .int .i64 s.over]] w fun e W' => e = .returned (.tuple #[.agg (scc (progP r (setC s k e2.c))), .int .i64 0]) ∧ Below w.heap.size w W') := Lib.hid fun w hb hg hi => by
            have := HP.out (setC s k e2.c) (some ⟨h, 0, none⟩) AP c2 cp w hb (sk_set HRS.out.2 hb HEC.out.2 HER.out (HI2.out w hi) hg)
            rw [progR_one HFO.out.2] at this
            simp only [skc, setC, List.length_set] at this
            exact this
          obtain ⟨fb, hfb⟩ : ∃ b, b = progP r (setC s k e1.c) := ⟨_, rfl⟩
          obtain ⟨hb, hhb⟩ : ∃ b, b = progP r (setC s k e2.c) := ⟨_, rfl⟩
          rw [← hfb] at hfs HPF
          rw [← hhb] at hrs HPH
          have HBT := Lib.hid (fun w => Better_any x hb w)
          rw [show betR x hb = false by simp only [betR, Bool.or_eq_false_iff, Bool.and_eq_false_iff, decide_eq_false_iff_not]; omega] at HBT
          have HFS := Lib.hid hfs
          have HRZ := Lib.hid hrs
          have HE12 := Lib.hid (And.intro he1 (And.intro he2 hz))
          unfold BoolPost at HBT
          unfold scv at HBT
          clear hfs hrs hfb hhb he1 he2 hz he1c he2c hzv hjm hvm HP HFO HI1 HI2
          dsimp only [scc] at HPF HPH HBT
          have x0 : w18.cell? ⟨W.heap.size, 0, none⟩ = some (.slice A r.bases.length c) := H18.out.1.x.v.fr.cell 0
          have x1 : w18.cell? ⟨W.heap.size, 1, none⟩ = some (.int .i64 r.factor) := H18.out.1.x.v.fr.cell 1
          have x2 : w18.cell? ⟨W.heap.size, 2, none⟩ = some (.int .i64 r.most) := H18.out.1.x.v.fr.cell 2
          have l0 : w18.cell? ⟨p, 0, none⟩ = some (.slice (some ⟨g, 0, none⟩) s.calls.length c1) := H18.out.1.fp.cell 0
          have l1 : w18.cell? ⟨p, 1, none⟩ = some (.slice AP s.parts.length cp) := H18.out.1.fp.cell 1
          have l2 : w18.cell? ⟨p, 2, none⟩ = some (.int .i64 s.over) := H18.out.1.fp.cell 2
          go_wp2_with fail
          refine (HPF.out _ H18.out.1.x.v.b H18.out.2.1).mono ?_
          rintro e w19 ⟨rfl, hb19⟩
          have H19 : Hid (YW W w19 r A c s (some ⟨g0, o0, none⟩) AP cc cp D F p q x #[.int .i64 x.elements, .int .i64 bp, .int .i64 bo, .int .i64 bt] #[.slice (some ⟨g, 0, none⟩) s.calls.length c1, .slice AP s.parts.length cp, .int .i64 s.over] #[.slice (some ⟨h, 0, none⟩) s.calls.length c2, .slice AP s.parts.length cp, .int .i64 s.over] ∧ RowC w19 h (E.set k e2) ∧ RowI w19 gm (ml.set j z)) := Lib.hid ⟨H18.out.1.step hb19, H18.out.2.2.1.step hb19, H18.out.2.2.2.step hb19⟩
          clear hb19 x0 x1 x2 l0 l1 l2 H18 HPF
          have f0 := H19.out.1.ff.frozen 0
          have f1 := H19.out.1.ff.frozen 1
          have f2 := H19.out.1.ff.frozen 2
          have f3 := H19.out.1.ff.frozen 3
          have t0 : w19.cell? ⟨F, 0, none⟩ = some (.int .i64 x.elements) := H19.out.1.ff.cell 0
          have t1 : w19.cell? ⟨F, 1, none⟩ = some (.int .i64 bp) := H19.out.1.ff.cell 1
          have t2 : w19.cell? ⟨F, 2, none⟩ = some (.int .i64 bo) := H19.out.1.ff.cell 2
          have t3 : w19.cell? ⟨F, 3, none⟩ = some (.int .i64 bt) := H19.out.1.ff.cell 3
          have H20 : Hid (YW W ((((w19.setCell ⟨F, 0, none⟩ (.int .i64 fb.elements)).setCell ⟨F, 1, none⟩ (.int .i64 fb.parts)).setCell ⟨F, 2, none⟩ (.int .i64 fb.off)).setCell ⟨F, 3, none⟩ (.int .i64 fb.total)) r A c s (some ⟨g0, o0, none⟩) AP cc cp D F p q x #[.int .i64 fb.elements, .int .i64 fb.parts, .int .i64 fb.off, .int .i64 fb.total] #[.slice (some ⟨g, 0, none⟩) s.calls.length c1, .slice AP s.parts.length cp, .int .i64 s.over] #[.slice (some ⟨h, 0, none⟩) s.calls.length c2, .slice AP s.parts.length cp, .int .i64 s.over] ∧ RowC ((((w19.setCell ⟨F, 0, none⟩ (.int .i64 fb.elements)).setCell ⟨F, 1, none⟩ (.int .i64 fb.parts)).setCell ⟨F, 2, none⟩ (.int .i64 fb.off)).setCell ⟨F, 3, none⟩ (.int .i64 fb.total)) h (E.set k e2) ∧ RowI ((((w19.setCell ⟨F, 0, none⟩ (.int .i64 fb.elements)).setCell ⟨F, 1, none⟩ (.int .i64 fb.parts)).setCell ⟨F, 2, none⟩ (.int .i64 fb.off)).setCell ⟨F, 3, none⟩ (.int .i64 fb.total)) gm (ml.set j z)) := Lib.hid (by
            have hn := HNP.out
            have hm := HGM2.out
            exact ⟨(((H19.out.1.setF 0 _ rfl).setF 1 _ rfl).setF 2 _ rfl).setF 3 _ rfl, (((H19.out.2.1.far (by simp only; omega) _).far (by simp only; omega) _).far (by simp only; omega) _).far (by simp only; omega) _, (((H19.out.2.2.far (by simp only; omega) _).far (by simp only; omega) _).far (by simp only; omega) _).far (by simp only; omega) _⟩)
          go_upto_region 31 with fail
          generalize ((((w19.setCell ⟨F, 0, none⟩ (.int .i64 fb.elements)).setCell ⟨F, 1, none⟩ (.int .i64 fb.parts)).setCell ⟨F, 2, none⟩ (.int .i64 fb.off)).setCell ⟨F, 3, none⟩ (.int .i64 fb.total)) = w20 at H20 ⊢
          clear f0 f1 f2 f3 t0 t1 t2 t3 H19
          have x0 : w20.cell? ⟨W.heap.size, 0, none⟩ = some (.slice A r.bases.length c) := H20.out.1.x.v.fr.cell 0
          have x1 : w20.cell? ⟨W.heap.size, 1, none⟩ = some (.int .i64 r.factor) := H20.out.1.x.v.fr.cell 1
          have x2 : w20.cell? ⟨W.heap.size, 2, none⟩ = some (.int .i64 r.most) := H20.out.1.x.v.fr.cell 2
          have l0 : w20.cell? ⟨q, 0, none⟩ = some (.slice (some ⟨h, 0, none⟩) s.calls.length c2) := H20.out.1.fq.cell 0
          have l1 : w20.cell? ⟨q, 1, none⟩ = some (.slice AP s.parts.length cp) := H20.out.1.fq.cell 1
          have l2 : w20.cell? ⟨q, 2, none⟩ = some (.int .i64 s.over) := H20.out.1.fq.cell 2
          go_wp2_with fail
          refine (HPH.out _ H20.out.1.x.v.b H20.out.2.1 H20.out.2.2).mono ?_
          rintro e w21 ⟨rfl, hb21⟩
          have H21 : Hid (YW W (w21.alloc (.cells #[.int .i64 hb.elements, .int .i64 hb.parts, .int .i64 hb.off, .int .i64 hb.total] 33)) r A c s (some ⟨g0, o0, none⟩) AP cc cp D F p q x #[.int .i64 fb.elements, .int .i64 fb.parts, .int .i64 fb.off, .int .i64 fb.total] #[.slice (some ⟨g, 0, none⟩) s.calls.length c1, .slice AP s.parts.length cp, .int .i64 s.over] #[.slice (some ⟨h, 0, none⟩) s.calls.length c2, .slice AP s.parts.length cp, .int .i64 s.over] ∧ Has (w21.alloc (.cells #[.int .i64 hb.elements, .int .i64 hb.parts, .int .i64 hb.off, .int .i64 hb.total] 33)) w21.heap.size 33 #[.int .i64 hb.elements, .int .i64 hb.parts, .int .i64 hb.off, .int .i64 hb.total]) := Lib.hid ⟨(H20.out.1.step hb21).step (below_one _ _), Has.new _ _ _⟩
          clear hb21 x0 x1 x2 l0 l1 l2 H20 HPH
          go_upto_region 32 with fail
          generalize w21.alloc (.cells #[.int .i64 hb.elements, .int .i64 hb.parts, .int .i64 hb.off, .int .i64 hb.total] 33) = w22 at H21 ⊢
          generalize w21.heap.size = G at H21 ⊢
          have a0 : w22.cell? ⟨D, 0, none⟩ = some (.int .i64 x.elements) := H21.out.1.x.fx.cell 0
          have a1 : w22.cell? ⟨D, 1, none⟩ = some (.int .i64 x.parts) := H21.out.1.x.fx.cell 1
          have a2 : w22.cell? ⟨D, 2, none⟩ = some (.int .i64 x.off) := H21.out.1.x.fx.cell 2
          have a3 : w22.cell? ⟨D, 3, none⟩ = some (.int .i64 x.total) := H21.out.1.x.fx.cell 3
          have b0 : w22.cell? ⟨F, 0, none⟩ = some (.int .i64 fb.elements) := H21.out.1.ff.cell 0
          have b1 : w22.cell? ⟨F, 1, none⟩ = some (.int .i64 fb.parts) := H21.out.1.ff.cell 1
          have b2 : w22.cell? ⟨F, 2, none⟩ = some (.int .i64 fb.off) := H21.out.1.ff.cell 2
          have b3 : w22.cell? ⟨F, 3, none⟩ = some (.int .i64 fb.total) := H21.out.1.ff.cell 3
          have d0 : w22.cell? ⟨G, 0, none⟩ = some (.int .i64 hb.elements) := H21.out.2.cell 0
          have d1 : w22.cell? ⟨G, 1, none⟩ = some (.int .i64 hb.parts) := H21.out.2.cell 1
          have d2 : w22.cell? ⟨G, 2, none⟩ = some (.int .i64 hb.off) := H21.out.2.cell 2
          have d3 : w22.cell? ⟨G, 3, none⟩ = some (.int .i64 hb.total) := H21.out.2.cell 3
          have u1 : fb.total ≤ x.total := HFS.out.2
          have u2 : (fb.elements == x.elements) = true := by rw [HFS.out.1]; simp
          have u3 : x.elements ≤ hb.elements := HRZ.out.1
          have u4 : x.total ≤ hb.total := HRZ.out.2
          go_wp2_with fail
          refine (HBT.out _).mono ?_
          rintro e w23 ⟨rfl, hb23⟩
          have H23 := Lib.hid (H21.out.1.step hb23)
          clear hb23 H21
          go_wp2_with fail
          refine (HAw.out _).mono ?_
          rintro e w24 ⟨rfl, hb24⟩
          have H24 := Lib.hid (H23.out.step hb24)
          clear hb24
          go_wp2_with fail
          go_ret
          exact ⟨rfl, H24.out.x.v.b⟩
    have hlt2 : (k : Int) < s.calls.length := by omega
    obtain ⟨g, o, M, m, hg, hgs, hc, -, -⟩ := HRS.out.2.c k hlt
    subst hg
    have hb := HW.out.v.b
    have z0 : wr.cell? ⟨g, o + k * 6, none⟩ = some (.int .i64 s.calls[k].place) := (hb.cell (p := ⟨g, _, none⟩) hgs).trans (hc 0 (by omega))
    have z1 : wr.cell? ⟨g, o + k * 6 + 1, none⟩ = some (.int .i64 s.calls[k].element) := (hb.cell (p := ⟨g, _, none⟩) hgs).trans (hc 1 (by omega))
    have z2 : wr.cell? ⟨g, o + k * 6 + 2, none⟩ = some (.int .i64 s.calls[k].under) := (hb.cell (p := ⟨g, _, none⟩) hgs).trans (hc 2 (by omega))
    have z3 : wr.cell? ⟨g, o + k * 6 + 3, none⟩ = some (.bool s.calls[k].late) := (hb.cell (p := ⟨g, _, none⟩) hgs).trans (hc 3 (by omega))
    have z4 : wr.cell? ⟨g, o + k * 6 + 4, none⟩ = some (.bool s.calls[k].fall) := (hb.cell (p := ⟨g, _, none⟩) hgs).trans (hc 4 (by omega))
    have z5 : wr.cell? ⟨g, o + k * 6 + 5, none⟩ = some (.slice M s.calls[k].marks.length m) := (hb.cell (p := ⟨g, _, none⟩) hgs).trans (hc 5 (by omega))
    have HFS := Lib.hid (And.intro (falls_succ hlt) (falls_le s.calls k))
    obtain ⟨y, hy⟩ : ∃ y, y = s.calls[k] := ⟨_, rfl⟩
    rw [← hy] at z0 z1 z2 z3 z4 z5 HFS
    obtain ⟨q, hq⟩ : ∃ q, q = fallsP (s.calls.take k) := ⟨_, rfl⟩
    rw [← hq] at HFS ⊢
    have hq16 : q ≤ 16 := Nat.le_trans HFS.out.2 (by omega)
    have HX7 : Hid (XW W (wr.alloc (.cells (clc y M m) 52)) r A c s (some ⟨g, o, none⟩) AP cc cp D x ∧ Has (wr.alloc (.cells (clc y M m) 52)) wr.heap.size 52 (clc y M m)) := Lib.hid ⟨HW.out.step (below_one _ _), Has.new _ _ _⟩
    clear hb hgs hc hy hq HP HCT HOF HW
    go_upto_region 10 with fail
    generalize wr.alloc (.cells (clc y M m) 52) = w7 at HX7 ⊢
    generalize wr.heap.size = E at HX7 ⊢
    clear z0 z1 z2 z3 z4 z5
    cases hyf : y.fall
    · have t4 : w7.cell? ⟨E, 4, none⟩ = some (.bool false) := (HX7.out.2.cell 4).trans (by simp [hyf])
      have HQ : Hid (fallsP (s.calls.take (k + 1)) = q) := Lib.hid (by rw [HFS.out.1, hyf]; rfl)
      have H8 := Lib.hid HX7.out.1
      clear HFS hyf HX7
      go_wp2_with fail
      go_roundg (s.calls.length - (k + 1))
      case measure => omega
      case rel => exact ⟨k + 1, by omega, Nat.le_refl _, by go_num, by rw [HQ.out], H8⟩
    · have t4 : w7.cell? ⟨E, 4, none⟩ = some (.bool true) := (HX7.out.2.cell 4).trans (by simp [hyf])
      have HQ : Hid (fallsP (s.calls.take (k + 1)) = q + 1) := Lib.hid (by rw [HFS.out.1, hyf]; rfl)
      have H8 := Lib.hid HX7.out.1
      clear HFS hyf HX7
      go_wp2_with fail
      go_roundg (s.calls.length - (k + 1))
      case measure => omega
      case rel => exact ⟨k + 1, by omega, Nat.le_refl _, by go_num, by rw [HQ.out]; go_num, H8⟩
end Go.Proofs.Ytmclchaalmonnaa

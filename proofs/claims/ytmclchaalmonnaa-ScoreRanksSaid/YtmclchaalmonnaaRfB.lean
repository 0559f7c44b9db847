/- The document's skating, Contest. -/
import Derived.Test.YtmclchaalmonnaaRfA
namespace Go.Proofs.Ytmclchaalmonnaa
open Go.RowKit Go.Lib
attribute [local irreducible] wpQuiet
theorem seen_any {l : List Cl} {k : Nat} {x : Cl} (h : ((l.take k).reverse.any fun d => decide (d.place = x.place)) = false) : ∀ j (hj : j < l.length), j < k → l[j].place ≠ x.place := fun j hj hjk e => by
  have := List.any_eq_false.1 h l[j] (by rw [List.mem_reverse]; exact List.mem_take_iff_getElem.2 ⟨j, by omega, rfl⟩)
  simp [e] at this
theorem seen_all {l : List Cl} {k : Nat} {x : Cl} (h : ∀ j (hj : j < l.length), j < k → l[j].place ≠ x.place) : ((l.take k).reverse.any fun d => decide (d.place = x.place)) = false := by
  rw [List.any_eq_false]
  intro d hd
  rw [List.mem_reverse] at hd
  obtain ⟨j, hj, rfl⟩ := List.getElem_of_mem hd
  rw [List.getElem_take]
  rw [List.length_take] at hj
  simpa using h j (by omega) (by omega)
set_option maxRecDepth 100000 in
set_option maxHeartbeats 2000000 in
theorem skating_any (r : Ru) (A : Option Addr) (c : Nat) (s : Sk) (AC AP : Option Addr) (cc cp : Nat) (n : Int) (W : World) (hr : RuR W W.heap.size r A) (hs : SkR W W.heap.size s AC AP) :
    Calls Try.prog 52 #[ruv r A c, skv s AC AP cc cp, .int .i64 n] W (BoolPost (skB r s n) W) := by
  have HB : Hid (VB W ((W.alloc (.cells (ruc r A c) 24)).alloc (.cells (skc s AC AP cc cp) 28)) r A c s AC AP cc cp) := Lib.hid (VB.start hr hs)
  have H0 := Lib.hid (fun w => in_any s.over 0 600 w)
  have hn : ∀ b, skB r s n = b → Hid (skB r s n = b) := fun b h => h
  have hlc := hs.lc
  have hlp := hs.lp
  unfold big at hlc hlp
  clear hr hs
  unfold ruv skv
  by_cases h1 : s.calls.length ≤ 16
  rotate_left
  · have h1' : ¬ (s.calls.length : Int) ≤ 16 := by omega
    have h1'' : (16 : Int) < s.calls.length := by omega
    have HE := hn false (by unfold skB; simp [h1])
    clear hn h1
    go_enter Try.func52, Try.ntmps52
    go_upto_region 1 with fail
    generalize (W.alloc (.cells (ruc r A c) 24)).alloc (.cells (skc s AC AP cc cp) 28) = w9 at HB ⊢
    have x0 : w9.cell? ⟨W.heap.size + 1, 0, none⟩ = some (.slice AC s.calls.length cc) := HB.out.fs.cell 0
    go_wp2_with fail
    go_ret
    exact ⟨ret_bool HE.out.symm, HB.out.r.b⟩
  have h1' : ¬ (16 : Int) < s.calls.length := by omega
  by_cases h2 : s.parts.length ≤ 5
  rotate_left
  · have h2' : (5 : Int) < s.parts.length := by omega
    have HE := hn false (by unfold skB; simp [h2])
    clear hn h2
    go_enter Try.func52, Try.ntmps52
    go_upto_region 1 with fail
    generalize (W.alloc (.cells (ruc r A c) 24)).alloc (.cells (skc s AC AP cc cp) 28) = w9 at HB ⊢
    have x0 : w9.cell? ⟨W.heap.size + 1, 0, none⟩ = some (.slice AC s.calls.length cc) := HB.out.fs.cell 0
    have x1 : w9.cell? ⟨W.heap.size + 1, 1, none⟩ = some (.slice AP s.parts.length cp) := HB.out.fs.cell 1
    go_wp2_with fail
    go_ret
    exact ⟨ret_bool HE.out.symm, HB.out.r.b⟩
  have h2' : ¬ (5 : Int) < s.parts.length := by omega
  cases h3 : inB s.over 0 600 <;> rw [h3] at H0
  · have HE := hn false (by unfold skB; simp [h3])
    clear hn h3
    go_enter Try.func52, Try.ntmps52
    go_upto_region 1 with fail
    generalize (W.alloc (.cells (ruc r A c) 24)).alloc (.cells (skc s AC AP cc cp) 28) = w9 at HB ⊢
    have x0 : w9.cell? ⟨W.heap.size + 1, 0, none⟩ = some (.slice AC s.calls.length cc) := HB.out.fs.cell 0
    have x1 : w9.cell? ⟨W.heap.size + 1, 1, none⟩ = some (.slice AP s.parts.length cp) := HB.out.fs.cell 1
    have x2 : w9.cell? ⟨W.heap.size + 1, 2, none⟩ = some (.int .i64 s.over) := HB.out.fs.cell 2
    go_wp2_with fail
    refine (H0.out _).mono ?_
    rintro e u0 ⟨rfl, rfl⟩
    go_wp2_with fail
    go_ret
    exact ⟨ret_bool HE.out.symm, HB.out.r.b⟩
  have HS : Hid (skB r s n = (callsB r n [] s.calls && partsB n s.parts)) := Lib.hid (by unfold skB; simp [h1, h2, h3])
  clear hn h1 h2 h3
  go_enter Try.func52, Try.ntmps52
  go_upto_region 1 with fail
  generalize (W.alloc (.cells (ruc r A c) 24)).alloc (.cells (skc s AC AP cc cp) 28) = w9 at HB ⊢
  have x0 : w9.cell? ⟨W.heap.size + 1, 0, none⟩ = some (.slice AC s.calls.length cc) := HB.out.fs.cell 0
  have x1 : w9.cell? ⟨W.heap.size + 1, 1, none⟩ = some (.slice AP s.parts.length cp) := HB.out.fs.cell 1
  have x2 : w9.cell? ⟨W.heap.size + 1, 2, none⟩ = some (.int .i64 s.over) := HB.out.fs.cell 2
  go_wp2_with fail
  refine (H0.out _).mono ?_
  rintro e u0 ⟨rfl, rfl⟩
  clear x0 x1 x2 H0
  have hlr := HB.out.r.rr.l
  unfold big at hlr
  have e1 : IntKind.i64.wrap ((r.bases.length : Int) - 1) = (r.bases.length : Int) - 1 := IntWalk.i64_in _ (by omega)
  go_wp2_with fail
  go_loopg [7] s.calls.length (fun gk i wr => ∃ k : Nat, k ≤ s.calls.length ∧ s.calls.length - k ≤ gk ∧ i = .int .i64 k ∧ Hid (VB W wr r A c s AC AP cc cp ∧ callsB r n [] s.calls = callsB r n (s.calls.take k).reverse (s.calls.drop k)))
  case atStart => exact ⟨0, Nat.zero_le _, Nat.le_refl _, rfl, Lib.hid ⟨HB.out, by simp⟩⟩
  case round =>
    clear HB
    obtain ⟨k, hk, hgk, rfl, HW⟩ := hrel
    have x0 : wr.cell? ⟨W.heap.size + 1, 0, none⟩ = some (.slice AC s.calls.length cc) := HW.out.1.fs.cell 0
    by_cases hlt : k < s.calls.length
    rotate_left
    · have hge : ¬ (k : Int) < s.calls.length := by omega
      have HE : Hid (callsB r n [] s.calls = true) := Lib.hid (by rw [HW.out.2, List.drop_eq_nil_of_le (by omega)]; rfl)
      have HW1 := Lib.hid HW.out.1
      have HP : Hid (skB r s n = s.parts.all fun m => decide ((m.length : Int) = n) && allB m 0 40) := Lib.hid (by rw [HS.out, HE.out]; rfl)
      clear hlt hk HS HE HW hgk
      go_wp2_with fail
      clear hge x0
      obtain ⟨w3, rfl⟩ : ∃ w3, w3 = wr := ⟨_, rfl⟩
      go_loopg [10] s.parts.length (fun gk i wr => ∃ k : Nat, k ≤ s.parts.length ∧ s.parts.length - k ≤ gk ∧ i = .int .i64 k ∧ Hid (VB W wr r A c s AC AP cc cp ∧ ∀ j (hj : j < s.parts.length), j < k → (decide ((s.parts[j].length : Int) = n) && allB s.parts[j] 0 40) = true))
      case atStart => exact ⟨0, Nat.zero_le _, Nat.le_refl _, rfl, Lib.hid ⟨HW1.out, fun j _ h => absurd h (by omega)⟩⟩
      case round =>
        obtain ⟨k, hk, hgk, rfl, HW⟩ := hrel
        have x1 : wr.cell? ⟨W.heap.size + 1, 1, none⟩ = some (.slice AP s.parts.length cp) := HW.out.1.fs.cell 1
        by_cases hlt : k < s.parts.length
        rotate_left
        · have hge : ¬ (k : Int) < s.parts.length := by omega
          have HE : Hid (skB r s n = true) := Lib.hid (by
            rw [HP.out, List.all_eq_true]
            intro g hg
            obtain ⟨j, hj, rfl⟩ := List.getElem_of_mem hg
            exact HW.out.2 j hj (by omega))
          go_wp2_with fail
          go_ret
          exact ⟨ret_bool HE.out.symm, HW.out.1.r.b⟩
        have hlt2 : (k : Int) < s.parts.length := by omega
        obtain ⟨g, o, M, m, hg, hgs, hc, hm, hml⟩ := (HW.out.1.rs.more HW.out.1.r.b.size).p k hlt
        have HNO : Hid ((decide ((s.parts[k].length : Int) = n) && allB s.parts[k] 0 40) = false → skB r s n = false) := Lib.hid fun h => by
          rw [HP.out]
          exact List.all_eq_false.2 ⟨s.parts[k], List.getElem_mem hlt, by rw [h]; decide⟩
        have HNX : Hid ((decide ((s.parts[k].length : Int) = n) && allB s.parts[k] 0 40) = true → ∀ j (hj : j < s.parts.length), j < k + 1 → (decide ((s.parts[j].length : Int) = n) && allB s.parts[j] 0 40) = true) := Lib.hid fun h j hj hjk => by
          rcases Nat.lt_or_ge j k with h' | h'
          · exact HW.out.2 j hj h'
          · have : j = k := by omega
            subst this
            exact h
        obtain ⟨x, hb⟩ : ∃ x, x = s.parts[k] := ⟨_, rfl⟩
        rw [← hb] at hc hm hml HNO HNX
        have HAW := Lib.hid (marks_any x M m n 0 40 wr hm hml)
        obtain ⟨bb, hbb⟩ : ∃ b, b = (decide ((x.length : Int) = n) && allB x 0 40) := ⟨_, rfl⟩
        rw [← hbb] at HAW HNO HNX
        unfold big at hml
        subst hg
        clear hb hgs hm hbb
        cases bb
        · have HN := Lib.hid (HNO.out rfl)
          clear HNO HNX
          go_wp2_with fail
          refine HAW.out.mono ?_
          rintro e w4 ⟨rfl, hb4⟩
          have H4 := Lib.hid (HW.out.1.step hb4)
          clear hb4 hc x1
          go_wp2_with fail
          go_ret
          exact ⟨ret_bool HN.out.symm, H4.out.r.b⟩
        · have HN := Lib.hid (HNX.out rfl)
          clear HNO HNX
          go_wp2_with fail
          refine HAW.out.mono ?_
          rintro e w4 ⟨rfl, hb4⟩
          have H4 := Lib.hid (HW.out.1.step hb4)
          clear hb4 hc x1
          go_wp2_with fail
          go_roundg (s.parts.length - (k + 1))
          case measure => omega
          case rel => exact ⟨k + 1, by omega, Nat.le_refl _, by go_num, Lib.hid ⟨H4.out, HN.out⟩⟩
    have hlt2 : (k : Int) < s.calls.length := by omega
    obtain ⟨g, o, M, m, hg, hgs, hc, hm, hml⟩ := (HW.out.1.rs.more HW.out.1.r.b.size).c k hlt
    have HCB : Hid (callsB r n [] s.calls = (clB r s.calls[k] n && (!((s.calls.take k).reverse.any fun d => decide (d.place = s.calls[k].place)) && callsB r n (s.calls.take (k + 1)).reverse (s.calls.drop (k + 1))))) := Lib.hid (by
      rw [HW.out.2, List.drop_eq_getElem_cons hlt, List.take_succ_eq_append_getElem hlt, List.reverse_append]; rfl)
    have HSE := Lib.hid (And.intro (seen_any (l := s.calls) (k := k) (x := s.calls[k])) (seen_all (l := s.calls) (k := k) (x := s.calls[k])))
    have HW1 := Lib.hid HW.out.1
    obtain ⟨x, hb⟩ : ∃ x, x = s.calls[k] := ⟨_, rfl⟩
    rw [← hb] at hc hm hml HCB HSE
    have z0 : wr.cell? ⟨g, o + k * 6, none⟩ = some (.int .i64 x.place) := hc 0 (by omega)
    have z1 : wr.cell? ⟨g, o + k * 6 + 1, none⟩ = some (.int .i64 x.element) := hc 1 (by omega)
    have z2 : wr.cell? ⟨g, o + k * 6 + 2, none⟩ = some (.int .i64 x.under) := hc 2 (by omega)
    have z3 : wr.cell? ⟨g, o + k * 6 + 3, none⟩ = some (.bool x.late) := hc 3 (by omega)
    have z4 : wr.cell? ⟨g, o + k * 6 + 4, none⟩ = some (.bool x.fall) := hc 4 (by omega)
    have z5 : wr.cell? ⟨g, o + k * 6 + 5, none⟩ = some (.slice M x.marks.length m) := hc 5 (by omega)
    have HX : Hid (VB W (wr.alloc (.cells (clc x M m) 52)) r A c s AC AP cc cp ∧ Has (wr.alloc (.cells (clc x M m) 52)) wr.heap.size 52 (clc x M m) ∧ IRow (wr.alloc (.cells (clc x M m) 52)) (wr.alloc (.cells (clc x M m) 52)).heap.size M x.marks) :=
      Lib.hid ⟨HW1.out.step (below_one _ _), Has.new _ _ _, hm.step (below_one _ _)⟩
    have hml' := hml
    unfold big at hml'
    have hAC := hg
    subst hg
    clear hb hc hm HW
    go_upto_region 7 with fail
    clear z0 z1 z2 z3 z4 z5 x0
    generalize wr.alloc (.cells (clc x M m) 52) = w2 at HX ⊢
    generalize wr.heap.size = E at HX ⊢
    have q0 : w2.cell? ⟨W.heap.size, 0, none⟩ = some (.slice A r.bases.length c) := HX.out.1.r.fr.cell 0
    have z0 : w2.cell? ⟨E, 0, none⟩ = some (.int .i64 x.place) := HX.out.2.1.cell 0
    have z1 : w2.cell? ⟨E, 1, none⟩ = some (.int .i64 x.element) := HX.out.2.1.cell 1
    have z2 : w2.cell? ⟨E, 2, none⟩ = some (.int .i64 x.under) := HX.out.2.1.cell 2
    have z5 : w2.cell? ⟨E, 5, none⟩ = some (.slice M x.marks.length m) := HX.out.2.1.cell 5
    have T0 := Lib.hid (fun w => in_any x.place 0 99 w)
    have T1 := Lib.hid (fun w => in_any x.element 0 ((r.bases.length : Int) - 1) w)
    have T2 := Lib.hid (fun w => in_any x.under 0 2 w)
    have T3 := Lib.hid (marks_any x.marks M m n (-5) 5 w2 HX.out.2.2 hml)
    have HCL : Hid (clB r x n = (inB x.place 0 99 && (inB x.element 0 ((r.bases.length : Int) - 1) && (inB x.under 0 2 && (decide ((x.marks.length : Int) = n) && allB x.marks (-5) 5))))) := Lib.hid rfl
    obtain ⟨b0, hb0⟩ : ∃ b, b = inB x.place 0 99 := ⟨_, rfl⟩
    obtain ⟨b1, hb1⟩ : ∃ b, b = inB x.element 0 ((r.bases.length : Int) - 1) := ⟨_, rfl⟩
    obtain ⟨b2, hb2⟩ : ∃ b, b = inB x.under 0 2 := ⟨_, rfl⟩
    obtain ⟨b3, hb3⟩ : ∃ b, b = (decide ((x.marks.length : Int) = n) && allB x.marks (-5) 5) := ⟨_, rfl⟩
    rw [← hb0] at T0 HCL
    rw [← hb1] at T1 HCL
    rw [← hb2] at T2 HCL
    rw [← hb3] at T3 HCL
    clear hb0 hb1 hb2 hb3
    cases b0
    · have HN : Hid (skB r s n = false) := Lib.hid (by rw [HS.out, HCB.out, HCL.out]; simp)
      clear HCB HS HCL HSE
      go_wp2_with fail
      refine (T0.out _).mono ?_
      rintro e u0 ⟨rfl, rfl⟩
      go_wp2_with fail
      go_ret
      exact ⟨ret_bool HN.out.symm, HX.out.1.r.b⟩
    cases b1
    · have HN : Hid (skB r s n = false) := Lib.hid (by rw [HS.out, HCB.out, HCL.out]; simp)
      clear HCB HS HCL HSE
      go_wp2_with fail
      refine (T0.out _).mono ?_
      rintro e u0 ⟨rfl, rfl⟩
      go_wp2_with fail
      refine (T1.out _).mono ?_
      rintro e u1 ⟨rfl, rfl⟩
      go_wp2_with fail
      go_ret
      exact ⟨ret_bool HN.out.symm, HX.out.1.r.b⟩
    cases b2
    · have HN : Hid (skB r s n = false) := Lib.hid (by rw [HS.out, HCB.out, HCL.out]; simp)
      clear HCB HS HCL HSE
      go_wp2_with fail
      refine (T0.out _).mono ?_
      rintro e u0 ⟨rfl, rfl⟩
      go_wp2_with fail
      refine (T1.out _).mono ?_
      rintro e u1 ⟨rfl, rfl⟩
      go_wp2_with fail
      refine (T2.out _).mono ?_
      rintro e u2 ⟨rfl, rfl⟩
      go_wp2_with fail
      go_ret
      exact ⟨ret_bool HN.out.symm, HX.out.1.r.b⟩
    cases b3
    · have HN : Hid (skB r s n = false) := Lib.hid (by rw [HS.out, HCB.out, HCL.out]; simp)
      clear HCB HS HCL HSE
      go_wp2_with fail
      refine (T0.out _).mono ?_
      rintro e u0 ⟨rfl, rfl⟩
      go_wp2_with fail
      refine (T1.out _).mono ?_
      rintro e u1 ⟨rfl, rfl⟩
      go_wp2_with fail
      refine (T2.out _).mono ?_
      rintro e u2 ⟨rfl, rfl⟩
      go_wp2_with fail
      refine T3.out.mono ?_
      rintro e w3 ⟨rfl, hb3⟩
      have H3 := Lib.hid (And.intro (HX.out.1.step hb3) (HX.out.2.1.below hb3 HX.out.2.1.lt))
      clear hb3 q0 z0 z1 z2 z5
      go_wp2_with fail
      go_ret
      exact ⟨ret_bool HN.out.symm, H3.out.1.r.b⟩
    have HCL2 : Hid (clB r x n = true) := Lib.hid (by rw [HCL.out]; rfl)
    clear HCL
    go_wp2_with fail
    refine (T0.out _).mono ?_
    rintro e u0 ⟨rfl, rfl⟩
    go_wp2_with fail
    refine (T1.out _).mono ?_
    rintro e u1 ⟨rfl, rfl⟩
    go_wp2_with fail
    refine (T2.out _).mono ?_
    rintro e u2 ⟨rfl, rfl⟩
    go_wp2_with fail
    refine T3.out.mono ?_
    rintro e w3 ⟨rfl, hb3⟩
    have H3 := Lib.hid (And.intro (HX.out.1.step hb3) (HX.out.2.1.below hb3 HX.out.2.1.lt))
    clear hb3 q0 z0 z1 z2 z5
    go_wp2_with fail
    obtain ⟨w4, rfl⟩ : ∃ w4, w4 = w3 := ⟨_, rfl⟩
    go_loopg [9] k (fun gk2 i wx => ∃ q : Nat, q ≤ k ∧ k - q ≤ gk2 ∧ i = .int .i64 q ∧ Hid (Below w4.heap.size w4 wx ∧ ∀ j (hj : j < s.calls.length), j < q → s.calls[j].place ≠ x.place))
    case atStart => exact ⟨0, Nat.zero_le _, Nat.le_refl _, rfl, Lib.hid ⟨Below.refl _ _, fun j _ h => absurd h (by omega)⟩⟩
    case round =>
      obtain ⟨q, hq, hgq, rfl, HQ⟩ := hrel
      by_cases hqt : q < k
      rotate_left
      · have hqe : ¬ (q : Int) < k := by omega
        have HN : Hid (callsB r n [] s.calls = callsB r n (s.calls.take (k + 1)).reverse (s.calls.drop (k + 1))) := Lib.hid (by rw [HCB.out, HCL2.out, HSE.out.2 (fun j hj hjk => HQ.out.2 j hj (by omega))]; rfl)
        clear HCB HCL2 HSE
        have H5 := Lib.hid (H3.out.1.step HQ.out.1)
        go_wp2_with fail
        go_roundg (s.calls.length - (k + 1))
        case measure => omega
        case rel => exact ⟨k + 1, by omega, Nat.le_refl _, by go_num, Lib.hid ⟨H5.out, HN.out⟩⟩
      have hqt2 : (q : Int) < k := by omega
      have hql : q < s.calls.length := by omega
      have hql2 : (q : Int) < s.calls.length := by omega
      have H5 := Lib.hid (And.intro (H3.out.1.step HQ.out.1) (H3.out.2.below HQ.out.1 H3.out.2.lt))
      obtain ⟨g', o', M', m', hg', hgs', hc', -, -⟩ := H5.out.1.rs.c q hql
      cases hg'
      have HNX : Hid (s.calls[q].place ≠ x.place → ∀ j (hj : j < s.calls.length), j < q + 1 → s.calls[j].place ≠ x.place) := Lib.hid fun h j hj hjk => by
        rcases Nat.lt_or_ge j q with h' | h'
        · exact HQ.out.2 j hj h'
        · have : j = q := by omega
          subst this
          exact h
      have HNO : Hid (s.calls[q].place = x.place → skB r s n = false) := Lib.hid fun h => by
        rw [HS.out, HCB.out, HCL2.out]
        cases hsa : (s.calls.take k).reverse.any fun d => decide (d.place = x.place) with
        | true => simp
        | false => exact absurd h (HSE.out.1 hsa q hql hqt)
      obtain ⟨y, hy⟩ : ∃ y, y = s.calls[q].place := ⟨_, rfl⟩
      have t0 : wr.cell? ⟨g, o + q * 6, none⟩ = some (.int .i64 y) := by rw [hy]; exact hc' 0 (by omega)
      rw [← hy] at HNX HNO
      have y0 : wr.cell? ⟨W.heap.size + 1, 0, none⟩ = some (.slice (some ⟨g, o, none⟩) s.calls.length cc) := H5.out.1.fs.cell 0
      have y1 : wr.cell? ⟨E, 0, none⟩ = some (.int .i64 x.place) := H5.out.2.cell 0
      clear hy hc' hgs'
      go_upto_region 12 with fail
      refine still_tail 8 (by kernel_rfl) (by kernel_rfl) ?_
      simp only [List.take_succ_cons, List.take_zero, List.drop_succ_cons, List.drop_zero]
      repeat still_step
      refine wpStill_nil ?_
      by_cases hyx : y = x.place
      · have hyx' : (y == x.place) = true := by simpa using hyx
        have HN := Lib.hid (HNO.out hyx)
        clear hyx HNX HNO
        go_wp2_with fail
        go_ret
        exact ⟨ret_bool HN.out.symm, H5.out.1.r.b.drew⟩
      · have hyx' : (y == x.place) = false := by simpa using hyx
        have HN := Lib.hid (HNX.out hyx)
        clear hyx HNX HNO
        go_wp2_with fail
        go_roundg (k - (q + 1))
        case measure => omega
        case rel => exact ⟨q + 1, by omega, Nat.le_refl _, by go_num, Lib.hid ⟨HQ.out.1.drew, HN.out⟩⟩
theorem none_all {l : List Sk} (h : judgesP l = none) : ∀ s ∈ l, s.calls = [] ∧ s.parts = [] := by
  intro s hs
  refine ⟨?_, ?_⟩
  · refine Classical.byContradiction fun hc => ?_
    obtain ⟨n, hn⟩ := judges_some hs (.inl hc)
    rw [h] at hn; cases hn
  · refine Classical.byContradiction fun hc => ?_
    obtain ⟨n, hn⟩ := judges_some hs (.inr hc)
    rw [h] at hn; cases hn
theorem sk_none {r : Ru} {s : Sk} (h : s.calls = [] ∧ s.parts = []) (m n : Int) : skB r s m = skB r s n := by
  unfold skB
  rw [h.1, h.2]
  rfl
theorem contest_jd (r : Ru) (l : List Sk) : contestB r l = (ruB r && (!(decide (jdP l = 0)) && (!(decide (9 < jdP l)) && l.all fun s => skB r s (jdP l)))) := by
  unfold contestB panelB nP
  cases h : judgesP l with
  | none =>
    rw [jd_none h]
    have : (l.all fun s => skB r s (-1)) = l.all fun s => skB r s ((none : Option Nat).getD 0 : Nat) := by
      apply Bool.eq_iff_iff.2
      rw [List.all_eq_true, List.all_eq_true]
      constructor
      · intro h1 s hs; rw [← sk_none (none_all h s hs) (-1)]; exact h1 s hs
      · intro h1 s hs; rw [sk_none (none_all h s hs) (-1)]; exact h1 s hs
    rw [this]; rfl
  | some n =>
    rw [jd_some h]
    simp only [Option.getD_some]
    have : inB (n : Int) 1 9 = (!(decide ((n : Int) = 0)) && !(decide ((9 : Int) < n))) := by
      rw [Bool.eq_iff_iff]; simp [inB]; omega
    rw [this, Bool.and_assoc]
structure CW (W w : World) (r : Ru) (A : Option Addr) (c : Nat) (l : List Sk) (L : Option Addr) : Prop where
  b : RB W w W.heap.size r A c
  s : SRow w W.heap.size L l
theorem CW.step {W w w' : World} {r : Ru} {A : Option Addr} {c : Nat} {l : List Sk} {L : Option Addr} (h : CW W w r A c l L) (hb : Below w.heap.size w w') : CW W w' r A c l L := ⟨h.b.step hb, h.s.below (hb.mono h.b.b.size)⟩
theorem CW.drew {W w : World} {r : Ru} {A : Option Addr} {c : Nat} {l : List Sk} {L : Option Addr} (h : CW W w r A c l L) : CW W w.drew r A c l L := h.step ((Below.refl _ _).drew)
set_option maxRecDepth 100000 in
set_option maxHeartbeats 2000000 in
theorem Contest_any (r : Ru) (A : Option Addr) (c : Nat) (l : List Sk) (L : Option Addr) (k0 : Nat) (W : World) (hr : RuR W W.heap.size r A) (hs : SRow W W.heap.size L l) (hl : l.length ≤ big) :
    Calls Try.prog 29 #[ruv r A c, .slice L l.length k0] W (BoolPost (contestB r l) W) := by
  have HB : Hid (CW W (W.alloc (.cells (ruc r A c) 24)) r A c l L) := Lib.hid ⟨RB.start hr, hs.below (below_one W _)⟩
  have HJ := Lib.hid (fun w (h : CW W w r A c l L) => Judges_any l L k0 w (h.s.more h.b.b.size) hl)
  have HR := Lib.hid (fun w (h : CW W w r A c l L) => Rules_any r A c w (h.b.rr.more h.b.b.size))
  have HSK := Lib.hid (fun w (h : CW W w r A c l L) (s : Sk) AC AP cc cp (hs : SkR w w.heap.size s AC AP) => skating_any r A c s AC AP cc cp (jdP l) w (h.b.rr.more h.b.b.size) hs)
  have HV := Lib.hid (contest_jd r l)
  have hl' : l.length ≤ 9223372036854775807 := hl
  obtain ⟨ct, hct⟩ : ∃ b, b = contestB r l := ⟨_, rfl⟩
  obtain ⟨n, hn⟩ : ∃ b, b = jdP l := ⟨_, rfl⟩
  obtain ⟨rb, hrb⟩ : ∃ b, b = ruB r := ⟨_, rfl⟩
  rw [← hct] at HV ⊢
  rw [← hn] at HJ HSK HV
  rw [← hrb] at HR HV
  clear hct hn hrb hr hs hl
  unfold ruv skv at *
  unfold IntPost at HJ
  go_enter Try.func29, Try.ntmps29
  go_upto_region 1 with fail
  generalize W.alloc (.cells (ruc r A c) 24) = w0 at HB ⊢
  go_wp2_with fail
  refine (HJ.out _ HB.out).mono ?_
  rintro e w1 ⟨rfl, hb1⟩
  have H1 := Lib.hid (HB.out.step hb1)
  clear hb1 HB HJ
  have x0 : w1.cell? ⟨W.heap.size, 0, none⟩ = some (.slice A r.bases.length c) := H1.out.b.fr.cell 0
  have x1 : w1.cell? ⟨W.heap.size, 1, none⟩ = some (.int .i64 r.factor) := H1.out.b.fr.cell 1
  have x2 : w1.cell? ⟨W.heap.size, 2, none⟩ = some (.int .i64 r.most) := H1.out.b.fr.cell 2
  cases rb
  · have HN : Hid (ct = false) := Lib.hid (by rw [HV.out]; rfl)
    clear HV
    go_wp2_with fail
    refine (HR.out _ H1.out).mono ?_
    rintro e w2 ⟨rfl, hb2⟩
    have H2 := Lib.hid (H1.out.step hb2)
    clear hb2 x0 x1 x2
    go_wp2_with fail
    go_ret
    exact ⟨ret_bool HN.out.symm, H2.out.b.b⟩
  by_cases h0 : n = 0
  · have h0' : (n == 0) = true := by simpa using h0
    have HN : Hid (ct = false) := Lib.hid (by rw [HV.out]; simp [h0])
    clear HV h0
    go_wp2_with fail
    refine (HR.out _ H1.out).mono ?_
    rintro e w2 ⟨rfl, hb2⟩
    have H2 := Lib.hid (H1.out.step hb2)
    clear hb2 x0 x1 x2
    go_wp2_with fail
    go_ret
    exact ⟨ret_bool HN.out.symm, H2.out.b.b⟩
  have h0' : (n == 0) = false := by simpa using h0
  by_cases h9 : 9 < n
  · have HN : Hid (ct = false) := Lib.hid (by rw [HV.out]; simp [h9])
    clear HV h0
    go_wp2_with fail
    refine (HR.out _ H1.out).mono ?_
    rintro e w2 ⟨rfl, hb2⟩
    have H2 := Lib.hid (H1.out.step hb2)
    clear hb2 x0 x1 x2
    go_wp2_with fail
    go_ret
    exact ⟨ret_bool HN.out.symm, H2.out.b.b⟩
  have HA : Hid (ct = l.all fun s => skB r s n) := Lib.hid (by rw [HV.out]; simp [h0, h9])
  clear HV h0
  go_wp2_with fail
  refine (HR.out _ H1.out).mono ?_
  rintro e w2 ⟨rfl, hb2⟩
  have H2 := Lib.hid (H1.out.step hb2)
  clear hb2 x0 x1 x2 H1 HR
  go_wp2_with fail
  go_loopg [6] l.length (fun gk i wr => ∃ k : Nat, k ≤ l.length ∧ l.length - k ≤ gk ∧ i = .int .i64 k ∧ Hid (CW W wr r A c l L ∧ ∀ j (hj : j < l.length), j < k → skB r l[j] n = true))
  case atStart => exact ⟨0, Nat.zero_le _, Nat.le_refl _, rfl, Lib.hid ⟨H2.out, fun j _ h => absurd h (by omega)⟩⟩
  case round =>
    clear H2
    obtain ⟨k, hk, hgk, rfl, HW⟩ := hrel
    by_cases hlt : k < l.length
    rotate_left
    · have hge : ¬ (k : Int) < l.length := by omega
      have HE : Hid (ct = true) := Lib.hid (by
        rw [HA.out, List.all_eq_true]
        intro g hg
        obtain ⟨j, hj, rfl⟩ := List.getElem_of_mem hg
        exact HW.out.2 j hj (by omega))
      go_wp2_with fail
      go_ret
      exact ⟨ret_bool HE.out.symm, HW.out.1.b.b⟩
    have hlt2 : (k : Int) < l.length := by omega
    have HNX : Hid (skB r l[k] n = true → ∀ j (hj : j < l.length), j < k + 1 → skB r l[j] n = true) := Lib.hid fun h j hj hjk => by
      rcases Nat.lt_or_ge j k with h' | h'
      · exact HW.out.2 j hj h'
      · have : j = k := by omega
        subst this
        exact h
    have HNO : Hid (skB r l[k] n = false → ct = false) := Lib.hid fun h => by
      rw [HA.out]
      exact List.all_eq_false.2 ⟨l[k], List.getElem_mem hlt, by rw [h]; decide⟩
    obtain ⟨g, o, AC, AP, cc, cp, hg, hgs, hc, hsk⟩ := HW.out.1.s k hlt
    have HW1 := Lib.hid HW.out.1
    obtain ⟨s, hb⟩ : ∃ s, s = l[k] := ⟨_, rfl⟩
    rw [← hb] at hc hsk HNX HNO
    obtain ⟨wk, rfl⟩ : ∃ wk, wk = wr := ⟨_, rfl⟩
    have HCL : Hid (∀ w, Below W.heap.size wk w → (w.cell? ⟨g, o + k * 3, none⟩ = some (.slice AC s.calls.length cc) ∧ w.cell? ⟨g, o + k * 3 + 1, none⟩ = some (.slice AP s.parts.length cp) ∧ w.cell? ⟨g, o + k * 3 + 2, none⟩ = some (.int .i64 s.over)) ∧ SkR w W.heap.size s AC AP) := Lib.hid fun w h =>
      ⟨⟨(h.cell (p := ⟨g, _, none⟩) hgs).trans (hc 0 (by omega)), (h.cell (p := ⟨g, _, none⟩) hgs).trans (hc 1 (by omega)), (h.cell (p := ⟨g, _, none⟩) hgs).trans (hc 2 (by omega))⟩, hsk.below h⟩
    subst hg
    clear hb hc hsk hgs HW
    have HFR := Lib.hid (fun (w : World) (v : CW W w r A c l (some ⟨g, o, none⟩) ∧ Below W.heap.size wk w) => (HSK.out w v.1 s AC AP cc cp ((HCL.out w v.2).2.more v.1.b.b.size)).mono (fun e w' (h' : BoolPost (skB r s n) w e w') => (show e = .returned (.bool (skB r s n)) ∧ CW W w' r A c l (some ⟨g, o, none⟩) ∧ Below W.heap.size wk w' from ⟨h'.1, v.1.step h'.2, v.2.trans (h'.2.mono v.1.b.b.size)⟩)))
    go_upto_region 7 with fail
    haveI hne : Nonempty (Cls (fun w' => CW W w' r A c l (some ⟨g, o, none⟩) ∧ Below W.heap.size wk w')) := ⟨⟨_, HW1.out.drew, (Below.refl _ _).drew⟩⟩
    have HD := Lib.hid (show CW W wk.drew r A c l (some ⟨g, o, none⟩) ∧ Below W.heap.size wk wk.drew from ⟨HW1.out.drew, (Below.refl _ _).drew⟩)
    have hmix : Try.prog.follows .mixedOrders = true := by kernel_rfl
    have hx0 : ∀ pc : Cls (fun w' => CW W w' r A c l (some ⟨g, o, none⟩) ∧ Below W.heap.size wk w'), pc.w.cell? ⟨W.heap.size, 0, none⟩ = some (.slice A r.bases.length c) := fun pc => pc.h.1.b.fr.cell 0
    have hx1 : ∀ pc : Cls (fun w' => CW W w' r A c l (some ⟨g, o, none⟩) ∧ Below W.heap.size wk w'), pc.w.cell? ⟨W.heap.size, 1, none⟩ = some (.int .i64 r.factor) := fun pc => pc.h.1.b.fr.cell 1
    have hx2 : ∀ pc : Cls (fun w' => CW W w' r A c l (some ⟨g, o, none⟩) ∧ Below W.heap.size wk w'), pc.w.cell? ⟨W.heap.size, 2, none⟩ = some (.int .i64 r.most) := fun pc => pc.h.1.b.fr.cell 2
    have hy0 : ∀ pc : Cls (fun w' => CW W w' r A c l (some ⟨g, o, none⟩) ∧ Below W.heap.size wk w'), pc.w.cell? ⟨g, o + k * 3, none⟩ = some (.slice AC s.calls.length cc) := fun pc => (HCL.out _ pc.h.2).1.1
    have hy1 : ∀ pc : Cls (fun w' => CW W w' r A c l (some ⟨g, o, none⟩) ∧ Below W.heap.size wk w'), pc.w.cell? ⟨g, o + k * 3 + 1, none⟩ = some (.slice AP s.parts.length cp) := fun pc => (HCL.out _ pc.h.2).1.2.1
    have hy2 : ∀ pc : Cls (fun w' => CW W w' r A c l (some ⟨g, o, none⟩) ∧ Below W.heap.size wk w'), pc.w.cell? ⟨g, o + k * 3 + 2, none⟩ = some (.int .i64 s.over) := fun pc => (HCL.out _ pc.h.2).1.2.2
    obtain ⟨bb, hbb⟩ : ∃ b, b = skB r s n := ⟨_, rfl⟩
    rw [← hbb] at HFR HNX HNO
    clear hbb
    have hcl := HFR.out
    cases bb
    all_goals
      refine wp_region_cls (fun w' => CW W w' r A c l (some ⟨g, o, none⟩) ∧ Below W.heap.size wk w') hmix (by kernel_rfl) HD.out ?_
      repeat (quiet_step (with_reducible exact cls_call hcl _))
      refine wpQuiet_nil ?_
      rintro w7 ⟨⟨_, hw7⟩, rfl⟩
      have H7 := Lib.hid hw7
      clear hx0 hx1 hx2 hy0 hy1 hy2 hne hw7 HD hcl
      try simp only []
    · have HN := Lib.hid (HNO.out rfl)
      clear HNX HNO
      go_wp2_with fail
      go_ret
      exact ⟨ret_bool HN.out.symm, H7.out.1.b.b⟩
    · have HN := Lib.hid (HNX.out rfl)
      clear HNX HNO
      go_wp2_with fail
      go_roundg (l.length - (k + 1))
      case measure => omega
      case rel => exact ⟨k + 1, by omega, Nat.le_refl _, by go_num, Lib.hid ⟨H7.out.1, HN.out⟩⟩
end Go.Proofs.Ytmclchaalmonnaa

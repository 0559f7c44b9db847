/- The document's functions: in, Rules, marks, Judges. -/
import Derived.Test.YtmclchaalmonnaaGrA
namespace Go.Proofs.Ytmclchaalmonnaa
open Go.RowKit Go.Lib
attribute [local irreducible] wpQuiet
set_option maxRecDepth 100000 in
theorem in_any (n lo hi : Int) (w : World) : Calls Try.prog 48 #[.int .i64 n, .int .i64 lo, .int .i64 hi] w fun e w' => e = .returned (.bool (inB n lo hi)) ∧ w' = w := by
  have hn : ∀ c, (decide (lo ≤ n ∧ n ≤ hi) = c) → inB n lo hi = c := fun b h => h
  have h3 : ¬ lo ≤ n ∨ (lo ≤ n ∧ ¬ n ≤ hi) ∨ (lo ≤ n ∧ n ≤ hi) := by omega
  rcases h3 with h0 | ⟨h0, h1⟩ | ⟨h0, h1⟩
  rotate_right
  · have HN := Lib.hid (hn true (by simp; omega))
    clear hn
    go_enter Try.func48, Try.ntmps48
    go_wp2
    go_ret
    exact ⟨by rw [HN.out]; rfl, rfl⟩
  all_goals
    have HN := Lib.hid (hn false (by simp; omega))
    clear hn
    go_enter Try.func48, Try.ntmps48
    go_wp2
    go_ret
    exact ⟨by rw [HN.out]; rfl, rfl⟩
set_option maxRecDepth 100000 in
set_option maxHeartbeats 1000000 in
theorem marks_any (l : List Int) (A : Option Addr) (c : Nat) (n lo hi : Int) (W : World) (ha : IRow W W.heap.size A l) (hl : l.length ≤ big) : Calls Try.prog 75 #[.slice A l.length c, .int .i64 n, .int .i64 lo, .int .i64 hi] W (BoolPost (decide ((l.length : Int) = n) && allB l lo hi) W) := by
  have HA := Lib.hid ha
  have HT : Hid (allB l lo hi = l.all (fun g => inB g lo hi)) := Lib.hid rfl
  have hl' : l.length ≤ 9223372036854775807 := hl
  clear ha hl
  by_cases hx : (l.length : Int) = n
  rotate_left
  · have hx' : ((l.length : Int) == n) = false := by simpa using hx
    have hx2 : ((l.length : Int) != n) = true := by simpa using hx
    have HN := Lib.hid hx
    clear hx HT
    go_enter Try.func75, Try.ntmps75
    go_wp2_with fail
    go_ret
    exact ⟨ret_bool (by simp [HN.out]), Below.refl _ _⟩
  have hx' : ((l.length : Int) == n) = true := by simpa using hx
  have hx2 : ((l.length : Int) != n) = false := by simpa using hx
  have HDL : Hid (decide ((l.length : Int) = n) = true) := Lib.hid (by simpa using hx)
  rw [HDL.out, Bool.true_and]
  clear hx
  go_enter Try.func75, Try.ntmps75
  go_wp2_with fail
  go_loopg [9] l.length (fun gk i wr => ∃ k : Nat, k ≤ l.length ∧ l.length - k ≤ gk ∧ i = .int .i64 k ∧ Hid (Below W.heap.size W wr ∧ ∀ j (hj : j < l.length), j < k → inB l[j] lo hi = true))
  case atStart => exact ⟨0, Nat.zero_le _, Nat.le_refl _, rfl, Lib.hid ⟨Below.refl _ _, fun j _ h => absurd h (by omega)⟩⟩
  case round =>
    obtain ⟨k, hk, hgk, rfl, HW⟩ := hrel
    by_cases hlt : k < l.length
    rotate_left
    · have hge : ¬ (k : Int) < l.length := by omega
      have HE : Hid (allB l lo hi = true) := Lib.hid (by
        rw [HT.out, List.all_eq_true]
        intro g hg
        obtain ⟨j, hj, rfl⟩ := List.getElem_of_mem hg
        exact HW.out.2 j hj (by omega))
      go_wp2_with fail
      go_ret
      exact ⟨ret_bool HE.out.symm, HW.out.1⟩
    have hlt2 : (k : Int) < l.length := by omega
    obtain ⟨g, o, hg, hgs, hc⟩ := (HA.out.below HW.out.1) k hlt
    obtain ⟨v, hb⟩ : ∃ v, v = l[k] := ⟨_, rfl⟩
    rw [← hb] at hc
    have HBE := Lib.hid hb
    have HWI := Lib.hid (fun w => in_any v lo hi w)
    subst hg
    clear hb hgs
    cases hin : inB v lo hi <;> rw [hin] at HWI
    · have HN : Hid (allB l lo hi = false) := Lib.hid (by
        rw [HT.out]
        exact List.all_eq_false.2 ⟨l[k], List.getElem_mem hlt, by rw [← HBE.out, hin]; decide⟩)
      clear HBE hin
      go_wp2_with fail
      refine (HWI.out _).mono ?_
      rintro e w2 ⟨rfl, rfl⟩
      go_wp2_with fail
      go_ret
      exact ⟨ret_bool HN.out.symm, HW.out.1⟩
    · have HN : Hid (∀ j (hj : j < l.length), j < k + 1 → inB l[j] lo hi = true) := Lib.hid fun j hj hjk => by
        rcases Nat.lt_or_ge j k with h' | h'
        · exact HW.out.2 j hj h'
        · have : j = k := by omega
          subst this
          rw [← HBE.out]; exact hin
      clear HBE hin
      go_wp2_with fail
      refine (HWI.out _).mono ?_
      rintro e w2 ⟨rfl, rfl⟩
      go_wp2_with fail
      go_roundg (l.length - (k + 1))
      case measure => omega
      case rel => exact ⟨k + 1, by omega, Nat.le_refl _, by go_num, Lib.hid ⟨HW.out.1, HN.out⟩⟩
set_option maxRecDepth 100000 in
set_option maxHeartbeats 1000000 in
theorem Rules_any (r : Ru) (A : Option Addr) (c : Nat) (W : World) (hr : RuR W W.heap.size r A) : Calls Try.prog 51 #[ruv r A c] W (BoolPost (ruB r) W) := by
  have HB : Hid (RB W (W.alloc (.cells (ruc r A c) 24)) W.heap.size r A c) := Lib.hid (RB.start hr)
  have H0 := Lib.hid (fun w => in_any (r.bases.length : Int) 1 64 w)
  have H2 := Lib.hid (fun w => in_any r.factor 0 1000 w)
  have H3 := Lib.hid (fun w => in_any r.most 1 16 w)
  have HI := Lib.hid (fun v w => in_any v 0 2000 w)
  have HV : Hid (ruB r = (inB r.bases.length 1 64 && (allB r.bases 0 2000 && (inB r.factor 0 1000 && inB r.most 1 16)))) := Lib.hid rfl
  have hl := hr.l
  unfold big at hl
  generalize hrb : ruB r = R at *
  clear hr hrb
  unfold ruv
  go_enter Try.func51, Try.ntmps51
  go_upto_region 1 with fail
  generalize W.alloc (.cells (ruc r A c) 24) = w9 at HB ⊢
  go_wp2_with fail
  go_loopg [3] 65 (fun gk i wr => ∃ k : Nat, k ≤ 65 ∧ 65 - k ≤ gk ∧ i = .int .i64 k ∧ Hid (RB W wr W.heap.size r A c ∧ ∀ j (hj : j < r.bases.length), j < k → inB r.bases[j] 0 2000 = true))
  case atStart => exact ⟨0, Nat.zero_le _, Nat.le_refl _, rfl, Lib.hid ⟨HB.out, fun j _ h => absurd h (by omega)⟩⟩
  case round =>
    clear HB
    obtain ⟨k, hk, hgk, rfl, HW⟩ := hrel
    have x0 : wr.cell? ⟨W.heap.size, 0, none⟩ = some (.slice A r.bases.length c) := HW.out.1.fr.cell 0
    have HEND : Hid ((r.bases.length ≤ k ∨ 64 < k) → R = (inB r.bases.length 1 64 && (inB r.factor 0 1000 && inB r.most 1 16))) := Lib.hid fun h => by
      rw [HV.out]
      rcases Nat.lt_or_ge 64 r.bases.length with h1 | h1
      · have : inB (r.bases.length : Int) 1 64 = false := by simp [inB]; omega
        rw [this]; rfl
      · have : allB r.bases 0 2000 = true := List.all_eq_true.2 fun x hx => by
          obtain ⟨j, hj, rfl⟩ := List.getElem_of_mem hx
          exact HW.out.2 j hj (by omega)
        rw [this]; rfl
    by_cases hin : k < r.bases.length ∧ k ≤ 64
    rotate_left
    · have HE := Lib.hid (HEND.out (by omega))
      clear HEND
      have hor : ¬ (k : Int) < r.bases.length ∨ ((k : Int) < r.bases.length ∧ ¬ (k : Int) ≤ 64) := by omega
      have x1 : wr.cell? ⟨W.heap.size, 1, none⟩ = some (.int .i64 r.factor) := HW.out.1.fr.cell 1
      have x2 : wr.cell? ⟨W.heap.size, 2, none⟩ = some (.int .i64 r.most) := HW.out.1.fr.cell 2
      have HW1 := Lib.hid HW.out.1
      clear hin HW
      obtain ⟨b0, hb0⟩ : ∃ b, b = inB r.bases.length 1 64 := ⟨_, rfl⟩
      obtain ⟨b1, hb1⟩ : ∃ b, b = inB r.factor 0 1000 := ⟨_, rfl⟩
      obtain ⟨b2, hb2⟩ : ∃ b, b = inB r.most 1 16 := ⟨_, rfl⟩
      rw [← hb0] at H0 HE
      rw [← hb1] at H2 HE
      rw [← hb2] at H3 HE
      clear hb0 hb1 hb2
      rcases hor with hq | ⟨hq, hq'⟩
      all_goals
        cases b0
        · go_wp2_with fail
          refine (H0.out _).mono ?_
          rintro e u0 ⟨rfl, rfl⟩
          go_wp2_with fail
          go_ret
          exact ⟨ret_bool (by rw [HE.out]; rfl), HW1.out.b⟩
        cases b1
        · go_wp2_with fail
          refine (H0.out _).mono ?_
          rintro e u0 ⟨rfl, rfl⟩
          go_wp2_with fail
          refine (H2.out _).mono ?_
          rintro e u0 ⟨rfl, rfl⟩
          go_wp2_with fail
          go_ret
          exact ⟨ret_bool (by rw [HE.out]; rfl), HW1.out.b⟩
        cases b2
        all_goals
          go_wp2_with fail
          refine (H0.out _).mono ?_
          rintro e u0 ⟨rfl, rfl⟩
          go_wp2_with fail
          refine (H2.out _).mono ?_
          rintro e u0 ⟨rfl, rfl⟩
          go_wp2_with fail
          refine (H3.out _).mono ?_
          rintro e u0 ⟨rfl, rfl⟩
          go_wp2_with fail
          go_ret
          exact ⟨ret_bool (by rw [HE.out]; rfl), HW1.out.b⟩
    obtain ⟨hk1, hk2⟩ := hin
    have hk1' : (k : Int) < r.bases.length := by omega
    have hk2' : (k : Int) ≤ 64 := by omega
    clear HEND
    obtain ⟨g, o, hg, hgs, hc⟩ := (HW.out.1.rr.more HW.out.1.b.size).b k hk1
    have HNX : Hid (inB r.bases[k] 0 2000 = true → ∀ j (hj : j < r.bases.length), j < k + 1 → inB r.bases[j] 0 2000 = true) := Lib.hid fun h j hj hjk => by
      rcases Nat.lt_or_ge j k with h' | h'
      · exact HW.out.2 j hj h'
      · have : j = k := by omega
        subst this
        exact h
    have HNO : Hid (inB r.bases[k] 0 2000 = false → R = false) := Lib.hid fun h => by
      rw [HV.out]
      have : allB r.bases 0 2000 = false := List.all_eq_false.2 ⟨r.bases[k], List.getElem_mem hk1, by rw [h]; decide⟩
      rw [this]; simp
    obtain ⟨v, hb⟩ : ∃ v, v = r.bases[k] := ⟨_, rfl⟩
    rw [← hb] at hc HNX HNO
    subst hg
    have HI2 := Lib.hid (fun w => HI.out v w)
    clear hb hgs
    cases hin : inB v 0 2000 <;> rw [hin] at HI2
    · have HN := Lib.hid (HNO.out hin)
      clear hin HNX HNO
      go_wp2_with fail
      refine (HI2.out _).mono ?_
      rintro e w2 ⟨rfl, rfl⟩
      go_wp2_with fail
      go_ret
      exact ⟨ret_bool HN.out.symm, HW.out.1.b⟩
    · have HN := Lib.hid (HNX.out hin)
      clear hin HNX HNO
      go_wp2_with fail
      refine (HI2.out _).mono ?_
      rintro e w2 ⟨rfl, rfl⟩
      go_wp2_with fail
      go_roundg (65 - (k + 1))
      case measure => omega
      case rel => exact ⟨k + 1, by omega, Nat.le_refl _, by go_num, Lib.hid ⟨HW.out.1, HN.out⟩⟩
def jdP (l : List Sk) : Int := match judgesP l with | none => -1 | some n => n
theorem jd_some {l : List Sk} {n : Nat} (h : judgesP l = some n) : jdP l = n := by unfold jdP; rw [h]
theorem jd_none {l : List Sk} (h : judgesP l = none) : jdP l = -1 := by unfold jdP; rw [h]
set_option maxRecDepth 100000 in
set_option maxHeartbeats 1000000 in
theorem Judges_any (l : List Sk) (A : Option Addr) (c : Nat) (W : World) (ha : SRow W W.heap.size A l) (hl : l.length ≤ big) : Calls Try.prog 30 #[.slice A l.length c] W (IntPost (jdP l) W) := by
  have HA := Lib.hid ha
  have hl' : l.length ≤ 9223372036854775807 := hl
  have HJ : Hid (∀ n, judgesP l = some n → jdP l = n) := Lib.hid fun n h => jd_some h
  have HJ0 : Hid (judgesP l = none → jdP l = -1) := Lib.hid jd_none
  generalize hjj : jdP l = J at *
  clear ha hl hjj
  go_enter Try.func30, Try.ntmps30
  go_wp2_with fail
  go_loopg [3] l.length (fun gk i wr => ∃ k : Nat, k ≤ l.length ∧ l.length - k ≤ gk ∧ i = .int .i64 k ∧ wr = W ∧ Hid (judgesP l = judgesP (l.drop k)))
  case atStart => exact ⟨0, Nat.zero_le _, Nat.le_refl _, rfl, rfl, Lib.hid (by simp)⟩
  case round =>
    obtain ⟨k, hk, hgk, rfl, rfl, HW⟩ := hrel
    by_cases hlt : k < l.length
    rotate_left
    · have hge : ¬ (k : Int) < l.length := by omega
      have HE : Hid (J = -1) := Lib.hid (HJ0.out (by rw [HW.out, List.drop_eq_nil_of_le (by omega)]; rfl))
      go_wp2_with fail
      go_ret
      exact ⟨ret_int HE.out.symm, Below.refl _ _⟩
    have hlt2 : (k : Int) < l.length := by omega
    obtain ⟨g, o, AC, AP, cc, cp, hg, hgs, hc, hs⟩ := HA.out k hlt
    have J1 := Lib.hid (And.intro (judges_skip hlt) (And.intro (fun {c} => judges_call hlt (c := c)) (fun {m} => judges_part hlt (m := m))))
    obtain ⟨s, hb⟩ : ∃ s, s = l[k] := ⟨_, rfl⟩
    rw [← hb] at hc hs J1
    have z0 : wr.cell? ⟨g, o + k * 3, none⟩ = some (.slice AC s.calls.length cc) := hc 0 (by omega)
    have z1 : wr.cell? ⟨g, o + k * 3 + 1, none⟩ = some (.slice AP s.parts.length cp) := hc 1 (by omega)
    have hlc := hs.lc
    have hlp := hs.lp
    unfold big at hlc hlp
    subst hg
    clear hb hc hgs
    cases hcs : s.calls with
    | cons x xs =>
      obtain ⟨g', o', M, m, e', hg', hc', hm', hml'⟩ := hs.c 0 (by rw [hcs]; simp)
      have HV : Hid (J = x.marks.length) := Lib.hid (HJ.out _ (by rw [HW.out]; exact J1.out.2.1 (by rw [hcs]; rfl)))
      simp only [hcs, List.getElem_cons_zero] at hc' hml'
      have v5 : wr.cell? ⟨g', o' + 5, none⟩ = some (.slice M x.marks.length m) := by have := hc' 5 (by omega); simpa using this
      have hp0 : (0 : Int) < s.calls.length := by rw [hcs]; simp
      have hp1 : 0 < s.calls.length := by rw [hcs]; simp
      unfold big at hml'
      clear hm' hs
      generalize s.calls.length = q at *
      subst e'
      clear J1 hc' hg' hcs HJ HJ0
      go_wp2_with fail
      go_ret
      exact ⟨ret_int HV.out.symm, Below.refl _ _⟩
    | nil =>
      rw [hcs] at z0
      cases hps : s.parts with
      | cons x xs =>
        obtain ⟨g', o', M, m, e', hg', hc', hm', hml'⟩ := hs.p 0 (by rw [hps]; simp)
        have HV : Hid (J = x.length) := Lib.hid (HJ.out _ (by rw [HW.out]; exact J1.out.2.2 hcs (by rw [hps]; rfl)))
        simp only [hps, List.getElem_cons_zero] at hc' hml'
        have v5 : wr.cell? ⟨g', o', none⟩ = some (.slice M x.length m) := by simpa using hc'
        have hp0 : (0 : Int) < s.parts.length := by rw [hps]; simp
        have hp1 : 0 < s.parts.length := by rw [hps]; simp
        unfold big at hml'
        clear hm' hs
        generalize s.parts.length = q at *
        subst e'
        clear J1 hc' hg' hps hcs HJ HJ0
        go_wp2_with fail
        go_ret
        exact ⟨ret_int HV.out.symm, Below.refl _ _⟩
      | nil =>
        rw [hps] at z1
        have HN : Hid (judgesP l = judgesP (l.drop (k + 1))) := Lib.hid (by rw [HW.out]; exact J1.out.1 hcs hps)
        clear J1 hcs hps hs
        go_wp2_with fail
        go_roundg (l.length - (k + 1))
        case measure => omega
        case rel => exact ⟨k + 1, by omega, Nat.le_refl _, by go_num, rfl, HN⟩
end Go.Proofs.Ytmclchaalmonnaa

/- The document's functions: in, span, Air, Temp. -/
import Derived.Test.YtdmpkeaanaoeaaaLiC
namespace Go.Proofs.Ytdmpkeaanaoeaaa
open Go.RowKit
set_option maxRecDepth 100000 in
theorem rin_any (n lo hi : Int) (w : World) : Calls Try.prog 46 #[.int .i64 n, .int .i64 lo, .int .i64 hi] w fun e w' => e = .returned (.bool (inB n lo hi)) ∧ w' = w := by
  have hn : ∀ c, (decide (lo ≤ n ∧ n ≤ hi) = c) → inB n lo hi = c := fun b h => h
  have h3 : ¬ lo ≤ n ∨ (lo ≤ n ∧ ¬ n ≤ hi) ∨ (lo ≤ n ∧ n ≤ hi) := by omega
  rcases h3 with h0 | ⟨h0, h1⟩ | ⟨h0, h1⟩
  rotate_right
  · have HN := Lib.hid (hn true (by simp; omega))
    clear hn
    go_enter Try.func46, Try.ntmps46
    go_wp2
    go_ret
    exact ⟨by rw [HN.out]; rfl, rfl⟩
  all_goals
    have HN := Lib.hid (hn false (by simp; omega))
    clear hn
    go_enter Try.func46, Try.ntmps46
    go_wp2
    go_ret
    exact ⟨by rw [HN.out]; rfl, rfl⟩
set_option maxRecDepth 100000 in
theorem rspan_any (lo hi most : Int) (w : World) : Calls Try.prog 51 #[.agg #[.int .i64 lo, .int .i64 hi], .int .i64 most] w (BoolPost (spB lo hi most) w) := by
  have hn : ∀ c, (decide (0 ≤ lo ∧ lo ≤ hi ∧ hi ≤ most) = c) → spB lo hi most = c := fun b h => h
  have HB := Lib.hid (below_one w)
  have h3 : ¬ 0 ≤ lo ∨ (0 ≤ lo ∧ ¬ lo ≤ hi) ∨ (0 ≤ lo ∧ lo ≤ hi ∧ ¬ hi ≤ most) ∨ (0 ≤ lo ∧ lo ≤ hi ∧ hi ≤ most) := by omega
  rcases h3 with h0 | ⟨h0, h1⟩ | ⟨h0, h1, h2⟩ | ⟨h0, h1, h2⟩
  rotate_right
  · have HN := Lib.hid (hn true (by simp; omega))
    clear hn
    go_enter Try.func51, Try.ntmps51
    go_wp2
    go_ret
    exact ⟨by rw [HN.out]; rfl, HB.out _⟩
  all_goals
    have HN := Lib.hid (hn false (by simp; omega))
    clear hn
    go_enter Try.func51, Try.ntmps51
    go_wp2
    go_ret
    exact ⟨by rw [HN.out]; rfl, HB.out _⟩
set_option maxRecDepth 100000 in
set_option maxHeartbeats 2000000 in
theorem rTemp_any (a : Air) (A B : Option Addr) (ca cb : Nat) (t : Int) (W : World) (h : AR W W.heap.size a A B) (hn : 1 ≤ a.T.length) : Calls Try.prog 29 #[airv a A B ca cb, .int .i64 t] W (BoolPost (onB a t) W) := by
  have HB := Lib.hid (And.intro (below_one W (.cells (airc a A B ca cb) 26)) (box_air W a A B ca cb))
  obtain ⟨g, o, hA, hg, c0⟩ := (h.t.step HB.out.1) 0 (by omega)
  obtain ⟨g', o', hA', hg', c1⟩ := (h.t.step HB.out.1) (a.T.length - 1) (by omega)
  subst hA
  simp only [Option.some.injEq, Addr.mk.injEq, and_true] at hA'
  obtain ⟨rfl, rfl⟩ := hA'
  have HE := Lib.hid (show onB a t = inB t (a.T[0]'(by omega)) (a.T[a.T.length - 1]'(by omega)) by
    unfold onB inB; rw [getD_lt (show 0 < a.T.length by omega), getD_lt (show a.T.length - 1 < a.T.length by omega)])
  obtain ⟨x, hx⟩ : ∃ x, x = a.T[0]'(by omega) := ⟨_, rfl⟩
  obtain ⟨y, hy⟩ : ∃ y, y = a.T[a.T.length - 1]'(by omega) := ⟨_, rfl⟩
  rw [← hx] at c0 HE
  rw [← hy] at c1 HE
  have HW := Lib.hid (fun w => rin_any t x y w)
  have hl := h.lt
  have e0 : 0 < a.T.length := by omega
  have e3 : (0 : Int) < a.T.length := by omega
  have e4 : 0 ≤ (a.T.length : Int) - 1 := by omega
  have e5 : (1 : Int) ≤ a.T.length := by omega
  have e1 : ((a.T.length : Int) - 1).toNat = a.T.length - 1 := by omega
  have e2 : IntKind.i64.wrap ((a.T.length : Int) - 1) = (a.T.length : Int) - 1 := IntWalk.i64_in _ (by omega)
  rw [Nat.add_zero] at c0
  unfold airv
  clear h hx hy hn
  obtain ⟨b0, hb0⟩ : ∃ b, b = inB t x y := ⟨_, rfl⟩
  rw [← hb0] at HW HE
  clear hb0
  go_enter Try.func29, Try.ntmps29
  go_wp2_with fail
  go_quiet (exact Calls.quiet_of_same (HW.out _))
  go_wp2_with fail
  go_ret
  exact ⟨ret_bool HE.out.symm, below_drN HB.out.1 _⟩
set_option maxRecDepth 100000 in
set_option maxHeartbeats 4000000 in
theorem rAir_any (a : Air) (A B : Option Addr) (ca cb : Nat) (W : World) (h : AR W W.heap.size a A B) : Calls Try.prog 28 #[airv a A B ca cb] W (BoolPost (airB a) W) := by
  have HA := Lib.hid h
  have HB := Lib.hid (And.intro (below_one W (.cells (airc a A B ca cb) 26)) (box_air W a A B ca cb))
  have hn : ∀ c, airB a = c → Hid (airB a = c) := fun b h => h
  have H1 := Lib.hid (fun w => rin_any a.R 1 1048576 w)
  have H3 := Lib.hid (fun w => rin_any a.T.length 1 32 w)
  have H4 := Lib.hid (fun w => rspan_any a.b0 a.b1 1048576 w)
  unfold airv
  have hlt := h.lt
  clear h
  cases h1 : inB a.R 1 1048576 <;> rw [h1] at H1
  · have HE := hn false (by unfold airB; rw [h1]; rfl)
    clear hn h1
    go_enter Try.func28, Try.ntmps28
    go_wp2_with fail
    refine (H1.out _).mono ?_
    rintro e w1 ⟨rfl, rfl⟩
    go_wp2_with fail
    go_ret
    exact ⟨ret_bool HE.out.symm, HB.out.1⟩
  by_cases h2 : a.T.length = a.H.length
  rotate_left
  · have HE := hn false (by unfold airB; rw [decide_eq_false h2]; simp)
    have hq : ((a.H.length : Int) != (a.T.length : Int)) = true := by simp; omega
    clear hn h1 h2
    go_enter Try.func28, Try.ntmps28
    go_wp2_with fail
    refine (H1.out _).mono ?_
    rintro e w1 ⟨rfl, rfl⟩
    go_wp2_with fail
    go_ret
    exact ⟨ret_bool HE.out.symm, HB.out.1⟩
  have hq : ((a.H.length : Int) != (a.T.length : Int)) = false := by simp; omega
  cases h3 : inB a.T.length 1 32 <;> rw [h3] at H3
  · have HE := hn false (by unfold airB; rw [h3]; simp)
    clear hn h1 h2 h3
    go_enter Try.func28, Try.ntmps28
    go_wp2_with fail
    refine (H1.out _).mono ?_
    rintro e w1 ⟨rfl, rfl⟩
    go_wp2_with fail
    refine (H3.out _).mono ?_
    rintro e w1 ⟨rfl, rfl⟩
    go_wp2_with fail
    go_ret
    exact ⟨ret_bool HE.out.symm, HB.out.1⟩
  cases h4 : spB a.b0 a.b1 1048576 <;> rw [h4] at H4
  · have HE := hn false (by unfold airB; rw [h4]; simp)
    clear hn h1 h2 h3 h4
    go_enter Try.func28, Try.ntmps28
    go_wp2_with fail
    refine (H1.out _).mono ?_
    rintro e w1 ⟨rfl, rfl⟩
    go_wp2_with fail
    refine (H3.out _).mono ?_
    rintro e w1 ⟨rfl, rfl⟩
    go_wp2_with fail
    refine (H4.out _).mono ?_
    rintro e w1 ⟨rfl, hb1⟩
    have HX := Lib.hid (below_seq HB.out.1 hb1)
    clear hb1
    go_wp2_with fail
    go_ret
    exact ⟨ret_bool HE.out.symm, HX.out⟩
  have HN0 := Lib.hid (show airB a = crvB a.T a.H a.T.length by unfold airB; rw [h1, h3, h4, decide_eq_true h2]; simp)
  have HL := Lib.hid h2
  have hn32 : a.T.length ≤ 32 := by unfold inB at h3; simp at h3; omega
  clear hn h1 h2 h3 h4
  go_enter Try.func28, Try.ntmps28
  go_wp2_with fail
  refine (H1.out _).mono ?_
  rintro e w1 ⟨rfl, rfl⟩
  go_wp2_with fail
  refine (H3.out _).mono ?_
  rintro e w1 ⟨rfl, rfl⟩
  go_wp2_with fail
  refine (H4.out _).mono ?_
  rintro e w1 ⟨rfl, hb1⟩
  have H5 := Lib.hid (And.intro (below_seq HB.out.1 hb1) (HB.out.2.below hb1 HB.out.2.lt))
  clear hb1 hq
  go_wp2_with fail
  go_loopg [4] a.T.length (fun gk i wr => ∃ k : Nat, k ≤ a.T.length ∧ a.T.length - k ≤ gk ∧ i = .int .i64 k ∧ Hid (Below W.heap.size W wr ∧ Has wr W.heap.size 26 (airc a A B ca cb)) ∧ Hid (crvB a.T a.H k = true))
  case atStart => exact ⟨0, Nat.zero_le _, Nat.le_refl _, rfl, H5.out, by show _ = _; rfl⟩
  case round =>
    obtain ⟨k, hk, hgk, rfl, HW, HC⟩ := hrel
    have b1 : wr.cell? ⟨W.heap.size, 1, none⟩ = some (.slice A a.T.length ca) := HW.out.2.cell 1
    have b2 : wr.cell? ⟨W.heap.size, 2, none⟩ = some (.slice B a.H.length cb) := HW.out.2.cell 2
    have bl := HW.out.2.lt
    by_cases hlt' : k < a.T.length
    · have hlt2 : (k : Int) < a.T.length := by omega
      have hltH : (k : Int) < a.H.length := by have := HL.out; omega
      have hltn : k < a.H.length := by omega
      obtain ⟨g, o, rfl, hg, c0⟩ := HA.out.t.below HW.out.1 k hlt'
      obtain ⟨g', o', rfl, hg', d0⟩ := HA.out.h.below HW.out.1 k hltn
      have hs := crvB_succ a.T a.H k
      rw [HC.out, Bool.true_and] at hs
      have HS := Lib.hid hs
      have HFalse : crvAt a.T a.H k = false → Hid (airB a = false) := fun h => by
        show _ = _
        rw [HN0.out]
        unfold crvB
        rw [List.all_eq_false]
        exact ⟨k, by simpa using hlt', by rw [h]; simp⟩
      have HD : crvAt a.T a.H k = (inB a.T[k] (-500) 500 && (inB a.H[k] 1 100000 && (decide (k = 0) || decide (a.T.getD (k - 1) 0 < a.T[k] ∧ a.H.getD (k - 1) 0 ≤ a.H[k])))) := by
        unfold crvAt inB; rw [getD_lt hlt', getD_lt hltn]
      rw [HD] at HFalse
      have HS2 := Lib.hid (HS.out.trans HD)
      have hT1 := fun w => rin_any a.T[k] (-500) 500 w
      have hH1 := fun w => rin_any a.H[k] 1 100000 w
      obtain ⟨x, hx⟩ : ∃ x, x = a.T[k] := ⟨_, rfl⟩
      obtain ⟨y, hy⟩ : ∃ y, y = a.H[k] := ⟨_, rfl⟩
      rw [← hx] at c0 hT1 HFalse HS2
      rw [← hy] at d0 hH1 HFalse HS2
      have HTP : 0 < k → ∃ z, z = a.T.getD (k - 1) 0 ∧ wr.cell? ⟨g, o + (k - 1), none⟩ = some (.int .i64 z) := fun h0 => by
        obtain ⟨g2, o2, e, -, c⟩ := HA.out.t.below HW.out.1 (k - 1) (by omega)
        simp only [Option.some.injEq, Addr.mk.injEq, and_true] at e
        obtain ⟨rfl, rfl⟩ := e
        exact ⟨_, rfl, by rw [getD_lt (show k - 1 < a.T.length by omega)]; exact c⟩
      have HHP : 0 < k → ∃ z, z = a.H.getD (k - 1) 0 ∧ wr.cell? ⟨g', o' + (k - 1), none⟩ = some (.int .i64 z) := fun h0 => by
        obtain ⟨g2, o2, e, -, c⟩ := HA.out.h.below HW.out.1 (k - 1) (by omega)
        simp only [Option.some.injEq, Addr.mk.injEq, and_true] at e
        obtain ⟨rfl, rfl⟩ := e
        exact ⟨_, rfl, by rw [getD_lt (show k - 1 < a.H.length by omega)]; exact c⟩
      have HTQ := Lib.hid HTP
      have HHQ := Lib.hid HHP
      have HF := Lib.hid HFalse
      clear hx hy hs HS HD HFalse hltn HTP HHP
      cases h1 : inB x (-500) 500 <;> rw [h1] at hT1 HF HS2
      · have HE := HF.out rfl
        clear HF HS2 h1 hH1
        have HC1 := Lib.hid hT1
        clear hT1
        go_wp2_with fail
        refine (HC1.out _).mono ?_
        rintro e w3 ⟨rfl, rfl⟩
        go_wp2_with fail
        go_ret
        exact ⟨ret_bool HE.out.symm, HW.out.1⟩
      cases h2 : inB y 1 100000 <;> rw [h2] at hH1 HF HS2
      · have HE := HF.out rfl
        clear HF HS2 h1 h2
        have HC1 := Lib.hid hT1
        have HC2 := Lib.hid hH1
        clear hT1 hH1
        go_wp2_with fail
        refine (HC1.out _).mono ?_
        rintro e w3 ⟨rfl, rfl⟩
        go_wp2_with fail
        refine (HC2.out _).mono ?_
        rintro e w3 ⟨rfl, rfl⟩
        go_wp2_with fail
        go_ret
        exact ⟨ret_bool HE.out.symm, HW.out.1⟩
      have HC1 := Lib.hid hT1
      have HC2 := Lib.hid hH1
      clear hT1 hH1 h1 h2
      rcases Nat.eq_zero_or_pos k with hk0 | hk0
      · subst hk0
        have HX := Lib.hid (HS2.out)
        rw [Nat.add_zero] at c0 d0
        clear HF HTQ HHQ hlt' HS2
        go_wp2_with fail
        refine (HC1.out _).mono ?_
        rintro e w3 ⟨rfl, rfl⟩
        go_wp2_with fail
        refine (HC2.out _).mono ?_
        rintro e w3 ⟨rfl, rfl⟩
        go_wp2_with fail
        go_quiet (fail)
        go_wp2_with fail
        go_roundg (a.T.length - 1)
        case measure => omega
        case rel => exact ⟨1, by omega, Nat.le_refl _, by go_num, ⟨below_drN HW.out.1 _, HW.out.2.drewN _⟩, by show _ = _; rw [HX.out]; rfl⟩
      · obtain ⟨z, hz, cz⟩ := HTQ.out hk0
        obtain ⟨u, hu, cu⟩ := HHQ.out hk0
        rw [← hz, ← hu, decide_eq_false (show ¬ k = 0 by omega), Bool.false_or, Bool.true_and, Bool.true_and] at HF HS2
        have hk1 : (0 : Int) < k := by omega
        have hk2 : (1 : Int) ≤ k := by omega
        have hk3 : (k : Int) - 1 < a.T.length := by omega
        have hk4 : (k : Int) - 1 < a.H.length := by omega
        have e0 : 0 ≤ (k : Int) - 1 := by omega
        have e1 : ((k : Int) - 1).toNat = k - 1 := by omega
        have e2 : IntKind.i64.wrap ((k : Int) - 1) = (k : Int) - 1 := IntWalk.i64_in _ (by omega)
        clear hz hu HTQ HHQ
        by_cases h1 : x ≤ z
        · have HE := HF.out (decide_eq_false (by omega))
          clear HF HS2
          go_wp2_with fail
          refine (HC1.out _).mono ?_
          rintro e w3 ⟨rfl, rfl⟩
          go_wp2_with fail
          refine (HC2.out _).mono ?_
          rintro e w3 ⟨rfl, rfl⟩
          go_wp2_with fail
          go_quiet (fail)
          go_wp2_with fail
          go_ret
          exact ⟨ret_bool HE.out.symm, below_drN HW.out.1 _⟩
        by_cases h2 : y < u
        · have HE := HF.out (decide_eq_false (by omega))
          clear HF HS2
          go_wp2_with fail
          refine (HC1.out _).mono ?_
          rintro e w3 ⟨rfl, rfl⟩
          go_wp2_with fail
          refine (HC2.out _).mono ?_
          rintro e w3 ⟨rfl, rfl⟩
          go_wp2_with fail
          go_quiet (fail)
          go_wp2_with fail
          go_ret
          exact ⟨ret_bool HE.out.symm, below_drN HW.out.1 _⟩
        have HX := Lib.hid (HS2.out.trans (decide_eq_true (by omega)))
        clear HF HS2
        go_wp2_with fail
        refine (HC1.out _).mono ?_
        rintro e w3 ⟨rfl, rfl⟩
        go_wp2_with fail
        refine (HC2.out _).mono ?_
        rintro e w3 ⟨rfl, rfl⟩
        go_wp2_with fail
        go_quiet (fail)
        go_wp2_with fail
        go_roundg (a.T.length - (k + 1))
        case measure => omega
        case rel => exact ⟨k + 1, by omega, Nat.le_refl _, by go_num, ⟨below_drN HW.out.1 _, HW.out.2.drewN _⟩, HX.out⟩
    · have hge : ¬ (k : Int) < a.T.length := by omega
      have hk' : k = a.T.length := by omega
      have HX := Lib.hid (show airB a = true by rw [HN0.out, ← hk']; exact HC.out)
      clear hk'
      go_wp2_with fail
      go_ret
      exact ⟨ret_bool HX.out.symm, HW.out.1⟩
end Go.Proofs.Ytdmpkeaanaoeaaa

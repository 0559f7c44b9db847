/- Contracts of the document's Event. -/
import Derived.Test.YtogabjlhecnbbaaRefC
namespace Go.Proofs.Ytogabjlhecnbbaa
open Go.RowKit Go.Shelf
theorem belowE {w wa : World} {o : Obj} (h : Below (w.alloc o).heap.size (w.alloc o) wa) : Below w.heap.size w wa := below2 h

set_option maxRecDepth 100000 in
set_option maxHeartbeats 2000000 in
theorem eventR_any (e : Ev) (n : Int) (w : World) (h0 : 0 ≤ n) (h1 : n ≤ 9223372036854775807) : Calls Try.prog 31 #[evv e, iv n] w fun r w' => r = .returned (.bool (e.ok n)) ∧ Below w.heap.size w w' := by
  obtain ⟨k, f, t, x, y⟩ := e
  have HE := Lib.hid (Has.new w 54 #[iv k, iv f, iv t, iv x, iv y])
  have HB0 := Lib.hid (below1 w (.cells #[iv k, iv f, iv t, iv x, iv y] 54))
  obtain ⟨W, hW⟩ : ∃ W, W = w.alloc (.cells #[iv k, iv f, iv t, iv x, iv y] 54) := ⟨_, rfl⟩
  rw [← hW] at HE HB0
  have HW := Lib.hid hW
  clear hW
  obtain ⟨b1, hb1⟩ : ∃ b, b = inB f 0 (n - 1) := ⟨_, rfl⟩
  obtain ⟨b2, hb2⟩ : ∃ b, b = inB t f (n - 1) := ⟨_, rfl⟩
  obtain ⟨b3, hb3⟩ : ∃ b, b = win x y := ⟨_, rfl⟩
  have HK : Hid ((Ev.ok ⟨k, f, t, x, y⟩ n) = (b1 && (decide (0 ≤ k ∧ k < 5) && ((decide (k = 3) || b2) && (decide (k = 4) || b3))))) := by
    show _ = _
    rw [hb1, hb2, hb3, Bool.eq_iff_iff]
    simp only [Ev.ok, inB, Bool.and_eq_true, Bool.or_eq_true, decide_eq_true_eq]
    constructor
    · rintro ⟨⟨a, b⟩, c⟩; exact ⟨by omega, by omega, by omega, c⟩
    · rintro ⟨a, b, c, d⟩; exact ⟨⟨by omega, by omega⟩, d⟩
  have H1 := Lib.hid hb1
  have H2 := Lib.hid hb2
  have H3 := Lib.hid hb3
  clear hb1 hb2 hb3
  rw [HK.out]
  go_enter Try.func31, Try.ntmps31
  go_wp2_with fail
  rw [← HW.out]
  refine (in_any _ _ _ _).mono ?_
  rintro r wa ⟨rfl, rfl⟩
  rw [← H1.out]
  have d0 : W.cell? ⟨w.heap.size, 0, none⟩ = some (iv k) := HE.out.cell 0
  have d1 : W.cell? ⟨w.heap.size, 1, none⟩ = some (iv f) := HE.out.cell 1
  have d2 : W.cell? ⟨w.heap.size, 2, none⟩ = some (iv t) := HE.out.cell 2
  have d3 : W.cell? ⟨w.heap.size, 3, none⟩ = some (iv x) := HE.out.cell 3
  have d4 : W.cell? ⟨w.heap.size, 4, none⟩ = some (iv y) := HE.out.cell 4
  have dl := HE.out.lt
  clear HW
  cases b1
  · go_wp2_with fail
    go_ret
    exact ⟨by simp, HB0.out⟩
  by_cases k3 : k = 3
  · subst k3
    go_wp2_with fail
    refine (withinR_any _ _ _).mono ?_
    rintro r wb ⟨rfl, hb⟩
    rw [← H3.out]
    go_wp2_with fail
    go_ret
    exact ⟨by simp, belowT HB0.out hb⟩
  have q3 : (k == 3) = false := by simpa using k3
  by_cases k4 : k = 4
  · subst k4
    go_wp2_with fail
    refine (in_any _ _ _ _).mono ?_
    rintro r wb ⟨rfl, rfl⟩
    rw [← H2.out]
    go_wp2_with fail
    go_ret
    exact ⟨by simp, HB0.out⟩
  have q4 : (k == 4) = false := by simpa using k4
  by_cases k0 : k = 0
  · subst k0
    go_wp2_with fail
    refine (in_any _ _ _ _).mono ?_
    rintro r wb ⟨rfl, rfl⟩
    rw [← H2.out]
    cases b2
    · go_wp2_with fail
      go_ret
      exact ⟨by simp, HB0.out⟩
    · go_wp2_with fail
      refine (withinR_any _ _ _).mono ?_
      rintro r wb ⟨rfl, hb⟩
      rw [← H3.out]
      go_wp2_with fail
      go_ret
      exact ⟨by simp, belowT HB0.out hb⟩
  have q0 : (k == 0) = false := by simpa using k0
  by_cases k1 : k = 1
  · subst k1
    go_wp2_with fail
    refine (in_any _ _ _ _).mono ?_
    rintro r wb ⟨rfl, rfl⟩
    rw [← H2.out]
    cases b2
    · go_wp2_with fail
      go_ret
      exact ⟨by simp, HB0.out⟩
    · go_wp2_with fail
      refine (withinR_any _ _ _).mono ?_
      rintro r wb ⟨rfl, hb⟩
      rw [← H3.out]
      go_wp2_with fail
      go_ret
      exact ⟨by simp, belowT HB0.out hb⟩
  have q1 : (k == 1) = false := by simpa using k1
  by_cases k2 : k = 2
  · subst k2
    go_wp2_with fail
    refine (in_any _ _ _ _).mono ?_
    rintro r wb ⟨rfl, rfl⟩
    rw [← H2.out]
    cases b2
    · go_wp2_with fail
      go_ret
      exact ⟨by simp, HB0.out⟩
    · go_wp2_with fail
      refine (withinR_any _ _ _).mono ?_
      rintro r wb ⟨rfl, hb⟩
      rw [← H3.out]
      go_wp2_with fail
      go_ret
      exact ⟨by simp, belowT HB0.out hb⟩
  have q2 : (k == 2) = false := by simpa using k2
  have HF : Hid (decide (0 ≤ k ∧ k < 5) = false) := by show _ = _; simp only [decide_eq_false_iff_not]; omega
  go_wp2_with fail
  go_ret
  exact ⟨ret_bool (by rw [HF.out]; simp), HB0.out⟩
end Go.Proofs.Ytogabjlhecnbbaa

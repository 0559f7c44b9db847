/- The law of the span: what does. -/
import Derived.Test.YtfdjoldcdfbfhaaOpA
namespace Go.Proofs.Ytfdjoldcdfbfhaa
open Go.Shelf Go.RowKit
def doesB (l : List Sn) (V F limit rise calm frm to n : Int) : Bool :=
  gasB n && (decide ((worstR l V F n rise frm to).2.2 = 0) && (decide ((worstR l V F n rise frm to).1 < limit) && (decide ((quietR l V F n calm).2 = 0) && (quietR l V F n calm).1)))
theorem gasB_iff (n : Int) : gasB n = true ↔ 0 ≤ n ∧ n ≤ 1048576 := by unfold gasB; simp
theorem doesB_iff {l : List Sn} {V F limit rise calm frm to : Int} (hv : vvB l V F = true) (hs : searchB limit rise calm frm to = true) (n : Int) :
    doesB l V F limit rise calm frm to n = true ↔ (0 ≤ n ∧ n ≤ 1048576) ∧ qf l V F calm ≤ n ∧ soon l (V + F).toNat limit rise frm (to - frm + 1).toNat n := by
  unfold doesB
  obtain ⟨s1, s2, s3, s4⟩ := search_iff hs
  rw [Bool.and_eq_true, gasB_iff]
  refine and_congr_right fun hn => ?_
  have hg : gasB n = true := (gasB_iff n).2 hn
  have hr : gasB rise = true := (gasB_iff rise).2 s2
  have hc : gasB calm = true := (gasB_iff calm).2 s3
  have hm : minB frm to = true := by unfold minB; simp; omega
  have hw : worstR l V F n rise frm to = worstE (worstP (atN l (V + F).toNat n rise) frm (to - frm + 1).toNat) := by
    unfold worstR
    rw [if_neg (by rw [hv]; simp), if_neg (by rw [hg, hr, hm]; simp)]
  have hq : quietR l V F n calm = (decide (qf l V F calm ≤ n), 0) := by
    unfold quietR
    rw [if_neg (by rw [hv]; simp), if_neg (by rw [hg, hc]; simp)]
  rw [hw, hq]
  simp only [decide_true, Bool.true_and, Bool.and_eq_true, decide_eq_true_eq]
  have hso := worst_soon (f := atN l (V + F).toNat n rise) (frm := frm) (k := (to - frm + 1).toNat) s1.1 s1.2
  unfold soon
  rw [← hso]
  cases worstP (atN l (V + F).toNat n rise) frm (to - frm + 1).toNat with
  | none => simp [worstE]
  | some x => simp [worstE, and_comm]
theorem thrR_cases (l : List Sn) (V F limit rise calm frm to : Int) :
    (thrR l V F limit rise calm frm to = (0, 0, 1) ∨ thrR l V F limit rise calm frm to = (0, 0, 2)) ∨
    (thrR l V F limit rise calm frm to = (0, 0, 4) ∧ (∀ n, doesB l V F limit rise calm frm to n = false) ∧ searchB limit rise calm frm to = true) ∨
    (∃ lo hi, thrR l V F limit rise calm frm to = (lo, hi, 0) ∧ 1 ≤ lo ∧ lo ≤ hi ∧ hi ≤ 1048576 ∧ (∀ n, doesB l V F limit rise calm frm to n = decide (lo ≤ n ∧ n ≤ hi)) ∧ searchB limit rise calm frm to = true) := by
  cases hv : vvB l V F
  · exact .inl (.inl (by unfold thrR; rw [if_pos hv]))
  cases hs : searchB limit rise calm frm to
  · exact .inl (.inr (by unfold thrR; rw [if_neg (by rw [hv]; simp), if_pos hs]))
  have hT : thrR l V F limit rise calm frm to = thrE (thrP l V F limit rise calm frm (to - frm + 1).toNat) := by
    unfold thrR; rw [if_neg (by rw [hv]; simp), if_neg (by rw [hs]; simp)]
  have hd := fun n => doesB_iff (n := n) hv hs
  have h := (vvB_iff l V F).1 hv
  obtain ⟨s1, s2, s3, s4⟩ := search_iff hs
  have ask : Ask l V F limit rise calm := ⟨h.hL, h.h1, h.h12, h.hV, h.hF, s1, s2, s3⟩
  rw [hT]
  right
  cases ht : thrP l V F limit rise calm frm (to - frm + 1).toNat with
  | none =>
    left
    refine ⟨rfl, fun n => ?_, rfl⟩
    have := thrP_none ask ht n
    rw [← Bool.not_eq_true, hd]
    exact fun h => this h.2
  | some s =>
    right
    obtain ⟨a1, a2, a3, a4, a5⟩ := thrP_some ask (by omega) ht
    refine ⟨s.1, s.2, rfl, a1, a2, a3, fun n => ?_, rfl⟩
    rw [Bool.eq_iff_iff, hd, a5, decide_eq_true_eq]
    omega
set_option maxRecDepth 100000 in
set_option maxHeartbeats 2000000 in
theorem does_any (l : List Sn) (A : Option Addr) (cap : Nat) (V F limit rise calm frm to n : Int) (g1 g2 g3 g4 g5 g6 : Nat) (W : World) (hr : NRow W W.heap.size A l) (hl : l.length ≤ 9223372036854775807)
    (h1 : Has W g1 24 #[.slice A l.length cap, .int .i64 V, .int .i64 F]) (h2 : Has W g2 3 #[.int .i64 rise]) (h3 : Has W g3 3 #[.int .i64 frm]) (h4 : Has W g4 3 #[.int .i64 to]) (h5 : Has W g5 3 #[.int .i64 calm]) (h6 : Has W g6 3 #[.int .i64 limit]) :
    Calls Try.prog 34 #[.int .i64 n, .pointer (some ⟨g1, 0, none⟩), .pointer (some ⟨g2, 0, none⟩), .pointer (some ⟨g3, 0, none⟩), .pointer (some ⟨g4, 0, none⟩), .pointer (some ⟨g5, 0, none⟩), .pointer (some ⟨g6, 0, none⟩)] W (BoolPost (doesB l V F limit rise calm frm to n) W) := by
  have HW := Lib.hid (fun w h => Worst_any l A cap V F n rise frm to w h hl)
  have HQ := Lib.hid (fun w h => Quiet_any l A cap V F n calm w h hl)
  have H0 := Lib.hid (And.intro hr (And.intro h1 (And.intro h5 h6)))
  have c0 := h1.cell 0; have c1 := h1.cell 1; have c2 := h1.cell 2
  have c3 := h2.cell 0; have c4 := h3.cell 0; have c5 := h4.cell 0
  simp at c0 c1 c2 c3 c4 c5
  by_cases hn0 : n < 0
  · have HN := Lib.hid (show doesB l V F limit rise calm frm to n = false by unfold doesB gasB; rw [decide_eq_false (by omega), Bool.false_and])
    clear hr h1 h2 h3 h4 h5 h6 HW HQ
    go_enter Try.func34, Try.ntmps34
    go_wp2_with fail
    go_ret
    exact ⟨by rw [HN.out]; rfl, Below.refl _ _⟩
  by_cases hn1 : 1048576 < n
  · have HN := Lib.hid (show doesB l V F limit rise calm frm to n = false by unfold doesB gasB; rw [decide_eq_false (by omega), Bool.false_and])
    clear hr h1 h2 h3 h4 h5 h6 HW HQ
    go_enter Try.func34, Try.ntmps34
    go_wp2_with fail
    go_ret
    exact ⟨by rw [HN.out]; rfl, Below.refl _ _⟩
  have HD : doesB l V F limit rise calm frm to n = (decide ((worstR l V F n rise frm to).2.2 = 0) && (decide ((worstR l V F n rise frm to).1 < limit) && (decide ((quietR l V F n calm).2 = 0) && (quietR l V F n calm).1))) := by
    unfold doesB gasB; rw [decide_eq_true (by omega), Bool.true_and]
  obtain ⟨x, hx⟩ : ∃ x, worstR l V F n rise frm to = x := ⟨_, rfl⟩
  obtain ⟨y, hy⟩ : ∃ y, quietR l V F n calm = y := ⟨_, rfl⟩
  rw [hx] at HW HD
  rw [hy] at HQ HD
  rw [HD]
  clear hr h1 h2 h3 h4 h5 h6 hx hy HD
  have step : ∀ (w : World), Below W.heap.size W w → NRow w w.heap.size A l ∧ w.cell? ⟨g1, 0, none⟩ = some (.slice A l.length cap) ∧ w.cell? ⟨g1, 1, none⟩ = some (.int .i64 V) ∧ w.cell? ⟨g1, 2, none⟩ = some (.int .i64 F) ∧ w.cell? ⟨g5, 0, none⟩ = some (.int .i64 calm) ∧ w.cell? ⟨g6, 0, none⟩ = some (.int .i64 limit) := fun w hb =>
    ⟨H0.out.1.step hb, (H0.out.2.1.below hb H0.out.2.1.lt).cell 0, (H0.out.2.1.below hb H0.out.2.1.lt).cell 1, (H0.out.2.1.below hb H0.out.2.1.lt).cell 2, (H0.out.2.2.1.below hb H0.out.2.2.1.lt).cell 0, (H0.out.2.2.2.below hb H0.out.2.2.2.lt).cell 0⟩
  have STEP := Lib.hid step
  clear step
  unfold vtv at *
  go_enter Try.func34, Try.ntmps34
  go_wp2_with fail
  refine (HW.out _ H0.out.1).mono ?_
  rintro e w1 ⟨rfl, hb1⟩
  obtain ⟨r1, d0, d1, d2, d3, d4⟩ := STEP.out w1 hb1
  have H1 := Lib.hid (And.intro hb1 r1)
  clear hb1 r1 c0 c1 c2 c3 c4 c5
  go_wp2_with fail
  refine (HQ.out _ H1.out.2).mono ?_
  rintro e w2 ⟨rfl, hb2⟩
  have H2 := Lib.hid (H1.out.1.trans (hb2.mono H1.out.1.size))
  obtain ⟨-, -, -, -, -, e4⟩ := STEP.out w2 H2.out
  clear hb2 d0 d1 d2 d3 d4
  by_cases q1 : x.2.2 = 0
  · have p1 : (x.2.2 == 0) = true := by simp [q1]
    have Q1 := Lib.hid q1
    by_cases q2 : x.1 < limit
    · by_cases q3 : y.2 = 0
      · have p3 : (y.2 == 0) = true := by simp [q3]
        have Q3 := Lib.hid q3
        clear q1 q3
        go_wp2_with fail
        go_ret
        exact ⟨by rw [Q1.out, Q3.out, decide_eq_true q2]; rfl, H2.out⟩
      · have p3 : (y.2 == 0) = false := by simp [q3]
        have Q3 := Lib.hid q3
        clear q1 q3
        go_wp2_with fail
        go_ret
        exact ⟨by rw [decide_eq_false Q3.out, Bool.false_and, Bool.and_false, Bool.and_false]; rfl, H2.out⟩
    · clear q1
      go_wp2_with fail
      go_ret
      exact ⟨by rw [decide_eq_false (show ¬ x.1 < limit by omega), Bool.false_and, Bool.and_false]; rfl, H2.out⟩
  · have p1 : (x.2.2 == 0) = false := by simp [q1]
    have Q1 := Lib.hid q1
    clear q1
    go_wp2_with fail
    go_ret
    exact ⟨by rw [decide_eq_false Q1.out, Bool.false_and]; rfl, H2.out⟩
end Go.Proofs.Ytfdjoldcdfbfhaa

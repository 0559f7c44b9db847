/- What a statement looks at: great. -/
import Derived.Test.YtmclchaalmonnaaAlA
namespace Go.Proofs.Ytmclchaalmonnaa
open Go.RowKit Go.Lib
def skBig (s : Sk) : Bool := decide (24 < s.calls.length) || (decide (12 < s.parts.length) || (s.calls.any (fun c => decide (20 < c.marks.length)) || s.parts.any (fun p => decide (20 < p.length))))
def greatB (l : List Sk) (most : Nat) : Bool := (l.take (most + 1)).any skBig || decide (most < l.length)
structure Small (s : Sk) : Prop where
  c : s.calls.length ≤ 24
  p : s.parts.length ≤ 12
  m : ∀ c ∈ s.calls, c.marks.length ≤ 20
  q : ∀ p ∈ s.parts, p.length ≤ 20
theorem not_great {l : List Sk} {most : Nat} (h : greatB l most = false) : l.length ≤ most ∧ ∀ s ∈ l, Small s := by
  unfold greatB at h
  simp only [Bool.or_eq_false_iff, decide_eq_false_iff_not] at h
  refine ⟨by omega, fun s hs => ?_⟩
  have h1 := List.any_eq_false.1 h.1 s (by rw [List.take_of_length_le (by omega)]; exact hs)
  unfold skBig at h1
  simp only [Bool.not_eq_true, Bool.or_eq_false_iff, decide_eq_false_iff_not] at h1
  obtain ⟨a, b, c, d⟩ := h1
  refine ⟨by omega, by omega, fun c' hc' => ?_, fun p hp => ?_⟩
  · have := List.any_eq_false.1 c c' hc'; simp at this; omega
  · have := List.any_eq_false.1 d p hp; simp at this; omega
set_option maxRecDepth 100000 in
set_option maxHeartbeats 1000000 in
theorem great_any (l : List Sk) (A : Option Addr) (c most : Nat) (W : World) (hm : most ≤ 100) (ha : SRow W W.heap.size A l) (hl : l.length ≤ big) : Calls Try.prog 12 #[.slice A l.length c, .int .i64 most] W (BoolPost (greatB l most) W) := by
  have HA := Lib.hid ha
  have hl' : l.length ≤ 9223372036854775807 := hl
  have HG : Hid (greatB l most = ((l.take (most + 1)).any skBig || decide (most < l.length))) := Lib.hid rfl
  generalize hgb : greatB l most = G at *
  clear ha hl hgb
  go_enter Try.func12, Try.ntmps12
  go_wp2_with fail
  go_loopg [5] (most + 1) (fun gk i wr => ∃ k : Nat, k ≤ most + 1 ∧ most + 1 - k ≤ gk ∧ i = .int .i64 k ∧ Hid (Below W.heap.size W wr ∧ ∀ j (hj : j < l.length), j < k → skBig l[j] = false))
  case atStart => exact ⟨0, Nat.zero_le _, Nat.le_refl _, rfl, Lib.hid ⟨Below.refl _ _, fun j _ h => absurd h (by omega)⟩⟩
  case round =>
    obtain ⟨k, hk, hgk, rfl, HW⟩ := hrel
    have HEND : Hid ((l.length ≤ k ∨ most < k) → G = decide (most < l.length)) := Lib.hid fun h => by
      rw [HG.out]
      have : (l.take (most + 1)).any skBig = false := by
        rw [List.any_eq_false]
        intro s hs
        obtain ⟨j, hj, rfl⟩ := List.getElem_of_mem hs
        rw [List.length_take] at hj
        rw [List.getElem_take, HW.out.2 j (by omega) (by omega)]
        simp
      rw [this]; rfl
    by_cases hlt : k < l.length
    rotate_left
    · have hge : ¬ (k : Int) < l.length := by omega
      have HE := Lib.hid (HEND.out (.inl (by omega)))
      clear HEND
      go_wp2_with fail
      go_ret
      exact ⟨ret_bool (by rw [HE.out]), HW.out.1⟩
    have hlt2 : (k : Int) < l.length := by omega
    by_cases hmo : k ≤ most
    rotate_left
    · have hge : ¬ (k : Int) ≤ most := by omega
      have HE := Lib.hid (HEND.out (.inr (by omega)))
      clear HEND
      go_wp2_with fail
      go_ret
      exact ⟨ret_bool (by rw [HE.out]), HW.out.1⟩
    have hmo2 : (k : Int) ≤ most := by omega
    clear HEND
    obtain ⟨g, o, AC, AP, cc, cp, hg, hgs, hc, hs⟩ := (HA.out.below HW.out.1) k hlt
    have HBIG : Hid (skBig l[k] = true → G = true) := Lib.hid fun h => by
      rw [HG.out]
      have : (l.take (most + 1)).any skBig = true := List.any_eq_true.2 ⟨l[k], by
        rw [List.mem_iff_getElem]
        exact ⟨k, by rw [List.length_take]; omega, by rw [List.getElem_take]⟩, h⟩
      rw [this]; rfl
    have HNX : Hid (skBig l[k] = false → ∀ j (hj : j < l.length), j < k + 1 → skBig l[j] = false) := Lib.hid fun h j hj hjk => by
      rcases Nat.lt_or_ge j k with h' | h'
      · exact HW.out.2 j hj h'
      · have : j = k := by omega
        subst this
        exact h
    obtain ⟨s, hb⟩ : ∃ s, s = l[k] := ⟨_, rfl⟩
    rw [← hb] at hc hs HBIG HNX
    have HSB : Hid (skBig s = (decide (24 < s.calls.length) || (decide (12 < s.parts.length) || (s.calls.any (fun c => decide (20 < c.marks.length)) || s.parts.any (fun p => decide (20 < p.length)))))) := Lib.hid rfl
    generalize hsb : skBig s = SB at HBIG HNX HSB
    have HSK := Lib.hid hs
    have hlc := hs.lc
    have hlp := hs.lp
    unfold big at hlc hlp
    have z0 : wr.cell? ⟨g, o + k * 3, none⟩ = some (.slice AC s.calls.length cc) := hc 0 (by omega)
    have z1 : wr.cell? ⟨g, o + k * 3 + 1, none⟩ = some (.slice AP s.parts.length cp) := hc 1 (by omega)
    have HZ : Hid (∀ w, Below W.heap.size wr w → w.cell? ⟨g, o + k * 3, none⟩ = some (.slice AC s.calls.length cc) ∧ w.cell? ⟨g, o + k * 3 + 1, none⟩ = some (.slice AP s.parts.length cp)) := Lib.hid fun w h => ⟨(h.cell (p := ⟨g, _, none⟩) hgs).trans z0, (h.cell (p := ⟨g, _, none⟩) hgs).trans z1⟩
    subst hg
    clear hb hc hs hsb hgs
    by_cases hbc : 24 < s.calls.length
    · have hbc' : (24 : Int) < s.calls.length := by omega
      have HE := Lib.hid (HBIG.out (by rw [HSB.out]; simp [hbc]))
      clear hbc HBIG HNX HSB
      go_wp2_with fail
      go_ret
      exact ⟨ret_bool HE.out.symm, HW.out.1⟩
    have hbc' : ¬ (24 : Int) < s.calls.length := by omega
    by_cases hbp : 12 < s.parts.length
    · have hbp' : (12 : Int) < s.parts.length := by omega
      have HE := Lib.hid (HBIG.out (by rw [HSB.out]; simp [hbp]))
      clear hbp HBIG HNX HSB hbc
      go_wp2_with fail
      go_ret
      exact ⟨ret_bool HE.out.symm, HW.out.1⟩
    have hbp' : ¬ (12 : Int) < s.parts.length := by omega
    have HSB2 : Hid (SB = (s.calls.any (fun c => decide (20 < c.marks.length)) || s.parts.any (fun p => decide (20 < p.length)))) := Lib.hid (by rw [HSB.out]; simp [hbc, hbp])
    clear hbc hbp HSB
    go_wp2_with fail
    clear z0 z1
    obtain ⟨w1, rfl⟩ : ∃ w1, w1 = wr := ⟨_, rfl⟩
    go_loopg [43] s.calls.length (fun gk2 i wx => ∃ q : Nat, q ≤ s.calls.length ∧ s.calls.length - q ≤ gk2 ∧ i = .int .i64 q ∧ Hid (Below W.heap.size w1 wx ∧ ∀ j (hj : j < s.calls.length), j < q → decide (20 < s.calls[j].marks.length) = false))
    case atStart => exact ⟨0, Nat.zero_le _, Nat.le_refl _, rfl, Lib.hid ⟨Below.refl _ _, fun j _ h => absurd h (by omega)⟩⟩
    case round =>
      obtain ⟨q, hq, hgq, rfl, HQ⟩ := hrel
      by_cases hqt : q < s.calls.length
      rotate_left
      · have hqe : ¬ (q : Int) < s.calls.length := by omega
        have HSB3 : Hid (SB = s.parts.any (fun p => decide (20 < p.length))) := Lib.hid (by
          rw [HSB2.out]
          have : (s.calls.any (fun c => decide (20 < c.marks.length))) = false := by
            rw [List.any_eq_false]
            intro c hc
            obtain ⟨j, hj, rfl⟩ := List.getElem_of_mem hc
            rw [HQ.out.2 j hj (by omega)]; simp
          rw [this]; rfl)
        have HQ1 := Lib.hid HQ.out.1
        obtain ⟨z0, z1⟩ := HZ.out _ HQ.out.1
        clear HSB2 HQ hqt hq hgq
        go_wp2_with fail
        clear z0 z1 hqe
        obtain ⟨w2, rfl⟩ : ∃ w2, w2 = wr := ⟨_, rfl⟩
        go_loopg [58] s.parts.length (fun gk2 i wx => ∃ q : Nat, q ≤ s.parts.length ∧ s.parts.length - q ≤ gk2 ∧ i = .int .i64 q ∧ Hid (Below W.heap.size w1 wx ∧ ∀ j (hj : j < s.parts.length), j < q → decide (20 < s.parts[j].length) = false))
        case atStart => exact ⟨0, Nat.zero_le _, Nat.le_refl _, rfl, Lib.hid ⟨HQ1.out, fun j _ h => absurd h (by omega)⟩⟩
        case round =>
          obtain ⟨q, hq, hgq, rfl, HQ⟩ := hrel
          by_cases hqt : q < s.parts.length
          rotate_left
          · have hqe : ¬ (q : Int) < s.parts.length := by omega
            have HE : Hid (SB = false) := Lib.hid (by
              rw [HSB3.out, List.any_eq_false]
              intro c hc
              obtain ⟨j, hj, rfl⟩ := List.getElem_of_mem hc
              rw [HQ.out.2 j hj (by omega)]; simp)
            have HN := Lib.hid (HNX.out HE.out)
            clear HSB3
            go_wp2_with fail
            go_roundg (most + 1 - (k + 1))
            case measure => omega
            case rel => exact ⟨k + 1, by omega, Nat.le_refl _, by go_num, Lib.hid ⟨HW.out.1.trans HQ.out.1, HN.out⟩⟩
          have hqt2 : (q : Int) < s.parts.length := by omega
          obtain ⟨g2, o2, M, m, e2, hg2, hc2, hm2, hml2⟩ := (HSK.out.p.below HQ.out.1) q hqt
          have HQN : Hid (∀ b, decide (20 < s.parts[q].length) = b → (b = true → G = true) ∧ (b = false → ∀ j (hj : j < s.parts.length), j < q + 1 → decide (20 < s.parts[j].length) = false)) := Lib.hid fun b hb => ⟨fun h => HBIG.out (by
            rw [HSB3.out, List.any_eq_true]; exact ⟨s.parts[q], List.getElem_mem hqt, by rw [hb]; exact h⟩), fun h j hj hjk => by
              rcases Nat.lt_or_ge j q with h' | h'
              · exact HQ.out.2 j hj h'
              · have : j = q := by omega
                subst this
                rw [hb]; exact h⟩
          obtain ⟨x, hx⟩ : ∃ x, x = s.parts[q] := ⟨_, rfl⟩
          rw [← hx] at hc2 hm2 hml2 HQN
          unfold big at hml2
          subst e2
          clear hx hm2 hg2
          by_cases hx20 : 20 < x.length
          · have hx20' : (20 : Int) < x.length := by omega
            have HE := Lib.hid ((HQN.out true (by simp [hx20])).1 rfl)
            clear hx20 HQN
            go_wp2_with fail
            go_ret
            exact ⟨ret_bool HE.out.symm, HW.out.1.trans HQ.out.1⟩
          · have hx20' : ¬ (20 : Int) < x.length := by omega
            have HE := Lib.hid ((HQN.out false (by simp; omega)).2 rfl)
            clear hx20 HQN
            go_wp2_with fail
            go_roundg (s.parts.length - (q + 1))
            case measure => omega
            case rel => exact ⟨q + 1, by omega, Nat.le_refl _, by go_num, Lib.hid ⟨HQ.out.1, HE.out⟩⟩
      have hqt2 : (q : Int) < s.calls.length := by omega
      obtain ⟨g2, o2, M, m, e2, hg2, hc2, hm2, hml2⟩ := (HSK.out.c.below HQ.out.1) q hqt
      have HQN : Hid (∀ b, decide (20 < s.calls[q].marks.length) = b → (b = true → G = true) ∧ (b = false → ∀ j (hj : j < s.calls.length), j < q + 1 → decide (20 < s.calls[j].marks.length) = false)) := Lib.hid fun b hb => ⟨fun h => HBIG.out (by
        rw [HSB2.out, List.any_eq_true.2 ⟨s.calls[q], List.getElem_mem hqt, by rw [hb]; exact h⟩]; rfl), fun h j hj hjk => by
          rcases Nat.lt_or_ge j q with h' | h'
          · exact HQ.out.2 j hj h'
          · have : j = q := by omega
            subst this
            rw [hb]; exact h⟩
      obtain ⟨x, hx⟩ : ∃ x, x = s.calls[q] := ⟨_, rfl⟩
      rw [← hx] at hc2 hm2 hml2 HQN
      unfold big at hml2
      have t0 : wr.cell? ⟨g2, o2 + q * 6, none⟩ = some (.int .i64 x.place) := hc2 0 (by omega)
      have t1 : wr.cell? ⟨g2, o2 + q * 6 + 1, none⟩ = some (.int .i64 x.element) := hc2 1 (by omega)
      have t2 : wr.cell? ⟨g2, o2 + q * 6 + 2, none⟩ = some (.int .i64 x.under) := hc2 2 (by omega)
      have t3 : wr.cell? ⟨g2, o2 + q * 6 + 3, none⟩ = some (.bool x.late) := hc2 3 (by omega)
      have t4 : wr.cell? ⟨g2, o2 + q * 6 + 4, none⟩ = some (.bool x.fall) := hc2 4 (by omega)
      have t5 : wr.cell? ⟨g2, o2 + q * 6 + 5, none⟩ = some (.slice M x.marks.length m) := hc2 5 (by omega)
      have HX : Hid (Below W.heap.size w1 (wr.alloc (.cells (clc x M m) 52))) := Lib.hid (HQ.out.1.trans ((below_one _ _).mono (Nat.le_trans HW.out.1.size HQ.out.1.size)))
      subst e2
      clear hx hm2 hg2 hc2
      by_cases hx20 : 20 < x.marks.length
      · have hx20' : (20 : Int) < x.marks.length := by omega
        have HE := Lib.hid ((HQN.out true (by simp [hx20])).1 rfl)
        clear hx20 HQN
        go_wp2_with fail
        go_ret
        exact ⟨ret_bool HE.out.symm, HW.out.1.trans HX.out⟩
      · have hx20' : ¬ (20 : Int) < x.marks.length := by omega
        have HE := Lib.hid ((HQN.out false (by simp; omega)).2 rfl)
        clear hx20 HQN
        go_wp2_with fail
        go_roundg (s.calls.length - (q + 1))
        case measure => omega
        case rel => exact ⟨q + 1, by omega, Nat.le_refl _, by go_num, Lib.hid ⟨HX.out, HE.out⟩⟩
end Go.Proofs.Ytmclchaalmonnaa

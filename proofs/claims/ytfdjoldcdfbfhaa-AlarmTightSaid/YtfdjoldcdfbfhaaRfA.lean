/- The document's own functions: in, Voting, Sure. -/
import Derived.Test.YtfdjoldcdfbfhaaLiA
namespace Go.Proofs.Ytfdjoldcdfbfhaa
open Go.Shelf Go.RowKit
def inB (n a b : Int) : Bool := decide (a ≤ n ∧ n ≤ b)
theorem in_any (n a b : Int) (w : World) : Calls Try.prog 38 #[.int .i64 n, .int .i64 a, .int .i64 b] w fun e w' => e = .returned (.bool (inB n a b)) ∧ w' = w := by
  have hn : ∀ c, (decide (a ≤ n ∧ n ≤ b) = c) → inB n a b = c := fun b h => h
  have h3 : ¬ a ≤ n ∨ (a ≤ n ∧ ¬ n ≤ b) ∨ (a ≤ n ∧ n ≤ b) := by omega
  rcases h3 with h0 | ⟨h0, h1⟩ | ⟨h0, h1⟩
  rotate_right
  · have HN := Lib.hid (hn true (by simp; omega))
    clear hn
    go_enter Try.func38, Try.ntmps38
    go_wp2
    go_ret
    exact ⟨by rw [HN.out]; rfl, rfl⟩
  all_goals
    have HN := Lib.hid (hn false (by simp; omega))
    clear hn
    go_enter Try.func38, Try.ntmps38
    go_wp2
    go_ret
    exact ⟨by rw [HN.out]; rfl, rfl⟩
theorem vSb_in (s : Sn) : vSb s = (inB s.f 0 2000 && (inB s.e 1 1000 && inB s.r 0 1048576)) := by
  rw [Bool.eq_iff_iff, vSb_iff]
  unfold vS inB
  simp
def sureN (t rise m : Int) (s : Sn) : Int := if m < s.f then 0 else num t rise m s
def sureB (m : Int) (s : Sn) : Bool := decide (s.f ≤ m)
theorem refSure_any (s : Sn) (t rise m : Int) (w : World) (hs : vS s) (ht : 0 ≤ t ∧ t ≤ 4194304) (hr : 0 ≤ rise ∧ rise ≤ 1048576) (hm : 0 ≤ m ∧ m ≤ 2000) :
    Calls Try.prog 31 #[snv s, .int .i64 t, .int .i64 rise, .int .i64 m] w fun e w' => e = .returned (.tuple #[.int .i64 (sureN t rise m s), .bool (sureB m s)]) ∧ Below w.heap.size w w' := by
  obtain ⟨h1, h2, h3⟩ := hs
  have HB := Lib.hid (below_one w)
  unfold snv
  by_cases hb : m < s.f
  · have hn := Lib.hid (And.intro (show sureN t rise m s = 0 by unfold sureN; rw [if_pos hb]) (show sureB m s = false from decide_eq_false (by omega)))
    go_enter Try.func31, Try.ntmps31
    go_wp2
    refine bodyPost_ret (results_tmp2 rfl _ _ _) rfl ?_
    exact ⟨by rw [hn.out.1, hn.out.2]; rfl, HB.out _⟩
  · by_cases h0 : t + s.r = 0
    · have hn := Lib.hid (And.intro (show sureN t rise m s = 0 by unfold sureN; rw [if_neg hb]; unfold num; rw [if_neg hb, if_pos h0]) (show sureB m s = true from decide_eq_true (by omega)))
      have hq : (t + s.r == 0) = true := by simp [h0]
      go_enter Try.func31, Try.ntmps31
      go_wp2
      refine bodyPost_ret (results_tmp2 rfl _ _ _) rfl ?_
      exact ⟨by rw [hn.out.1, hn.out.2]; rfl, HB.out _⟩
    · have hq : (t + s.r == 0) = false := by simp [h0]
      have hb' := tmod_bd (a := m - s.f) (b := s.e) (by omega) h2.1
      have hn := And.intro (show sureN t rise m s = t + s.r + rise * ((m - s.f).tmod s.e) by unfold sureN; rw [if_neg hb]; unfold num; rw [if_neg hb, if_neg h0]) (show sureB m s = true from decide_eq_true (by omega))
      obtain ⟨q, hqq⟩ : ∃ q, (m - s.f).tmod s.e = q := ⟨_, rfl⟩
      rw [hqq] at hb' hn
      have h4 := Int.mul_nonneg hr.1 hb'.1
      have h5 : rise * q ≤ 1048576 * 999 := Int.mul_le_mul hr.2 (by omega) hb'.1 (by omega)
      obtain ⟨p, hp⟩ : ∃ p, rise * q = p := ⟨_, rfl⟩
      rw [hp] at h4 h5 hn
      have HN := Lib.hid hn
      clear hn
      have he0 : ¬ s.e = 0 := by omega
      have hw1 : IntKind.i64.wrap (m - s.f) = m - s.f := by rw [IntKind.wrap_i64]; omega
      have hw2 : IntKind.i64.wrap q = q := by rw [IntKind.wrap_i64]; omega
      have hw3 : IntKind.i64.wrap p = p := by rw [IntKind.wrap_i64]; omega
      have hw4 : IntKind.i64.wrap (t + s.r) = t + s.r := by rw [IntKind.wrap_i64]; omega
      have hw5 : IntKind.i64.wrap (t + s.r + p) = t + s.r + p := by rw [IntKind.wrap_i64]; omega
      go_enter Try.func31, Try.ntmps31
      go_wp2
      go_quiet (fail)
      go_wp2
      refine bodyPost_ret (results_tmp2 rfl _ _ _) rfl ?_
      refine ⟨by rw [HN.out.1, HN.out.2]; rfl, ?_⟩
      have h := HB.out (.cells #[.int .i64 s.f, .int .i64 s.e, .int .i64 s.r] 56)
      exact ⟨h.os, h.tape, h.output, h.size, h.block⟩
set_option maxRecDepth 100000 in
set_option maxHeartbeats 4000000 in
theorem refVoting_any (l : List Sn) (A : Option Addr) (cap : Nat) (V F : Int) (W : World) (hr : NRow W W.heap.size A l) (hl : l.length ≤ 9223372036854775807) :
    Calls Try.prog 26 #[vtv A l.length cap V F] W (BoolPost (vvB l V F) W) := by
  have HR := Lib.hid hr
  have H0 := Lib.hid (below_one W)
  clear hr
  unfold vtv
  go_enter Try.func26, Try.ntmps26
  go_wp2_with fail
  have hh : Has (W.alloc (.cells #[.slice A l.length cap, .int .i64 V, .int .i64 F] 24)) W.heap.size 24 #[.slice A l.length cap, .int .i64 V, .int .i64 F] := Has.new W 24 _
  have hb0 := H0.out (.cells #[.slice A l.length cap, .int .i64 V, .int .i64 F] 24)
  generalize W.alloc (.cells #[.slice A l.length cap, .int .i64 V, .int .i64 F] 24) = w0 at hh hb0 ⊢
  have HB := Lib.hid (And.intro hb0 hh)
  clear hb0 hh H0
  go_loopg [3] 14 (fun gk i wr => ∃ k : Nat, k ≤ l.length ∧ k ≤ 13 ∧ 13 - k ≤ gk ∧ i = .int .i64 k ∧ Hid (Below w0.heap.size w0 wr) ∧ Hid ((l.take k).all vSb = true))
  case atStart => exact ⟨0, Nat.zero_le _, by omega, by omega, rfl, Below.refl _ _, by show _ = _; simp⟩
  case round =>
    obtain ⟨k, hk, hk13, hgk, rfl, HW, HL⟩ := hrel
    have hbW : Below W.heap.size W wr := HB.out.1.trans (HW.out.mono HB.out.1.size)
    have hH := HB.out.2.below HW.out HB.out.2.lt
    have v0 : wr.cell? ⟨W.heap.size, 0, none⟩ = some (.slice A l.length cap) := hH.cell 0
    have v1 : wr.cell? ⟨W.heap.size, 1, none⟩ = some (.int .i64 V) := hH.cell 1
    have v2 : wr.cell? ⟨W.heap.size, 2, none⟩ = some (.int .i64 F) := hH.cell 2
    by_cases hlt : k < l.length ∧ k ≤ 12
    · have hlt' : (k : Int) < l.length := by omega
      have hlt2 : (k : Int) ≤ 12 := by omega
      obtain ⟨g, o, rfl, hg, d0, d1, d2⟩ := (HR.out.below hbW) k hlt.1
      have hg' : g < wr.heap.size := by have := hbW.size; omega
      have htk : (l.take (k + 1)).all vSb = vSb l[k] := by
        rw [List.take_succ_eq_append_getElem hlt.1, List.all_append, HL.out]; simp
      obtain ⟨s, hs⟩ : ∃ s, s = l[k] := ⟨_, rfl⟩
      rw [← hs] at d0 d1 d2 htk
      have HT := Lib.hid htk
      have HS := Lib.hid hs
      have HBW := Lib.hid hbW
      have hvi := vSb_in s
      have i1 := fun w => in_any s.f 0 2000 w
      have i2 := fun w => in_any s.e 1 1000 w
      have i3 := fun w => in_any s.r 0 1048576 w
      have HNo : Hid (vSb s = false → vvB l V F = false) := fun hvs => by
        unfold vvB
        have : l.all vSb = false := by
          rw [List.all_eq_false]
          exact ⟨l[k], List.getElem_mem hlt.1, by rw [← hs, hvs]; simp⟩
        rw [this, Bool.and_false, Bool.false_and]
      clear htk hs hbW hH v1 v2
      cases e1 : inB s.f 0 2000 <;> rw [e1] at i1 hvi
      · have HF := Lib.hid (HNo.out (by rw [hvi]; rfl))
        clear e1 hvi i2 i3
        go_wp2_with fail
        refine (i1 _).mono ?_
        rintro e w3 ⟨rfl, rfl⟩
        go_wp2_with fail
        go_ret
        exact ⟨by rw [HF.out]; rfl, HBW.out.trans ((below_one wr _).mono HBW.out.size)⟩
      cases e2 : inB s.e 1 1000 <;> rw [e2] at i2 hvi
      · have HF := Lib.hid (HNo.out (by rw [hvi]; rfl))
        clear e1 e2 hvi i3
        go_wp2_with fail
        refine (i1 _).mono ?_
        rintro e w3 ⟨rfl, rfl⟩
        go_wp2_with fail
        refine (i2 _).mono ?_
        rintro e w3 ⟨rfl, rfl⟩
        go_wp2_with fail
        go_ret
        exact ⟨by rw [HF.out]; rfl, HBW.out.trans ((below_one wr _).mono HBW.out.size)⟩
      cases e3 : inB s.r 0 1048576 <;> rw [e3] at i3 hvi
      · have HF := Lib.hid (HNo.out (by rw [hvi]; rfl))
        clear e1 e2 e3 hvi
        go_wp2_with fail
        refine (i1 _).mono ?_
        rintro e w3 ⟨rfl, rfl⟩
        go_wp2_with fail
        refine (i2 _).mono ?_
        rintro e w3 ⟨rfl, rfl⟩
        go_wp2_with fail
        refine (i3 _).mono ?_
        rintro e w3 ⟨rfl, rfl⟩
        go_wp2_with fail
        go_ret
        exact ⟨by rw [HF.out]; rfl, HBW.out.trans ((below_one wr _).mono HBW.out.size)⟩
      · have HV := Lib.hid (show vSb s = true by rw [hvi]; rfl)
        clear e1 e2 e3 hvi
        go_wp2_with fail
        refine (i1 _).mono ?_
        rintro e w3 ⟨rfl, rfl⟩
        go_wp2_with fail
        refine (i2 _).mono ?_
        rintro e w3 ⟨rfl, rfl⟩
        go_wp2_with fail
        refine (i3 _).mono ?_
        rintro e w3 ⟨rfl, rfl⟩
        go_wp2_with fail
        go_roundg (12 - k)
        case measure => omega
        case rel => exact ⟨k + 1, by omega, by omega, by omega, by go_num, HW.out.trans ((below_one wr _).mono HW.out.size), by show _ = _; rw [HT.out, HV.out]⟩
    · have hout : ¬ (k : Int) < l.length ∨ ((k : Int) < l.length ∧ ¬ (k : Int) ≤ 12) := by omega
      have i1 := fun w => in_any l.length 1 12 w
      have i2 := fun w => in_any V 1 l.length w
      have i3 := fun w => in_any F 0 l.length w
      have HVV := Lib.hid (show vvB l V F = (inB l.length 1 12 && (inB V 1 l.length && inB F 0 l.length)) by
        unfold vvB
        have e0 : decide (1 ≤ l.length ∧ l.length ≤ 12) = inB l.length 1 12 := by unfold inB; rw [decide_eq_decide]; omega
        have e1 : decide ((1 ≤ V ∧ V ≤ l.length) ∧ (0 ≤ F ∧ F ≤ l.length)) = (inB V 1 l.length && inB F 0 l.length) := by unfold inB; rw [← Bool.decide_and]
        rw [e0, e1]
        cases h : inB (l.length : Int) 1 12
        · simp
        · have : l.all vSb = true := by
            unfold inB at h
            rw [decide_eq_true_eq] at h
            rw [← HL.out, List.take_of_length_le (by omega)]
          rw [this]; simp)
      have HBW := Lib.hid hbW
      clear hbW hH hlt
      rcases hout with h1 | ⟨h1, h2⟩
      all_goals
        cases e1 : inB (l.length : Int) 1 12 <;> rw [e1] at i1 HVV
        · go_wp2_with fail
          refine (i1 _).mono ?_
          rintro e w3 ⟨rfl, rfl⟩
          go_wp2_with fail
          go_ret
          exact ⟨by rw [HVV.out]; rfl, HBW.out⟩
        cases e2 : inB V 1 l.length <;> rw [e2] at i2 HVV
        · go_wp2_with fail
          refine (i1 _).mono ?_
          rintro e w3 ⟨rfl, rfl⟩
          go_wp2_with fail
          refine (i2 _).mono ?_
          rintro e w3 ⟨rfl, rfl⟩
          go_wp2_with fail
          go_ret
          exact ⟨by rw [HVV.out]; rfl, HBW.out⟩
        · go_wp2_with fail
          refine (i1 _).mono ?_
          rintro e w3 ⟨rfl, rfl⟩
          go_wp2_with fail
          refine (i2 _).mono ?_
          rintro e w3 ⟨rfl, rfl⟩
          go_wp2_with fail
          refine (i3 _).mono ?_
          rintro e w3 ⟨rfl, rfl⟩
          go_wp2_with fail
          go_ret
          exact ⟨by rw [HVV.out]; simp, HBW.out⟩
end Go.Proofs.Ytfdjoldcdfbfhaa

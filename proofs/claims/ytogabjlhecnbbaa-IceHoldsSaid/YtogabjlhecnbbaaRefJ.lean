/- Contracts of the document's bad and Keeps. -/
import Derived.Test.YtogabjlhecnbbaaPlays
namespace Go.Proofs.Ytogabjlhecnbbaa
open Go.RowKit Go.Shelf
def badR (zs : List Zn) (least most : Int) : Int := if (firstAt (badK least most) zs).2 = true then (firstAt (badK least most) zs).1 else -1
set_option maxRecDepth 100000 in
set_option maxHeartbeats 2000000 in
theorem bad_any (zs : List Zn) (least most : Int) (A : Option Addr) (cap : Nat) (w : World) (hz : ZRow w w.heap.size A zs) (hl : zs.length ≤ 9223372036854775807) :
    Calls Try.prog 53 #[.slice A zs.length cap, iv least, iv most] w fun e w' => e = .returned (iv (badR zs least most)) ∧ w = w' := by
  go_enter Try.func53, Try.ntmps53
  go_wp2_with fail
  go_loopw [7] (fun t wr => ∃ k : Nat, k ≤ zs.length ∧ t = .int .i64 k ∧ NoneTo (badK least most) zs k ∧ w = wr) (fun t _ => zs.length - (intOf t).toNat)
  case atStart => exact ⟨0, Nat.zero_le _, rfl, fun j _ h => absurd h (by omega), rfl⟩
  case round =>
    obtain ⟨k, hk, rfl, hn, rfl⟩ := hrel
    have HN := Lib.hid hn
    clear hn
    by_cases hlt : k < zs.length
    · obtain ⟨g, o, rfl, hg, c0, c1, c2, c3⟩ := hz k hlt
      have hI : (k : Int) < zs.length := by omega
      by_cases h1 : zs[k].a < least
      · have HF := Lib.hid (firstAt_yes (p := badK least most) HN.out hlt (by simp [badK, h1]))
        go_wp2_with fail
        go_ret
        exact ⟨by simp only [badR, HF.out]; rfl, rfl⟩
      have h1d : decide (zs[k].a < least) = false := by simpa using h1
      by_cases h2 : most < zs[k].b
      · have HF := Lib.hid (firstAt_yes (p := badK least most) HN.out hlt (by simp [badK, h2]))
        go_wp2_with fail
        go_ret
        exact ⟨by simp only [badR, HF.out]; rfl, rfl⟩
      have h2d : decide (most < zs[k].b) = false := by simpa using h2
      have HF := Lib.hid (noneTo_succ (p := badK least most) (hk := hlt) HN.out (by simp only [badK, h1d, h2d]; rfl))
      go_wp2_with fail
      go_roundw
      case rel => exact ⟨k + 1, by omega, by go_num, HF.out, by first | rfl | trivial⟩
      case measure => simp [intOf]; omega
    · have HF := Lib.hid (firstAt_no (p := badK least most) HN.out (by omega))
      go_wp2_with fail
      go_ret
      exact ⟨by simp only [badR, HF.out]; rfl, rfl⟩

set_option maxRecDepth 100000 in
set_option maxHeartbeats 4000000 in
theorem keeps24_any (zs : List Zn) (day : List Ev) (days least most : Int) (A A' : Option Addr) (cap cap' : Nat) (w : World) (hz : ZRow w w.heap.size A zs) (he : ERow w w.heap.size A' day) (hl : zs.length ≤ 9223372036854775807) (hl' : day.length ≤ 9223372036854775807) :
    Calls Try.prog 24 #[.slice A zs.length cap, .slice A' day.length cap', iv days, iv least, iv most] w fun e w' => e = .returned (triR (keepsR zs day days least most)) ∧ Below w.heap.size w w' := by
  cases hr : rinkOk zs
  · have hR : Hid (keepsR zs day days least most = (0, 0, 1)) := by show _ = _; simp [keepsR, hr]
    go_enter Try.func24, Try.ntmps24
    go_wp2_with fail
    refine (rinkR_any zs A cap _ hz hl).mono ?_
    rintro r wa ⟨rfl, hb⟩
    rw [hr]
    go_wp2_with fail
    go_ret3
    rw [hR.out]; exact ⟨rfl, hb⟩
  cases h1 : inB days 0 100
  · have hR : Hid (keepsR zs day days least most = (0, 0, 2)) := by
      show _ = _
      have hx : (decide (0 ≤ days ∧ days ≤ 100) && vb least most) = false := by
        simp only [inB, decide_eq_false_iff_not] at h1
        rw [Bool.and_eq_false_iff]; simp only [vb, decide_eq_false_iff_not]; omega
      unfold keepsR; rw [hr, hx]; rfl
    go_enter Try.func24, Try.ntmps24
    go_wp2_with fail
    refine (rinkR_any zs A cap _ hz hl).mono ?_
    rintro r wa ⟨rfl, hb⟩
    rw [hr]
    go_wp2_with fail
    refine (in_any _ _ _ _).mono ?_
    rintro r wb ⟨rfl, rfl⟩
    rw [h1]
    go_wp2_with fail
    go_ret3
    rw [hR.out]; exact ⟨rfl, hb⟩
  cases h2 : inB most 0 20000
  · have hR : Hid (keepsR zs day days least most = (0, 0, 2)) := by
      show _ = _
      have hx : (decide (0 ≤ days ∧ days ≤ 100) && vb least most) = false := by
        simp only [inB, decide_eq_false_iff_not] at h2
        rw [Bool.and_eq_false_iff]; simp only [vb, decide_eq_false_iff_not]; omega
      unfold keepsR; rw [hr, hx]; rfl
    go_enter Try.func24, Try.ntmps24
    go_wp2_with fail
    refine (rinkR_any zs A cap _ hz hl).mono ?_
    rintro r wa ⟨rfl, hb⟩
    rw [hr]
    go_wp2_with fail
    refine (in_any _ _ _ _).mono ?_
    rintro r wb ⟨rfl, rfl⟩
    rw [h1]
    go_wp2_with fail
    refine (in_any _ _ _ _).mono ?_
    rintro r wb ⟨rfl, rfl⟩
    rw [h2]
    go_wp2_with fail
    go_ret3
    rw [hR.out]; exact ⟨rfl, hb⟩
  cases h3 : inB least 0 most
  · have hR : Hid (keepsR zs day days least most = (0, 0, 2)) := by
      show _ = _
      have hx : (decide (0 ≤ days ∧ days ≤ 100) && vb least most) = false := by
        simp only [inB, decide_eq_false_iff_not] at h3
        rw [Bool.and_eq_false_iff]; simp only [vb, decide_eq_false_iff_not]; omega
      unfold keepsR; rw [hr, hx]; rfl
    go_enter Try.func24, Try.ntmps24
    go_wp2_with fail
    refine (rinkR_any zs A cap _ hz hl).mono ?_
    rintro r wa ⟨rfl, hb⟩
    rw [hr]
    go_wp2_with fail
    refine (in_any _ _ _ _).mono ?_
    rintro r wb ⟨rfl, rfl⟩
    rw [h1]
    go_wp2_with fail
    refine (in_any _ _ _ _).mono ?_
    rintro r wb ⟨rfl, rfl⟩
    rw [h2]
    go_wp2_with fail
    refine (in_any _ _ _ _).mono ?_
    rintro r wb ⟨rfl, rfl⟩
    rw [h3]
    go_wp2_with fail
    go_ret3
    rw [hR.out]; exact ⟨rfl, hb⟩
  have HK : Hid (keepsR zs day days least most = keepsL day least most days.toNat 0 zs) := by
    show _ = _
    have hx : (decide (0 ≤ days ∧ days ≤ 100) && vb least most) = true := by
      simp only [inB, decide_eq_true_eq] at h1 h2 h3
      rw [Bool.and_eq_true]; simp only [vb, decide_eq_true_eq]; omega
    unfold keepsR; rw [hr, hx]; rfl
  have hd : 0 ≤ days ∧ days ≤ 100 := by simpa [inB] using h1
  obtain ⟨n, rfl⟩ := Int.eq_ofNat_of_zero_le hd.1
  have hn : n ≤ 100 := by omega
  simp only [Int.toNat_natCast] at HK
  clear hd
  go_enter Try.func24, Try.ntmps24
  go_wp2_with fail
  refine (rinkR_any zs A cap _ hz hl).mono ?_
  rintro r wa ⟨rfl, hba⟩
  rw [hr]
  go_wp2_with fail
  refine (in_any _ _ _ _).mono ?_
  rintro r wb ⟨rfl, rfl⟩
  rw [h1]
  go_wp2_with fail
  refine (in_any _ _ _ _).mono ?_
  rintro r wb ⟨rfl, rfl⟩
  rw [h2]
  go_wp2_with fail
  refine (in_any _ _ _ _).mono ?_
  rintro r wb ⟨rfl, rfl⟩
  rw [h3]
  go_wp2_with fail
  clear h1 h2 h3 hr
  go_loopw [13, 0] (fun t sl wr => ∃ (d : Nat) (zz : List Zn) (A0 : Option Addr) (cap0 : Nat), d ≤ n ∧ t = .int .i64 d ∧ sl = .slice A0 zz.length cap0 ∧ Hid (ZRow wr wr.heap.size A0 zz ∧ Below w.heap.size w wr ∧ zz.length ≤ 9223372036854775807 ∧ keepsL day least most n 0 zs = keepsL day least most (n - d) d zz)) (fun t _ _ => n - (intOf t).toNat)
  case atStart => exact ⟨0, zs, A, cap, Nat.zero_le _, rfl, rfl, hz.step hba, hba, hl, rfl⟩
  case round =>
    obtain ⟨d, zz, A0, cap0, hdn, rfl, rfl, HE⟩ := hrel
    by_cases hlt : d < n
    · have HST : Hid (keepsL day least most n 0 zs = if (playR zz day).e ≠ 0 then (0, 0, (playR zz day).e) else if (firstAt (badK least most) (playR zz day).zs).2 = true then ((d : Int), ((firstAt (badK least most) (playR zz day).zs).1 : Int), 0) else keepsL day least most (n - (d + 1)) (d + 1) (playR zz day).zs) := by
        show _ = _
        rw [HE.out.2.2.2, show n - d = (n - (d + 1)) + 1 by omega]
        rfl
      have HLn : Hid ((playR zz day).zs.length ≤ 9223372036854775807) := Nat.le_trans (playR_len zz day) HE.out.2.2.1
      have hdI : (d : Int) < n := by omega
      go_wp2_with fail
      refine (play16_any zz day A0 cap0 A' cap' _ HE.out.1 ((he.below HE.out.2.1).more HE.out.2.1.size) HE.out.2.2.1 hl').mono ?_
      intro r wc hp
      obtain ⟨A2, cap2, rfl, hb, hz2⟩ := rplay_row hp
      clear hp
      obtain ⟨⟨rz, s, i, e⟩, hR⟩ : ∃ R, R = playR zz day := ⟨_, rfl⟩
      rw [← hR] at hz2 HST HLn ⊢
      simp only at hz2 HST HLn ⊢
      clear hR
      have HB := Lib.hid (belowT (belowT HE.out.2.1 hb) (below1 wc (.cells #[iv s.f1, iv s.f2, iv s.p1, iv s.p2, iv s.w1, iv s.w2] 29)))
      have HZ := Lib.hid (hz2.step (below1 wc (.cells #[iv s.f1, iv s.f2, iv s.p1, iv s.p2, iv s.w1, iv s.w2] 29)))
      clear hb hz2 HE
      by_cases h0 : e = 0
      · subst h0
        go_wp2_with fail
        refine (bad_any rz least most A2 cap2 _ HZ.out HLn.out).mono ?_
        rintro r wx ⟨rfl, rfl⟩
        cases hf : (firstAt (badK least most) rz).2
        · have HBR : Hid (badR rz least most = -1) := by show _ = _; simp [badR, hf]
          rw [HBR.out]
          have HN2 : Hid (keepsL day least most n 0 zs = keepsL day least most (n - (d + 1)) (d + 1) rz) := by
            show _ = _
            rw [HST.out]; simp [hf]
          clear hf HST
          go_wp2_with fail
          go_roundw
          case rel => exact ⟨d + 1, rz, A2, cap2, by omega, by go_num, rfl, HZ.out, HB.out, HLn.out, HN2.out⟩
          case measure => simp [intOf]; omega
        · have HBR : Hid (badR rz least most = ((firstAt (badK least most) rz).1 : Int)) := by show _ = _; simp [badR, hf]
          obtain ⟨x, hx⟩ : ∃ x, x = (firstAt (badK least most) rz).1 := ⟨_, rfl⟩
          have hR2 : Hid (keepsR zs day n least most = ((d : Int), (x : Int), 0)) := by
            show _ = _
            rw [HK.out, HST.out]; simp [hf, hx]
          rw [HBR.out, ← hx]
          rw [← hx] at HBR
          clear hx hf HST
          go_wp2_with fail
          refine (bad_any rz least most A2 cap2 _ HZ.out HLn.out).mono ?_
          rintro r wx ⟨rfl, rfl⟩
          rw [HBR.out]
          go_wp2_with fail
          go_ret3
          rw [hR2.out]; exact ⟨rfl, HB.out⟩
      · have hR2 : Hid (keepsR zs day n least most = (0, 0, e)) := by
          show _ = _
          rw [HK.out, HST.out]; simp [h0]
        have hne : (e != 0) = true := by simpa using h0
        clear h0 HST
        go_wp2_with fail
        go_ret3
        rw [hR2.out]; exact ⟨rfl, HB.out⟩
    · have hR2 : Hid (keepsR zs day n least most = (0, 0, 4)) := by
        show _ = _
        rw [HK.out, HE.out.2.2.2, show n - d = 0 by omega]; rfl
      have hdI : ¬ (d : Int) < n := by omega
      have hdd : decide ((d : Int) < n) = false := by simpa using hdI
      go_wp2_with fail
      go_ret3
      rw [hR2.out]; exact ⟨rfl, HE.out.2.1⟩
end Go.Proofs.Ytogabjlhecnbbaa

/- The law IceHolds. -/
import Derived.Test.YtogabjlhecnbbaaHoldsA
import Derived.Deep.DeepCutAuto
import Derived.Deep.Cut
import Derived.Deep.CutRange
namespace Go.Proofs.Ytogabjlhecnbbaa
open Go.RowKit Go.Shelf
set_option maxRecDepth 100000 in
set_option maxHeartbeats 8000000 in
theorem holds_any (days least most weight more : Int) (zs : List Zn) (ts : List (Int × Int)) (path : List Int) (day : List Ev) (A A1 A2 A3 : Option Addr) (cap cap1 cap2 cap3 : Nat) (w : World)
    (hz : ZRow w w.heap.size A zs) (ht : BRow w w.heap.size A1 ts) (hp : IRow w w.heap.size A2 path) (he : ERow w w.heap.size A3 day)
    (hl : zs.length ≤ 9223372036854775807) (hl1 : ts.length ≤ 9223372036854775807) (hl2 : path.length ≤ 9223372036854775807) (hl3 : day.length ≤ 9223372036854775807) (hm0 : 0 ≤ more) (hm1 : more ≤ 255) (hreach : zs.length * 32 ≤ 140737488351232) :
    Calls Try.prog 10 #[.slice A zs.length cap, .slice A3 day.length cap3, iv days, iv least, iv most, .slice A1 ts.length cap1, .slice A2 path.length cap2, iv weight, .int .u8 more] w fun e w' => e = .returned (.bool true) ∧ Below w.heap.size w w' := by
  by_cases h1 : 12 < (day.length : Int)
  · skip
    go_enter Try.func10, Try.ntmps10
    go_wp2_with fail
    refine (alive_any _).mono ?_
    rintro e wb ⟨rfl, hb⟩
    go_wp2_with fail
    go_ret
    exact ⟨rfl, hb⟩
  have h1' : decide (12 < (day.length : Int)) = false := by simpa using h1
  by_cases h2 : 40 < days
  · skip
    go_enter Try.func10, Try.ntmps10
    go_wp2_with fail
    refine (alive_any _).mono ?_
    rintro e wb ⟨rfl, hb⟩
    go_wp2_with fail
    go_ret
    exact ⟨rfl, hb⟩
  have h2' : decide (40 < days) = false := by simpa using h2
  by_cases h3 : 20 < (ts.length : Int)
  · skip
    go_enter Try.func10, Try.ntmps10
    go_wp2_with fail
    refine (alive_any _).mono ?_
    rintro e wb ⟨rfl, hb⟩
    go_wp2_with fail
    go_ret
    exact ⟨rfl, hb⟩
  have h3' : decide (20 < (ts.length : Int)) = false := by simpa using h3
  by_cases h4 : 40 < (path.length : Int)
  · skip
    go_enter Try.func10, Try.ntmps10
    go_wp2_with fail
    refine (alive_any _).mono ?_
    rintro e wb ⟨rfl, hb⟩
    go_wp2_with fail
    go_ret
    exact ⟨rfl, hb⟩
  have h4' : decide (40 < (path.length : Int)) = false := by simpa using h4
  obtain ⟨⟨d, z, e⟩, hK⟩ : ∃ R, R = keepsR zs day days least most := ⟨_, rfl⟩
  go_enter Try.func10, Try.ntmps10
  go_wp2_with fail
  refine (keeps_any zs day days least most A A3 cap cap3 w hz he hl hl3).mono ?_
  rintro r wa ⟨rfl, hba⟩
  rw [← hK]
  simp only [triR]
  have HK := Lib.hid hK
  clear hK h1' h2' h3' h4' h1 h3 h4
  go_upto_region 4 with fail
  go_cut [85] (fun s85 wx => s85 = .bool (holdC zs days least most) ∧ Below w.heap.size w wx)
  case first =>
    cases hr : rinkOk zs
    · as_aux_lemma =>
        have HC : Hid (holdC zs days least most = false) := by show _ = _; simp [holdC, hr]
        go_wp2_with fail
        refine (rinkR_any zs A cap _ (hz.step hba) hl).mono ?_
        rintro r wb ⟨rfl, hb⟩
        rw [hr]
        go_wp2_with fail
        go_meet
        exact ⟨by rw [HC.out], belowT hba hb⟩
    by_cases q1 : 0 ≤ days
    rotate_left
    · as_aux_lemma =>
        have HC : Hid (holdC zs days least most = false) := by show _ = _; simp [holdC, q1]
        have q1' : decide (0 ≤ days) = false := by simpa using q1
        go_wp2_with fail
        refine (rinkR_any zs A cap _ (hz.step hba) hl).mono ?_
        rintro r wb ⟨rfl, hb⟩
        rw [hr]
        go_wp2_with fail
        go_meet
        exact ⟨by rw [HC.out], belowT hba hb⟩
    by_cases q2 : 0 ≤ least
    rotate_left
    · as_aux_lemma =>
        have HC : Hid (holdC zs days least most = false) := by show _ = _; simp [holdC, q2]
        have q2' : decide (0 ≤ least) = false := by simpa using q2
        go_wp2_with fail
        refine (rinkR_any zs A cap _ (hz.step hba) hl).mono ?_
        rintro r wb ⟨rfl, hb⟩
        rw [hr]
        go_wp2_with fail
        go_meet
        exact ⟨by rw [HC.out], belowT hba hb⟩
    by_cases q3 : least ≤ most
    rotate_left
    · as_aux_lemma =>
        have HC : Hid (holdC zs days least most = false) := by show _ = _; simp [holdC, q3]
        have q3' : decide (least ≤ most) = false := by simpa using q3
        go_wp2_with fail
        refine (rinkR_any zs A cap _ (hz.step hba) hl).mono ?_
        rintro r wb ⟨rfl, hb⟩
        rw [hr]
        go_wp2_with fail
        go_meet
        exact ⟨by rw [HC.out], belowT hba hb⟩
    by_cases q4 : most ≤ 20000
    rotate_left
    · as_aux_lemma =>
        have HC : Hid (holdC zs days least most = false) := by show _ = _; simp [holdC, q4]
        have q4' : decide (most ≤ 20000) = false := by simpa using q4
        go_wp2_with fail
        refine (rinkR_any zs A cap _ (hz.step hba) hl).mono ?_
        rintro r wb ⟨rfl, hb⟩
        rw [hr]
        go_wp2_with fail
        go_meet
        exact ⟨by rw [HC.out], belowT hba hb⟩
    have HC : Hid (holdC zs days least most = true) := by show _ = _; simp [holdC, hr, q1, q2, q3, q4]
    go_wp2_with fail
    refine (rinkR_any zs A cap _ (hz.step hba) hl).mono ?_
    rintro r wb ⟨rfl, hb⟩
    rw [hr]
    go_wp2_with fail
    go_meet
    exact ⟨by rw [HC.out], belowT hba hb⟩
  case rest =>
    obtain ⟨rfl, hb0⟩ := hcut
    clear hba
    go_upto_if 85 with fail
    go_cut [] (fun wx => Below w.heap.size w wx)
    case first =>
      cases hC : holdC zs days least most
      · have hE := holdC_no (by omega) hC HK.out
        have e0 : (e == 0) = false := by simp; omega
        have e4 : (e == 4) = false := by simp; omega
        clear hE hC
        go_wp2_with fail
        go_meet
        exact hb0
      · obtain ⟨hKL, hd0⟩ := holdC_yes (day := day) (by omega) hC
        obtain ⟨n, rfl⟩ := Int.eq_ofNat_of_zero_le hd0
        have HKL : Hid (keepsL day least most n 0 zs = (d, z, e)) := by show _ = _; rw [HK.out, hKL]; rfl
        have hsp := fun h => keepsL_spec day least most n 0 zs d z e HKL.out h
        clear hKL hC HK
        have hn40 : n ≤ 40 := by omega
        have HSP := Lib.hid hsp
        clear hsp
        go_upto_if 89 with fail
        go_cut [23] (fun s23 wx => ∃ L : Nat, s23 = iv L ∧ (e = 0 → (L : Int) = d + 1) ∧ (e ≠ 0 → L = n) ∧ L ≤ n ∧ Below w.heap.size w wx)
        case first =>
          by_cases e0 : e = 0
          · as_aux_lemma =>
              subst e0
              obtain ⟨s1, s2, s3, s4⟩ := HSP.out rfl
              obtain ⟨dn, rfl⟩ := Int.eq_ofNat_of_zero_le (show 0 ≤ d by omega)
              have q1 : decide (((dn : Nat) : Int) < 0) = false := by simp
              have q2 : decide ((n : Int) ≤ ((dn : Nat) : Int)) = false := by simp; omega
              go_wp2_with fail
              go_meet
              exact ⟨dn + 1, by go_num, fun _ => by omega, fun h => absurd rfl h, by omega, hb0⟩
          · as_aux_lemma =>
              have hne : (e == 0) = false := by simpa using e0
              go_wp2_with fail
              go_meet
              exact ⟨n, rfl, fun h => absurd h e0, fun _ => rfl, Nat.le_refl _, hb0⟩
        case rest =>
          obtain ⟨L, rfl, hL0, hL1, hLn, hb1⟩ := hcut
          have HL := Lib.hid (And.intro hL0 hL1)
          clear hL0 hL1 hb0
          go_wp2_with fail
          go_loopw [100, 22] (fun t sl wr => ∃ (i : Nat) (zz : List Zn) (A0 : Option Addr) (cap0 : Nat), i ≤ L ∧ t = .int .i64 i ∧ sl = .slice A0 zz.length cap0 ∧ Hid (ZRow wr wr.heap.size A0 zz ∧ Below w.heap.size w wr ∧ zz.length ≤ zs.length ∧ (i < L ∨ e ≠ 0 → keepsL day least most (n - i) i zz = (d, z, e)))) (fun t _ _ => L - (intOf t).toNat)
          case atStart => exact ⟨0, zs, A, cap, Nat.zero_le _, rfl, rfl, hz.step hb1, hb1, Nat.le_refl _, fun _ => HKL.out⟩
          case round =>
            obtain ⟨i, zz, A0, cap0, hiL, rfl, rfl, HE⟩ := hrel
            by_cases hlt : i < L
            · have hiI : (i : Int) < L := by omega
              have hkl := HE.out.2.2.2 (.inl hlt)
              rw [show n - i = (n - (i + 1)) + 1 by omega] at hkl
              unfold keepsL at hkl
              have HKi := Lib.hid hkl
              clear hkl
              go_wp2_with fail
              refine (play_any zz day A0 cap0 A3 cap3 wr HE.out.1 (he.step HE.out.2.1) (by have := HE.out.2.2.1; omega) hl3).mono ?_
              intro r wc hp'
              obtain ⟨A5, cap5, rfl, hb, hz5⟩ := play_row hp'
              clear hp'
              have hlen := Nat.le_trans (playR_len zz day) HE.out.2.2.1
              obtain ⟨⟨rz, s, pi, f⟩, hR⟩ : ∃ R, R = playR zz day := ⟨_, rfl⟩
              rw [← hR] at hz5 hlen HKi ⊢
              simp only at hz5 hlen HKi ⊢
              clear hR
              have HB := Lib.hid (belowT (belowT HE.out.2.1 hb) (below1 wc (.cells #[iv s.f1, iv s.f2, iv s.p1, iv s.p2, iv s.w1, iv s.w2] 29)))
              have HZ := Lib.hid (hz5.step (below1 wc (.cells #[iv s.f1, iv s.f2, iv s.p1, iv s.p2, iv s.w1, iv s.w2] 29)))
              have HLe := Lib.hid hlen
              clear hb hz5 HE hlen
              by_cases f0 : f = 0
              · subst f0
                cases hf : (firstAt (badK least most) rz).2
                · have HN := Lib.hid (firstAt_none hf).2
                  have HKn : Hid (keepsL day least most (n - (i + 1)) (i + 1) rz = (d, z, e)) := by
                    show _ = _
                    have := HKi.out
                    simpa [hf] using this
                  have hed : e = 0 → (i : Int) ≠ d := fun h => by
                    have := keepsL_spec day least most _ _ _ d z e HKn.out h
                    omega
                  clear HKi hf
                  have hrzl : rz.length ≤ 9223372036854775807 := by have := HLe.out; omega
                  go_wp2_with fail
                  go_loopw [129] (fun t wr => ∃ k : Nat, k ≤ rz.length ∧ t = .int .i64 k ∧ Hid (Below w.heap.size w wr ∧ ZRow wr wr.heap.size A5 rz)) (fun t _ => rz.length - (intOf t).toNat)
                  case atStart => exact ⟨0, Nat.zero_le _, rfl, HB.out, HZ.out⟩
                  case round =>
                    obtain ⟨k, hk, rfl, HQ⟩ := hrel
                    by_cases hk2 : k < rz.length
                    · obtain ⟨g, o, rfl, hg, c0, c1, c2, c3⟩ := HQ.out.2 k hk2
                      have hkI : (k : Int) < rz.length := by omega
                      have HQ2 : Hid (Below w.heap.size w (wr.alloc (.cells #[iv rz[k].a, iv rz[k].b, iv rz[k].c, iv rz[k].d] 60)) ∧ ZRow (wr.alloc (.cells #[iv rz[k].a, iv rz[k].b, iv rz[k].c, iv rz[k].d] 60)) (wr.alloc (.cells #[iv rz[k].a, iv rz[k].b, iv rz[k].c, iv rz[k].d] 60)).heap.size (some ⟨g, o, none⟩) rz) := ⟨belowT HQ.out.1 (below1 _ _), HQ.out.2.step (below1 _ _)⟩
                      have hbad := HN.out k hk2
                      simp only [badK, Bool.or_eq_false_iff] at hbad
                      obtain ⟨b1, b2⟩ := hbad
                      by_cases e0 : e = 0
                      · as_aux_lemma =>
                          have hid : ((i : Int) == d) = false := by simpa using hed e0
                          have e0' : (e == 0) = true := by simpa using e0
                          clear e0
                          go_wp2_with fail
                          go_roundw
                          case rel => exact ⟨k + 1, by omega, by go_num, HQ2.out⟩
                          case measure => simp [intOf]; omega
                      · as_aux_lemma =>
                          have e0' : (e == 0) = false := by simpa using e0
                          go_wp2_with fail
                          go_roundw
                          case rel => exact ⟨k + 1, by omega, by go_num, HQ2.out⟩
                          case measure => simp [intOf]; omega
                    · as_aux_lemma =>
                        go_wp2_with fail
                        go_roundw
                        case rel => exact ⟨i + 1, rz, A5, cap5, by omega, by go_num, rfl, HQ.out.2, HQ.out.1, HLe.out, fun _ => HKn.out⟩
                        case measure => simp [intOf]; omega
                · obtain ⟨hzl, hzb, hzn⟩ := firstAt_spec hf
                  have hdz : d = (i : Int) ∧ z = ((firstAt (badK least most) rz).1 : Int) ∧ e = 0 := by
                    have := HKi.out
                    simp [hf] at this
                    omega
                  obtain ⟨z0, hz0⟩ : ∃ z0, z0 = (firstAt (badK least most) rz).1 := ⟨_, rfl⟩
                  have hzf : ∃ hl : z0 < rz.length, badK least most rz[z0] = true ∧ ∀ j (hj : j < rz.length), j < z0 → badK least most rz[j] = false := by
                    subst hz0; exact ⟨hzl, hzb, hzn⟩
                  rw [← hz0] at hdz
                  clear hz0 hzl hzb hzn hf HKi
                  obtain ⟨hd, hzz, he0⟩ := hdz
                  have HF := Lib.hid hzf
                  have hLi := HL.out.1 he0
                  have e0' : (e == 0) = true := by simpa using he0
                  have e1' : (e != 0) = false := by simpa using he0
                  have hid : ((i : Int) == d) = true := by simp [hd]
                  have hid' : ((i : Int) != d) = false := by simp [hd]
                  have HZZ := Lib.hid hzz
                  have HDI := Lib.hid (And.intro hd he0)
                  clear hzf hd hzz
                  have hrzl : rz.length ≤ 9223372036854775807 := by have := HLe.out; omega
                  go_wp2_with fail
                  go_loopw [129] (fun t wr => ∃ k : Nat, k ≤ rz.length ∧ t = .int .i64 k ∧ Hid (Below w.heap.size w wr ∧ ZRow wr wr.heap.size A5 rz)) (fun t _ => rz.length - (intOf t).toNat)
                  case atStart => exact ⟨0, Nat.zero_le _, rfl, HB.out, HZ.out⟩
                  case round =>
                    obtain ⟨k, hk, rfl, HQ⟩ := hrel
                    by_cases hk2 : k < rz.length
                    · obtain ⟨g, o, rfl, hg, c0, c1, c2, c3⟩ := HQ.out.2 k hk2
                      have hkI : (k : Int) < rz.length := by omega
                      have HQ2 : Hid (Below w.heap.size w (wr.alloc (.cells #[iv rz[k].a, iv rz[k].b, iv rz[k].c, iv rz[k].d] 60)) ∧ ZRow (wr.alloc (.cells #[iv rz[k].a, iv rz[k].b, iv rz[k].c, iv rz[k].d] 60)) (wr.alloc (.cells #[iv rz[k].a, iv rz[k].b, iv rz[k].c, iv rz[k].d] 60)).heap.size (some ⟨g, o, none⟩) rz) := ⟨belowT HQ.out.1 (below1 _ _), HQ.out.2.step (below1 _ _)⟩
                      rcases Nat.lt_trichotomy k z0 with hc | hc | hc
                      · as_aux_lemma =>
                          obtain ⟨hl0, hb0, hn0⟩ := HF.out
                          have hbad := hn0 k hk2 hc
                          clear hb0 hn0
                          simp only [badK, Bool.or_eq_false_iff] at hbad
                          obtain ⟨b1, b2⟩ := hbad
                          have hkz : ((k : Int) == z) = false := by rw [HZZ.out]; simp; omega
                          go_wp2_with fail
                          go_roundw
                          case rel => exact ⟨k + 1, by omega, by go_num, HQ2.out⟩
                          case measure => simp [intOf]; omega
                      · as_aux_lemma =>
                          subst hc
                          obtain ⟨hl0, hbad, hn0⟩ := HF.out
                          clear hn0
                          simp only [badK, Bool.or_eq_true] at hbad
                          have hkz : decide ((k : Int) < z) = false := by rw [HZZ.out]; simp
                          cases b1 : decide (rz[k].a < least)
                          · have b2 : decide (most < rz[k].b) = true := by simpa [b1] using hbad
                            clear hbad
                            go_wp2_with fail
                            go_roundw
                            case rel => exact ⟨k + 1, by omega, by go_num, HQ2.out⟩
                            case measure => simp [intOf]; omega
                          · clear hbad
                            go_wp2_with fail
                            go_roundw
                            case rel => exact ⟨k + 1, by omega, by go_num, HQ2.out⟩
                            case measure => simp [intOf]; omega
                      · as_aux_lemma =>
                          have hkz : ((k : Int) == z) = false := by rw [HZZ.out]; simp; omega
                          have hkl : decide ((k : Int) < z) = false := by rw [HZZ.out]; simp; omega
                          cases b1 : decide (rz[k].a < least)
                          · cases b2 : decide (most < rz[k].b)
                            · skip
                              go_wp2_with fail
                              go_roundw
                              case rel => exact ⟨k + 1, by omega, by go_num, HQ2.out⟩
                              case measure => simp [intOf]; omega
                            · skip
                              go_wp2_with fail
                              go_roundw
                              case rel => exact ⟨k + 1, by omega, by go_num, HQ2.out⟩
                              case measure => simp [intOf]; omega
                          · skip
                            go_wp2_with fail
                            go_roundw
                            case rel => exact ⟨k + 1, by omega, by go_num, HQ2.out⟩
                            case measure => simp [intOf]; omega
                    · as_aux_lemma =>
                        go_wp2_with fail
                        go_roundw
                        case rel => exact ⟨i + 1, rz, A5, cap5, by omega, by go_num, rfl, HQ.out.2, HQ.out.1, HLe.out, fun h => absurd h (by have := HDI.out; omega)⟩
                        case measure => simp [intOf]; omega
              · as_aux_lemma =>
                  have hdz : d = 0 ∧ z = 0 ∧ e = f := by
                    have := HKi.out
                    simp [f0] at this
                    omega
                  obtain ⟨rfl, rfl, rfl⟩ := hdz
                  have hne : (e != 0) = true := by simpa using f0
                  clear f0 HKi
                  go_wp2_with fail
                  refine (alive_any _).mono ?_
                  rintro r wx ⟨rfl, hb⟩
                  have HE := Lib.hid (belowT HB.out hb)
                  go_wp2_with fail
                  go_ret
                  exact ⟨rfl, HE.out⟩
            · have hiLe : i = L := by omega
              subst hiLe
              have hiI : ¬ (i : Int) < i := by omega
              by_cases e0 : e = 0
              · as_aux_lemma =>
                  subst e0
                  obtain ⟨s1, s2, s3, s4⟩ := HSP.out rfl
                  have q1 : decide (d < 0) = false := by simp; omega
                  have q2 : decide ((n : Int) ≤ d) = false := by simp; omega
                  have q3 : decide (z < 0) = false := by simp; omega
                  have q4 : decide ((zs.length : Int) ≤ z) = false := by simp; omega
                  clear s1 s2 s3 s4
                  go_wp2_with fail
                  go_meet
                  exact HE.out.2.1
              · as_aux_lemma =>
                  have hk4 : e = 4 := by
                    have := HE.out.2.2.2 (.inr e0)
                    rw [show n - i = 0 by have := HL.out.2 e0; omega] at this
                    simp only [keepsL, Prod.mk.injEq] at this
                    omega
                  subst hk4
                  go_wp2_with fail
                  go_meet
                  exact HE.out.2.1
    case rest => as_aux_lemma =>
        obtain ⟨i0, hi, hz0, hz1, hz2⟩ := info_parts Try.info60
        have hb1 := hcut
        clear hcut hb0
        go_wp2_with fail
        refine (breaks_any zs ts path weight A A1 A2 cap cap1 cap2 wc (hz.step hb1) (ht.step hb1) (hp.step hb1) hl hl1 hl2).mono ?_
        rintro r wd ⟨rfl, hb⟩
        have HTK := Lib.hid (breaks_tk zs ts path weight more hm0 hm1)
        obtain ⟨⟨fa, fe⟩, hB⟩ : ∃ R, R = breaksR zs ts path weight := ⟨_, rfl⟩
        rw [← hB] at HTK ⊢
        simp only [pairR]
        simp only at HTK
        have hb2 := belowT hb1 hb
        clear hB hb hb1
        go_wp2_with fail
        go_loopw [227, 34] (fun t v wr => ∃ k : Nat, k ≤ zs.length ∧ t = .int .i64 k ∧ Hid (Below w.heap.size w wr ∧ wr.ownsRow w.heap.size 60 4 v k (flat ((zs.take k).map (tk more))).toList)) (fun t _ _ => zs.length - (intOf t).toNat)
        case atStart => exact ⟨0, Nat.zero_le _, rfl, hb2, World.ownsRow_nil _ _ _ _⟩
        case round =>
          obtain ⟨k, hk, rfl, HO⟩ := hrel
          by_cases hlt : k < zs.length
          · obtain ⟨g, o, rfl, hg, c0, c1, c2, c3⟩ := hz k hlt
            rw [← HO.out.1.cell (p := ⟨g, _, none⟩) hg] at c0 c1 c2 c3
            have hgr : g < wr.heap.size := Nat.lt_of_lt_of_le hg HO.out.1.size
            have hkI : (k : Int) < zs.length := by omega
            obtain ⟨X1, hX1⟩ : ∃ X1, IntKind.i64.wrap (zs[k].a + more) = X1 := ⟨_, rfl⟩
            obtain ⟨X2, hX2⟩ : ∃ X2, IntKind.i64.wrap (zs[k].b + more) = X2 := ⟨_, rfl⟩
            rcases Int.lt_or_le X1 20000 with q1 | q1
            · rcases Int.lt_or_le X2 20000 with q2 | q2
              · as_aux_lemma =>
                  skip
                  skip
                  have HT : Hid (tk more zs[k] = ⟨X1, X2, zs[k].c, zs[k].d⟩) := by
                    show _ = _
                    simp only [tk, hX1, hX2]
                    rw [Int.min_eq_right (by omega), Int.min_eq_right (by omega)]
                  go_wp2_with (first
                    | (go_at_call 28; refine (span_any _ _ _).mono ?_; rintro e' w' ⟨rfl, rfl⟩)
                    | (at_builtin; refine wpList_append_own _ rfl _ _ 22 rfl w.heap.size 60 i0 (.agg #[iv 0, iv 0, iv 0, iv 0]) 4 32 Try.underlying22 hi hz0 hz1 hz2 rfl (by decide) _ _ _ rfl (((HO.out.2.alloc _).alloc _).alloc _) ⟨wr.heap.size + 1 + 1, 0, none⟩ 1 1 [iv X1, iv X2, iv zs[k].c, iv zs[k].d] rfl rfl ?c1 ?c2 ?c3 ?c4 ?c5 ?_))
                  case c1 =>
                    have := cell_four_new ((wr.alloc (.cells #[iv X1, iv X2, iv zs[k].c, iv zs[k].d] 60)).alloc (.cells #[iv X1, iv X2] 27)) (iv X1) (iv X2) (iv zs[k].c) (iv zs[k].d) 60
                    simpa using this
                  case c2 => simp [Value.oneCell']
                  case c3 => unfold maxLen; omega
                  case c4 => omega
                  case c5 => have := HO.out.1.size; simp; omega
                  intro v' w1 hown' hgrow _
                  have hs0 := HO.out.1.size
                  have hb1 : Below w.heap.size w w1 := (((HO.out.1.alloc hs0 _).alloc (by simp; omega) _).alloc (by simp; omega) _).grown hgrow (by simp; omega) (own_low HO.out.2)
                  have HO2 : Hid (Below w.heap.size w w1 ∧ w1.ownsRow w.heap.size 60 4 v' (k + 1) (flat ((zs.take (k + 1)).map (tk more))).toList) :=
                    ⟨hb1, by rw [tk_snoc hlt, flat_snoc, HT.out]; simpa [List.map_take] using hown'⟩
                  clear hown' hgrow hb1 HT
                  go_wp2_with fail
                  go_roundw
                  case rel => exact ⟨k + 1, by omega, by go_num, HO2.out⟩
                  case measure => simp [intOf]; omega
              · as_aux_lemma =>
                  skip
                  skip
                  have HT : Hid (tk more zs[k] = ⟨X1, 20000, zs[k].c, zs[k].d⟩) := by
                    show _ = _
                    simp only [tk, hX1, hX2]
                    rw [Int.min_eq_right (by omega), Int.min_eq_left (by omega)]
                  go_wp2_with (first
                    | (go_at_call 28; refine (span_any _ _ _).mono ?_; rintro e' w' ⟨rfl, rfl⟩)
                    | (at_builtin; refine wpList_append_own _ rfl _ _ 22 rfl w.heap.size 60 i0 (.agg #[iv 0, iv 0, iv 0, iv 0]) 4 32 Try.underlying22 hi hz0 hz1 hz2 rfl (by decide) _ _ _ rfl (((HO.out.2.alloc _).alloc _).alloc _) ⟨wr.heap.size + 1 + 1, 0, none⟩ 1 1 [iv X1, iv 20000, iv zs[k].c, iv zs[k].d] rfl rfl ?c1 ?c2 ?c3 ?c4 ?c5 ?_))
                  case c1 =>
                    have := cell_four_new ((wr.alloc (.cells #[iv X1, iv 20000, iv zs[k].c, iv zs[k].d] 60)).alloc (.cells #[iv X1, iv 20000] 27)) (iv X1) (iv 20000) (iv zs[k].c) (iv zs[k].d) 60
                    simpa using this
                  case c2 => simp [Value.oneCell']
                  case c3 => unfold maxLen; omega
                  case c4 => omega
                  case c5 => have := HO.out.1.size; simp; omega
                  intro v' w1 hown' hgrow _
                  have hs0 := HO.out.1.size
                  have hb1 : Below w.heap.size w w1 := (((HO.out.1.alloc hs0 _).alloc (by simp; omega) _).alloc (by simp; omega) _).grown hgrow (by simp; omega) (own_low HO.out.2)
                  have HO2 : Hid (Below w.heap.size w w1 ∧ w1.ownsRow w.heap.size 60 4 v' (k + 1) (flat ((zs.take (k + 1)).map (tk more))).toList) :=
                    ⟨hb1, by rw [tk_snoc hlt, flat_snoc, HT.out]; simpa [List.map_take] using hown'⟩
                  clear hown' hgrow hb1 HT
                  go_wp2_with fail
                  go_roundw
                  case rel => exact ⟨k + 1, by omega, by go_num, HO2.out⟩
                  case measure => simp [intOf]; omega
            · rcases Int.lt_or_le X2 20000 with q2 | q2
              · as_aux_lemma =>
                  skip
                  skip
                  have HT : Hid (tk more zs[k] = ⟨20000, X2, zs[k].c, zs[k].d⟩) := by
                    show _ = _
                    simp only [tk, hX1, hX2]
                    rw [Int.min_eq_left (by omega), Int.min_eq_right (by omega)]
                  go_wp2_with (first
                    | (go_at_call 28; refine (span_any _ _ _).mono ?_; rintro e' w' ⟨rfl, rfl⟩)
                    | (at_builtin; refine wpList_append_own _ rfl _ _ 22 rfl w.heap.size 60 i0 (.agg #[iv 0, iv 0, iv 0, iv 0]) 4 32 Try.underlying22 hi hz0 hz1 hz2 rfl (by decide) _ _ _ rfl (((HO.out.2.alloc _).alloc _).alloc _) ⟨wr.heap.size + 1 + 1, 0, none⟩ 1 1 [iv 20000, iv X2, iv zs[k].c, iv zs[k].d] rfl rfl ?c1 ?c2 ?c3 ?c4 ?c5 ?_))
                  case c1 =>
                    have := cell_four_new ((wr.alloc (.cells #[iv 20000, iv X2, iv zs[k].c, iv zs[k].d] 60)).alloc (.cells #[iv 20000, iv X2] 27)) (iv 20000) (iv X2) (iv zs[k].c) (iv zs[k].d) 60
                    simpa using this
                  case c2 => simp [Value.oneCell']
                  case c3 => unfold maxLen; omega
                  case c4 => omega
                  case c5 => have := HO.out.1.size; simp; omega
                  intro v' w1 hown' hgrow _
                  have hs0 := HO.out.1.size
                  have hb1 : Below w.heap.size w w1 := (((HO.out.1.alloc hs0 _).alloc (by simp; omega) _).alloc (by simp; omega) _).grown hgrow (by simp; omega) (own_low HO.out.2)
                  have HO2 : Hid (Below w.heap.size w w1 ∧ w1.ownsRow w.heap.size 60 4 v' (k + 1) (flat ((zs.take (k + 1)).map (tk more))).toList) :=
                    ⟨hb1, by rw [tk_snoc hlt, flat_snoc, HT.out]; simpa [List.map_take] using hown'⟩
                  clear hown' hgrow hb1 HT
                  go_wp2_with fail
                  go_roundw
                  case rel => exact ⟨k + 1, by omega, by go_num, HO2.out⟩
                  case measure => simp [intOf]; omega
              · as_aux_lemma =>
                  skip
                  skip
                  have HT : Hid (tk more zs[k] = ⟨20000, 20000, zs[k].c, zs[k].d⟩) := by
                    show _ = _
                    simp only [tk, hX1, hX2]
                    rw [Int.min_eq_left (by omega), Int.min_eq_left (by omega)]
                  go_wp2_with (first
                    | (go_at_call 28; refine (span_any _ _ _).mono ?_; rintro e' w' ⟨rfl, rfl⟩)
                    | (at_builtin; refine wpList_append_own _ rfl _ _ 22 rfl w.heap.size 60 i0 (.agg #[iv 0, iv 0, iv 0, iv 0]) 4 32 Try.underlying22 hi hz0 hz1 hz2 rfl (by decide) _ _ _ rfl (((HO.out.2.alloc _).alloc _).alloc _) ⟨wr.heap.size + 1 + 1, 0, none⟩ 1 1 [iv 20000, iv 20000, iv zs[k].c, iv zs[k].d] rfl rfl ?c1 ?c2 ?c3 ?c4 ?c5 ?_))
                  case c1 =>
                    have := cell_four_new ((wr.alloc (.cells #[iv 20000, iv 20000, iv zs[k].c, iv zs[k].d] 60)).alloc (.cells #[iv 20000, iv 20000] 27)) (iv 20000) (iv 20000) (iv zs[k].c) (iv zs[k].d) 60
                    simpa using this
                  case c2 => simp [Value.oneCell']
                  case c3 => unfold maxLen; omega
                  case c4 => omega
                  case c5 => have := HO.out.1.size; simp; omega
                  intro v' w1 hown' hgrow _
                  have hs0 := HO.out.1.size
                  have hb1 : Below w.heap.size w w1 := (((HO.out.1.alloc hs0 _).alloc (by simp; omega) _).alloc (by simp; omega) _).grown hgrow (by simp; omega) (own_low HO.out.2)
                  have HO2 : Hid (Below w.heap.size w w1 ∧ w1.ownsRow w.heap.size 60 4 v' (k + 1) (flat ((zs.take (k + 1)).map (tk more))).toList) :=
                    ⟨hb1, by rw [tk_snoc hlt, flat_snoc, HT.out]; simpa [List.map_take] using hown'⟩
                  clear hown' hgrow hb1 HT
                  go_wp2_with fail
                  go_roundw
                  case rel => exact ⟨k + 1, by omega, by go_num, HO2.out⟩
                  case measure => simp [intOf]; omega
          · have hown := HO.out.2
            rw [show k = zs.length by omega, List.take_length] at hown
            obtain ⟨th, hth⟩ : ∃ th, th = zs.map (tk more) := ⟨_, rfl⟩
            have hthl : th.length = zs.length := by rw [hth]; simp
            have hthm : th.length ≤ 9223372036854775807 := by omega
            rw [← hth] at hown HTK
            rw [← hthl] at hown
            clear hth hthl
            obtain ⟨A9, cap9, rfl, -, hz9⟩ := own_zap (B := wr.heap.size) (zs := th) hown (fun _ g _ h => by omega)
            have HZ9 := Lib.hid hz9.row
            have hb3 := HO.out.1
            clear hown hz9 HO hb2
            go_wp2_with fail
            refine (breaks_any th ts path weight A9 A1 A2 cap9 cap1 cap2 wr HZ9.out (ht.step hb3) (hp.step hb3) hthm hl1 hl2).mono ?_
            rintro r wx ⟨rfl, hb⟩
            obtain ⟨⟨ga, ge⟩, hG⟩ : ∃ R, R = breaksR th ts path weight := ⟨_, rfl⟩
            rw [← hG] at HTK ⊢
            simp only [pairR]
            simp only at HTK
            have hbx := belowT hb3 hb
            clear hb hb3 hG HZ9
            by_cases f4 : fe = 4
            · as_aux_lemma =>
                have g4 := HTK.out.1 f4
                subst f4
                subst g4
                go_wp2_with fail
                refine (alive_any _).mono ?_
                rintro r wy ⟨rfl, hb'⟩
                have HE := Lib.hid (belowT hbx hb')
                go_wp2_with fail
                go_ret
                exact ⟨rfl, HE.out⟩
            have f4' : (fe == 4) = false := by simpa using f4
            by_cases f0 : fe = 0
            · rcases HTK.out.2 f0 with h4 | ⟨h0, hle⟩
              · as_aux_lemma =>
                  subst f0
                  subst h4
                  go_wp2_with fail
                  refine (alive_any _).mono ?_
                  rintro r wy ⟨rfl, hb'⟩
                  have HE := Lib.hid (belowT hbx hb')
                  go_wp2_with fail
                  go_ret
                  exact ⟨rfl, HE.out⟩
              · as_aux_lemma =>
                  subst f0
                  subst h0
                  have hle' : decide (fa ≤ ga) = true := by simpa using hle
                  go_wp2_with fail
                  refine (alive_any _).mono ?_
                  rintro r wy ⟨rfl, hb'⟩
                  have HE := Lib.hid (belowT hbx hb')
                  go_wp2_with fail
                  go_ret
                  exact ⟨rfl, HE.out⟩
            · as_aux_lemma =>
                have f0' : (fe != 0) = true := by simpa using f0
                clear f0 f4
                go_wp2_with fail
                refine (alive_any _).mono ?_
                rintro r wy ⟨rfl, hb'⟩
                have HE := Lib.hid (belowT hbx hb')
                go_wp2_with fail
                go_ret
                exact ⟨rfl, HE.out⟩
end Go.Proofs.Ytogabjlhecnbbaa

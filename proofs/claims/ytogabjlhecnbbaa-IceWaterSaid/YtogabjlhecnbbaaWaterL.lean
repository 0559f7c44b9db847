/- The law IceWater. -/
import Derived.Test.YtogabjlhecnbbaaWaterK
import Derived.Test.YtogabjlhecnbbaaWaters
import Derived.Deep.RegionHeld3
namespace Go.Proofs.Ytogabjlhecnbbaa
open Go.RowKit Go.Shelf

theorem keepsB_at {zs : List Zn} {w1 w2 p1 p2 least most : Int} {n : Nat} {x : Int} (h0 : 0 ≤ x) (h1 : x ≤ 20000) :
    keepsB w1 w2 p1 p2 least most n zs x = decide ((srch (low w1 w2 p1 p2 n least zs) 20001 : Int) ≤ x ∧ x < (srch (high w1 w2 p1 p2 n most zs) 20001 : Int)) := by
  obtain ⟨j, rfl⟩ := Int.eq_ofNat_of_zero_le h0
  have a := srch_iff (p := low w1 w2 p1 p2 n least zs) (n := 20001) (j := j) (fun x y hxy _ h => low_mono (by omega) h) (by omega)
  have b := srch_iff (p := high w1 w2 p1 p2 n most zs) (n := 20001) (j := j) (fun x y hxy _ h => high_mono (by omega) h) (by omega)
  rw [keepsB_eq, a, b]
  rw [Bool.eq_iff_iff]
  simp
structure WFacts (zs : List Zn) (w1 w2 p1 p2 passes least most ra rb re : Int) : Prop where
  zero : re ≠ 0 → ra = 0 ∧ rb = 0
  ok : re = 0 ∨ re = 4 → rinkOk zs = true ∧ win w1 w2 = true ∧ win p1 p2 = true ∧ 1 ≤ passes ∧ passes ≤ 100
  no : re = 4 → ∀ x, 0 ≤ x → x ≤ 20000 → keepsB w1 w2 p1 p2 least most passes.toNat zs x = false
  yes : re = 0 → (0 ≤ ra ∧ ra ≤ rb ∧ rb ≤ 20000) ∧ ∀ x, 0 ≤ x → x ≤ 20000 → keepsB w1 w2 p1 p2 least most passes.toNat zs x = decide (ra ≤ x ∧ x ≤ rb)
theorem water_facts {zs : List Zn} {w1 w2 p1 p2 passes least most ra rb re : Int} (h : (ra, rb, re) = waterR zs w1 w2 p1 p2 passes least most) : WFacts zs w1 w2 p1 p2 passes least most ra rb re := by
  have hs2 := srch_le (high w1 w2 p1 p2 passes.toNat most zs) 20001
  have hk := @keepsB_at zs w1 w2 p1 p2 least most passes.toNat
  unfold waterR at h
  dsimp only at h
  generalize srch (high w1 w2 p1 p2 passes.toNat most zs) 20001 = s2 at h hs2 hk
  generalize srch (low w1 w2 p1 p2 passes.toNat least zs) 20001 = s1 at h hk
  split at h
  · simp only [Prod.mk.injEq] at h
    obtain ⟨rfl, rfl, rfl⟩ := h
    exact ⟨fun _ => ⟨rfl, rfl⟩, by omega, by omega, by omega⟩
  rename_i ha
  split at h
  · simp only [Prod.mk.injEq] at h
    obtain ⟨rfl, rfl, rfl⟩ := h
    exact ⟨fun _ => ⟨rfl, rfl⟩, by omega, by omega, by omega⟩
  rename_i hb
  simp only [Bool.not_eq_false, Bool.and_eq_true, decide_eq_true_eq] at ha hb
  split at h
  · rename_i hs
    simp only [Prod.mk.injEq] at h
    obtain ⟨rfl, rfl, rfl⟩ := h
    refine ⟨fun _ => ⟨rfl, rfl⟩, fun _ => ⟨ha.1, ha.2.1, ha.2.2, hb.1⟩, fun _ x h0 h1 => ?_, by omega⟩
    rw [hk h0 h1]
    simp only [decide_eq_false_iff_not]
    omega
  · rename_i hs
    simp only [Prod.mk.injEq] at h
    obtain ⟨rfl, rfl, rfl⟩ := h
    refine ⟨by omega, fun _ => ⟨ha.1, ha.2.1, ha.2.2, hb.1⟩, by omega, fun _ => ⟨by omega, fun x h0 h1 => ?_⟩⟩
    rw [hk h0 h1, Bool.eq_iff_iff]
    simp only [decide_eq_true_eq]
    omega

theorem keep2 {w : World} {B : Nat} {x y : Int} (h : Has w B 27 #[iv x, iv y]) : w.cell? ⟨B, 0, none⟩ = some (iv x) ∧ w.cell? ⟨B, 1, none⟩ = some (iv y) := ⟨h.cell 0, h.cell 1⟩
theorem KBox.start (w : World) (A : Option Addr) (len cap : Nat) (w1 w2 p1 p2 passes least most : Int) :
    KBox ((((((w.alloc (.cells #[.slice A len cap] 22)).alloc (.cells #[.int .i64 w1, .int .i64 w2] 27)).alloc (.cells #[.int .i64 p1, .int .i64 p2] 27)).alloc (.cells #[iv passes] 3)).alloc (.cells #[iv least] 3)).alloc (.cells #[iv most] 3)) w.heap.size A len cap w1 w2 p1 p2 passes least most :=
  ⟨((((((Has.new _ _ _).alloc _).alloc _).alloc _).alloc _).alloc _), ((((Has.newAt (by simp)).alloc _).alloc _).alloc _).alloc _, (((Has.newAt (by simp)).alloc _).alloc _).alloc _, ((Has.newAt (by simp)).alloc _).alloc _, (Has.newAt (by simp)).alloc _, Has.newAt (by simp)⟩
theorem KBox.startB (w : World) (A : Option Addr) (len cap : Nat) (w1 w2 p1 p2 passes least most : Int) :
    Below w.heap.size w ((((((w.alloc (.cells #[.slice A len cap] 22)).alloc (.cells #[.int .i64 w1, .int .i64 w2] 27)).alloc (.cells #[.int .i64 p1, .int .i64 p2] 27)).alloc (.cells #[iv passes] 3)).alloc (.cells #[iv least] 3)).alloc (.cells #[iv most] 3)) :=
  (((((((Below.refl _ w).alloc (Nat.le_refl _) _).alloc (by simp) _).alloc (by simp; omega) _).alloc (by simp; omega) _).alloc (by simp; omega) _).alloc (by simp; omega) _)

set_option maxRecDepth 100000 in
set_option maxHeartbeats 4000000 in
theorem waterL_any (w1 w2 p1 p2 passes least most by' : Int) (zs : List Zn) (A : Option Addr) (cap : Nat) (w : World) (hz : ZRow w w.heap.size A zs) (hl : zs.length ≤ 9223372036854775807) (hby0 : 0 ≤ by') (hby1 : by' ≤ 65535) :
    Calls Try.prog 11 #[.slice A zs.length cap, sv w1 w2, sv p1 p2, iv passes, iv least, iv most, .int .u16 by'] w fun e w' => e = .returned (.bool true) ∧ Below w.heap.size w w' := by
  obtain ⟨W, hW⟩ : ∃ W, W = (((((w.alloc (.cells #[.slice A zs.length cap] 22)).alloc (.cells #[.int .i64 w1, .int .i64 w2] 27)).alloc (.cells #[.int .i64 p1, .int .i64 p2] 27)).alloc (.cells #[iv passes] 3)).alloc (.cells #[iv least] 3)).alloc (.cells #[iv most] 3) := ⟨_, rfl⟩
  have H0 : Hid (Below w.heap.size w W) := Lib.hid (by rw [hW]; exact KBox.startB ..)
  have HK : Hid (KBox W w.heap.size A zs.length cap w1 w2 p1 p2 passes least most) := Lib.hid (by rw [hW]; exact KBox.start ..)
  have HW := Lib.hid hW
  clear hW
  have hq := eq27s
  have hmf : ∀ (fn : Fn) (first cap : Array Value) (w : World), (Instr.makeFunc fn first cap).run Try.prog w = .ok (.func fn first cap) w := fun _ _ _ _ => rfl
  by_cases hp100 : 100 < passes
  · have hp30 : 30 < passes := by omega
    have hpd : decide (passes ≤ 100) = false := by simpa using hp100
    go_enter Try.func11, Try.ntmps11
    go_wp2_with fail
    all_goals rw [← HW.out]
    all_goals first
      | refine (alive_any _).mono ?_
        rintro e wb ⟨rfl, hb⟩
        go_wp2_with fail
        go_ret
        exact ⟨rfl, belowT H0.out hb⟩
      | skip
    clear HW
    obtain ⟨⟨ra, rb, re⟩, hR⟩ : ∃ R, R = waterR zs w1 w2 p1 p2 passes least most := ⟨_, rfl⟩
    have HF := Lib.hid (water_facts hR)
    have HR := Lib.hid hR
    clear hR
    refine (water_any w1 w2 p1 p2 passes least most zs A cap W ((hz.below H0.out).more H0.out.size) hl).mono ?_
    rintro e wa ⟨rfl, hb⟩
    rw [← HR.out]
    simp only [wRes]
    have HB1 := Lib.hid (belowT (belowT H0.out hb) (below1 wa (.cells #[.int .i64 ra, .int .i64 rb] 27)))
    have HKa := Lib.hid (HK.out.below hb)
    have HK1 := Lib.hid ((HK.out.below hb).below (below1 wa (.cells #[.int .i64 ra, .int .i64 rb] 27)))
    have HO1 : Hid (Has (wa.alloc (.cells #[.int .i64 ra, .int .i64 rb] 27)) wa.heap.size 27 #[iv ra, iv rb]) := Lib.hid (Has.new _ _ _)
    have HZ1 := Lib.hid ((hz.below HB1.out).more HB1.out.size)
    obtain ⟨w1', hw1'⟩ : ∃ w', w' = wa.alloc (.cells #[.int .i64 ra, .int .i64 rb] 27) := ⟨_, rfl⟩
    rw [← hw1'] at HB1 HK1 HO1 HZ1
    have HW1 := Lib.hid hw1'
    clear hw1' hb HR
    have h0 : re ≠ 0 := fun h => absurd (HF.out.ok (.inl h)).2.2.2.2 (by omega)
    have h4 : re ≠ 4 := fun h => absurd (HF.out.ok (.inr h)).2.2.2.2 (by omega)
    have hn0 : (re != 0) = true := by simpa using h0
    have hn4 : (re != 4) = true := by simpa using h4
    obtain ⟨rfl, rfl⟩ := HF.out.zero h0
    go_wp2_with fail
    rw [← HW1.out]
    refine (alive_any _).mono ?_
    rintro e wb ⟨rfl, hb⟩
    have HE := Lib.hid (belowT HB1.out hb)
    go_wp2_with fail
    go_ret
    exact ⟨rfl, HE.out⟩
  · have hp100' : passes ≤ 100 := by omega
    clear hp100
    go_enter Try.func11, Try.ntmps11
    go_wp2_with fail
    all_goals rw [← HW.out]
    all_goals first
      | refine (alive_any _).mono ?_
        rintro e wb ⟨rfl, hb⟩
        go_wp2_with fail
        go_ret
        exact ⟨rfl, belowT H0.out hb⟩
      | skip
    clear HW
    obtain ⟨⟨ra, rb, re⟩, hR⟩ : ∃ R, R = waterR zs w1 w2 p1 p2 passes least most := ⟨_, rfl⟩
    have HF := Lib.hid (water_facts hR)
    have HR := Lib.hid hR
    clear hR
    refine (water_any w1 w2 p1 p2 passes least most zs A cap W ((hz.below H0.out).more H0.out.size) hl).mono ?_
    rintro e wa ⟨rfl, hb⟩
    rw [← HR.out]
    simp only [wRes]
    have HB1 := Lib.hid (belowT (belowT H0.out hb) (below1 wa (.cells #[.int .i64 ra, .int .i64 rb] 27)))
    have HKa := Lib.hid (HK.out.below hb)
    have HK1 := Lib.hid ((HK.out.below hb).below (below1 wa (.cells #[.int .i64 ra, .int .i64 rb] 27)))
    have HO1 : Hid (Has (wa.alloc (.cells #[.int .i64 ra, .int .i64 rb] 27)) wa.heap.size 27 #[iv ra, iv rb]) := Lib.hid (Has.new _ _ _)
    have HZ1 := Lib.hid ((hz.below HB1.out).more HB1.out.size)
    obtain ⟨w1', hw1'⟩ : ∃ w', w' = wa.alloc (.cells #[.int .i64 ra, .int .i64 rb] 27) := ⟨_, rfl⟩
    rw [← hw1'] at HB1 HK1 HO1 HZ1
    have HW1 := Lib.hid hw1'
    clear hw1' hb HR
    by_cases h0 : re = 0
    · subst h0
      obtain ⟨y1, y2⟩ := HF.out.yes rfl
      obtain ⟨y0, y1, y3⟩ := y1
      have HY := Lib.hid y2
      clear y2
      obtain ⟨o1, o2, o3, o4, o5⟩ := HF.out.ok (.inl rfl)
      obtain ⟨n, rfl⟩ := Int.eq_ofNat_of_zero_le (show 0 ≤ passes by omega)
      have hY2 := HY.out
      simp only [Int.toNat_natCast] at hY2
      have HY2 := Lib.hid hY2
      clear hY2 HY
      have HL : Hid (zs.length ≤ 24 ∧ ∀ z ∈ zs, z.ok = true) := by
        have hr := o1
        simp only [rinkOk, Bool.and_eq_true, decide_eq_true_eq, List.all_eq_true] at hr
        exact ⟨hr.1.2, hr.2⟩
      have HP := Lib.hid (And.intro o2 o3)
      clear o2 o3
      have HM := Lib.hid hmf
      have HQ := Lib.hid hq
      clear hmf hq
      have e7 : wa.cell? ⟨w.heap.size, 0, none⟩ = some (.slice A zs.length cap) := HKa.out.h0.cell 0
      have el := HKa.out.h0.lt
      go_wp2_with fail
      clear e7 el
      rw [← HW1.out]
      refine (rinkR_any zs A cap w1' HZ1.out hl).mono ?_
      rintro e wb ⟨rfl, hb⟩
      rw [o1]
      have HB2 := Lib.hid (belowT HB1.out hb)
      have HK2 := Lib.hid (HK1.out.below hb)
      have HO2 := Lib.hid (HO1.out.below hb HO1.out.lt)
      have HZ2 := Lib.hid ((hz.below HB2.out).more HB2.out.size)
      clear hb
      have c0 : wb.cell? ⟨wa.heap.size, 0, none⟩ = some (iv ra) := HO2.out.cell 0
      have c1 : wb.cell? ⟨wa.heap.size, 1, none⟩ = some (iv rb) := HO2.out.cell 1
      have cl := HO2.out.lt
      have d3 : wb.cell? ⟨w.heap.size + 1 + 1 + 1, 0, none⟩ = some (iv n) := HK2.out.h3.cell 0
      have dl := HK2.out.h3.lt
      have hmf := HM.out
      have hq := HQ.out
      go_wp2_with fail
      have hv : Hid (keepsB w1 w2 p1 p2 least most n zs (ra) = true) := by
        show _ = _
        rw [HY2.out (ra) (by omega) (by omega)]
        simp only [decide_eq_true_eq]
        omega
      refine (keeps36_any w.heap.size w1 w2 p1 p2 (ra) least most n zs A cap _ HK2.out HZ2.out HL.out.1 (by omega) HL.out.2 HP.out.1 HP.out.2 (by omega) (by omega)).mono ?_
      rintro e wx3 ⟨rfl, hb⟩
      rw [hv.out]
      have HB3 := Lib.hid (belowT HB2.out hb)
      have HK3 := Lib.hid (HK2.out.below hb)
      have HO3 := Lib.hid (HO2.out.below hb HO2.out.lt)
      have HZ3 := Lib.hid ((hz.below HB3.out).more HB3.out.size)
      clear hb hv c0 c1 cl
      have c0 : wx3.cell? ⟨wa.heap.size, 0, none⟩ = some (iv ra) := HO3.out.cell 0
      have c1 : wx3.cell? ⟨wa.heap.size, 1, none⟩ = some (iv rb) := HO3.out.cell 1
      have cl := HO3.out.lt
      go_wp2_with fail
      have hv : Hid (keepsB w1 w2 p1 p2 least most n zs (rb) = true) := by
        show _ = _
        rw [HY2.out (rb) (by omega) (by omega)]
        simp only [decide_eq_true_eq]
        omega
      refine (keeps36_any w.heap.size w1 w2 p1 p2 (rb) least most n zs A cap _ HK3.out HZ3.out HL.out.1 (by omega) HL.out.2 HP.out.1 HP.out.2 (by omega) (by omega)).mono ?_
      rintro e wx4 ⟨rfl, hb⟩
      rw [hv.out]
      have HB4 := Lib.hid (belowT HB3.out hb)
      have HK4 := Lib.hid (HK3.out.below hb)
      have HO4 := Lib.hid (HO3.out.below hb HO3.out.lt)
      have HZ4 := Lib.hid ((hz.below HB4.out).more HB4.out.size)
      clear hb hv c0 c1 cl
      have c0 : wx4.cell? ⟨wa.heap.size, 0, none⟩ = some (iv ra) := HO4.out.cell 0
      have c1 : wx4.cell? ⟨wa.heap.size, 1, none⟩ = some (iv rb) := HO4.out.cell 1
      have cl := HO4.out.lt
      by_cases hra : 0 < ra
      · go_wp2_with fail
        have hv : Hid (keepsB w1 w2 p1 p2 least most n zs (ra - 1) = false) := by
          show _ = _
          rw [HY2.out (ra - 1) (by omega) (by omega)]
          simp only [decide_eq_false_iff_not]
          omega
        refine (keeps36_any w.heap.size w1 w2 p1 p2 (ra - 1) least most n zs A cap _ HK4.out HZ4.out HL.out.1 (by omega) HL.out.2 HP.out.1 HP.out.2 (by omega) (by omega)).mono ?_
        rintro e wx5 ⟨rfl, hb⟩
        rw [hv.out]
        have HB5 := Lib.hid (belowT HB4.out hb)
        have HK5 := Lib.hid (HK4.out.below hb)
        have HO5 := Lib.hid (HO4.out.below hb HO4.out.lt)
        have HZ5 := Lib.hid ((hz.below HB5.out).more HB5.out.size)
        clear hb hv c0 c1 cl
        have c0 : wx5.cell? ⟨wa.heap.size, 0, none⟩ = some (iv ra) := HO5.out.cell 0
        have c1 : wx5.cell? ⟨wa.heap.size, 1, none⟩ = some (iv rb) := HO5.out.cell 1
        have cl := HO5.out.lt
        by_cases hrb : rb < 20000
        · go_wp2_with fail
          have hv : Hid (keepsB w1 w2 p1 p2 least most n zs (rb + 1) = false) := by
            show _ = _
            rw [HY2.out (rb + 1) (by omega) (by omega)]
            simp only [decide_eq_false_iff_not]
            omega
          refine (keeps36_any w.heap.size w1 w2 p1 p2 (rb + 1) least most n zs A cap _ HK5.out HZ5.out HL.out.1 (by omega) HL.out.2 HP.out.1 HP.out.2 (by omega) (by omega)).mono ?_
          rintro e wx6 ⟨rfl, hb⟩
          rw [hv.out]
          have HB6 := Lib.hid (belowT HB5.out hb)
          have HK6 := Lib.hid (HK5.out.below hb)
          have HO6 := Lib.hid (HO5.out.below hb HO5.out.lt)
          have HZ6 := Lib.hid ((hz.below HB6.out).more HB6.out.size)
          clear hb hv c0 c1 cl
          have c0 : wx6.cell? ⟨wa.heap.size, 0, none⟩ = some (iv ra) := HO6.out.cell 0
          have c1 : wx6.cell? ⟨wa.heap.size, 1, none⟩ = some (iv rb) := HO6.out.cell 1
          have cl := HO6.out.lt
          go_wp2_with fail
          have hm0 : 0 ≤ by' % 20001 := by omega
          have hm1 : by' % 20001 ≤ 20000 := by omega
          obtain ⟨m, hm⟩ : ∃ m, m = by' % 20001 := ⟨_, rfl⟩
          rw [← hm] at hm0 hm1 ⊢
          clear hm
          obtain ⟨bb, hbb⟩ : ∃ bb, bb = decide (ra ≤ m ∧ m ≤ rb) := ⟨_, rfl⟩
          have hE : Hid (∀ W', KBox W' w.heap.size A zs.length cap w1 w2 p1 p2 n least most ∧ ZRow W' W'.heap.size A zs → Calls Try.prog 36 #[iv m, .pointer (some ⟨w.heap.size, 0, none⟩), .pointer (some ⟨w.heap.size + 1 + 1 + 1, 0, none⟩), .pointer (some ⟨w.heap.size + 1, 0, none⟩), .pointer (some ⟨w.heap.size + 1 + 1, 0, none⟩), .pointer (some ⟨w.heap.size + 1 + 1 + 1 + 1, 0, none⟩), .pointer (some ⟨w.heap.size + 1 + 1 + 1 + 1 + 1, 0, none⟩)] W'
              fun e w' => e = .returned (.bool bb) ∧ Below W'.heap.size W' w') := fun W' hh => by
            have := keeps36_any w.heap.size w1 w2 p1 p2 m least most n zs A cap W' hh.1 hh.2 HL.out.1 (by omega) HL.out.2 HP.out.1 HP.out.2 hm0 hm1
            rw [HY2.out m hm0 hm1, ← hbb] at this
            exact this
          have hH : Hid (∀ W', Calls Try.prog 33 #[sv ra rb, iv m] W' fun e w' => e = .returned (.bool bb) ∧ Below W'.heap.size W' w') := fun W' => by
            have := has_any ra rb m W'
            rw [← hbb] at this
            exact this
          have hD : Hid (Below w.heap.size w wx6.drew ∧ KBox wx6.drew w.heap.size A zs.length cap w1 w2 p1 p2 n least most ∧ ZRow wx6.drew wx6.drew.heap.size A zs ∧ Has wx6.drew wa.heap.size 27 #[iv ra, iv rb]) := ⟨HB6.out.drew, HK6.out.below ((Below.refl _ _).drew), HZ6.out, HO6.out.drew⟩
          clear hbb y0 y1 y3 hm0 hm1 hmf hq
          cases bb
          all_goals
            go_region_held3 (fun w' => w'.cell? ⟨wa.heap.size, 0, none⟩ = some (iv ra) ∧ w'.cell? ⟨wa.heap.size, 1, none⟩ = some (iv rb)) (first | exact ⟨c0, c1⟩ | exact keep2 o14.out | exact keep2 o36.out | exact keep2 o33.out | exact keep2 hD.out.2.2.2) (first | (go_at_call 36; refine (hE.out _ (by first | exact ⟨hD.out.2.1, hD.out.2.2.1⟩ | exact ⟨k33.out, z33.out⟩)).mono ?_; rintro e wk ⟨rfl, hbk⟩; have o36 : Hid (Has wk wa.heap.size 27 #[iv ra, iv rb]) := (by first | exact hD.out.2.2.2.below hbk hD.out.2.2.2.lt | exact o33.out.below hbk o33.out.lt); have b36 : Hid (Below w.heap.size w wk) := (by first | exact belowT hD.out.1 hbk | exact belowT b33.out hbk); have k36 : Hid (KBox wk w.heap.size A zs.length cap w1 w2 p1 p2 n least most) := (by first | exact hD.out.2.1.below hbk | exact k33.out.below hbk)) | (go_at_call 33; refine (hH.out _).mono ?_; rintro e wh ⟨rfl, hbh⟩; have o33 : Hid (Has wh wa.heap.size 27 #[iv ra, iv rb]) := (by first | exact hD.out.2.2.2.below hbh hD.out.2.2.2.lt | exact o36.out.below hbh o36.out.lt); have b33 : Hid (Below w.heap.size w wh) := (by first | exact belowT hD.out.1 hbh | exact belowT b36.out hbh); have k33 : Hid (KBox wh w.heap.size A zs.length cap w1 w2 p1 p2 n least most) := (by first | exact hD.out.2.1.below hbh | exact k36.out.below hbh); have z33 : Hid (ZRow wh wh.heap.size A zs) := ((hz.below b33.out).more b33.out.size)) | (go_at_call 14; refine (alive_any _).mono ?_; rintro e wf ⟨rfl, hbf⟩; have b14 : Hid (Below w.heap.size w wf) := (by first | exact belowT b36.out hbf | exact belowT b33.out hbf); have o14 : Hid (Has wf wa.heap.size 27 #[iv ra, iv rb]) := (by first | exact o36.out.below hbf o36.out.lt | exact o33.out.below hbf o33.out.lt)))
            all_goals
              go_wp2_with fail
              go_ret
              exact ⟨rfl, b14.out⟩
        · have hrbd : decide (rb < 20000) = false := by simpa using hrb
          go_wp2_with fail
          have hm0 : 0 ≤ by' % 20001 := by omega
          have hm1 : by' % 20001 ≤ 20000 := by omega
          obtain ⟨m, hm⟩ : ∃ m, m = by' % 20001 := ⟨_, rfl⟩
          rw [← hm] at hm0 hm1 ⊢
          clear hm
          obtain ⟨bb, hbb⟩ : ∃ bb, bb = decide (ra ≤ m ∧ m ≤ rb) := ⟨_, rfl⟩
          have hE : Hid (∀ W', KBox W' w.heap.size A zs.length cap w1 w2 p1 p2 n least most ∧ ZRow W' W'.heap.size A zs → Calls Try.prog 36 #[iv m, .pointer (some ⟨w.heap.size, 0, none⟩), .pointer (some ⟨w.heap.size + 1 + 1 + 1, 0, none⟩), .pointer (some ⟨w.heap.size + 1, 0, none⟩), .pointer (some ⟨w.heap.size + 1 + 1, 0, none⟩), .pointer (some ⟨w.heap.size + 1 + 1 + 1 + 1, 0, none⟩), .pointer (some ⟨w.heap.size + 1 + 1 + 1 + 1 + 1, 0, none⟩)] W'
              fun e w' => e = .returned (.bool bb) ∧ Below W'.heap.size W' w') := fun W' hh => by
            have := keeps36_any w.heap.size w1 w2 p1 p2 m least most n zs A cap W' hh.1 hh.2 HL.out.1 (by omega) HL.out.2 HP.out.1 HP.out.2 hm0 hm1
            rw [HY2.out m hm0 hm1, ← hbb] at this
            exact this
          have hH : Hid (∀ W', Calls Try.prog 33 #[sv ra rb, iv m] W' fun e w' => e = .returned (.bool bb) ∧ Below W'.heap.size W' w') := fun W' => by
            have := has_any ra rb m W'
            rw [← hbb] at this
            exact this
          have hD : Hid (Below w.heap.size w wx5.drew ∧ KBox wx5.drew w.heap.size A zs.length cap w1 w2 p1 p2 n least most ∧ ZRow wx5.drew wx5.drew.heap.size A zs ∧ Has wx5.drew wa.heap.size 27 #[iv ra, iv rb]) := ⟨HB5.out.drew, HK5.out.below ((Below.refl _ _).drew), HZ5.out, HO5.out.drew⟩
          clear hbb y0 y1 y3 hm0 hm1 hmf hq
          cases bb
          all_goals
            go_region_held3 (fun w' => w'.cell? ⟨wa.heap.size, 0, none⟩ = some (iv ra) ∧ w'.cell? ⟨wa.heap.size, 1, none⟩ = some (iv rb)) (first | exact ⟨c0, c1⟩ | exact keep2 o14.out | exact keep2 o36.out | exact keep2 o33.out | exact keep2 hD.out.2.2.2) (first | (go_at_call 36; refine (hE.out _ (by first | exact ⟨hD.out.2.1, hD.out.2.2.1⟩ | exact ⟨k33.out, z33.out⟩)).mono ?_; rintro e wk ⟨rfl, hbk⟩; have o36 : Hid (Has wk wa.heap.size 27 #[iv ra, iv rb]) := (by first | exact hD.out.2.2.2.below hbk hD.out.2.2.2.lt | exact o33.out.below hbk o33.out.lt); have b36 : Hid (Below w.heap.size w wk) := (by first | exact belowT hD.out.1 hbk | exact belowT b33.out hbk); have k36 : Hid (KBox wk w.heap.size A zs.length cap w1 w2 p1 p2 n least most) := (by first | exact hD.out.2.1.below hbk | exact k33.out.below hbk)) | (go_at_call 33; refine (hH.out _).mono ?_; rintro e wh ⟨rfl, hbh⟩; have o33 : Hid (Has wh wa.heap.size 27 #[iv ra, iv rb]) := (by first | exact hD.out.2.2.2.below hbh hD.out.2.2.2.lt | exact o36.out.below hbh o36.out.lt); have b33 : Hid (Below w.heap.size w wh) := (by first | exact belowT hD.out.1 hbh | exact belowT b36.out hbh); have k33 : Hid (KBox wh w.heap.size A zs.length cap w1 w2 p1 p2 n least most) := (by first | exact hD.out.2.1.below hbh | exact k36.out.below hbh); have z33 : Hid (ZRow wh wh.heap.size A zs) := ((hz.below b33.out).more b33.out.size)) | (go_at_call 14; refine (alive_any _).mono ?_; rintro e wf ⟨rfl, hbf⟩; have b14 : Hid (Below w.heap.size w wf) := (by first | exact belowT b36.out hbf | exact belowT b33.out hbf); have o14 : Hid (Has wf wa.heap.size 27 #[iv ra, iv rb]) := (by first | exact o36.out.below hbf o36.out.lt | exact o33.out.below hbf o33.out.lt)))
            all_goals
              go_wp2_with fail
              go_ret
              exact ⟨rfl, b14.out⟩
      · have hrad : decide (0 < ra) = false := by simpa using hra
        by_cases hrb : rb < 20000
        · go_wp2_with fail
          have hv : Hid (keepsB w1 w2 p1 p2 least most n zs (rb + 1) = false) := by
            show _ = _
            rw [HY2.out (rb + 1) (by omega) (by omega)]
            simp only [decide_eq_false_iff_not]
            omega
          refine (keeps36_any w.heap.size w1 w2 p1 p2 (rb + 1) least most n zs A cap _ HK4.out HZ4.out HL.out.1 (by omega) HL.out.2 HP.out.1 HP.out.2 (by omega) (by omega)).mono ?_
          rintro e wx5 ⟨rfl, hb⟩
          rw [hv.out]
          have HB5 := Lib.hid (belowT HB4.out hb)
          have HK5 := Lib.hid (HK4.out.below hb)
          have HO5 := Lib.hid (HO4.out.below hb HO4.out.lt)
          have HZ5 := Lib.hid ((hz.below HB5.out).more HB5.out.size)
          clear hb hv c0 c1 cl
          have c0 : wx5.cell? ⟨wa.heap.size, 0, none⟩ = some (iv ra) := HO5.out.cell 0
          have c1 : wx5.cell? ⟨wa.heap.size, 1, none⟩ = some (iv rb) := HO5.out.cell 1
          have cl := HO5.out.lt
          go_wp2_with fail
          have hm0 : 0 ≤ by' % 20001 := by omega
          have hm1 : by' % 20001 ≤ 20000 := by omega
          obtain ⟨m, hm⟩ : ∃ m, m = by' % 20001 := ⟨_, rfl⟩
          rw [← hm] at hm0 hm1 ⊢
          clear hm
          obtain ⟨bb, hbb⟩ : ∃ bb, bb = decide (ra ≤ m ∧ m ≤ rb) := ⟨_, rfl⟩
          have hE : Hid (∀ W', KBox W' w.heap.size A zs.length cap w1 w2 p1 p2 n least most ∧ ZRow W' W'.heap.size A zs → Calls Try.prog 36 #[iv m, .pointer (some ⟨w.heap.size, 0, none⟩), .pointer (some ⟨w.heap.size + 1 + 1 + 1, 0, none⟩), .pointer (some ⟨w.heap.size + 1, 0, none⟩), .pointer (some ⟨w.heap.size + 1 + 1, 0, none⟩), .pointer (some ⟨w.heap.size + 1 + 1 + 1 + 1, 0, none⟩), .pointer (some ⟨w.heap.size + 1 + 1 + 1 + 1 + 1, 0, none⟩)] W'
              fun e w' => e = .returned (.bool bb) ∧ Below W'.heap.size W' w') := fun W' hh => by
            have := keeps36_any w.heap.size w1 w2 p1 p2 m least most n zs A cap W' hh.1 hh.2 HL.out.1 (by omega) HL.out.2 HP.out.1 HP.out.2 hm0 hm1
            rw [HY2.out m hm0 hm1, ← hbb] at this
            exact this
          have hH : Hid (∀ W', Calls Try.prog 33 #[sv ra rb, iv m] W' fun e w' => e = .returned (.bool bb) ∧ Below W'.heap.size W' w') := fun W' => by
            have := has_any ra rb m W'
            rw [← hbb] at this
            exact this
          have hD : Hid (Below w.heap.size w wx5.drew ∧ KBox wx5.drew w.heap.size A zs.length cap w1 w2 p1 p2 n least most ∧ ZRow wx5.drew wx5.drew.heap.size A zs ∧ Has wx5.drew wa.heap.size 27 #[iv ra, iv rb]) := ⟨HB5.out.drew, HK5.out.below ((Below.refl _ _).drew), HZ5.out, HO5.out.drew⟩
          clear hbb y0 y1 y3 hm0 hm1 hmf hq
          cases bb
          all_goals
            go_region_held3 (fun w' => w'.cell? ⟨wa.heap.size, 0, none⟩ = some (iv ra) ∧ w'.cell? ⟨wa.heap.size, 1, none⟩ = some (iv rb)) (first | exact ⟨c0, c1⟩ | exact keep2 o14.out | exact keep2 o36.out | exact keep2 o33.out | exact keep2 hD.out.2.2.2) (first | (go_at_call 36; refine (hE.out _ (by first | exact ⟨hD.out.2.1, hD.out.2.2.1⟩ | exact ⟨k33.out, z33.out⟩)).mono ?_; rintro e wk ⟨rfl, hbk⟩; have o36 : Hid (Has wk wa.heap.size 27 #[iv ra, iv rb]) := (by first | exact hD.out.2.2.2.below hbk hD.out.2.2.2.lt | exact o33.out.below hbk o33.out.lt); have b36 : Hid (Below w.heap.size w wk) := (by first | exact belowT hD.out.1 hbk | exact belowT b33.out hbk); have k36 : Hid (KBox wk w.heap.size A zs.length cap w1 w2 p1 p2 n least most) := (by first | exact hD.out.2.1.below hbk | exact k33.out.below hbk)) | (go_at_call 33; refine (hH.out _).mono ?_; rintro e wh ⟨rfl, hbh⟩; have o33 : Hid (Has wh wa.heap.size 27 #[iv ra, iv rb]) := (by first | exact hD.out.2.2.2.below hbh hD.out.2.2.2.lt | exact o36.out.below hbh o36.out.lt); have b33 : Hid (Below w.heap.size w wh) := (by first | exact belowT hD.out.1 hbh | exact belowT b36.out hbh); have k33 : Hid (KBox wh w.heap.size A zs.length cap w1 w2 p1 p2 n least most) := (by first | exact hD.out.2.1.below hbh | exact k36.out.below hbh); have z33 : Hid (ZRow wh wh.heap.size A zs) := ((hz.below b33.out).more b33.out.size)) | (go_at_call 14; refine (alive_any _).mono ?_; rintro e wf ⟨rfl, hbf⟩; have b14 : Hid (Below w.heap.size w wf) := (by first | exact belowT b36.out hbf | exact belowT b33.out hbf); have o14 : Hid (Has wf wa.heap.size 27 #[iv ra, iv rb]) := (by first | exact o36.out.below hbf o36.out.lt | exact o33.out.below hbf o33.out.lt)))
            all_goals
              go_wp2_with fail
              go_ret
              exact ⟨rfl, b14.out⟩
        · have hrbd : decide (rb < 20000) = false := by simpa using hrb
          go_wp2_with fail
          have hm0 : 0 ≤ by' % 20001 := by omega
          have hm1 : by' % 20001 ≤ 20000 := by omega
          obtain ⟨m, hm⟩ : ∃ m, m = by' % 20001 := ⟨_, rfl⟩
          rw [← hm] at hm0 hm1 ⊢
          clear hm
          obtain ⟨bb, hbb⟩ : ∃ bb, bb = decide (ra ≤ m ∧ m ≤ rb) := ⟨_, rfl⟩
          have hE : Hid (∀ W', KBox W' w.heap.size A zs.length cap w1 w2 p1 p2 n least most ∧ ZRow W' W'.heap.size A zs → Calls Try.prog 36 #[iv m, .pointer (some ⟨w.heap.size, 0, none⟩), .pointer (some ⟨w.heap.size + 1 + 1 + 1, 0, none⟩), .pointer (some ⟨w.heap.size + 1, 0, none⟩), .pointer (some ⟨w.heap.size + 1 + 1, 0, none⟩), .pointer (some ⟨w.heap.size + 1 + 1 + 1 + 1, 0, none⟩), .pointer (some ⟨w.heap.size + 1 + 1 + 1 + 1 + 1, 0, none⟩)] W'
              fun e w' => e = .returned (.bool bb) ∧ Below W'.heap.size W' w') := fun W' hh => by
            have := keeps36_any w.heap.size w1 w2 p1 p2 m least most n zs A cap W' hh.1 hh.2 HL.out.1 (by omega) HL.out.2 HP.out.1 HP.out.2 hm0 hm1
            rw [HY2.out m hm0 hm1, ← hbb] at this
            exact this
          have hH : Hid (∀ W', Calls Try.prog 33 #[sv ra rb, iv m] W' fun e w' => e = .returned (.bool bb) ∧ Below W'.heap.size W' w') := fun W' => by
            have := has_any ra rb m W'
            rw [← hbb] at this
            exact this
          have hD : Hid (Below w.heap.size w wx4.drew ∧ KBox wx4.drew w.heap.size A zs.length cap w1 w2 p1 p2 n least most ∧ ZRow wx4.drew wx4.drew.heap.size A zs ∧ Has wx4.drew wa.heap.size 27 #[iv ra, iv rb]) := ⟨HB4.out.drew, HK4.out.below ((Below.refl _ _).drew), HZ4.out, HO4.out.drew⟩
          clear hbb y0 y1 y3 hm0 hm1 hmf hq
          cases bb
          all_goals
            go_region_held3 (fun w' => w'.cell? ⟨wa.heap.size, 0, none⟩ = some (iv ra) ∧ w'.cell? ⟨wa.heap.size, 1, none⟩ = some (iv rb)) (first | exact ⟨c0, c1⟩ | exact keep2 o14.out | exact keep2 o36.out | exact keep2 o33.out | exact keep2 hD.out.2.2.2) (first | (go_at_call 36; refine (hE.out _ (by first | exact ⟨hD.out.2.1, hD.out.2.2.1⟩ | exact ⟨k33.out, z33.out⟩)).mono ?_; rintro e wk ⟨rfl, hbk⟩; have o36 : Hid (Has wk wa.heap.size 27 #[iv ra, iv rb]) := (by first | exact hD.out.2.2.2.below hbk hD.out.2.2.2.lt | exact o33.out.below hbk o33.out.lt); have b36 : Hid (Below w.heap.size w wk) := (by first | exact belowT hD.out.1 hbk | exact belowT b33.out hbk); have k36 : Hid (KBox wk w.heap.size A zs.length cap w1 w2 p1 p2 n least most) := (by first | exact hD.out.2.1.below hbk | exact k33.out.below hbk)) | (go_at_call 33; refine (hH.out _).mono ?_; rintro e wh ⟨rfl, hbh⟩; have o33 : Hid (Has wh wa.heap.size 27 #[iv ra, iv rb]) := (by first | exact hD.out.2.2.2.below hbh hD.out.2.2.2.lt | exact o36.out.below hbh o36.out.lt); have b33 : Hid (Below w.heap.size w wh) := (by first | exact belowT hD.out.1 hbh | exact belowT b36.out hbh); have k33 : Hid (KBox wh w.heap.size A zs.length cap w1 w2 p1 p2 n least most) := (by first | exact hD.out.2.1.below hbh | exact k36.out.below hbh); have z33 : Hid (ZRow wh wh.heap.size A zs) := ((hz.below b33.out).more b33.out.size)) | (go_at_call 14; refine (alive_any _).mono ?_; rintro e wf ⟨rfl, hbf⟩; have b14 : Hid (Below w.heap.size w wf) := (by first | exact belowT b36.out hbf | exact belowT b33.out hbf); have o14 : Hid (Has wf wa.heap.size 27 #[iv ra, iv rb]) := (by first | exact o36.out.below hbf o36.out.lt | exact o33.out.below hbf o33.out.lt)))
            all_goals
              go_wp2_with fail
              go_ret
              exact ⟨rfl, b14.out⟩
    · by_cases h4 : re = 4
      · subst h4
        obtain ⟨rfl, rfl⟩ := HF.out.zero h0
        have HY := Lib.hid (HF.out.no rfl)
        obtain ⟨o1, o2, o3, o4, o5⟩ := HF.out.ok (.inr rfl)
        clear h0
        obtain ⟨n, rfl⟩ := Int.eq_ofNat_of_zero_le (show 0 ≤ passes by omega)
        have hY2 := HY.out
        simp only [Int.toNat_natCast] at hY2
        have HY2 := Lib.hid hY2
        clear hY2 HY
        have HL : Hid (zs.length ≤ 24 ∧ ∀ z ∈ zs, z.ok = true) := by
          have hr := o1
          simp only [rinkOk, Bool.and_eq_true, decide_eq_true_eq, List.all_eq_true] at hr
          exact ⟨hr.1.2, hr.2⟩
        have HP := Lib.hid (And.intro o2 o3)
        clear o2 o3
        have HM := Lib.hid hmf
        have HQ := Lib.hid hq
        clear hmf hq
        have e7 : wa.cell? ⟨w.heap.size, 0, none⟩ = some (.slice A zs.length cap) := HKa.out.h0.cell 0
        have el := HKa.out.h0.lt
        go_wp2_with fail
        clear e7 el
        rw [← HW1.out]
        refine (rinkR_any zs A cap w1' HZ1.out hl).mono ?_
        rintro e wb ⟨rfl, hb⟩
        rw [o1]
        have HB2 := Lib.hid (belowT HB1.out hb)
        have HK2 := Lib.hid (HK1.out.below hb)
        have HO2 := Lib.hid (HO1.out.below hb HO1.out.lt)
        have HZ2 := Lib.hid ((hz.below HB2.out).more HB2.out.size)
        clear hb
        have c0 : wb.cell? ⟨wa.heap.size, 0, none⟩ = some (iv 0) := HO2.out.cell 0
        have c1 : wb.cell? ⟨wa.heap.size, 1, none⟩ = some (iv 0) := HO2.out.cell 1
        have cl := HO2.out.lt
        have d3 : wb.cell? ⟨w.heap.size + 1 + 1 + 1, 0, none⟩ = some (iv n) := HK2.out.h3.cell 0
        have dl := HK2.out.h3.lt
        have hmf := HM.out
        have hq := HQ.out
        go_wp2_with fail
        have hm0 : 0 ≤ by' % 20001 := by omega
        have hm1 : by' % 20001 ≤ 20000 := by omega
        refine (keeps36_any w.heap.size w1 w2 p1 p2 (by' % 20001) least most n zs A cap _ HK2.out HZ2.out HL.out.1 (by omega) HL.out.2 HP.out.1 HP.out.2 hm0 hm1).mono ?_
        rintro e wx3 ⟨rfl, hb⟩
        rw [HY2.out _ hm0 hm1]
        have HB3 := Lib.hid (belowT HB2.out hb)
        clear hb
        go_wp2_with fail
        refine (alive_any _).mono ?_
        rintro e wx4 ⟨rfl, hb⟩
        have HB4 := Lib.hid (belowT HB3.out hb)
        go_wp2_with fail
        go_ret
        exact ⟨rfl, HB4.out⟩
      · have hn0 : (re != 0) = true := by simpa using h0
        have hn4 : (re != 4) = true := by simpa using h4
        obtain ⟨rfl, rfl⟩ := HF.out.zero h0
        go_wp2_with fail
        rw [← HW1.out]
        refine (alive_any _).mono ?_
        rintro e wb ⟨rfl, hb⟩
        have HE := Lib.hid (belowT HB1.out hb)
        go_wp2_with fail
        go_ret
        exact ⟨rfl, HE.out⟩
end Go.Proofs.Ytogabjlhecnbbaa

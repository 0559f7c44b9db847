/- The law IceApart: the walk. -/
import Derived.Test.YtogabjlhecnbbaaApA2
import Derived.Deep.Cut
import Derived.Deep.CutRange
namespace Go.Proofs.Ytogabjlhecnbbaa
open Go.RowKit Go.Shelf
set_option maxRecDepth 100000 in
set_option maxHeartbeats 4000000 in
theorem apart_any (cut which : Int) (zs : List Zn) (es : List Ev) (A A' : Option Addr) (cap cap' : Nat) (w : World) (hz : ZRow w w.heap.size A zs) (he : ERow w w.heap.size A' es) (hl : zs.length ≤ 9223372036854775807) (hl' : es.length ≤ 9223372036854775807)
    (hc : zs.length ≤ cap) (hc' : es.length ≤ cap') (_hcm : cap ≤ 9223372036854775807) (hcm' : cap' ≤ 9223372036854775807) (hcut : 0 ≤ cut ∧ cut ≤ 255) (hwh : 0 ≤ which ∧ which ≤ 255) :
    Calls Try.prog 9 #[.slice A zs.length cap, .slice A' es.length cap', .int .u8 cut, .int .u8 which] w fun e w' => e = .returned (.bool true) ∧ Below w.heap.size w w' := by
  by_cases h40 : 40 < (es.length : Int)
  · go_enter Try.func9, Try.ntmps9
    go_wp2_with fail
    refine (alive_any _).mono ?_
    rintro e wb ⟨rfl, hb⟩
    go_wp2_with fail
    go_ret
    exact ⟨rfl, hb⟩
  have h40' : decide (40 < (es.length : Int)) = false := by simpa using h40
  have hq := eq29s
  go_enter Try.func9, Try.ntmps9
  go_wp2_with fail
  refine (play_any zs es A cap A' cap' w hz he hl hl').mono ?_
  intro r wb hp
  obtain ⟨A1, cap1, rfl, hb, hz1⟩ := play_row hp
  clear hp
  by_cases h0 : (playR zs es).e = 0
  rotate_left
  · obtain ⟨e1, e2⟩ := playR_err h0
    have hne : ((playR zs es).e != 0) = true := by simpa using h0
    obtain ⟨pe, hpe⟩ : ∃ pe, pe = (playR zs es).e := ⟨_, rfl⟩
    rw [← hpe] at hne
    rw [e1, e2, ← hpe]
    have hbb := belowT hb (below1 wb (.cells #[iv 0, iv 0, iv 0, iv 0, iv 0, iv 0] 29))
    clear hpe h0 e1 e2 hz1 hb
    go_wp2_with fail
    refine (alive_any _).mono ?_
    rintro e wc ⟨rfl, hb⟩
    have HE := Lib.hid (belowT hbb hb)
    go_wp2_with fail
    go_ret
    exact ⟨rfl, HE.out⟩
  have hsame := playR_same h0
  have HOK := Lib.hid (playR_ok h0).1
  have HP0 := Lib.hid h0
  obtain ⟨⟨zz, s, i, e⟩, hR⟩ : ∃ R, R = playR zs es := ⟨_, rfl⟩
  rw [← hR] at hz1 h0 hsame ⊢
  simp only at hz1 h0 hsame ⊢
  subst h0
  have HR := Lib.hid hR
  clear hR
  have HB1 := Lib.hid (belowT hb (below1 wb (.cells #[iv s.f1, iv s.f2, iv s.p1, iv s.p2, iv s.w1, iv s.w2] 29)))
  have HS1 : Hid (Has (wb.alloc (.cells #[iv s.f1, iv s.f2, iv s.p1, iv s.p2, iv s.w1, iv s.w2] 29)) wb.heap.size 29 (smc s)) := Has.new _ _ _
  have HZ1 := Lib.hid (hz1.step (below1 wb (.cells #[iv s.f1, iv s.f2, iv s.p1, iv s.p2, iv s.w1, iv s.w2] 29)))
  clear hb hz1
  rw [hsame]
  go_wp2_with fail
  refine (rinkR_any zs A cap _ (hz.step HB1.out) hl).mono ?_
  rintro r wc ⟨rfl, hb⟩
  rw [HOK.out]
  have HBc := Lib.hid (belowT HB1.out hb)
  have HSc := Lib.hid (HS1.out.below hb HS1.out.lt)
  have HZc := Lib.hid (HZ1.out.step hb)
  clear hb HB1 HS1 HZ1
  obtain ⟨l1, l2, hes, hk⟩ : ∃ l1 l2, es = l1 ++ l2 ∧ cut % ((es.length : Int) + 1) = (l1.length : Int) := by
    have h1 := Int.emod_nonneg cut (show (es.length : Int) + 1 ≠ 0 by omega)
    have h2 := Int.emod_lt_of_pos cut (show (0 : Int) < (es.length : Int) + 1 by omega)
    obtain ⟨k, hk⟩ := Int.eq_ofNat_of_zero_le h1
    refine ⟨es.take k, es.drop k, by simp, ?_⟩
    rw [hk, List.length_take]
    omega
  have hlen : es.length = l1.length + l2.length := by rw [hes, List.length_append]
  have hk1 : (l1.length : Int) ≤ cap' := by omega
  have hk2 : (l1.length : Int) ≤ es.length := by omega
  have HES := Lib.hid (And.intro hes hlen)
  clear hes hlen
  have HER := Lib.hid (show ERow w w.heap.size A' (l1 ++ l2) from HES.out.1 ▸ he)
  have HTW := Lib.hid (play_two (zs := zs) (l1 := l1) (l2 := l2) (by rw [← HES.out.1]; exact HP0.out))
  go_wp2_with fail
  refine (play_any zs l1 A cap A' cap' wc (hz.step HBc.out) ((erow_left HER.out).step HBc.out) hl (by omega)).mono ?_
  intro r wd hp
  obtain ⟨A2, cap2, rfl, hb, hz2⟩ := play_row hp
  clear hp
  have hlen2 := playR_len zs l1
  obtain ⟨⟨hz_, t, n1, f1⟩, hR1⟩ : ∃ R, R = playR zs l1 := ⟨_, rfl⟩
  rw [← hR1] at hz2 HTW hlen2 ⊢
  simp only at hz2 HTW hlen2 ⊢
  clear hR1
  obtain ⟨rfl, rfl, hT⟩ := HTW.out
  have HTW2 := Lib.hid hT
  clear hT HTW
  have HBd := Lib.hid (belowT (belowT HBc.out hb) (below1 wd (.cells #[iv t.f1, iv t.f2, iv t.p1, iv t.p2, iv t.w1, iv t.w2] 29)))
  have HSd := Lib.hid ((HSc.out.below hb HSc.out.lt).alloc (.cells #[iv t.f1, iv t.f2, iv t.p1, iv t.p2, iv t.w1, iv t.w2] 29))
  have HZd := Lib.hid ((HZc.out.step hb).step (below1 wd (.cells #[iv t.f1, iv t.f2, iv t.p1, iv t.p2, iv t.w1, iv t.w2] 29)))
  have HTd : Hid (Has (wd.alloc (.cells #[iv t.f1, iv t.f2, iv t.p1, iv t.p2, iv t.w1, iv t.w2] 29)) wd.heap.size 29 (smc t)) := Has.new _ _ _
  have HHd := Lib.hid (hz2.step (below1 wd (.cells #[iv t.f1, iv t.f2, iv t.p1, iv t.p2, iv t.w1, iv t.w2] 29)))
  clear hb hz2 HBc HSc HZc
  have hsub : es.length - l1.length = l2.length := by have := HES.out.2; omega
  obtain ⟨A2', hA2'⟩ : ∃ A2', (if cap' = l1.length then A' else Option.map (fun x => x.add (l1.length * 5)) A') = A2' := ⟨_, rfl⟩
  have HE2 : Hid (ERow w w.heap.size A2' l2) := by
    show ERow _ _ _ _
    rw [← hA2']
    exact erow_right HER.out (by rw [← HES.out.1]; exact hc')
  go_wp2_with fail
  refine (play_any hz_ l2 A2 cap2 A2' (cap' - l1.length) _ HHd.out ((HE2.out.below HBd.out).more HBd.out.size) (by omega) (by omega)).mono ?_
  intro r we hp
  obtain ⟨A3, cap3, rfl, hb, hz3⟩ := play_row hp
  clear hp
  obtain ⟨⟨rz, u, n2, f2⟩, hR2⟩ : ∃ R, R = playR hz_ l2 := ⟨_, rfl⟩
  rw [← hR2] at hz3 HTW2 ⊢
  simp only at hz3 HTW2 ⊢
  clear hR2
  obtain ⟨rfl, rfl, hT⟩ := HTW2.out
  rw [← HES.out.1, ← HR.out] at hT
  simp only at hT
  obtain ⟨rfl, hsum⟩ := hT
  have HSU := Lib.hid hsum
  clear hsum HTW2
  have HAX : Hid (Below w.heap.size w (we.alloc (.cells #[iv u.f1, iv u.f2, iv u.p1, iv u.p2, iv u.w1, iv u.w2] 29)) ∧ Has (we.alloc (.cells #[iv u.f1, iv u.f2, iv u.p1, iv u.p2, iv u.w1, iv u.w2] 29)) wb.heap.size 29 (smc s) ∧ Has (we.alloc (.cells #[iv u.f1, iv u.f2, iv u.p1, iv u.p2, iv u.w1, iv u.w2] 29)) wd.heap.size 29 (smc t) ∧ Has (we.alloc (.cells #[iv u.f1, iv u.f2, iv u.p1, iv u.p2, iv u.w1, iv u.w2] 29)) we.heap.size 29 (smc u) ∧ ZRow (we.alloc (.cells #[iv u.f1, iv u.f2, iv u.p1, iv u.p2, iv u.w1, iv u.w2] 29)) (we.alloc (.cells #[iv u.f1, iv u.f2, iv u.p1, iv u.p2, iv u.w1, iv u.w2] 29)).heap.size A1 rz ∧ ZRow (we.alloc (.cells #[iv u.f1, iv u.f2, iv u.p1, iv u.p2, iv u.w1, iv u.w2] 29)) (we.alloc (.cells #[iv u.f1, iv u.f2, iv u.p1, iv u.p2, iv u.w1, iv u.w2] 29)).heap.size A3 rz) :=
    ⟨belowT (belowT HBd.out hb) (below1 _ _), (HSd.out.below hb HSd.out.lt).alloc _, (HTd.out.below hb HTd.out.lt).alloc _, Has.new _ _ _, (HZd.out.step hb).step (below1 _ _), hz3.step (below1 _ _)⟩
  clear hb hz3 HBd HSd HZd HTd HHd hA2' hsub
  have HNr : Hid (Near (t.f1 + u.f1) ∧ Near (t.f2 + u.f2) ∧ Near (t.p1 + u.p1) ∧ Near (t.p2 + u.p2) ∧ Near (t.w1 + u.w1) ∧ Near (t.w2 + u.w2)) := by
    have hbd := playR_bd HP0.out (by omega)
    rw [← HR.out] at hbd
    simp only at hbd
    rw [HSU.out] at hbd
    unfold Sm.Bd Sm.add at hbd
    simp only at hbd
    show _ ∧ _
    unfold Near
    omega
  go_wp2_with fail
  refine (?_ : ∀ W9, (Below w.heap.size w W9 ∧ Has W9 wb.heap.size 29 (smc s) ∧ Has W9 wd.heap.size 29 (smc t) ∧ Has W9 we.heap.size 29 (smc u) ∧ ZRow W9 W9.heap.size A1 rz ∧ ZRow W9 W9.heap.size A3 rz) → Code.wp Try.prog _ _ _ W9) _ HAX.out
  clear HAX
  intro W9 h9
  have H9 := Lib.hid h9
  clear h9
  have h9t := H9.out.2.2.1
  have h9u := H9.out.2.2.2.1
  have ltt := h9t.lt
  have ltu := h9u.lt
  rw [hk]
  clear hk
  go_cut [23] (fun a wx => ∃ p, a = .pointer (some ⟨p, 0, none⟩) ∧ Hid (Has wx p 29 (smc (t.add u)) ∧ Below W9.heap.size W9 wx))
  case first =>
    go_region_held3 (fun w' => w'.cell? ⟨wd.heap.size, 0, none⟩ = some (iv t.f1) ∧ w'.cell? ⟨wd.heap.size, 1, none⟩ = some (iv t.f2) ∧ w'.cell? ⟨wd.heap.size, 2, none⟩ = some (iv t.p1) ∧ w'.cell? ⟨wd.heap.size, 3, none⟩ = some (iv t.p2) ∧ w'.cell? ⟨wd.heap.size, 4, none⟩ = some (iv t.w1) ∧ w'.cell? ⟨wd.heap.size, 5, none⟩ = some (iv t.w2) ∧ w'.cell? ⟨we.heap.size, 0, none⟩ = some (iv u.f1) ∧ w'.cell? ⟨we.heap.size, 1, none⟩ = some (iv u.f2) ∧ w'.cell? ⟨we.heap.size, 2, none⟩ = some (iv u.p1) ∧ w'.cell? ⟨we.heap.size, 3, none⟩ = some (iv u.p2) ∧ w'.cell? ⟨we.heap.size, 4, none⟩ = some (iv u.w1) ∧ w'.cell? ⟨we.heap.size, 5, none⟩ = some (iv u.w2)) ((refine s18b ?_ h9t h9u; repeat' (first | (with_reducible exact hB) | (with_reducible exact hBs) | omega | (with_reducible exact Below.refl _ _) | (with_reducible apply Below.drew) | (with_reducible refine Below.alloc ?_ ?_ _) | (with_reducible refine Below.setCell ?_ ?_ _) | simp))) ((go_at_call 35; refine (addS_any _ _ _ _ _ (by first | exact HNr.out.1 | exact HNr.out.2.2.1 | exact HNr.out.2.2.2.2.1) (by first | exact HNr.out.2.1 | exact HNr.out.2.2.2.1 | exact HNr.out.2.2.2.2.2)).mono ?_; rintro r wy ⟨rfl, hby⟩; (first | ((with_reducible have n := arm_b1 hby); obtain ⟨hB, n29, hpl⟩ := n; obtain ⟨u0, u1, u2, u3, u4', u5, fu0, fu1, fu2, fu3, fu4, fu5⟩ := new29 n29; have lq := n29.lt) | (with_reducible have hB := arm_0 hby) | ((with_reducible have hB := arm_below hB hby); have n29 := n29.below hby n29.lt; obtain ⟨u0, u1, u2, u3, u4', u5, fu0, fu1, fu2, fu3, fu4, fu5⟩ := new29 n29; have lq := n29.lt) | ((with_reducible have n := arm_mid hB hby); obtain ⟨hB, n29, hpl⟩ := n; obtain ⟨u0, u1, u2, u3, u4', u5, fu0, fu1, fu2, fu3, fu4, fu5⟩ := new29 n29; have lq := n29.lt) | (with_reducible have hB := arm_below hB hby)); have hBs := hB.size))
    all_goals (try go_wp2_with fail)
    all_goals go_meet
    all_goals first
      | with_reducible exact ⟨_, rfl, Lib.hid (newAdd t u hB)⟩
      | with_reducible exact ⟨_, rfl, Lib.hid (setAdd t u hB n29 hpl)⟩
  case rest =>
    obtain ⟨p, rfl, HSp⟩ := hcut
    have H10 : Hid (Below w.heap.size w wc ∧ Has wc wb.heap.size 29 (smc s) ∧ Has wc p 29 (smc s) ∧ ZRow wc wc.heap.size A1 rz ∧ ZRow wc wc.heap.size A3 rz) := by
      have hb := HSp.out.2
      have hp := HSp.out.1
      rw [← HSU.out] at hp
      exact ⟨belowT H9.out.1 hb, H9.out.2.1.below hb H9.out.2.1.lt, hp, H9.out.2.2.2.2.1.step hb, H9.out.2.2.2.2.2.step hb⟩
    clear H9 h9t h9u ltt ltu HSp HNr
    have kw : IntKind.i64.wrap ((es.length : Int) - (l1.length : Int)) = (l2.length : Int) := by
      have := HES.out.2
      rw [IntKind.wrap_i64]; omega
    have hbS := H10.out.2.1
    have a0 : wc.cell? ⟨wb.heap.size, 0, none⟩ = some (.int .i64 s.f1) := hbS.cell 0
    have a1 : wc.cell? ⟨wb.heap.size, 1, none⟩ = some (.int .i64 s.f2) := hbS.cell 1
    have a2 : wc.cell? ⟨wb.heap.size, 2, none⟩ = some (.int .i64 s.p1) := hbS.cell 2
    have a3 : wc.cell? ⟨wb.heap.size, 3, none⟩ = some (.int .i64 s.p2) := hbS.cell 3
    have a4 : wc.cell? ⟨wb.heap.size, 4, none⟩ = some (.int .i64 s.w1) := hbS.cell 4
    have a5 : wc.cell? ⟨wb.heap.size, 5, none⟩ = some (.int .i64 s.w2) := hbS.cell 5
    have al := hbS.lt
    clear hbS
    have hss := same_any rz rz A3 A1 cap3 cap1 wc H10.out.2.2.2.2 H10.out.2.2.2.1 (by omega) (by omega)
    simp only [hsame] at hss
    have HSS := Lib.hid hss
    clear hss
    go_wp2_with fail
    refine HSS.out.mono ?_
    rintro r w11 ⟨rfl, hb⟩
    have H11 : Hid (Below w.heap.size w w11 ∧ Has w11 wb.heap.size 29 (smc s) ∧ Has w11 p 29 (smc s) ∧ ZRow w11 w11.heap.size A1 rz) := ⟨belowT H10.out.1 hb, H10.out.2.1.below hb H10.out.2.1.lt, H10.out.2.2.1.below hb H10.out.2.2.1.lt, H10.out.2.2.2.1.step hb⟩
    clear hb H10 HSS a0 a1 a2 a3 a4 a5 al kw
    have hbS := H11.out.2.1
    have a0 : w11.cell? ⟨wb.heap.size, 0, none⟩ = some (.int .i64 s.f1) := hbS.cell 0
    have a1 : w11.cell? ⟨wb.heap.size, 1, none⟩ = some (.int .i64 s.f2) := hbS.cell 1
    have a2 : w11.cell? ⟨wb.heap.size, 2, none⟩ = some (.int .i64 s.p1) := hbS.cell 2
    have a3 : w11.cell? ⟨wb.heap.size, 3, none⟩ = some (.int .i64 s.p2) := hbS.cell 3
    have a4 : w11.cell? ⟨wb.heap.size, 4, none⟩ = some (.int .i64 s.w1) := hbS.cell 4
    have a5 : w11.cell? ⟨wb.heap.size, 5, none⟩ = some (.int .i64 s.w2) := hbS.cell 5
    have al := hbS.lt
    have hpS := H11.out.2.2.1
    have b0 : w11.cell? ⟨p, 0, none⟩ = some (.int .i64 s.f1) := hpS.cell 0
    have b1 : w11.cell? ⟨p, 1, none⟩ = some (.int .i64 s.f2) := hpS.cell 1
    have b2 : w11.cell? ⟨p, 2, none⟩ = some (.int .i64 s.p1) := hpS.cell 2
    have b3 : w11.cell? ⟨p, 3, none⟩ = some (.int .i64 s.p2) := hpS.cell 3
    have b4 : w11.cell? ⟨p, 4, none⟩ = some (.int .i64 s.w1) := hpS.cell 4
    have b5 : w11.cell? ⟨p, 5, none⟩ = some (.int .i64 s.w2) := hpS.cell 5
    have bl := hpS.lt
    clear hbS hpS
    have hn29 := neq29s s
    have hzp : 0 < (zs.length : Int) := by have := (rink_parts HOK.out).2.1; omega
    have hzq : ¬ zs = [] := by have := (rink_parts HOK.out).2.1; intro h; subst h; simp at this
    obtain ⟨z, HZZ⟩ : ∃ z : Nat, Hid ((z : Int) = which % (zs.length : Int)) := by
      have h1 := Int.emod_nonneg which (show (zs.length : Int) ≠ 0 by omega)
      obtain ⟨k, hk⟩ := Int.eq_ofNat_of_zero_le h1
      exact ⟨k, hk.symm⟩
    have hzl : z < zs.length := by
      have h2 := Int.emod_lt_of_pos which hzp
      have := HZZ.out
      omega
    go_wp2_with fail
    rw [← HZZ.out]
    clear hn29 a0 a1 a2 a3 a4 a5 al b0 b1 b2 b3 b4 b5 bl hzq
    obtain ⟨i0, hi, hz0, hz1, hz2⟩ := info_parts Try.info54
    go_loopw [149, 25] (fun i v wr => ∃ k : Nat, k ≤ es.length ∧ i = .int .i64 k ∧ Hid (Below w11.heap.size w11 wr ∧ wr.ownsRow w11.heap.size 54 5 v (owns z (es.take k)).length (eflat (owns z (es.take k))).toList)) (fun i _ _ => es.length - (intOf i).toNat)
    case atStart => exact ⟨0, Nat.zero_le _, rfl, Below.refl _ _, World.ownsRow_nil _ _ _ _⟩
    case round =>
      obtain ⟨k, hk, rfl, HI⟩ := hrel
      have hsz := HI.out.1.size
      by_cases hlt : k < es.length
      · have hlt' : (k : Int) < es.length := by omega
        obtain ⟨g, o, eA, hg, d0, d1, d2, d3, d4⟩ := (he.below (belowT H11.out.1 HI.out.1)) k hlt
        obtain ⟨x, hx⟩ : ∃ x, x = es[k] := ⟨_, rfl⟩
        have HOW := Lib.hid (And.intro (@owns_yes z k es hlt) (And.intro (@owns_no z k es hlt) (owns_len z (es.take k))))
        rw [← hx] at d0 d1 d2 d3 d4 HOW
        clear hx
        subst eA
        have hgw : g < wr.heap.size := by have := (belowT H11.out.1 HI.out.1).size; omega
        go_upto_region 20 with fail
        go_cut [173] (fun c wx => c = .bool (decide ((x.f ≤ z ∧ (z : Int) ≤ x.t) ∨ (x.k = 3 ∧ x.f = z))) ∧ wx = wr.alloc (.cells #[.int .i64 x.k, .int .i64 x.f, .int .i64 x.t, .int .i64 x.x, .int .i64 x.y] 54))
        case first =>
          by_cases q1 : x.f ≤ (z : Int)
          · by_cases q2 : (z : Int) ≤ x.t
            · have cq1 : decide (x.f ≤ (z : Int)) = true := by simpa using q1
              have cq2 : decide ((z : Int) ≤ x.t) = true := by simpa using q2
              have HV : Hid (decide ((x.f ≤ z ∧ (z : Int) ≤ x.t) ∨ (x.k = 3 ∧ x.f = z)) = true) := by
                show _ = _
                simp only [decide_eq_true_eq]
                omega
              clear q1 q2
              go_wp2_with fail
              go_meet
              exact ⟨by rw [HV.out], rfl⟩
            · by_cases q3 : x.k = 3
              · by_cases q4 : x.f = (z : Int)
                · have cq1 : decide (x.f ≤ (z : Int)) = true := by simpa using q1
                  have cq2 : decide ((z : Int) ≤ x.t) = false := by simpa using q2
                  have cq3 : (x.k == 3) = true := by simpa using q3
                  have cq4 : (x.f == (z : Int)) = true := by simpa using q4
                  have HV : Hid (decide ((x.f ≤ z ∧ (z : Int) ≤ x.t) ∨ (x.k = 3 ∧ x.f = z)) = true) := by
                    show _ = _
                    simp only [decide_eq_true_eq]
                    omega
                  clear q1 q2 q3 q4
                  go_wp2_with fail
                  go_meet
                  exact ⟨by rw [HV.out], rfl⟩
                · have cq1 : decide (x.f ≤ (z : Int)) = true := by simpa using q1
                  have cq2 : decide ((z : Int) ≤ x.t) = false := by simpa using q2
                  have cq3 : (x.k == 3) = true := by simpa using q3
                  have cq4 : (x.f == (z : Int)) = false := by simpa using q4
                  have HV : Hid (decide ((x.f ≤ z ∧ (z : Int) ≤ x.t) ∨ (x.k = 3 ∧ x.f = z)) = false) := by
                    show _ = _
                    simp only [decide_eq_false_iff_not]
                    omega
                  clear q1 q2 q3 q4
                  go_wp2_with fail
                  go_meet
                  exact ⟨by rw [HV.out], rfl⟩
              · have cq1 : decide (x.f ≤ (z : Int)) = true := by simpa using q1
                have cq2 : decide ((z : Int) ≤ x.t) = false := by simpa using q2
                have cq3 : (x.k == 3) = false := by simpa using q3
                have HV : Hid (decide ((x.f ≤ z ∧ (z : Int) ≤ x.t) ∨ (x.k = 3 ∧ x.f = z)) = false) := by
                  show _ = _
                  simp only [decide_eq_false_iff_not]
                  omega
                clear q1 q2 q3
                go_wp2_with fail
                go_meet
                exact ⟨by rw [HV.out], rfl⟩
          · by_cases q3 : x.k = 3
            · by_cases q4 : x.f = (z : Int)
              · have cq1 : decide (x.f ≤ (z : Int)) = false := by simpa using q1
                have cq3 : (x.k == 3) = true := by simpa using q3
                have cq4 : (x.f == (z : Int)) = true := by simpa using q4
                have HV : Hid (decide ((x.f ≤ z ∧ (z : Int) ≤ x.t) ∨ (x.k = 3 ∧ x.f = z)) = true) := by
                  show _ = _
                  simp only [decide_eq_true_eq]
                  omega
                clear q1 q3 q4
                go_wp2_with fail
                go_meet
                exact ⟨by rw [HV.out], rfl⟩
              · have cq1 : decide (x.f ≤ (z : Int)) = false := by simpa using q1
                have cq3 : (x.k == 3) = true := by simpa using q3
                have cq4 : (x.f == (z : Int)) = false := by simpa using q4
                have HV : Hid (decide ((x.f ≤ z ∧ (z : Int) ≤ x.t) ∨ (x.k = 3 ∧ x.f = z)) = false) := by
                  show _ = _
                  simp only [decide_eq_false_iff_not]
                  omega
                clear q1 q3 q4
                go_wp2_with fail
                go_meet
                exact ⟨by rw [HV.out], rfl⟩
            · have cq1 : decide (x.f ≤ (z : Int)) = false := by simpa using q1
              have cq3 : (x.k == 3) = false := by simpa using q3
              have HV : Hid (decide ((x.f ≤ z ∧ (z : Int) ≤ x.t) ∨ (x.k = 3 ∧ x.f = z)) = false) := by
                show _ = _
                simp only [decide_eq_false_iff_not]
                omega
              clear q1 q3
              go_wp2_with fail
              go_meet
              exact ⟨by rw [HV.out], rfl⟩
        case rest =>
          obtain ⟨rfl, rfl⟩ := hcut
          by_cases q3 : x.k = 3
          · by_cases q4 : x.f = (z : Int)
            · have HV : decide ((x.f ≤ z ∧ (z : Int) ≤ x.t) ∨ (x.k = 3 ∧ x.f = z)) = true := by
                simp only [decide_eq_true_eq]
                omega
              have HN : Hid (ownE z x = some ⟨x.k, 0, 0, x.x, x.y⟩) := by
                show _ = _
                unfold ownE Ev.last
                rw [if_pos]
                split <;> omega
              have c3 : (x.k == 3) = true := by simpa using q3
              have c4 : (x.f != (z : Int)) = false := by simpa using q4
              rw [HV]
              clear HV q3 q4
              have hwa := HI.out.2
              have hwl := hwa.lt
              have hlen : (owns z (es.take k)).length ≤ k := by
                have := HOW.out.2.2
                rw [List.length_take] at this
                omega
              obtain ⟨wm, hwm⟩ : ∃ wm, wm = owns z (es.take k) := ⟨_, rfl⟩
              rw [← hwm] at hwa hlen
              obtain ⟨wn, hwn⟩ : ∃ wn, wn = wm.length := ⟨_, rfl⟩
              rw [← hwn] at hwa hlen
              have HN2 := Lib.hid (And.intro hwm hwn)
              clear hwm hwn
              have hwa3 : (wr.alloc (.cells #[.int .i64 x.k, .int .i64 0, .int .i64 0, .int .i64 x.x, .int .i64 x.y] 54)).ownsRow w11.heap.size 54 5 u25 wn (eflat wm).toList := hwa.alloc _
              have hb3 : Below w11.heap.size w11 (wr.alloc (.cells #[.int .i64 x.k, .int .i64 0, .int .i64 0, .int .i64 x.x, .int .i64 x.y] 54)) := HI.out.1.alloc hsz _
              go_wp2_with (at_builtin; refine wpList_append_lies _ rfl _ _ 23 rfl w11.heap.size 54 i0 (.agg #[iv 0, iv 0, iv 0, iv 0, iv 0]) 5 40 Try.underlying23 hi hz0 hz1 hz2 rfl (by decide) u25 wn (eflat wm).toList rfl ?c0 ⟨wr.heap.size + 1, 0, none⟩ 1 1 [.int .i64 x.k, .int .i64 0, .int .i64 0, .int .i64 x.x, .int .i64 x.y] rfl rfl ?c1 ?c2 (by decide) ?c3 ?c4 ?c5 _ rfl ?_)
              case c0 => exact hwa3.alloc _
              case c1 => simpa using cell_new5 (wr.alloc (.cells #[.int .i64 x.k, .int .i64 0, .int .i64 0, .int .i64 x.x, .int .i64 x.y] 54)) (.int .i64 x.k) (.int .i64 0) (.int .i64 0) (.int .i64 x.x) (.int .i64 x.y) 54
              case c2 => simp [Value.oneCell']
              case c3 => unfold maxLen; omega
              case c4 => omega
              case c5 => simp; omega
              intro g1 c1 w5 hown hgrow hat hg1
              have HJ : Hid (Below w11.heap.size w11 w5 ∧ w5.ownsRow w11.heap.size 54 5 (.slice (some ⟨g1, 0, none⟩) (wn + 1) c1) (owns z (es.take (k + 1))).length (eflat (owns z (es.take (k + 1)))).toList) := by
                refine ⟨(hb3.alloc (by simp; omega) _).grown hgrow (by simp; omega) (fun k hk => (hwl k hk).1), ?_⟩
                rw [HOW.out.1 HN.out, ← HN2.out.1, eflat_app, List.length_append, ← HN2.out.2]
                exact hown
              clear hown hgrow hat hb3 hwa3 hwl HI HOW
              go_wp2_with fail
              go_roundw
              case rel => exact ⟨k + 1, by omega, by go_num, HJ.out⟩
              case measure => simp [intOf]; omega
            · by_cases q12 : x.f ≤ (z : Int) ∧ (z : Int) ≤ x.t
              · have HV : decide ((x.f ≤ z ∧ (z : Int) ≤ x.t) ∨ (x.k = 3 ∧ x.f = z)) = true := by
                  simp only [decide_eq_true_eq]
                  omega
                have HN : Hid (ownE z x = none) := by
                  show _ = _
                  unfold ownE Ev.last
                  rw [if_neg]
                  split <;> omega
                have c3 : (x.k == 3) = true := by simpa using q3
                have c4 : (x.f != (z : Int)) = true := by simpa using q4
                rw [HV]
                clear HV q3 q4 q12
                have HJ : Hid (Below w11.heap.size w11 (wr.alloc (.cells #[.int .i64 x.k, .int .i64 x.f, .int .i64 x.t, .int .i64 x.x, .int .i64 x.y] 54)) ∧ (wr.alloc (.cells #[.int .i64 x.k, .int .i64 x.f, .int .i64 x.t, .int .i64 x.x, .int .i64 x.y] 54)).ownsRow w11.heap.size 54 5 u25 (owns z (es.take (k + 1))).length (eflat (owns z (es.take (k + 1)))).toList) := by
                  refine ⟨HI.out.1.alloc hsz _, ?_⟩
                  rw [HOW.out.2.1 HN.out]
                  exact HI.out.2.alloc _
                clear HI HOW
                go_wp2_with fail
                go_roundw
                case rel => exact ⟨k + 1, by omega, by go_num, HJ.out⟩
                case measure => simp [intOf]; omega
              · have HV : decide ((x.f ≤ z ∧ (z : Int) ≤ x.t) ∨ (x.k = 3 ∧ x.f = z)) = false := by
                  simp only [decide_eq_false_iff_not]
                  omega
                have HN : Hid (ownE z x = none) := by
                  show _ = _
                  unfold ownE Ev.last
                  rw [if_neg]
                  split <;> omega
                rw [HV]
                clear HV q3 q4 q12
                have HJ : Hid (Below w11.heap.size w11 (wr.alloc (.cells #[.int .i64 x.k, .int .i64 x.f, .int .i64 x.t, .int .i64 x.x, .int .i64 x.y] 54)) ∧ (wr.alloc (.cells #[.int .i64 x.k, .int .i64 x.f, .int .i64 x.t, .int .i64 x.x, .int .i64 x.y] 54)).ownsRow w11.heap.size 54 5 u25 (owns z (es.take (k + 1))).length (eflat (owns z (es.take (k + 1)))).toList) := by
                  refine ⟨HI.out.1.alloc hsz _, ?_⟩
                  rw [HOW.out.2.1 HN.out]
                  exact HI.out.2.alloc _
                clear HI HOW
                go_wp2_with fail
                go_roundw
                case rel => exact ⟨k + 1, by omega, by go_num, HJ.out⟩
                case measure => simp [intOf]; omega
          · by_cases q12 : x.f ≤ (z : Int) ∧ (z : Int) ≤ x.t
            · have HV : decide ((x.f ≤ z ∧ (z : Int) ≤ x.t) ∨ (x.k = 3 ∧ x.f = z)) = true := by
                simp only [decide_eq_true_eq]
                omega
              have HN : Hid (ownE z x = some ⟨x.k, 0, 0, x.x, x.y⟩) := by
                show _ = _
                unfold ownE Ev.last
                rw [if_pos]
                split <;> omega
              have c3 : (x.k == 3) = false := by simpa using q3
              rw [HV]
              clear HV q3 q12
              have hwa := HI.out.2
              have hwl := hwa.lt
              have hlen : (owns z (es.take k)).length ≤ k := by
                have := HOW.out.2.2
                rw [List.length_take] at this
                omega
              obtain ⟨wm, hwm⟩ : ∃ wm, wm = owns z (es.take k) := ⟨_, rfl⟩
              rw [← hwm] at hwa hlen
              obtain ⟨wn, hwn⟩ : ∃ wn, wn = wm.length := ⟨_, rfl⟩
              rw [← hwn] at hwa hlen
              have HN2 := Lib.hid (And.intro hwm hwn)
              clear hwm hwn
              have hwa3 : (wr.alloc (.cells #[.int .i64 x.k, .int .i64 0, .int .i64 0, .int .i64 x.x, .int .i64 x.y] 54)).ownsRow w11.heap.size 54 5 u25 wn (eflat wm).toList := hwa.alloc _
              have hb3 : Below w11.heap.size w11 (wr.alloc (.cells #[.int .i64 x.k, .int .i64 0, .int .i64 0, .int .i64 x.x, .int .i64 x.y] 54)) := HI.out.1.alloc hsz _
              go_wp2_with (at_builtin; refine wpList_append_lies _ rfl _ _ 23 rfl w11.heap.size 54 i0 (.agg #[iv 0, iv 0, iv 0, iv 0, iv 0]) 5 40 Try.underlying23 hi hz0 hz1 hz2 rfl (by decide) u25 wn (eflat wm).toList rfl ?c0 ⟨wr.heap.size + 1, 0, none⟩ 1 1 [.int .i64 x.k, .int .i64 0, .int .i64 0, .int .i64 x.x, .int .i64 x.y] rfl rfl ?c1 ?c2 (by decide) ?c3 ?c4 ?c5 _ rfl ?_)
              case c0 => exact hwa3.alloc _
              case c1 => simpa using cell_new5 (wr.alloc (.cells #[.int .i64 x.k, .int .i64 0, .int .i64 0, .int .i64 x.x, .int .i64 x.y] 54)) (.int .i64 x.k) (.int .i64 0) (.int .i64 0) (.int .i64 x.x) (.int .i64 x.y) 54
              case c2 => simp [Value.oneCell']
              case c3 => unfold maxLen; omega
              case c4 => omega
              case c5 => simp; omega
              intro g1 c1 w5 hown hgrow hat hg1
              have HJ : Hid (Below w11.heap.size w11 w5 ∧ w5.ownsRow w11.heap.size 54 5 (.slice (some ⟨g1, 0, none⟩) (wn + 1) c1) (owns z (es.take (k + 1))).length (eflat (owns z (es.take (k + 1)))).toList) := by
                refine ⟨(hb3.alloc (by simp; omega) _).grown hgrow (by simp; omega) (fun k hk => (hwl k hk).1), ?_⟩
                rw [HOW.out.1 HN.out, ← HN2.out.1, eflat_app, List.length_append, ← HN2.out.2]
                exact hown
              clear hown hgrow hat hb3 hwa3 hwl HI HOW
              go_wp2_with fail
              go_roundw
              case rel => exact ⟨k + 1, by omega, by go_num, HJ.out⟩
              case measure => simp [intOf]; omega
            · have HV : decide ((x.f ≤ z ∧ (z : Int) ≤ x.t) ∨ (x.k = 3 ∧ x.f = z)) = false := by
                simp only [decide_eq_false_iff_not]
                omega
              have HN : Hid (ownE z x = none) := by
                show _ = _
                unfold ownE Ev.last
                rw [if_neg]
                split <;> omega
              rw [HV]
              clear HV q3 q12
              have HJ : Hid (Below w11.heap.size w11 (wr.alloc (.cells #[.int .i64 x.k, .int .i64 x.f, .int .i64 x.t, .int .i64 x.x, .int .i64 x.y] 54)) ∧ (wr.alloc (.cells #[.int .i64 x.k, .int .i64 x.f, .int .i64 x.t, .int .i64 x.x, .int .i64 x.y] 54)).ownsRow w11.heap.size 54 5 u25 (owns z (es.take (k + 1))).length (eflat (owns z (es.take (k + 1)))).toList) := by
                refine ⟨HI.out.1.alloc hsz _, ?_⟩
                rw [HOW.out.2.1 HN.out]
                exact HI.out.2.alloc _
              clear HI HOW
              go_wp2_with fail
              go_roundw
              case rel => exact ⟨k + 1, by omega, by go_num, HJ.out⟩
              case measure => simp [intOf]; omega
      · have hkl : k = es.length := by omega
        subst hkl
        have hrow := HI.out.2
        rw [List.take_length] at hrow
        obtain ⟨A5, c5, rfl, he5⟩ := erow_own hrow
        have hln := owns_len z es
        have HX := Lib.hid (And.intro (belowT H11.out.1 HI.out.1) (And.intro (H11.out.2.2.2.step HI.out.1) he5))
        clear hrow he5 HI
        have hcz := fun w => @cut22 A zs.length cap z (by omega) w
        have hlts : ¬ ((es.length : Int) < es.length) := by omega
        go_wp2_with fail
        refine (play_any [zs.getD z zd] (owns z es) (offZ A cap z) (cap - z) A5 c5 wr (ZRow.one (hz.step HX.out.1) hzl hc) HX.out.2.2 (by simp) (by omega)).mono ?_
        intro r wf hp
        obtain ⟨A6, c6, rfl, hb, hz6⟩ := play_row hp
        clear hp
        have hO := play_own1 hzl HP0.out
        rw [← HR.out] at hO
        obtain ⟨⟨oz, s6, i6, e6⟩, hR6⟩ : ∃ R, R = playR [zs.getD z zd] (owns z es) := ⟨_, rfl⟩
        unfold owns at hR6
        rw [← hR6] at hO
        obtain ⟨rfl, rfl⟩ := hO
        rw [show playR [zs.getD z zd] (owns z es) = _ from hR6.symm] at hz6 ⊢
        simp only at hz6 ⊢
        clear hR6
        have hbw := belowT (belowT HX.out.1 hb) (below1 wf (.cells #[iv s6.f1, iv s6.f2, iv s6.p1, iv s6.p2, iv s6.w1, iv s6.w2] 29))
        have hr1 := (HX.out.2.1.step hb).step (below1 wf (.cells #[iv s6.f1, iv s6.f2, iv s6.p1, iv s6.p2, iv s6.w1, iv s6.w2] 29))
        have hr6 := hz6.step (below1 wf (.cells #[iv s6.f1, iv s6.f2, iv s6.p1, iv s6.p2, iv s6.w1, iv s6.w2] 29))
        obtain ⟨g6, o6, g1, o1, eA6, eA1, hK⟩ := ApK.of hbw hr1 hr6 (by omega) rfl
        subst eA6 eA1
        have hK := Lib.hid hK
        clear hb hz6 HX hcz hbw hr1 hr6
        generalize rz.getD z zd = y at hK ⊢
        obtain ⟨ya, yb, yc, yd⟩ := y
        have hK : Hid (ApK w (wf.alloc (.cells #[iv s6.f1, iv s6.f2, iv s6.p1, iv s6.p2, iv s6.w1, iv s6.w2] 29)) g6 o6 g1 o1 z ya yb yc yd) := hK
        have hq60 := eql60s ya yb yc yd
        have hlone : ([(⟨ya, yb, yc, yd⟩ : Zn)] : List Zn).length = 1 := rfl
        rw [hlone]
        have hzl2 : (z : Int) < rz.length := by omega
        go_wp2_with fail
        generalize (wf.alloc (.cells #[.int .i64 s6.f1, .int .i64 s6.f2, .int .i64 s6.p1, .int .i64 s6.p2, .int .i64 s6.w1, .int .i64 s6.w2] 29)) = w7 at hK ⊢
        have HKd : Hid (ApK w w7.drew g6 o6 g1 o1 z ya yb yc yd) := hK.out.step (Below.refl _ _).drew
        go_region_held3 (fun w' => w'.cell? ⟨g6, o6, none⟩ = some (.int .i64 ya) ∧ w'.cell? ⟨g6, o6 + 1, none⟩ = some (.int .i64 yb) ∧ w'.cell? ⟨g6, o6 + 2, none⟩ = some (.int .i64 yc) ∧ w'.cell? ⟨g6, o6 + 3, none⟩ = some (.int .i64 yd) ∧ w'.cell? ⟨g1, o1 + z * 4, none⟩ = some (.int .i64 ya) ∧ w'.cell? ⟨g1, o1 + z * 4 + 1, none⟩ = some (.int .i64 yb) ∧ w'.cell? ⟨g1, o1 + z * 4 + 2, none⟩ = some (.int .i64 yc) ∧ w'.cell? ⟨g1, o1 + z * 4 + 3, none⟩ = some (.int .i64 yd)) (first | exact HKd.out.keep | exact HKn.out.keep) ((go_at_call 14; refine (alive_any _).mono ?_; rintro r wN ⟨rfl, hbN⟩; (have HKn : Hid (ApK w wN g6 o6 g1 o1 z ya yb yc yd) := HKd.out.step hbN); clear hbN HKd))
        all_goals
          go_wp2
          go_ret
          exact ⟨rfl, HKn.out.bl⟩
end Go.Proofs.Ytogabjlhecnbbaa

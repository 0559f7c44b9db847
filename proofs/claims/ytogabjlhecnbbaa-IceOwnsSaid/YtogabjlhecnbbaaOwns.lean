/- The law IceOwns. -/
import Derived.Test.YtogabjlhecnbbaaCopy
namespace Go.Proofs.Ytogabjlhecnbbaa
open Go.RowKit Go.Shelf
structure OW (w W : World) (A3 A4 A6 : Option Addr) (S1 : Nat) (zs : List Zn) (es : List Ev) (zz : List Zn) (s : Sm) : Prop where
  b : Below w.heap.size w W
  z3 : ZRow W W.heap.size A3 zs
  e4 : ERow W W.heap.size A4 es
  z6 : ZRow W W.heap.size A6 zz
  s1 : Has W S1 29 (smc s)
theorem OW.step {w W W' : World} {A3 A4 A6 : Option Addr} {S1 : Nat} {zs : List Zn} {es : List Ev} {zz : List Zn} {s : Sm} (h : OW w W A3 A4 A6 S1 zs es zz s) (hb : Below W.heap.size W W') : OW w W' A3 A4 A6 S1 zs es zz s :=
  ⟨belowT h.b hb, h.z3.step hb, h.e4.step hb, h.z6.step hb, h.s1.below hb h.s1.lt⟩

set_option maxRecDepth 100000 in
set_option maxHeartbeats 4000000 in
theorem owns_any (days least most : Int) (zs : List Zn) (es : List Ev) (A A' : Option Addr) (cap cap' : Nat) (w : World) (hz : ZRow w w.heap.size A zs) (he : ERow w w.heap.size A' es) (hl : zs.length ≤ 9223372036854775807) (hl' : es.length ≤ 9223372036854775807)
    (hn : A = none → zs.length = 0 ∧ cap = 0) (hn' : A' = none → es.length = 0 ∧ cap' = 0) :
    Calls Try.prog 12 #[.slice A zs.length cap, .slice A' es.length cap', iv days, iv least, iv most] w fun e w' => e = .returned (.bool true) ∧ Below w.heap.size w w' := by
  obtain ⟨i0, hi, hz0, hz1, hz2⟩ := info_parts Try.info60
  obtain ⟨j0, hj, hj0, hj1, hj2⟩ := info_parts Try.info54
  by_cases h30 : 30 < (zs.length : Int)
  · go_enter Try.func12, Try.ntmps12
    go_wp2_with fail
    refine (alive_any _).mono ?_
    rintro e wb ⟨rfl, hb⟩
    go_wp2_with fail
    go_ret
    exact ⟨rfl, hb⟩
  have h30' : decide (30 < (zs.length : Int)) = false := by simpa using h30
  by_cases h60 : 60 < (es.length : Int)
  · go_enter Try.func12, Try.ntmps12
    go_wp2_with fail
    refine (alive_any _).mono ?_
    rintro e wb ⟨rfl, hb⟩
    go_wp2_with fail
    go_ret
    exact ⟨rfl, hb⟩
  have h60' : decide (60 < (es.length : Int)) = false := by simpa using h60
  have HZ := Lib.hid (And.intro hz he)
  have HN := Lib.hid (And.intro hn hn')
  clear hn hn' hz he
  go_enter Try.func12, Try.ntmps12
  go_wp2_with (at_builtin; refine wpList_append_copy rfl _ _ 22 rfl w.heap.size 60 i0 (.agg #[iv 0, iv 0, iv 0, iv 0]) 4 32 Try.underlying22 hi hz0 hz1 hz2 rfl (by decide) _ 0 [] rfl (own_made 60 4) A zs.length cap (flat zs).toList rfl HN.out.1 ?c1 ?c2 ?c3 ?c4 ?c5 ?c6 ?_)
  case c1 => simp [flat_size]
  case c2 => simpa using zrow_news (HZ.out.1.below (below1 w (.cells #[] 60)))
  case c3 => simpa using flat_one zs
  case c4 => unfold maxLen; omega
  case c5 => omega
  try (case c6 => simp)
  intro v1 w1 hown1 hgrow1
  have hb1 : Below w.heap.size w w1 := (below1 w _).grown hgrow1 (by simp) (own_low (own_made 60 4))
  obtain ⟨A3, cap3, rfl, -, hz3⟩ := own_zap (B := w1.heap.size) (zs := zs) (by simpa using hown1) (fun _ g _ h => by omega)
  have HZ3 := Lib.hid hz3.row
  clear hown1 hgrow1 hz3
  go_wp2_with (at_builtin; refine wpList_append_copy rfl _ _ 23 rfl w1.heap.size 54 j0 (.agg #[iv 0, iv 0, iv 0, iv 0, iv 0]) 5 40 Try.underlying23 hj hj0 hj1 hj2 rfl (by decide) _ 0 [] rfl (own_made 54 5) A' es.length cap' (eflat es).toList rfl HN.out.2 ?d1 ?d2 ?d3 ?d4 ?d5 ?d6 ?_)
  case d1 => simp [eflat_size]
  case d2 => simpa using erow_news ((HZ.out.2.step hb1).below (below1 w1 (.cells #[] 54)))
  case d3 => simpa using eflat_one es
  case d4 => unfold maxLen; omega
  case d5 => omega
  try (case d6 => simp)
  intro v2 w2 hown2 hgrow2
  have hb2 : Below w1.heap.size w1 w2 := (below1 w1 _).grown hgrow2 (by simp) (own_low (own_made 54 5))
  obtain ⟨A4, cap4, rfl, he4⟩ := own_eap (B := w2.heap.size) (es := es) (by simpa using hown2) (fun _ g _ h => by omega)
  have HR2 := Lib.hid (And.intro (belowT hb1 hb2) (And.intro (HZ3.out.step hb2) he4.row))
  clear hown2 hgrow2 he4 HZ3 hb1 hb2
  go_wp2_with fail
  refine (play_any zs es A cap A' cap' w2 (HZ.out.1.step HR2.out.1) (HZ.out.2.step HR2.out.1) hl hl').mono ?_
  intro r wb hp
  obtain ⟨A5, cap5, B5, rfl, hb, hz5, hn5, hB5, hBn, hown5⟩ := play_own hp
  clear hp
  have hlen := playR_len zs es
  obtain ⟨⟨zz, s, i, e⟩, hR⟩ : ∃ R, R = playR zs es := ⟨_, rfl⟩
  rw [← hR] at hz5 hn5 hown5 hlen ⊢
  simp only at hz5 hn5 hown5 hlen ⊢
  have HR := Lib.hid hR
  have H5 := Lib.hid (And.intro hz5 (And.intro hn5 hown5))
  clear hR hz5 hn5 hown5
  have H3 : Hid (Below w.heap.size w wb ∧ ZRow wb w2.heap.size A3 zs ∧ ERow wb w2.heap.size A4 es ∧ ZRow wb w2.heap.size A zs ∧ ERow wb w2.heap.size A' es ∧ w2.heap.size ≤ wb.heap.size) :=
    ⟨belowT HR2.out.1 hb, HR2.out.2.1.below hb, HR2.out.2.2.below hb, (HZ.out.1.step HR2.out.1).below hb, (HZ.out.2.step HR2.out.1).below hb, hb.size⟩
  have hw2 := HR2.out.1.size
  clear hb HR2
  have hzr3 := H5.out.1.below (below1 wb (.cells #[iv s.f1, iv s.f2, iv s.p1, iv s.p2, iv s.w1, iv s.w2] 29))
  have HZ5 := Lib.hid hzr3
  clear hzr3
  go_wp2_with (at_builtin; refine wpList_append_copy rfl _ _ 22 rfl (wb.heap.size + 1) 60 i0 (.agg #[iv 0, iv 0, iv 0, iv 0]) 4 32 Try.underlying22 hi hz0 hz1 hz2 rfl (by decide) _ 0 [] rfl ?e0 A5 zz.length cap5 (flat zz).toList rfl H5.out.2.1 ?e1 ?e2 ?e3 ?e4 ?e5 ?e6 ?_)
  case e0 => exact own_madeAt (by simp) 60 4
  case e1 => simp [flat_size]
  case e2 => simpa using zrow_news (HZ5.out.below ((below1 _ (.cells #[] 60)).mono (by simp)))
  case e3 => simpa using flat_one zz
  case e4 => unfold maxLen; omega
  case e5 => omega
  try (case e6 => simp)
  intro v4 w4 hown4 hgrow4
  have hb4 : Below (wb.heap.size + 1) ((wb.alloc (.cells #[iv s.f1, iv s.f2, iv s.p1, iv s.p2, iv s.w1, iv s.w2] 29)).alloc (.cells #[] 60)) w4 := (Below.refl _ _).grown hgrow4 (by simp) (own_low (own_madeAt (w := wb.alloc (.cells #[iv s.f1, iv s.f2, iv s.p1, iv s.p2, iv s.w1, iv s.w2] 29)) (by simp) 60 4))
  have hb4' : Below wb.heap.size wb w4 := ((below1 wb _).alloc (by simp) _).trans (hb4.mono (by omega))
  obtain ⟨A6, cap6, rfl, -, hz6⟩ := own_zap (B := B5) (zs := zz) (by simpa using hown4) (fun h g h1 _ => by have := (H5.out.2.2 h).2.lt; omega)
  have hS1 : Has w4 wb.heap.size 29 (smc s) := ((Has.new wb 29 _).alloc _).below hb4 (by omega)
  have hsz4 : w2.heap.size ≤ w4.heap.size := Nat.le_trans H3.out.2.2.2.2.2 hb4'.size
  have H4 : Hid (Below w.heap.size w w4 ∧ ZAp w4 B5 A3 zs ∧ EAp w4 B5 A4 es ∧ ZAp w4 B5 A6 zz ∧ Has w4 wb.heap.size 29 (smc s) ∧ w.heap.size ≤ B5 ∧ (0 < zz.length → A5 = some ⟨B5, 0, none⟩ ∧ Has w4 B5 60 (flat zz))) :=
    ⟨belowT H3.out.1 hb4', ZAp.of (H3.out.2.1.below (hb4'.mono H3.out.2.2.2.2.2)) hB5 hsz4, EAp.of (H3.out.2.2.1.below (hb4'.mono H3.out.2.2.2.2.2)) hB5 hsz4, hz6, hS1, by omega, fun h => ⟨(H5.out.2.2 h).1, (H5.out.2.2 h).2.below hb4' (H5.out.2.2 h).2.lt⟩⟩
  clear hown4 hgrow4 hb4 hb4' hz6 hS1 hsz4
  go_wp2_with fail
  go_loopw [52] (fun t wr => ∃ k : Nat, k ≤ zz.length ∧ t = .int .i64 k ∧ Hid (Only (fun j => j = B5) w4 wr ∧ (0 < zz.length → ∃ cs, Has wr B5 60 cs ∧ cs.size = zz.length * 4))) (fun t _ => zz.length - (intOf t).toNat)
  case atStart => exact ⟨0, Nat.zero_le _, rfl, Only.refl _ _, fun h => ⟨_, (H4.out.2.2.2.2.2.2 h).2, flat_size _⟩⟩
  case round =>
    obtain ⟨k, hk, rfl, HO⟩ := hrel
    by_cases hlt : k < zz.length
    · obtain ⟨rfl, -⟩ := H4.out.2.2.2.2.2.2 (by omega)
      obtain ⟨cs, hcs, hcz⟩ := HO.out.2 (by omega)
      have hkI : (k : Int) < zz.length := by omega
      obtain ⟨u, hu⟩ : ∃ u, cs[k * 4]? = some u := ⟨_, Array.getElem?_eq_getElem (by omega)⟩
      have c0 : wr.cell? ⟨B5, k * 4, none⟩ = some u := (hcs.cell _).trans hu
      have f0 := hcs.frozen (k * 4)
      have hlt5 := hcs.lt
      have HN2 : Hid (Only (fun j => j = B5) w4 (wr.setCell ⟨B5, k * 4, none⟩ (iv (-1))) ∧ (0 < zz.length → ∃ cs, Has (wr.setCell ⟨B5, k * 4, none⟩ (iv (-1))) B5 60 cs ∧ cs.size = zz.length * 4)) :=
        ⟨HO.out.1.setCell (p := ⟨B5, k * 4, none⟩) (.inl rfl) _, fun _ => ⟨_, hcs.set _ _, by simpa using hcz⟩⟩
      clear hcs hcz hu
      go_wp2_with fail
      go_roundw
      case rel => exact ⟨k + 1, by omega, by go_num, HN2.out⟩
      case measure => simp [intOf]; omega
    · have HW : Hid (OW w wr A3 A4 A6 wb.heap.size zs es zz s) :=
        ⟨H4.out.1.trans (HO.out.1.below H4.out.1.size (fun i hi => by have := H4.out.2.2.2.2.2.1; omega)), (H4.out.2.1.only HO.out.1).row, (H4.out.2.2.1.only HO.out.1).row, (H4.out.2.2.2.1.only HO.out.1).row, H4.out.2.2.2.2.1.only HO.out.1 (by have := hBn; omega)⟩
      clear HO H4 H3 H5 HZ5
      obtain ⟨dd, hdd⟩ : ∃ dd, dd = min days 5 := ⟨_, rfl⟩
      rcases Int.lt_or_le 5 days with h5 | h5
      all_goals
        go_wp2_with fail
        refine (keeps_any zs es _ least most A A' cap cap' wr (HZ.out.1.step HW.out.b) (HZ.out.2.step HW.out.b) hl hl').mono ?_
        rintro r wk ⟨rfl, hb⟩
        have HWk := Lib.hid (HW.out.step hb)
        clear hb
        generalize triR _ = kv
        clear HW hdd
        go_wp2_with fail
        refine (play_any zs es A cap A' cap' wk (HZ.out.1.step HWk.out.b) (HZ.out.2.step HWk.out.b) hl hl').mono ?_
        intro r wl hp
        obtain ⟨A7, cap7, rfl, hb, hz7⟩ := play_row hp
        clear hp
        rw [← HR.out] at hz7 ⊢
        simp only at hz7 ⊢
        have HQ : Hid (OW w (wl.alloc (.cells #[iv s.f1, iv s.f2, iv s.p1, iv s.p2, iv s.w1, iv s.w2] 29)) A3 A4 A6 wb.heap.size zs es zz s ∧ ZRow (wl.alloc (.cells #[iv s.f1, iv s.f2, iv s.p1, iv s.p2, iv s.w1, iv s.w2] 29)) (wl.alloc (.cells #[iv s.f1, iv s.f2, iv s.p1, iv s.p2, iv s.w1, iv s.w2] 29)).heap.size A7 zz ∧ Has (wl.alloc (.cells #[iv s.f1, iv s.f2, iv s.p1, iv s.p2, iv s.w1, iv s.w2] 29)) wl.heap.size 29 (smc s)) :=
          ⟨(HWk.out.step hb).step (below1 _ _), hz7.step (below1 _ _), Has.new _ _ _⟩
        clear hb hz7 HWk
        go_wp2_with fail
        go_loopw [78] (fun t wr => ∃ k : Nat, k ≤ es.length ∧ t = .int .i64 k ∧ Hid (OW w wr A3 A4 A6 wb.heap.size zs es zz s ∧ ZRow wr wr.heap.size A7 zz ∧ Has wr wl.heap.size 29 (smc s))) (fun t _ => es.length - (intOf t).toNat)
        case atStart => exact ⟨0, Nat.zero_le _, rfl, HQ.out⟩
        case round =>
          obtain ⟨k, hk, rfl, HQr⟩ := hrel
          clear HQ
          by_cases hlt : k < es.length
          · obtain ⟨g, o, rfl, hg, c0, c1, c2, c3, c4⟩ := HQr.out.1.e4 k hlt
            obtain ⟨g', o', rfl, hg', d0, d1, d2, d3, d4⟩ := (HZ.out.2.step HQr.out.1.b) k hlt
            have hI : (k : Int) < es.length := by omega
            have hne := fun w => neq54 es[k] w
            go_wp2
            refine still_all (by kernel_rfl) (by kernel_rfl) ?_
            repeat still_step
            refine wpStill_nil ?_
            clear hne
            have HQd : Hid (OW w wr.drew A3 (some ⟨g, o, none⟩) A6 wb.heap.size zs es zz s ∧ ZRow wr.drew wr.drew.heap.size A7 zz ∧ Has wr.drew wl.heap.size 29 (smc s)) := ⟨HQr.out.1.step ((Below.refl _ _).drew), HQr.out.2.1.step ((Below.refl _ _).drew), HQr.out.2.2.drew⟩
            go_wp2
            go_roundw
            case rel => exact ⟨k + 1, by omega, by go_num, HQd.out⟩
            case measure => simp [intOf]; omega
          · go_wp2_with fail
            refine (same_any zs zs A3 A cap3 cap wr HQr.out.1.z3 (HZ.out.1.step HQr.out.1.b) hl hl).mono ?_
            rintro r wn ⟨rfl, hb⟩
            rw [show decide (zs = zs) = true from by simp]
            have HQn : Hid (OW w wn A3 A4 A6 wb.heap.size zs es zz s ∧ ZRow wn wn.heap.size A7 zz ∧ Has wn wl.heap.size 29 (smc s)) := ⟨HQr.out.1.step hb, HQr.out.2.1.step hb, HQr.out.2.2.below hb HQr.out.2.2.lt⟩
            clear hb HQr
            go_wp2_with fail
            refine (same_any zz zz A7 A6 cap7 cap6 wn HQn.out.2.1 HQn.out.1.z6 (by omega) (by omega)).mono ?_
            rintro r wo ⟨rfl, hb⟩
            rw [show decide (zz = zz) = true from by simp]
            have HQo : Hid (OW w wo A3 A4 A6 wb.heap.size zs es zz s ∧ ZRow wo wo.heap.size A7 zz ∧ Has wo wl.heap.size 29 (smc s)) := ⟨HQn.out.1.step hb, HQn.out.2.1.step hb, HQn.out.2.2.below hb HQn.out.2.2.lt⟩
            clear hb HQn
            have hq := eq29s
            have x0 : wo.cell? ⟨wb.heap.size, 0, none⟩ = some (iv s.f1) := HQo.out.1.s1.cell 0
            have y0 : wo.cell? ⟨wl.heap.size, 0, none⟩ = some (iv s.f1) := HQo.out.2.2.cell 0
            have x1 : wo.cell? ⟨wb.heap.size, 1, none⟩ = some (iv s.f2) := HQo.out.1.s1.cell 1
            have y1 : wo.cell? ⟨wl.heap.size, 1, none⟩ = some (iv s.f2) := HQo.out.2.2.cell 1
            have x2 : wo.cell? ⟨wb.heap.size, 2, none⟩ = some (iv s.p1) := HQo.out.1.s1.cell 2
            have y2 : wo.cell? ⟨wl.heap.size, 2, none⟩ = some (iv s.p1) := HQo.out.2.2.cell 2
            have x3 : wo.cell? ⟨wb.heap.size, 3, none⟩ = some (iv s.p2) := HQo.out.1.s1.cell 3
            have y3 : wo.cell? ⟨wl.heap.size, 3, none⟩ = some (iv s.p2) := HQo.out.2.2.cell 3
            have x4 : wo.cell? ⟨wb.heap.size, 4, none⟩ = some (iv s.w1) := HQo.out.1.s1.cell 4
            have y4 : wo.cell? ⟨wl.heap.size, 4, none⟩ = some (iv s.w1) := HQo.out.2.2.cell 4
            have x5 : wo.cell? ⟨wb.heap.size, 5, none⟩ = some (iv s.w2) := HQo.out.1.s1.cell 5
            have y5 : wo.cell? ⟨wl.heap.size, 5, none⟩ = some (iv s.w2) := HQo.out.2.2.cell 5
            have xl := HQo.out.1.s1.lt
            have yl := HQo.out.2.2.lt
            go_wp2_with fail
            refine (alive_any _).mono ?_
            rintro r wp ⟨rfl, hb⟩
            have HE := Lib.hid (belowT HQo.out.1.b hb)
            clear x0 x1 x2 x3 x4 x5 y0 y1 y2 y3 y4 y5 xl yl hq
            go_wp2_with fail
            go_ret
            exact ⟨rfl, HE.out⟩
end Go.Proofs.Ytogabjlhecnbbaa

/- Contracts of the document's Play and Thin. -/
import Derived.Test.YtogabjlhecnbbaaRefF
import Derived.Test.YtogabjlhecnbbaaIceKeep
namespace Go.Proofs.Ytogabjlhecnbbaa
open Go.RowKit Go.Shelf

set_option maxRecDepth 100000 in
set_option maxHeartbeats 2000000 in
theorem play16_any (zs : List Zn) (es : List Ev) (A : Option Addr) (cap : Nat) (A' : Option Addr) (cap' : Nat) (w : World) (hz : ZRow w w.heap.size A zs) (he : ERow w w.heap.size A' es) (hl : zs.length ≤ 9223372036854775807) (hl' : es.length ≤ 9223372036854775807) :
    Calls Try.prog 16 #[.slice A zs.length cap, .slice A' es.length cap'] w (RPost (playR zs es) w) := by
  have hb0 : Below w.heap.size w (six w) := below1 _ _
  have hz1 := (hz.below hb0).more hb0.size
  cases hr : rinkOk zs
  · have hR : Hid (playR zs es = ⟨[], Sm.zero, 0, 1⟩) := by show _ = _; simp [playR, hr]
    go_enter Try.func16, Try.ntmps16
    go_wp2_with fail
    refine (rinkR_any zs A cap _ hz1 hl).mono ?_
    rintro r wa ⟨rfl, hb⟩
    rw [hr]
    have h6 : Has wa w.heap.size 29 #[iv 0, iv 0, iv 0, iv 0, iv 0, iv 0] := (Has.new w 29 _).below hb (by simp)
    have c0 : wa.cell? ⟨w.heap.size, 0, none⟩ = some (iv 0) := h6.cell 0
    have f0 := h6.frozen 0
    have c1 : wa.cell? ⟨w.heap.size, 1, none⟩ = some (iv 0) := h6.cell 1
    have f1 := h6.frozen 1
    have c2 : wa.cell? ⟨w.heap.size, 2, none⟩ = some (iv 0) := h6.cell 2
    have f2 := h6.frozen 2
    have c3 : wa.cell? ⟨w.heap.size, 3, none⟩ = some (iv 0) := h6.cell 3
    have f3 := h6.frozen 3
    have c4 : wa.cell? ⟨w.heap.size, 4, none⟩ = some (iv 0) := h6.cell 4
    have f4 := h6.frozen 4
    have c5 : wa.cell? ⟨w.heap.size, 5, none⟩ = some (iv 0) := h6.cell 5
    have f5 := h6.frozen 5
    have hbb : Below w.heap.size w wa := below2 hb
    have hla := h6.lt
    clear hb h6
    go_wp2_with fail
    refine bodyPost_ret (v := .tuple #[.slice none 0 0, smv Sm.zero, iv 0, iv 1]) (by simp [results, Try.results16, go_sem, c0, c1, c2, c3, c4, c5]) rfl ?_
    rw [hR.out]
    exact rPost_bad (R := ⟨[], Sm.zero, 0, 1⟩) (by decide) (six_below hbb _ _ _ _ _ _)
  by_cases hlong : 256 < es.length
  · have hR : Hid (playR zs es = ⟨[], Sm.zero, 0, 3⟩) := by show _ = _; simp [playR, hr, hlong]
    have hlong' : 256 < (es.length : Int) := by omega
    go_enter Try.func16, Try.ntmps16
    go_wp2_with fail
    refine (rinkR_any zs A cap _ hz1 hl).mono ?_
    rintro r wa ⟨rfl, hb⟩
    rw [hr]
    have h6 : Has wa w.heap.size 29 #[iv 0, iv 0, iv 0, iv 0, iv 0, iv 0] := (Has.new w 29 _).below hb (by simp)
    have c0 : wa.cell? ⟨w.heap.size, 0, none⟩ = some (iv 0) := h6.cell 0
    have f0 := h6.frozen 0
    have c1 : wa.cell? ⟨w.heap.size, 1, none⟩ = some (iv 0) := h6.cell 1
    have f1 := h6.frozen 1
    have c2 : wa.cell? ⟨w.heap.size, 2, none⟩ = some (iv 0) := h6.cell 2
    have f2 := h6.frozen 2
    have c3 : wa.cell? ⟨w.heap.size, 3, none⟩ = some (iv 0) := h6.cell 3
    have f3 := h6.frozen 3
    have c4 : wa.cell? ⟨w.heap.size, 4, none⟩ = some (iv 0) := h6.cell 4
    have f4 := h6.frozen 4
    have c5 : wa.cell? ⟨w.heap.size, 5, none⟩ = some (iv 0) := h6.cell 5
    have f5 := h6.frozen 5
    have hbb : Below w.heap.size w wa := below2 hb
    have hla := h6.lt
    clear hb h6
    go_wp2_with fail
    refine bodyPost_ret (v := .tuple #[.slice none 0 0, smv Sm.zero, iv 0, iv 3]) (by simp [results, Try.results16, go_sem, c0, c1, c2, c3, c4, c5]) rfl ?_
    rw [hR.out]
    exact rPost_bad (R := ⟨[], Sm.zero, 0, 3⟩) (by decide) (six_below hbb _ _ _ _ _ _)
  have hlong' : (es.length : Int) ≤ 256 := by omega
  have HRk := Lib.hid hr
  go_enter Try.func16, Try.ntmps16
  go_wp2_with fail
  refine (rinkR_any zs A cap _ hz1 hl).mono ?_
  rintro r wa ⟨rfl, hb⟩
  rw [hr]
  have h6 : Has wa w.heap.size 29 #[iv 0, iv 0, iv 0, iv 0, iv 0, iv 0] := (Has.new w 29 _).below hb (by simp)
  have hbb : Below w.heap.size w wa := below2 hb
  have H6 := Lib.hid h6
  clear hb h6 hb0 hz1 hr
  go_wp2_with fail
  refine (playRef_any zs es A cap A' cap' wa ((hz.below hbb).more hbb.size) (ERow.more (he.below hbb) hbb.size) HRk.out (by omega)).mono ?_
  rintro r wb ⟨sl, rfl, hb, hcase⟩
  have h6b := H6.out.below hb H6.out.lt
  have hbw := belowT hbb hb
  have HC := Lib.hid hcase
  have hla := H6.out.lt
  have HLA := Lib.hid hla
  clear hcase
  have c0 : wb.cell? ⟨w.heap.size, 0, none⟩ = some (iv 0) := h6b.cell 0
  have f0 := h6b.frozen 0
  have c1 : wb.cell? ⟨w.heap.size, 1, none⟩ = some (iv 0) := h6b.cell 1
  have f1 := h6b.frozen 1
  have c2 : wb.cell? ⟨w.heap.size, 2, none⟩ = some (iv 0) := h6b.cell 2
  have f2 := h6b.frozen 2
  have c3 : wb.cell? ⟨w.heap.size, 3, none⟩ = some (iv 0) := h6b.cell 3
  have f3 := h6b.frozen 3
  have c4 : wb.cell? ⟨w.heap.size, 4, none⟩ = some (iv 0) := h6b.cell 4
  have f4 := h6b.frozen 4
  have c5 : wb.cell? ⟨w.heap.size, 5, none⟩ = some (iv 0) := h6b.cell 5
  have f5 := h6b.frozen 5
  have hlb := h6b.lt
  clear h6b hla
  obtain ⟨R, hR⟩ : ∃ R, R = playR zs es := ⟨_, rfl⟩
  rw [← hR] at HC ⊢
  have HRR := Lib.hid hR
  clear hR
  go_wp2_with fail
  refine bodyPost_ret (v := .tuple #[sl, smv R.s, iv R.i, iv R.e]) (by simp [results, Try.results16, go_sem, c0, c1, c2, c3, c4, c5]) rfl ?_
  rw [← HRR.out]
  refine ⟨sl, rfl, six_below hbw _ _ _ _ _ _, ?_⟩
  rcases HC.out with h | ⟨h0, B, capB, tl, hB, h1, h2⟩
  · exact .inl h
  · have hne : B ≠ w.heap.size := by have := HLA.out; omega
    exact .inr ⟨h0, B, capB, tl, by have := HLA.out; omega, h1, (((((h2.far (p := ⟨w.heap.size, 0, none⟩) hne _).far (p := ⟨w.heap.size, 1, none⟩) hne _).far (p := ⟨w.heap.size, 2, none⟩) hne _).far (p := ⟨w.heap.size, 3, none⟩) hne _).far (p := ⟨w.heap.size, 4, none⟩) hne _).far (p := ⟨w.heap.size, 5, none⟩) hne _⟩

set_option maxRecDepth 100000 in
set_option maxHeartbeats 2000000 in
theorem thin18_any (zs : List Zn) (cover : Int) (A : Option Addr) (cap : Nat) (w : World) (hz : ZRow w w.heap.size A zs) (hl : zs.length ≤ 9223372036854775807) :
    Calls Try.prog 18 #[.slice A zs.length cap, iv cover] w (ThinPost (thinR zs cover) w) := by
  obtain ⟨i0, hi, hz0, hz1, hz2⟩ := info_parts Try.info3
  cases hr : rinkOk zs
  · have hR : Hid (thinR zs cover = ([], 1)) := by show _ = _; simp [thinR, hr]
    go_enter Try.func18, Try.ntmps18
    go_wp2_with fail
    refine (rinkR_any zs A cap _ hz hl).mono ?_
    rintro r wa ⟨rfl, hb⟩
    rw [hr]
    go_wp2_with fail
    go_ret2
    rw [hR.out]; exact ⟨none, 0, rfl, hb, fun k h => absurd h (by simp)⟩
  cases hc : inB cover 0 20000
  · have hR : Hid (thinR zs cover = ([], 2)) := by
      show _ = _
      simp only [inB, decide_eq_false_iff_not] at hc
      simp [thinR, hr]; omega
    go_enter Try.func18, Try.ntmps18
    go_wp2_with fail
    refine (rinkR_any zs A cap _ hz hl).mono ?_
    rintro r wa ⟨rfl, hb⟩
    rw [hr]
    go_wp2_with fail
    refine (in_any _ _ _ _).mono ?_
    rintro r wb ⟨rfl, rfl⟩
    rw [hc]
    go_wp2_with fail
    go_ret2
    rw [hR.out]; exact ⟨none, 0, rfl, hb, fun k h => absurd h (by simp)⟩
  have hR : Hid (thinR zs cover = (thinTo zs cover zs.length, 0)) := by
    show _ = _
    simp only [inB, decide_eq_true_eq] at hc
    simp [thinR, hr]; omega
  have HR := Lib.hid (rink_parts hr)
  have hzl : zs.length ≤ 24 := (rink_parts hr).1
  go_enter Try.func18, Try.ntmps18
  go_wp2_with fail
  refine (rinkR_any zs A cap _ hz hl).mono ?_
  rintro r wa ⟨rfl, hba⟩
  rw [hr]
  go_wp2_with fail
  refine (in_any _ _ _ _).mono ?_
  rintro r wb ⟨rfl, rfl⟩
  rw [hc]
  clear hr hc
  go_wp2_with fail
  go_loopw [7, 6] (fun t v wr => ∃ k : Nat, k ≤ zs.length ∧ t = .int .i64 k ∧ Below w.heap.size w wr ∧ wr.ownsRow w.heap.size 3 1 v (thinTo zs cover k).length ((thinTo zs cover k).map (Value.int .i64))) (fun t _ _ => zs.length - (intOf t).toNat)
  case atStart => exact ⟨0, Nat.zero_le _, rfl, hba, World.ownsRow_nil _ _ _ _⟩
  case round =>
    obtain ⟨k, hk, rfl, hb, hown⟩ := hrel
    by_cases hlt : k < zs.length
    · obtain ⟨g, o, rfl, hg, c0, c1, c2, c3⟩ := hz k hlt
      rw [← hb.cell (p := ⟨g, _, none⟩) hg] at c0 c1 c2 c3
      have hgr : g < wr.heap.size := Nat.lt_of_lt_of_le hg hb.size
      have hzk := HR.out.2.2 zs[k] (List.getElem_mem hlt)
      simp only [Zn.ok, Bool.and_eq_true, win_iff] at hzk
      obtain ⟨⟨x1, x2, x3⟩, x4, x5, x6⟩ := hzk
      have hgd : zs.getD k zd = zs[k] := by simp [hlt]
      have hI : (k : Int) < zs.length := by omega
      by_cases hth : zs[k].a - zs[k].d < cover
      · have hTY := Lib.hid (thinTo_yes (zs := zs) (cover := cover) (k := k) (by rw [hgd]; exact hth))
        have hlen := thinTo_len zs cover k
        clear hgd
        go_wp2
        go_region
        go_wp2_with (at_builtin; refine wpList_append_own _ rfl _ _ 33 rfl w.heap.size 3 i0 (.int .i64 0) 1 8 Try.underlying33 hi hz0 hz1 hz2 rfl (by decide) _ _ _ rfl (hown.drew.alloc _) ⟨wr.heap.size, 0, none⟩ 1 1 [.int .i64 k] rfl rfl ?c1 ?c2 ?c3 ?c4 ?c5 ?_)
        case c1 =>
          have := cell_one_new wr (.int .i64 k) 3
          exact this
        case c2 => simp [Value.oneCell']
        case c3 => unfold maxLen; omega
        case c4 => omega
        case c5 => simp; have := hb.size; omega
        intro v' w1 hown' hgrow _
        have hb1 : Below w.heap.size w w1 := ((hb.alloc hb.size _).drew).grown hgrow (by have := hb.size; simp; omega) (own_low hown)
        have hown2 : w1.ownsRow w.heap.size 3 1 v' (thinTo zs cover (k + 1)).length ((thinTo zs cover (k + 1)).map (Value.int .i64)) := by
          rw [hTY.out]; simpa using hown'
        clear hown' hgrow hTY hown
        go_wp2_with fail
        go_roundw
        case rel => exact ⟨k + 1, by omega, by go_num, hb1, hown2⟩
        case measure => simp [intOf]; omega
      · have hTN := Lib.hid (thinTo_no (zs := zs) (cover := cover) (k := k) (by rw [hgd]; exact hth))
        clear hgd
        go_wp2
        go_region
        go_wp2_with fail
        go_roundw
        case rel => exact ⟨k + 1, by omega, by go_num, hb.drew, by rw [hTN.out]; exact hown.drew⟩
        case measure => simp [intOf]; omega
    · have hkz : k = zs.length := by omega
      subst hkz
      go_wp2_with fail
      go_ret2
      obtain ⟨A1, cap1, e1, hI, _⟩ := own_slice hown rfl
      rw [hR.out]
      exact ⟨A1, cap1, by rw [← e1]; rfl, hb, hI⟩
end Go.Proofs.Ytogabjlhecnbbaa

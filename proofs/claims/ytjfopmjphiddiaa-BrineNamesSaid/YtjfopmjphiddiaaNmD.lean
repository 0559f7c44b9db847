/- The names and examples: the walk. -/
import Derived.Test.YtjfopmjphiddiaaNmC
namespace Go.Proofs.Ytjfopmjphiddiaa
open Go.RowKit Go.Shelf
set_option maxRecDepth 100000 in
set_option maxHeartbeats 4000000 in
theorem names_any (w : World) : Calls Try.prog 5 #[] w fun e w' => e = .returned (.bool true) ∧ Below w.heap.size w w' := by
  go_enter Try.func5, Try.ntmps5
  go_wp2_with fail
  refine (sample6 w).mono ?_
  rintro r wa ⟨B1, B2, rfl, hb, hP, hE⟩
  have H0 : Hid (Below w.heap.size w (wa.alloc (.cells (bxc (some ⟨B1, 0, none⟩)) 26)) ∧ NmK (wa.alloc (.cells (bxc (some ⟨B1, 0, none⟩)) 26)) wa.heap.size (some ⟨B1, 0, none⟩) (some ⟨B2, 0, none⟩)) :=
    ⟨hb.trans ((below_one _ _).mono hb.size), Has.new _ _ _, hP.step (below_one _ _), hE.step (below_one _ _)⟩
  clear hb hP hE
  go_wp2_with fail
  obtain ⟨wd, hwd⟩ : ∃ wd, wd = wa.alloc (.cells (bxc (some ⟨B1, 0, none⟩)) 26) := ⟨_, rfl⟩
  obtain ⟨g, hg⟩ : ∃ g, g = wa.heap.size := ⟨_, rfl⟩
  rw [← hwd, ← hg] at H0
  rw [← hwd, ← hg]
  clear hwd hg
  have hgl := H0.out.2.b.lt
  go_cut [3, 4, 5, 6] (fun a b c d wx => ∃ x y A cap, a = .pointer (some ⟨x, 0, none⟩) ∧ b = .pointer (some ⟨y, 0, none⟩) ∧ c = .int .i64 1 ∧ d = .int .i64 0 ∧ Hid (Twb wd wx x y oneT A oneP.length cap 200 500 Sm.zero oneP))
  case first =>
    go_region_held3 (fun w' => w'.cell? ⟨g, 0, none⟩ = some (.int .i64 smT.v) ∧ w'.cell? ⟨g, 1, none⟩ = some (.int .i64 smT.h) ∧ w'.cell? ⟨g, 2, none⟩ = some (.slice (some ⟨B1, 0, none⟩) 2 2) ∧ w'.cell? ⟨g, 3, none⟩ = some (.int .i64 200) ∧ w'.cell? ⟨g, 4, none⟩ = some (.int .i64 500)) ((refine H0.out.2.keep ?_; repeat' (first | (with_reducible exact hK) | omega | (with_reducible exact Below.refl _ _) | (with_reducible apply below_dr) | (with_reducible refine Below.alloc ?_ ?_ _) | (with_reducible refine Below.setCell ?_ ?_ _) | simp))) ((go_at_call 14; refine (H0.out.2.one (by first | exact below_dr (Below.refl _ _) | exact below_dr (below_one _ _) | exact below_dr ((below_one _ _).alloc (by simp) _))).mono ?_; rintro r wb ⟨A3, cap3, rfl, hb, hS⟩; (have HS := Lib.hid hS); clear hS; (first | ((with_reducible have n := arm_ab hb); obtain ⟨hK, h5, h9, hz⟩ := n; (have HH := Lib.hid (And.intro h5 h9)); obtain ⟨⟨a0, a1, a2, a3, a4⟩, ⟨b0, b1, b2, b3, b4⟩, l5⟩ := new5 h5; obtain ⟨⟨c0, c1, c2, c3, c4, c5, c6, c7, c8⟩, ⟨d0, d1, d2, d3, d4, d5, d6, d7, d8⟩, l9⟩ := new9 h9; clear h5 h9) | ((with_reducible have n := arm_ba hb); obtain ⟨hK, h9, h5, hz⟩ := n; (have HH := Lib.hid (And.intro h5 h9)); obtain ⟨⟨a0, a1, a2, a3, a4⟩, ⟨b0, b1, b2, b3, b4⟩, l5⟩ := new5 h5; obtain ⟨⟨c0, c1, c2, c3, c4, c5, c6, c7, c8⟩, ⟨d0, d1, d2, d3, d4, d5, d6, d7, d8⟩, l9⟩ := new9 h9; clear h5 h9) | ((with_reducible have n := arm_a hb); obtain ⟨hK, h5, hz⟩ := n; (have HH := Lib.hid h5); obtain ⟨⟨a0, a1, a2, a3, a4⟩, ⟨b0, b1, b2, b3, b4⟩, l5⟩ := new5 h5; clear h5) | ((with_reducible have n := arm_b hb); obtain ⟨hK, h9, hz⟩ := n; (have HH := Lib.hid h9); obtain ⟨⟨c0, c1, c2, c3, c4, c5, c6, c7, c8⟩, ⟨d0, d1, d2, d3, d4, d5, d6, d7, d8⟩, l9⟩ := new9 h9; clear h9) | ((with_reducible have n := arm_0 hb); obtain ⟨hK, hz⟩ := n))))
    all_goals (try go_wp2_with fail)
    all_goals go_meet
    all_goals first
      | with_reducible exact ⟨_, _, _, _, rfl, rfl, rfl, rfl, Lib.hid (twb1 hK HS.out)⟩
      | with_reducible exact ⟨_, _, _, _, rfl, rfl, rfl, rfl, Lib.hid (twb2 hK HS.out)⟩
      | with_reducible exact ⟨_, _, _, _, rfl, rfl, rfl, rfl, Lib.hid (twb3 hK HS.out HH.out (by simp) (Nat.le_refl _))⟩
      | with_reducible exact ⟨_, _, _, _, rfl, rfl, rfl, rfl, Lib.hid (twb4 hK HS.out HH.out (by simp) (Nat.le_refl _))⟩
      | with_reducible exact ⟨_, _, _, _, rfl, rfl, rfl, rfl, Lib.hid (twb5 hK HS.out HH.out.1 HH.out.2 (by omega) (by simp; try omega) (by simp; try omega) (by omega) (by omega))⟩
  case rest =>
    obtain ⟨x1, y1, A1, cap1, rfl, rfl, rfl, rfl, HT1⟩ := hcut
    have H1 := Lib.hid (And.intro (H0.out.1.trans (HT1.out.bl.mono H0.out.1.size)) (And.intro (H0.out.2.step HT1.out.bl) (And.intro HT1.out.x HT1.out.p)))
    have hgl1 := H1.out.2.1.b.lt
    clear H0 hgl HT1
    clear wd
    obtain ⟨wd2, rfl⟩ : ∃ wd2, wd2 = wc := ⟨_, rfl⟩
    go_wp2_with fail
    go_cut [7, 8, 9, 10] (fun a b c d wx => ∃ x y A cap, a = .pointer (some ⟨x, 0, none⟩) ∧ b = .pointer (some ⟨y, 0, none⟩) ∧ c = .int .i64 3 ∧ d = .int .i64 0 ∧ Hid (Twb wd2 wx x y oneT A thP.length cap 200 500 thS thP))
    case first =>
      go_region_held3 (fun w' => w'.cell? ⟨g, 0, none⟩ = some (.int .i64 smT.v) ∧ w'.cell? ⟨g, 1, none⟩ = some (.int .i64 smT.h) ∧ w'.cell? ⟨g, 2, none⟩ = some (.slice (some ⟨B1, 0, none⟩) 2 2) ∧ w'.cell? ⟨g, 3, none⟩ = some (.int .i64 200) ∧ w'.cell? ⟨g, 4, none⟩ = some (.int .i64 500)) ((refine H1.out.2.1.keep ?_; repeat' (first | (with_reducible exact hK) | omega | (with_reducible exact Below.refl _ _) | (with_reducible apply below_dr) | (with_reducible refine Below.alloc ?_ ?_ _) | (with_reducible refine Below.setCell ?_ ?_ _) | simp))) ((go_at_call 14; refine (H1.out.2.1.three (by first | exact below_dr (Below.refl _ _) | exact below_dr (below_one _ _) | exact below_dr ((below_one _ _).alloc (by simp) _))).mono ?_; rintro r wb ⟨A3, cap3, rfl, hb, hS⟩; (have HS := Lib.hid hS); clear hS; (first | ((with_reducible have n := arm_ab hb); obtain ⟨hK, h5, h9, hz⟩ := n; (have HH := Lib.hid (And.intro h5 h9)); obtain ⟨⟨a0, a1, a2, a3, a4⟩, ⟨b0, b1, b2, b3, b4⟩, l5⟩ := new5 h5; obtain ⟨⟨c0, c1, c2, c3, c4, c5, c6, c7, c8⟩, ⟨d0, d1, d2, d3, d4, d5, d6, d7, d8⟩, l9⟩ := new9 h9; clear h5 h9) | ((with_reducible have n := arm_ba hb); obtain ⟨hK, h9, h5, hz⟩ := n; (have HH := Lib.hid (And.intro h5 h9)); obtain ⟨⟨a0, a1, a2, a3, a4⟩, ⟨b0, b1, b2, b3, b4⟩, l5⟩ := new5 h5; obtain ⟨⟨c0, c1, c2, c3, c4, c5, c6, c7, c8⟩, ⟨d0, d1, d2, d3, d4, d5, d6, d7, d8⟩, l9⟩ := new9 h9; clear h5 h9) | ((with_reducible have n := arm_a hb); obtain ⟨hK, h5, hz⟩ := n; (have HH := Lib.hid h5); obtain ⟨⟨a0, a1, a2, a3, a4⟩, ⟨b0, b1, b2, b3, b4⟩, l5⟩ := new5 h5; clear h5) | ((with_reducible have n := arm_b hb); obtain ⟨hK, h9, hz⟩ := n; (have HH := Lib.hid h9); obtain ⟨⟨c0, c1, c2, c3, c4, c5, c6, c7, c8⟩, ⟨d0, d1, d2, d3, d4, d5, d6, d7, d8⟩, l9⟩ := new9 h9; clear h9) | ((with_reducible have n := arm_0 hb); obtain ⟨hK, hz⟩ := n))))
      all_goals (try go_wp2_with fail)
      all_goals go_meet
      all_goals first
        | with_reducible exact ⟨_, _, _, _, rfl, rfl, rfl, rfl, Lib.hid (twb1 hK HS.out)⟩
        | with_reducible exact ⟨_, _, _, _, rfl, rfl, rfl, rfl, Lib.hid (twb2 hK HS.out)⟩
        | with_reducible exact ⟨_, _, _, _, rfl, rfl, rfl, rfl, Lib.hid (twb3 hK HS.out HH.out (by simp) (Nat.le_refl _))⟩
        | with_reducible exact ⟨_, _, _, _, rfl, rfl, rfl, rfl, Lib.hid (twb4 hK HS.out HH.out (by simp) (Nat.le_refl _))⟩
        | with_reducible exact ⟨_, _, _, _, rfl, rfl, rfl, rfl, Lib.hid (twb5 hK HS.out HH.out.1 HH.out.2 (by omega) (by simp; try omega) (by simp; try omega) (by omega) (by omega))⟩

    case rest =>
      obtain ⟨x2, y2, A2, cap2, rfl, rfl, rfl, rfl, HT2⟩ := hcut
      have H2 : Hid (NmS w wc g x1 x2 (some ⟨B1, 0, none⟩) A1 A2 cap1 cap2) :=
        ⟨H1.out.1.trans (HT2.out.bl.mono H1.out.1.size), H1.out.2.1.b.below HT2.out.bl H1.out.2.1.b.lt, H1.out.2.1.p.step HT2.out.bl, H1.out.2.2.1.below HT2.out.bl H1.out.2.2.1.lt, H1.out.2.2.2.step HT2.out.bl, HT2.out.x, HT2.out.p⟩
      clear H1 hgl1 HT2
      have b0 : wc.cell? ⟨g, 0, none⟩ = some (.int .i64 smT.v) := H2.out.b.cell 0
      have b1 : wc.cell? ⟨g, 1, none⟩ = some (.int .i64 smT.h) := H2.out.b.cell 1
      have b2 : wc.cell? ⟨g, 2, none⟩ = some (.slice (some ⟨B1, 0, none⟩) 2 2) := H2.out.b.cell 2
      have b3 : wc.cell? ⟨g, 3, none⟩ = some (.int .i64 200) := H2.out.b.cell 3
      have b4 : wc.cell? ⟨g, 4, none⟩ = some (.int .i64 500) := H2.out.b.cell 4
      have bl := H2.out.b.lt
      go_wp2_with fail
      refine (tot_s1 (some ⟨B1, 0, none⟩) wc H2.out.p).mono ?_
      rintro r we ⟨rfl, hbe⟩
      have H3 := Lib.hid (And.intro ((H2.out.step hbe).step (below_one we (.cells #[.int .i64 160, .int .i64 1440] 23))) (Has.new we 23 #[.int .i64 160, .int .i64 1440]))
      clear b0 b1 b2 b3 b4 bl hbe H2
      go_wp2_with fail
      refine (last_any _).mono ?_
      rintro r wf ⟨B5, rfl, hbf, hP5⟩
      have H4 := Lib.hid (And.intro (H3.out.1.step hbf) (And.intro (H3.out.2.below hbf (by simp)) hP5))
      clear hbf hP5 H3
      go_wp2_with fail
      refine (tot_l1 (some ⟨B5, 0, none⟩) wf H4.out.2.2).mono ?_
      rintro r wh ⟨rfl, hbh⟩
      have hb5 := hbh.trans ((below_one wh (.cells #[.int .i64 145, .int .i64 825] 23)).mono hbh.size)
      have hb6 := (below_one (wh.alloc (.cells #[.int .i64 145, .int .i64 825] 23)) (.cells #[.int .i64 90, .int .i64 80, .int .i64 60] 3))
      have H5 := Lib.hid (And.intro ((H4.out.1.step hb5).step hb6) (And.intro ((H4.out.2.1.below hb5 H4.out.2.1.lt).alloc (.cells #[.int .i64 90, .int .i64 80, .int .i64 60] 3)) (And.intro ((Has.new wh 23 #[.int .i64 145, .int .i64 825]).alloc (.cells #[.int .i64 90, .int .i64 80, .int .i64 60] 3)) (show Has ((wh.alloc (.cells #[.int .i64 145, .int .i64 825] 23)).alloc (.cells #[.int .i64 90, .int .i64 80, .int .i64 60] 3)) (wh.heap.size + 1) 3 #[.int .i64 90, .int .i64 80, .int .i64 60] from Has.newAt (by simp)))))
      have hewh : we.heap.size < wh.heap.size := by have := H4.out.2.1.lt; have := hbh.size; omega
      clear hbh hb5 hb6 H4
      go_wp2_with fail
      go_loopw [56, 15] (fun i v wr => ∃ k : Nat, k ≤ 3 ∧ i = .int .i64 k ∧ v = .bool true ∧ Hid (NmS w wr g x1 x2 (some ⟨B1, 0, none⟩) A1 A2 cap1 cap2 ∧ Has wr we.heap.size 23 #[.int .i64 160, .int .i64 1440] ∧ Has wr wh.heap.size 23 #[.int .i64 145, .int .i64 825] ∧ Has wr (wh.heap.size + 1) 3 #[.int .i64 90, .int .i64 80, .int .i64 60])) (fun i _ _ => 3 - (intOf i).toNat)
      case atStart => exact ⟨0, by omega, rfl, rfl, H5.out⟩
      case round =>
        obtain ⟨k, hk, rfl, rfl, HR⟩ := hrel
        clear H5
        have hwl := HR.out.2.2.2.lt
        have s0 : wr.cell? ⟨wh.heap.size + 1, 0, none⟩ = some (.int .i64 90) := HR.out.2.2.2.cell 0
        have s1 : wr.cell? ⟨wh.heap.size + 1, 1, none⟩ = some (.int .i64 80) := HR.out.2.2.2.cell 1
        have s2 : wr.cell? ⟨wh.heap.size + 1, 2, none⟩ = some (.int .i64 60) := HR.out.2.2.2.cell 2
        have hbB : Below wr.heap.size wr (((wr.alloc (.cells #[.int .i64 100, .int .i64 50, .int .i64 0, .int .i64 30] 3)).alloc (.cells #[.int .i64 20, .int .i64 20, .int .i64 80, .int .i64 40] 3)).alloc (.cells #[.int .i64 0, .int .i64 10, .int .i64 30] 3)) := ((below_one _ _).alloc (by simp) _).alloc (by simp; omega) _
        have HBB := Lib.hid hbB
        clear hbB
        have hcs : k = 0 ∨ k = 1 ∨ k = 2 ∨ k = 3 := by omega
        rcases hcs with rfl | rfl | rfl | rfl
        · go_wp2_with fail
          refine (room_c wr.heap.size (wr.heap.size + 1) 0 90 _ (((Has.new _ _ _).alloc _).alloc _) ((Has.newAt (by simp)).alloc _) room_s).mono ?_
          rintro r wi ⟨rfl, hbi⟩
          have hbx := HBB.out.trans (hbi.mono HBB.out.size)
          have HN := Lib.hid (And.intro (HR.out.1.step hbx) (And.intro (HR.out.2.1.below hbx HR.out.2.1.lt) (And.intro (HR.out.2.2.1.below hbx HR.out.2.2.1.lt) (HR.out.2.2.2.below hbx HR.out.2.2.2.lt))))
          clear hbi hbx
          go_wp2_with fail
          go_roundw
          case rel => exact ⟨1, by omega, by go_num, rfl, HN.out⟩
          case measure => simp [intOf]
        · go_wp2_with fail
          refine (room_c wr.heap.size (wr.heap.size + 1) 10 80 _ (((Has.new _ _ _).alloc _).alloc _) ((Has.newAt (by simp)).alloc _) room_s1).mono ?_
          rintro r wi ⟨rfl, hbi⟩
          have hbx := HBB.out.trans (hbi.mono HBB.out.size)
          have HN := Lib.hid (And.intro (HR.out.1.step hbx) (And.intro (HR.out.2.1.below hbx HR.out.2.1.lt) (And.intro (HR.out.2.2.1.below hbx HR.out.2.2.1.lt) (HR.out.2.2.2.below hbx HR.out.2.2.2.lt))))
          clear hbi hbx
          go_wp2_with fail
          go_roundw
          case rel => exact ⟨2, by omega, by go_num, rfl, HN.out⟩
          case measure => simp [intOf]
        · go_wp2_with fail
          refine (room_c wr.heap.size (wr.heap.size + 1) 30 60 _ (((Has.new _ _ _).alloc _).alloc _) ((Has.newAt (by simp)).alloc _) room_s2).mono ?_
          rintro r wi ⟨rfl, hbi⟩
          have hbx := HBB.out.trans (hbi.mono HBB.out.size)
          have HN := Lib.hid (And.intro (HR.out.1.step hbx) (And.intro (HR.out.2.1.below hbx HR.out.2.1.lt) (And.intro (HR.out.2.2.1.below hbx HR.out.2.2.1.lt) (HR.out.2.2.2.below hbx HR.out.2.2.2.lt))))
          clear hbi hbx
          go_wp2_with fail
          go_roundw
          case rel => exact ⟨3, by omega, by go_num, rfl, HN.out⟩
          case measure => simp [intOf]
        · clear s0 s1 s2 hwl HBB
          have e0 : wr.cell? ⟨x1, 0, none⟩ = some (.int .i64 oneT.v) := HR.out.1.h1.cell 0
          have e1 : wr.cell? ⟨x1, 1, none⟩ = some (.int .i64 oneT.h) := HR.out.1.h1.cell 1
          have e2 : wr.cell? ⟨x1, 2, none⟩ = some (.slice A1 oneP.length cap1) := HR.out.1.h1.cell 2
          have e3 : wr.cell? ⟨x1, 3, none⟩ = some (.int .i64 200) := HR.out.1.h1.cell 3
          have e4 : wr.cell? ⟨x1, 4, none⟩ = some (.int .i64 500) := HR.out.1.h1.cell 4
          have el := HR.out.1.h1.lt
          have hbB : Below wr.heap.size wr (((wr.alloc (.cells #[.int .i64 20, .int .i64 100, .int .i64 30, .int .i64 300] 23)).alloc (.cells #[.int .i64 10, .int .i64 50, .int .i64 30, .int .i64 90] 23)).alloc (.cells #[.int .i64 50, .slice (some ⟨wr.heap.size, 0, none⟩) 2 2, .int .i64 40, .slice (some ⟨wr.heap.size + 1, 0, none⟩) 2 2] 51)) := ((below_one _ _).alloc (by simp) _).alloc (by simp; omega) _
          have HBB := Lib.hid hbB
          clear hbB
          go_wp2_with fail
          refine (same_o A1 (some ⟨wr.heap.size + 1 + 1, 0, none⟩) cap1 _ (HR.out.1.p1.step HBB.out) (built_o wr)).mono ?_
          rintro r wj ⟨rfl, hbj⟩
          have hbx := HBB.out.trans (hbj.mono HBB.out.size)
          have H6 := Lib.hid (And.intro (HR.out.1.step hbx) (And.intro (HR.out.2.1.below hbx HR.out.2.1.lt) (HR.out.2.2.1.below hbx HR.out.2.2.1.lt)))
          clear hbj hbx HBB HR e0 e1 e2 e3 e4 el
          obtain ⟨gp, op, Ap, cp, eAp, hgp, d0, d1, hs⟩ := H6.out.1.p2 1 (by decide)
          obtain ⟨gs, os, eAs, hgs, q0, q1⟩ := hs 0 (by decide)
          subst eAp eAs
          have f2 : wj.cell? ⟨x2, 2, none⟩ = some (.slice (some ⟨gp, op, none⟩) 2 cap2) := H6.out.1.h2.cell 2
          have fl := H6.out.1.h2.lt
          have d1' : wj.cell? ⟨gp, op + 2 + 1, none⟩ = some (.slice (some ⟨gs, os, none⟩) 1 cp) := d1
          have q0' : wj.cell? ⟨gs, os, none⟩ = some (.int .i64 25) := q0
          have q1' : wj.cell? ⟨gs, os + 1, none⟩ = some (.int .i64 75) := q1
          have r0 : wj.cell? ⟨we.heap.size, 0, none⟩ = some (.int .i64 160) := H6.out.2.1.cell 0
          have r1 : wj.cell? ⟨we.heap.size, 1, none⟩ = some (.int .i64 1440) := H6.out.2.1.cell 1
          have hq := fun w => eql23s 25 75 w
          clear d0 d1 hs q0 q1 r0 r1
          go_wp2_with fail
          refine (alive_any _).mono ?_
          rintro r wm ⟨rfl, hbm⟩
          have r0 : wm.cell? ⟨we.heap.size, 0, none⟩ = some (.int .i64 160) := (H6.out.2.1.below hbm H6.out.2.1.lt).cell 0
          have r1 : wm.cell? ⟨we.heap.size, 1, none⟩ = some (.int .i64 1440) := (H6.out.2.1.below hbm H6.out.2.1.lt).cell 1
          have t0 : wm.cell? ⟨wh.heap.size, 0, none⟩ = some (.int .i64 145) := (H6.out.2.2.below hbm H6.out.2.2.lt).cell 0
          have t1 : wm.cell? ⟨wh.heap.size, 1, none⟩ = some (.int .i64 825) := (H6.out.2.2.below hbm H6.out.2.2.lt).cell 1
          have rl := (H6.out.2.1.below hbm H6.out.2.1.lt).lt
          have tl := (H6.out.2.2.below hbm H6.out.2.2.lt).lt
          have hq1 := fun w => eql23s 160 1440 w
          have hq2 := fun w => eql23s 145 825 w
          have HB := Lib.hid (H6.out.1.bl.trans (hbm.mono H6.out.1.bl.size))
          clear hbm
          go_wp2_with fail
          go_ret
          exact ⟨rfl, HB.out⟩
end Go.Proofs.Ytjfopmjphiddiaa

/- The document's Brine. -/
import Derived.Test.YtjfopmjphiddiaaRfA
import Derived.Deep.DeepCutAuto
import Derived.Deep.Cut
import Derived.Deep.CutRange
namespace Go.Proofs.Ytjfopmjphiddiaa
open Go.RowKit Go.Shelf
theorem lB_in (n : Int) (w : World) : Calls Try.prog 47 #[.int .i64 n, .int .i64 1, .int .i64 1048576] w fun e w' => e = .returned (.bool (lB n)) ∧ w' = w := in_any n 1 1048576 w
theorem tank_no {t : Sl} (h : inB t.v 0 1048576 = false ∨ hB t.h = false ∨ (t.v = 0 ∧ 0 < t.h)) : tankB t = false := by
  cases hb : tankB t
  · rfl
  · simp only [tankB, Bool.or_eq_true, decide_eq_true_eq, Bool.and_eq_true] at hb
    rcases hb with rfl | ⟨a, b⟩
    · rcases h with h | h | h
      · simp [inB, sl0] at h
      · simp [hB, sl0] at h
      · simp [sl0] at h
    · have := lB_iff.1 a; have := hB_iff.1 b
      rcases h with h | h | h
      · simp only [inB, decide_eq_false_iff_not] at h; omega
      · simp only [hB, decide_eq_false_iff_not] at h; omega
      · omega
theorem tank_yes {t : Sl} (h1 : inB t.v 0 1048576 = true) (h2 : hB t.h = true) (h3 : ¬ (t.v = 0 ∧ 0 < t.h)) : tankB t = true := by
  simp only [inB, decide_eq_true_eq] at h1
  have h4 := hB_iff.1 h2
  simp only [tankB, Bool.or_eq_true, decide_eq_true_eq, Bool.and_eq_true]
  by_cases h : t.v = 0
  · left
    obtain ⟨a, b⟩ := t
    simp only at *
    have : b = 0 := by omega
    subst h this; rfl
  · right
    exact ⟨lB_iff.2 (by omega), h2⟩
theorem volb {l : List Sl} (h : l.all (fun s => lB s.v && hB s.h) = true) : 0 ≤ vol l ∧ vol l ≤ l.length * 1048576 := by
  induction l with
  | nil => simp [vol]
  | cons s t ih =>
    simp only [List.all_cons, Bool.and_eq_true] at h
    have h1 := lB_iff.1 h.1.1
    have h2 := ih h.2
    simp only [vol, List.length_cons]; omega
set_option maxRecDepth 100000 in
set_option maxHeartbeats 4000000 in
theorem brine_any (t : Sl) (ps : List Pp) (heat hroom : Int) (A : Option Addr) (cap : Nat) (W : World) (hr : PRow W W.heap.size A ps) (hl : ps.length ≤ 9223372036854775807) (hml : ∀ p ∈ ps, p.l.length ≤ 9223372036854775807) :
    Calls Try.prog 26 #[brv t A ps.length cap heat hroom] W fun e W' => e = .returned (.bool (brineB t ps heat hroom)) ∧ Below W.heap.size W W' := by
  have HR := Lib.hid (And.intro hr hml)
  have hx0 : Has (W.alloc (Obj.cells (bcells t A ps.length cap heat hroom) 26)) W.heap.size 26 (bcells t A ps.length cap heat hroom) := Has.new _ _ _
  have H0 := Lib.hid (And.intro (below_one W (Obj.cells (bcells t A ps.length cap heat hroom) 26)) hx0)
  clear hr hx0 hml
  go_enter Try.func26, Try.ntmps26
  go_upto_region 1 with (fail)
  go_cut [30] (fun b wx => b = .bool (!tankB t) ∧ Hid (Below W.heap.size W wx ∧ Has wx W.heap.size 26 (bcells t A ps.length cap heat hroom)))
  case first =>
    cases h1 : inB t.v 0 1048576
    · have HT := Lib.hid (And.intro (tank_no (.inl h1)) h1)
      clear h1
      go_wp2_with fail
      refine (in_any _ _ _ _).mono ?_
      rw [HT.out.2]
      rintro e w' ⟨rfl, rfl⟩
      go_wp2_with fail
      go_meet
      exact ⟨by rw [HT.out.1]; rfl, H0.out⟩
    · cases h2 : hB t.h
      · have HT := Lib.hid (And.intro (tank_no (.inr (.inl h2))) (And.intro h1 h2))
        clear h1 h2
        go_wp2_with fail
        refine (in_any _ _ _ _).mono ?_
        rw [HT.out.2.1]
        rintro e w' ⟨rfl, rfl⟩
        go_wp2_with fail
        refine (hB_in _ _).mono ?_
        rw [HT.out.2.2]
        rintro e w' ⟨rfl, rfl⟩
        go_wp2_with fail
        go_meet
        exact ⟨by rw [HT.out.1]; rfl, H0.out⟩
      · by_cases h3 : t.v = 0 ∧ 0 < t.h
        · have HT := Lib.hid (And.intro (tank_no (.inr (.inr h3))) (And.intro h1 h2))
          have q1 : (t.v == 0) = true := by simp [h3.1]
          have q2 := h3.2
          clear h1 h2 h3
          go_wp2_with fail
          refine (in_any _ _ _ _).mono ?_
          rw [HT.out.2.1]
          rintro e w' ⟨rfl, rfl⟩
          go_wp2_with fail
          refine (hB_in _ _).mono ?_
          rw [HT.out.2.2]
          rintro e w' ⟨rfl, rfl⟩
          go_wp2_with fail
          go_meet
          exact ⟨by rw [HT.out.1]; rfl, H0.out⟩
        · have HT := Lib.hid (And.intro (tank_yes h1 h2 h3) (And.intro h1 h2))
          by_cases h4 : t.v = 0
          · have q1 : (t.v == 0) = true := by simp [h4]
            have q2 : decide (0 < t.h) = false := by simp; omega
            clear h1 h2 h3 h4
            go_wp2_with fail
            refine (in_any _ _ _ _).mono ?_
            rw [HT.out.2.1]
            rintro e w' ⟨rfl, rfl⟩
            go_wp2_with fail
            refine (hB_in _ _).mono ?_
            rw [HT.out.2.2]
            rintro e w' ⟨rfl, rfl⟩
            go_wp2_with fail
            go_meet
            exact ⟨by rw [HT.out.1]; rfl, H0.out⟩
          · have q1 : (t.v == 0) = false := by simp [h4]
            clear h1 h2 h3 h4
            go_wp2_with fail
            refine (in_any _ _ _ _).mono ?_
            rw [HT.out.2.1]
            rintro e w' ⟨rfl, rfl⟩
            go_wp2_with fail
            refine (hB_in _ _).mono ?_
            rw [HT.out.2.2]
            rintro e w' ⟨rfl, rfl⟩
            go_wp2_with fail
            go_meet
            exact ⟨by rw [HT.out.1]; rfl, H0.out⟩
  case rest =>
    obtain ⟨rfl, HB⟩ := hcut
    cases hT : tankB t
    · have hF : Hid (brineB t ps heat hroom = false) := by show _ = _; unfold brineB; rw [hT]; simp
      clear hT
      go_wp2_with fail
      go_ret
      rw [hF.out]; exact ⟨rfl, HB.out.1⟩
    have HT := Lib.hid hT
    clear hT H0
    go_wp2_with fail
    go_loopw [3] (fun i wr => ∃ k : Nat, k ≤ ps.length ∧ k ≤ 9 ∧ i = .int .i64 k ∧ Hid ((Below W.heap.size W wr ∧ Has wr W.heap.size 26 (bcells t A ps.length cap heat hroom)) ∧ (ps.take k).all pipeB = true)) (fun i _ => ps.length - (intOf i).toNat)
    case atStart => exact ⟨0, Nat.zero_le _, by omega, rfl, HB.out, rfl⟩
    case round =>
      obtain ⟨k, hk, hk9, rfl, HX⟩ := hrel
      clear HB
      have e2 : wr.cell? ⟨W.heap.size, 2, none⟩ = some (.slice A ps.length cap) := HX.out.1.2.cell 2
      have hwl := HX.out.1.2.lt
      by_cases hend : k < ps.length ∧ k ≤ 8
      · obtain ⟨hlt, hk8⟩ := hend
        have hlt' : (k : Int) < ps.length := by omega
        have hk8' : (k : Int) ≤ 8 := by omega
        obtain ⟨g, o, A', cap', eA, hg, d0, d1, hs⟩ := (HR.out.1.below HX.out.1.1) k hlt
        have hgw : g < wr.heap.size := by omega
        subst eA
        have hml := HR.out.2 _ (List.getElem_mem hlt)
        obtain ⟨p, hp⟩ : ∃ p, p = ps[k] := ⟨_, rfl⟩
        rw [← hp] at d0 d1 hs hml
        have hF : pipeB p = false → brineB t ps heat hroom = false := fun h => by
          have := allp_take ps k hlt (by rw [← hp]; exact h)
          unfold brineB; rw [this]; simp
        have hN : pipeB p = true → (ps.take (k + 1)).all pipeB = true := fun h => by
          rw [List.take_succ_eq_append_getElem hlt, List.all_append, HX.out.2, ← hp]; simp [h]
        have HP := Lib.hid (And.intro hs (And.intro hF hN))
        clear hs hF hN hp
        cases hr : lB p.room
        · have hb := HP.out.2.1 (by unfold pipeB; rw [hr]; rfl)
          have HQ := Lib.hid (And.intro hr hb)
          clear hr hb
          go_wp2_with fail
          refine (lB_in _ _).mono ?_
          rw [HQ.out.1]
          rintro e w' ⟨rfl, rfl⟩
          go_wp2_with fail
          go_ret
          rw [HQ.out.2]; exact ⟨rfl, HX.out.1.1.alloc (by omega) _⟩
        by_cases h16 : 16 < p.l.length
        · have hb := HP.out.2.1 (by unfold pipeB; rw [show decide (p.l.length ≤ 16) = false by simp; omega]; simp)
          have HQ := Lib.hid (And.intro hr hb)
          have h16' : (16 : Int) < p.l.length := by omega
          clear hr hb
          go_wp2_with fail
          refine (lB_in _ _).mono ?_
          rw [HQ.out.1]
          rintro e w' ⟨rfl, rfl⟩
          go_wp2_with fail
          go_ret
          rw [HQ.out.2]; exact ⟨rfl, HX.out.1.1.alloc (by omega) _⟩
        have HQ := Lib.hid hr
        have h16' : ¬ (16 : Int) < p.l.length := by omega
        have hpl16 : p.l.length ≤ 16 := by omega
        have hrb := lB_iff.1 hr
        clear hr
        have hn51 : Has (wr.alloc (.cells #[.int .i64 p.room, .slice A' p.l.length cap'] 51)) wr.heap.size 51 #[.int .i64 p.room, .slice A' p.l.length cap'] := Has.new _ _ _
        have HN := Lib.hid hn51
        clear hn51
        go_wp2_with fail
        refine (lB_in _ _).mono ?_
        rw [HQ.out]
        rintro e w' ⟨rfl, rfl⟩
        go_wp2_with fail
        obtain ⟨wo, hwo⟩ : ∃ wo, wo = wr.alloc (.cells #[.int .i64 p.room, .slice A' p.l.length cap'] 51) := ⟨_, rfl⟩
        have hwz : wo.heap.size = wr.heap.size + 1 := by rw [hwo]; simp
        rw [← hwo] at HN ⊢
        have HO : Hid (Below wr.heap.size wr wo) := by rw [hwo]; exact below_one _ _
        clear hwo
        obtain ⟨wp, hwp⟩ : ∃ wp, wp = wr := ⟨_, rfl⟩
        obtain ⟨Bk, hBk⟩ : ∃ Bk, Bk = wr.heap.size := ⟨_, rfl⟩
        rw [← hBk] at HN HO hwz hgw ⊢
        rw [← hwp] at HX HP HO hBk
        have HBk := Lib.hid hBk
        clear hwp hBk d0 d1 e2 hwl
        go_loopw [6, 5] (fun j s wx => ∃ m : Nat, m ≤ p.l.length ∧ j = .int .i64 m ∧ s = .int .i64 (vol (p.l.take m)) ∧ Hid (wx = wo ∧ (p.l.take m).all (fun s => lB s.v && hB s.h) = true)) (fun j _ _ => p.l.length - (intOf j).toNat)
        case atStart => exact ⟨0, Nat.zero_le _, rfl, rfl, rfl, rfl⟩
        case round =>
          obtain ⟨m, hm, rfl, rfl, HY⟩ := hrel
          have hwx := HY.out.1
          subst hwx
          have x0 : wr.cell? ⟨Bk, 0, none⟩ = some (.int .i64 p.room) := HN.out.cell 0
          have x1 : wr.cell? ⟨Bk, 1, none⟩ = some (.slice A' p.l.length cap') := HN.out.cell 1
          have hvb := volb HY.out.2
          have hvl : vol (p.l.take m) ≤ 16777216 := by
            have : (p.l.take m).length ≤ 16 := by rw [List.length_take]; omega
            omega
          have hv0 := hvb.1
          clear hvb
          by_cases hmt : m < p.l.length
          · have hmt' : (m : Int) < p.l.length := by omega
            obtain ⟨g2, o2, eA2, hg2, s0, s1⟩ := (HP.out.1.below (HO.out.mono (by have := HX.out.1.1.size; have := HBk.out; omega))) m hmt
            subst eA2
            have hg2w : g2 < wr.heap.size := by have := HX.out.1.1.size; have := HO.out.size; omega
            have hvs := (vol_take p.l m hmt).1
            obtain ⟨z, hz⟩ : ∃ z, z = p.l[m] := ⟨_, rfl⟩
            rw [← hz] at s0 s1 hvs
            have hF2 : (lB z.v && hB z.h) = false → pipeB p = false := fun h => by
              have := all_take p.l (fun s => lB s.v && hB s.h) m hmt (by rw [← hz]; exact h)
              unfold pipeB; rw [this]; simp
            have hN2 : (lB z.v && hB z.h) = true → (p.l.take (m + 1)).all (fun s => lB s.v && hB s.h) = true := fun h => by
              rw [List.take_succ_eq_append_getElem hmt, List.all_append, HY.out.2, ← hz]; simp [h]
            have HZ := Lib.hid (And.intro hF2 (And.intro hN2 hvs))
            clear hF2 hN2 hvs hz
            cases hv : lB z.v
            · have HV := Lib.hid (And.intro hv (HP.out.2.1 (HZ.out.1 (by simp [hv]))))
              clear hv
              go_wp2_with fail
              refine (lB_in _ _).mono ?_
              rw [HV.out.1]
              rintro e w' ⟨rfl, rfl⟩
              go_wp2_with fail
              go_ret
              rw [HV.out.2]; exact ⟨rfl, HX.out.1.1.trans (HO.out.mono (by have := HX.out.1.1.size; have := HBk.out; omega))⟩
            · cases hh : hB z.h
              · have HV := Lib.hid (And.intro hv (And.intro hh (HP.out.2.1 (HZ.out.1 (by simp [hh])))))
                clear hv hh
                go_wp2_with fail
                refine (lB_in _ _).mono ?_
                rw [HV.out.1]
                rintro e w' ⟨rfl, rfl⟩
                go_wp2_with fail
                refine (hB_in _ _).mono ?_
                rw [HV.out.2.1]
                rintro e w' ⟨rfl, rfl⟩
                go_wp2_with fail
                go_ret
                rw [HV.out.2.2]; exact ⟨rfl, HX.out.1.1.trans (HO.out.mono (by have := HX.out.1.1.size; have := HBk.out; omega))⟩
              · have hzb := lB_iff.1 hv
                have HV := Lib.hid (And.intro hv (And.intro hh (HZ.out.2.1 (by simp [hv, hh]))))
                clear hv hh
                go_wp2_with fail
                refine (lB_in _ _).mono ?_
                rw [HV.out.1]
                rintro e w' ⟨rfl, rfl⟩
                go_wp2_with fail
                refine (hB_in _ _).mono ?_
                rw [HV.out.2.1]
                rintro e w' ⟨rfl, rfl⟩
                go_wp2_with fail
                go_roundw
                case rel => exact ⟨m + 1, by omega, by go_num, by rw [HZ.out.2.2], (by first | rfl | trivial), (by have h := HV.out.2.2; first | exact h | simpa using h)⟩
                case measure => simp [intOf]; omega
          · have hmt' : ¬ (m : Int) < p.l.length := by omega
            have hme : p.l.take m = p.l := List.take_of_length_le (by omega)
            have hall := HY.out.2
            rw [hme] at hall hv0 hvl ⊢
            have hPB : pipeB p = decide (vol p.l ≤ p.room) := by
              unfold pipeB
              rw [HQ.out, hall, show decide (p.l.length ≤ 16) = true by simp; omega]
              rfl
            have hbW : Below W.heap.size W wr := HX.out.1.1.trans (HO.out.mono (by have := HX.out.1.1.size; have := HBk.out; omega))
            have hxW : Has wr W.heap.size 26 (bcells t _ ps.length cap heat hroom) := HX.out.1.2.below HO.out (by have := HX.out.1.2.lt; have := HBk.out; omega)
            by_cases hvr : p.room < vol p.l
            · have HV := Lib.hid (HP.out.2.1 (by rw [hPB]; simp; omega))
              have HW := Lib.hid hbW
              clear hPB hall hme hbW hxW
              go_wp2_with fail
              go_ret
              rw [HV.out]; exact ⟨rfl, HW.out⟩
            · have hvr' : decide (p.room < vol p.l) = false := by simp; omega
              have HV := Lib.hid (HP.out.2.2 (by rw [hPB]; simp; omega))
              have HW := Lib.hid (And.intro hbW hxW)
              clear hPB hall hme hbW hxW
              go_wp2_with fail
              go_roundw
              case rel => exact ⟨k + 1, by omega, by omega, by go_num, HW.out, (by have h := HV.out; first | exact h | simpa using h)⟩
              case measure => simp [intOf]; omega
      · have hcond : ((k : Int) < ps.length ∧ ¬ (k : Int) ≤ 8) ∨ ¬ (k : Int) < ps.length := by omega
        have e3 : wr.cell? ⟨W.heap.size, 3, none⟩ = some (.int .i64 heat) := HX.out.1.2.cell 3
        have e4 : wr.cell? ⟨W.heap.size, 4, none⟩ = some (.int .i64 hroom) := HX.out.1.2.cell 4
        have hBR : ps.length ≤ 8 → brineB t ps heat hroom = (inB ps.length 1 8 && hB hroom && inB heat 0 hroom) := fun h => by
          have hall := HX.out.2
          rw [List.take_of_length_le (by omega)] at hall
          have e5 : inB ps.length 1 8 = (decide (1 ≤ ps.length) && decide (ps.length ≤ 8)) := by
            unfold inB
            rw [Bool.eq_iff_iff]; simp
            omega
          have e6 : inB heat 0 hroom = (decide (0 ≤ heat) && decide (heat ≤ hroom)) := by
            unfold inB
            rw [Bool.eq_iff_iff]; simp
          unfold brineB
          rw [HT.out, hall, e5, e6]
          simp [Bool.and_assoc]
        have hBL : 8 < ps.length → brineB t ps heat hroom = false := fun h => by
          unfold brineB
          rw [show decide (ps.length ≤ 8) = false by simp; omega]; simp
        have hI8 : 8 < ps.length → inB ps.length 1 8 = false := fun h => by
          unfold inB; simp; omega
        have HBR := Lib.hid (And.intro hBR (And.intro hBL hI8))
        have hdec : (inB ps.length 1 8 = false ∧ brineB t ps heat hroom = false) ∨ (inB ps.length 1 8 = true ∧ brineB t ps heat hroom = (hB hroom && inB heat 0 hroom)) := by
          by_cases h8 : 8 < ps.length
          · exact .inl ⟨hI8 h8, hBL h8⟩
          · cases hi : inB ps.length 1 8
            · exact .inl ⟨rfl, by rw [hBR (by omega), hi]; simp⟩
            · exact .inr ⟨rfl, by rw [hBR (by omega), hi]; simp⟩
        have HD := Lib.hid hdec
        clear hBR hBL hI8 hdec hend
        rcases hcond with ⟨q1, q2⟩ | q1
        all_goals
          rcases HD.out with ⟨h1, h2⟩ | ⟨h1, h2⟩
          · have H1 := Lib.hid (And.intro h1 h2)
            clear h1 h2
            go_wp2_with fail
            refine (in_any _ _ _ _).mono ?_
            rw [H1.out.1]
            rintro e w' ⟨rfl, rfl⟩
            go_wp2_with fail
            go_ret
            rw [H1.out.2]; exact ⟨rfl, HX.out.1.1⟩
          · cases h3 : hB hroom
            · have H1 := Lib.hid (And.intro h1 (And.intro h2 h3))
              clear h1 h2 h3
              go_wp2_with fail
              refine (in_any _ _ _ _).mono ?_
              rw [H1.out.1]
              rintro e w' ⟨rfl, rfl⟩
              go_wp2_with fail
              refine (hB_in _ _).mono ?_
              rw [H1.out.2.2]
              rintro e w' ⟨rfl, rfl⟩
              go_wp2_with fail
              go_ret
              rw [H1.out.2.1, H1.out.2.2]; exact ⟨rfl, HX.out.1.1⟩
            · have H1 := Lib.hid (And.intro h1 (And.intro h2 h3))
              clear h1 h2 h3
              go_wp2_with fail
              refine (in_any _ _ _ _).mono ?_
              rw [H1.out.1]
              rintro e w' ⟨rfl, rfl⟩
              go_wp2_with fail
              refine (hB_in _ _).mono ?_
              rw [H1.out.2.2]
              rintro e w' ⟨rfl, rfl⟩
              go_wp2_with fail
              refine (in_any _ _ _ _).mono ?_
              rintro e w' ⟨rfl, rfl⟩
              go_wp2_with fail
              go_ret
              rw [H1.out.2.1, H1.out.2.2, Bool.true_and]; exact ⟨rfl, HX.out.1.1⟩
end Go.Proofs.Ytjfopmjphiddiaa

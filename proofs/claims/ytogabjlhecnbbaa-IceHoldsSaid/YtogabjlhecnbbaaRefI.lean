/- The contract of the document's Breaks. -/
import Derived.Test.YtogabjlhecnbbaaRefH
namespace Go.Proofs.Ytogabjlhecnbbaa
open Go.RowKit Go.Shelf
/-- the ice that a weight needs, by the bearings from one on -/
def needD (weight : Int) : List (Int × Int) → Int
  | [] => 0
  | t :: r => if weight ≤ t.1 then t.2 else needD weight r
theorem needD_at (weight : Int) : ∀ (ts : List (Int × Int)) (i : Nat) (h : i < ts.length), weight ≤ ts[i].1 → (∀ j (hj : j < ts.length), j < i → ¬ weight ≤ ts[j].1) → needD weight ts = ts[i].2
  | [], i, h, _, _ => absurd h (by simp)
  | t :: r, 0, h, hp, _ => by simp only [List.getElem_cons_zero] at hp ⊢; unfold needD; rw [if_pos hp]
  | t :: r, i + 1, h, hp, hn => by
    unfold needD
    rw [if_neg (by have := hn 0 (by simp) (by omega); simpa using this)]
    simp only [List.getElem_cons_succ] at hp ⊢
    exact needD_at weight r i (by simpa using h) hp (fun j hj hlt => by have := hn (j + 1) (by simpa using hj) (by omega); simpa using this)
theorem needOf_eq {ts : List (Int × Int)} {weight : Int} (hl : 1 ≤ ts.length) (h : weight ≤ lastW ts) : needOf ts weight = needD weight ts := by
  unfold needOf firstAt
  have hlast : weight ≤ (ts[ts.length - 1]'(by omega)).1 := by
    unfold lastW at h
    simpa [show ts.length - 1 < ts.length by omega] using h
  cases hf : ts.findIdx? (fun b => decide (weight ≤ b.1)) with
  | none =>
    have := List.findIdx?_eq_none_iff.1 hf _ (List.getElem_mem (show ts.length - 1 < ts.length by omega))
    simp at this; omega
  | some i =>
    obtain ⟨hi, hp, hn⟩ := List.findIdx?_eq_some_iff_getElem.1 hf
    simp only
    rw [needD_at weight ts i hi (by simpa using hp) (fun j hj hlt => by have := hn j hlt; simpa using this)]
    simp [hi]
theorem needD_step {weight : Int} {ts : List (Int × Int)} {m : Nat} (h : m < ts.length) : needD weight (ts.drop m) = if weight ≤ ts[m].1 then ts[m].2 else needD weight (ts.drop (m + 1)) := by
  rw [List.drop_eq_getElem_cons h]; rfl
theorem inB_off (n : Nat) (z : Int) : inB z 0 ((n : Int) - 1) = !offB n z := by
  rw [Bool.eq_iff_iff]; simp [inB, offB]; omega
theorem noneTo_any {α : Type} {p : α → Bool} {xs : List α} {k : Nat} (h : NoneTo p xs k) (hk : xs.length ≤ k) : xs.any p = false := by
  rw [← firstAt_any, firstAt_no h hk]
theorem noneTo_off {xs : List Int} {k n : Nat} (h : NoneTo (offB n) xs k) (hk : xs.length ≤ k) : ∀ x ∈ xs, 0 ≤ x ∧ x < n := by
  intro x hx
  obtain ⟨j, hj, rfl⟩ := List.getElem_of_mem hx
  have := h j hj (by omega)
  simp [offB] at this; omega

set_option maxRecDepth 100000 in
set_option maxHeartbeats 4000000 in
theorem breaks22_any (zs : List Zn) (ts : List (Int × Int)) (path : List Int) (weight : Int) (A A1 A2 : Option Addr) (cap cap1 cap2 : Nat) (w : World) (hz : ZRow w w.heap.size A zs) (ht : BRow w w.heap.size A1 ts) (hp : IRow w w.heap.size A2 path)
    (hl : zs.length ≤ 9223372036854775807) (hl1 : ts.length ≤ 9223372036854775807) (hl2 : path.length ≤ 9223372036854775807) :
    Calls Try.prog 22 #[.slice A zs.length cap, .slice A1 ts.length cap1, .slice A2 path.length cap2, iv weight] w fun e w' => e = .returned (pairR (breaksR zs ts path weight)) ∧ Below w.heap.size w w' := by
  cases hr : rinkOk zs
  · have hR : Hid (breaksR zs ts path weight = (0, 1)) := by show _ = _; simp [breaksR, hr]
    go_enter Try.func22, Try.ntmps22
    go_wp2_with fail
    refine (rinkR_any zs A cap _ hz hl).mono ?_
    rintro r wa ⟨rfl, hb⟩
    rw [hr]
    go_wp2_with fail
    go_ret2
    rw [hR.out]; exact ⟨rfl, hb⟩
  cases htb : tableOk ts
  · have hR : Hid (breaksR zs ts path weight = (0, 1)) := by show _ = _; simp [breaksR, htb]
    go_enter Try.func22, Try.ntmps22
    go_wp2_with fail
    refine (rinkR_any zs A cap _ hz hl).mono ?_
    rintro r wa ⟨rfl, hb⟩
    rw [hr]
    go_wp2_with fail
    refine (table_any ts A1 cap1 _ ((ht.below hb).more hb.size) hl1).mono ?_
    rintro r wb ⟨rfl, hb2⟩
    rw [htb]
    go_wp2_with fail
    go_ret2
    rw [hR.out]; exact ⟨rfl, belowT hb hb2⟩
  have hzl : 1 ≤ zs.length := (rink_parts hr).2.1
  have hz24 : zs.length ≤ 24 := (rink_parts hr).1
  have htl : 1 ≤ ts.length ∧ ts.length ≤ 16 := by
    simp only [tableOk, Bool.and_eq_true, decide_eq_true_eq] at htb; exact ⟨htb.1.1, htb.1.2⟩
  obtain ⟨htl1, htl2⟩ := htl
  have HRT := Lib.hid (And.intro hr htb)
  go_enter Try.func22, Try.ntmps22
  go_wp2_with fail
  refine (rinkR_any zs A cap _ hz hl).mono ?_
  rintro r wa ⟨rfl, hba⟩
  rw [hr]
  go_wp2_with fail
  refine (table_any ts A1 cap1 _ ((ht.below hba).more hba.size) hl1).mono ?_
  rintro r wb ⟨rfl, hbb⟩
  rw [htb]
  have hb0 := belowT hba hbb
  clear hba hbb hr htb
  go_wp2_with fail
  go_loopw [10] (fun t wr => ∃ k : Nat, k ≤ path.length ∧ t = .int .i64 k ∧ NoneTo (offB zs.length) path k ∧ wb = wr) (fun t _ => path.length - (intOf t).toNat)
  case atStart => exact ⟨0, Nat.zero_le _, rfl, fun j _ h => absurd h (by omega), rfl⟩
  case round =>
    obtain ⟨k, hk, rfl, hn, rfl⟩ := hrel
    by_cases hlt : k < path.length
    · obtain ⟨g, o, rfl, hg, c0⟩ := hp k hlt
      rw [← hb0.cell (p := ⟨g, _, none⟩) hg] at c0
      have hI : (k : Int) < path.length := by omega
      have hw1 : IntKind.i64.wrap ((zs.length : Int) - 1) = (zs.length : Int) - 1 := by rw [IntKind.wrap_i64]; omega
      have HN := Lib.hid hn
      clear hn
      go_wp2_with fail
      refine (in_any _ _ _ _).mono ?_
      rintro r wc ⟨rfl, rfl⟩
      rw [inB_off]
      cases hoff : offB zs.length path[k]
      · have HN2 := Lib.hid (noneTo_succ (p := offB zs.length) (hk := hlt) HN.out hoff)
        clear hoff
        go_wp2_with fail
        go_roundw
        case rel => exact ⟨k + 1, by omega, by go_num, HN2.out, by first | rfl | trivial⟩
        case measure => simp [intOf]; omega
      · have hR : Hid (breaksR zs ts path weight = (0, 2)) := by
          show _ = _
          have : path.any (offB zs.length) = true := List.any_eq_true.2 ⟨_, List.getElem_mem hlt, hoff⟩
          simp [breaksR, HRT.out.1, HRT.out.2, this]
        go_wp2_with fail
        go_ret2
        rw [hR.out]; exact ⟨rfl, hb0⟩
    · have HA := Lib.hid (noneTo_any hn (by omega))
      have HO := Lib.hid (noneTo_off hn (by omega))
      clear hn
      obtain ⟨n, hn⟩ : ∃ n, ts.length = n + 1 := ⟨ts.length - 1, by omega⟩
      have hnl : n < ts.length := by omega
      obtain ⟨g, o, rfl, hg, c0, c1⟩ := ht n hnl
      rw [← hb0.cell (p := ⟨g, _, none⟩) hg] at c0 c1
      have HL : Hid (lastW ts = ts[n].1) := by show _ = _; unfold lastW; rw [hn]; simp [hnl]
      have HT := Lib.hid ht
      obtain ⟨lw, hlw⟩ : ∃ lw, lw = ts[n].1 := ⟨_, rfl⟩
      rw [← hlw] at c0 HL
      clear hlw ht
      have HTN := Lib.hid hn
      rw [hn]
      clear c1
      go_wp2_with fail
      refine (in_any _ _ _ _).mono ?_
      rintro r wc ⟨rfl, rfl⟩
      cases hin : inB weight 1 lw
      · have hR : Hid (breaksR zs ts path weight = (0, 2)) := by
          show _ = _
          simp only [inB] at hin
          simp only [breaksR, HRT.out.1, HRT.out.2, HA.out, HL.out, hin]
          simp
        go_wp2_with fail
        go_ret2
        rw [hR.out]; exact ⟨rfl, hb0⟩
      have HW : Hid (1 ≤ weight ∧ weight ≤ lw) := by show _ ∧ _; simpa [inB] using hin
      clear hin c0
      go_wp2_with fail
      go_loopw [12, 11] (fun t nd wr => ∃ m : Nat, m ≤ ts.length ∧ t = .int .i64 ((m : Int) - 1) ∧ nd = iv (needD weight (ts.drop m)) ∧ wb = wr) (fun t _ _ => (intOf t + 1).toNat)
      case atStart => exact ⟨ts.length, Nat.le_refl _, by rw [HTN.out]; simp, by simp [needD], rfl⟩
      case round =>
        obtain ⟨m, hm, rfl, rfl, rfl⟩ := hrel
        cases m with
        | succ q =>
          have hq : q < ts.length := by omega
          obtain ⟨g2, o2, e2, hg2, c0, c1⟩ := HT.out q hq
          obtain ⟨rfl, rfl⟩ : g = g2 ∧ o = o2 := by simpa using e2
          rw [← hb0.cell (p := ⟨g, _, none⟩) hg] at c0 c1
          have HS := Lib.hid (needD_step (weight := weight) hq)
          have hqI : (q : Int) < (n : Int) + 1 := by omega
          rw [show (((q + 1 : Nat) : Int) - 1) = (q : Int) by omega]
          obtain ⟨⟨ta, tb⟩, hab⟩ : ∃ t, t = ts[q] := ⟨_, rfl⟩
          rw [← hab] at c0 c1 HS
          simp only at c0 c1 HS
          clear hab e2
          by_cases hwt : weight ≤ ta
          · have HD : Hid (needD weight (ts.drop q) = tb) := by show _ = _; rw [HS.out, if_pos hwt]
            go_wp2_with fail
            go_roundw
            case rel => exact ⟨q, by omega, by go_num, by rw [HD.out], by first | rfl | trivial⟩
            case measure => simp [intOf]
          · have HD : Hid (needD weight (ts.drop q) = needD weight (ts.drop (q + 1))) := by show _ = _; rw [HS.out, if_neg hwt]
            have hwd : decide (weight ≤ ta) = false := by simpa using hwt
            go_wp2_with fail
            go_roundw
            case rel => exact ⟨q, by omega, by go_num, by rw [HD.out], by first | rfl | trivial⟩
            case measure => simp [intOf]
        | zero =>
          rw [show (((0 : Nat) : Int) - 1) = -1 by omega, List.drop_zero]
          obtain ⟨nd, hnd⟩ : ∃ nd, nd = needD weight ts := ⟨_, rfl⟩
          have HND : Hid (needOf ts weight = nd) := by show _ = _; rw [hnd]; exact needOf_eq htl1 (by rw [HL.out]; exact HW.out.2)
          rw [← hnd]
          clear hnd
          go_wp2_with fail
          go_loopw [13] (fun t wr => ∃ k : Nat, k ≤ path.length ∧ t = .int .i64 k ∧ NoneTo (fun z => decide ((zs.getD z.toNat zd).a < nd)) path k ∧ wb = wr) (fun t _ => path.length - (intOf t).toNat)
          case atStart => exact ⟨0, Nat.zero_le _, rfl, fun j _ h => absurd h (by omega), rfl⟩
          case round =>
            obtain ⟨i, hi, rfl, hni, rfl⟩ := hrel
            have HNI := Lib.hid hni
            clear hni
            by_cases hlti : i < path.length
            · obtain ⟨g3, o3, rfl, hg3, p0⟩ := hp i hlti
              rw [← hb0.cell (p := ⟨g3, _, none⟩) hg3] at p0
              obtain ⟨x0, x1⟩ := HO.out path[i] (List.getElem_mem hlti)
              obtain ⟨x, hx⟩ := Int.eq_ofNat_of_zero_le x0
              have hxz : x < zs.length := by omega
              rw [hx] at p0
              obtain ⟨g4, o4, rfl, hg4, z0, z1, z2, z3⟩ := hz x hxz
              rw [← hb0.cell (p := ⟨g4, _, none⟩) hg4] at z0 z1 z2 z3
              have HGz : Hid ((zs.getD path[i].toNat zd).a = zs[x].a) := by show _ = _; rw [hx]; simp [hxz]
              obtain ⟨za, hza⟩ : ∃ za, za = zs[x].a := ⟨_, rfl⟩
              rw [← hza] at z0 HGz
              have hxI : (x : Int) < zs.length := by omega
              have hiI : (i : Int) < path.length := by omega
              clear hza hx x0 x1 z1 z2 z3
              by_cases hth : za < nd
              · have hR : Hid (breaksR zs ts path weight = ((i : Int), 0)) := by
                  show _ = _
                  have hf := firstAt_yes (p := fun z : Int => decide ((zs.getD z.toNat zd).a < nd)) HNI.out hlti (by simp only [HGz.out]; simpa using hth)
                  simp only [breaksR, HRT.out.1, HRT.out.2, HA.out, HL.out, HND.out, hf]
                  have := HW.out
                  simp [this]
                go_wp2_with fail
                go_ret2
                rw [hR.out]; exact ⟨rfl, hb0⟩
              · have HN2 := Lib.hid (noneTo_succ (p := fun z : Int => decide ((zs.getD z.toNat zd).a < nd)) (hk := hlti) HNI.out (by simp only [HGz.out]; simpa using hth))
                have hthd : decide (za < nd) = false := by simpa using hth
                go_wp2_with fail
                go_roundw
                case rel => exact ⟨i + 1, by omega, by go_num, HN2.out, by first | rfl | trivial⟩
                case measure => simp [intOf]; omega
            · have hR : Hid (breaksR zs ts path weight = (0, 4)) := by
                show _ = _
                have hf := firstAt_no (p := fun z : Int => decide ((zs.getD z.toNat zd).a < nd)) HNI.out (by omega)
                simp only [breaksR, HRT.out.1, HRT.out.2, HA.out, HL.out, HND.out, hf]
                have := HW.out
                simp [this]
              go_wp2_with fail
              go_ret2
              rw [hR.out]; exact ⟨rfl, hb0⟩
end Go.Proofs.Ytogabjlhecnbbaa

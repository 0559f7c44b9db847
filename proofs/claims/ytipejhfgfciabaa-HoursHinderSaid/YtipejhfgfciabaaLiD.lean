/- The document's Timetable. -/
import Derived.Test.YtipejhfgfciabaaLiC
namespace Go.Proofs.Ytipejhfgfciabaa
open Go.RowKit Go.Shelf
attribute [local irreducible] wpQuiet
theorem ttB_eq (x : Tt) : ttB x = (x.G.all grpB && (chB x.H && (inB x.R 0 120 && (decide (x.G.length ≤ 5) && decide (x.H.length ≤ 12))))) := by
  unfold ttB
  cases inB x.R 0 120 <;> cases x.G.all grpB <;> cases chB x.H <;> cases decide (x.G.length ≤ 5) <;> cases decide (x.H.length ≤ 12) <;> rfl
theorem inB_bd {n lo hi : Int} {b : Bool} (h : inB n lo hi = b) : decide (lo ≤ n ∧ n ≤ hi) = b := h
set_option maxRecDepth 100000 in
set_option maxHeartbeats 4000000 in
theorem Timetable_any (x : Tt) (AH AG : Option Addr) (ch cg : Nat) (W : World) (hr : TR W W.heap.size x AH AG) (hng : x.G.length ≤ 1000) (hnh : x.H.length ≤ 1000) : Calls Try.prog 22 #[ttv x AH AG ch cg] W (BoolPost (ttB x) W) := by
  have hmix : Try.prog.follows .mixedOrders = true := by kernel_rfl
  have HB : Hid (VB W (W.alloc (.cells (ttc x AH AG ch cg) 25)) x AH AG ch cg) := ⟨below_one W _, Has.new W 25 _⟩
  have HR := Lib.hid hr
  have HT := Lib.hid (ttB_eq x)
  have HI := Lib.hid (fun n lo hi w => in_any n lo hi w)
  clear hr
  unfold ttv
  go_enter Try.func22, Try.ntmps22
  go_wp2_with fail
  generalize W.alloc (.cells (ttc x AH AG ch cg) 25) = w0 at HB ⊢
  go_loopg [3] x.G.length (fun gk i wr => ∃ k : Nat, k ≤ x.G.length ∧ x.G.length - k ≤ gk ∧ i = .int .i64 k ∧ Hid (VB W wr x AH AG ch cg ∧ ∀ j (hj : j < x.G.length), j < k → grpB x.G[j] = true))
  case atStart => exact ⟨0, Nat.zero_le _, Nat.le_refl _, rfl, Lib.hid ⟨HB.out, fun j _ h => absurd h (by omega)⟩⟩
  case round =>
    obtain ⟨k, hk, hgk, rfl, HW⟩ := hrel
    have x1 : wr.cell? ⟨W.heap.size, 1, none⟩ = some (.slice AG x.G.length cg) := HW.out.1.fx.cell 1
    by_cases hlt : k < x.G.length
    · have hlt2 : (k : Int) < x.G.length := by omega
      obtain ⟨g, o, hg, hgs, hc⟩ := (HR.out.below HW.out.1.b).g k hlt
      obtain ⟨b, hb⟩ : ∃ b, b = x.G[k] := ⟨_, rfl⟩
      rw [← hb] at hc
      have HBE := Lib.hid hb
      have c0 : wr.cell? ⟨g, o + k * 5, none⟩ = some (.int .i64 b.days) := hc 0 (by omega)
      have c1 : wr.cell? ⟨g, o + k * 5 + 1, none⟩ = some (.int .i64 b.early) := hc 1 (by omega)
      have c2 : wr.cell? ⟨g, o + k * 5 + 2, none⟩ = some (.int .i64 b.late) := hc 2 (by omega)
      have c3 : wr.cell? ⟨g, o + k * 5 + 3, none⟩ = some (.int .i64 b.most) := hc 3 (by omega)
      have c4 : wr.cell? ⟨g, o + k * 5 + 4, none⟩ = some (.int .i64 b.credit) := hc 4 (by omega)
      subst hg
      clear hc hb hgs
      go_upto_region 5 with fail
      have HW1 := Lib.hid (And.intro (HW.out.1.step (below_one wr (.cells (grc b) 49))) (Has.new wr 49 (grc b)))
      clear c0 c1 c2 c3 c4 x1
      unfold grc at HW1
      generalize wr.heap.size = D at HW1 ⊢
      generalize wr.alloc (.cells #[.int .i64 b.days, .int .i64 b.early, .int .i64 b.late, .int .i64 b.most, .int .i64 b.credit] 49) = w1 at HW1 ⊢
      have d0 : w1.cell? ⟨D, 0, none⟩ = some (.int .i64 b.days) := HW1.out.2.cell 0
      have d1 : w1.cell? ⟨D, 1, none⟩ = some (.int .i64 b.early) := HW1.out.2.cell 1
      have d2 : w1.cell? ⟨D, 2, none⟩ = some (.int .i64 b.late) := HW1.out.2.cell 2
      have d3 : w1.cell? ⟨D, 3, none⟩ = some (.int .i64 b.most) := HW1.out.2.cell 3
      have d4 : w1.cell? ⟨D, 4, none⟩ = some (.int .i64 b.credit) := HW1.out.2.cell 4
      have HNO : Hid (grpB b = false → ttB x = false) := Lib.hid fun hgb => by
        rw [HT.out]
        have h : x.G.all grpB = false := List.all_eq_false.2 ⟨x.G[k], List.getElem_mem hlt, by rw [← HBE.out, hgb]; decide⟩
        rw [h]; rfl
      have HNX : Hid (grpB b = true → ∀ j (hj : j < x.G.length), j < k + 1 → grpB x.G[j] = true) := Lib.hid fun hgb j hj hjk => by
        rcases Nat.lt_or_ge j k with h | h
        · exact HW.out.2 j hj h
        · have : j = k := by omega
          subst this
          rw [← HBE.out]; exact hgb
      have I0 := Lib.hid (fun w => HI.out b.days 0 127 w)
      have I1 := Lib.hid (fun w => HI.out b.early 0 1440 w)
      have I2 := Lib.hid (fun w => HI.out b.late 0 1440 w)
      have I3 := Lib.hid (fun w => HI.out b.most 0 12 w)
      have I4 := Lib.hid (fun w => HI.out b.credit 0 1000 w)
      clear HI HBE
      cases i0 : inB b.days 0 127 <;> rw [i0] at I0
      · have HE := Lib.hid (HNO.out (by unfold grpB; simp [i0]))
        clear HNO HNX i0
        go_wp2_with fail
        refine (I0.out _).mono ?_
        rintro e w ⟨rfl, rfl⟩
        go_wp2_with fail
        go_ret
        exact ⟨ret_bool HE.out.symm, HW1.out.1.b⟩
      cases i1 : inB b.early 0 1440 <;> rw [i1] at I1
      · have HE := Lib.hid (HNO.out (by unfold grpB; simp [i0, i1]))
        clear HNO HNX i0 i1
        go_wp2_with fail
        refine (I0.out _).mono ?_
        rintro e w ⟨rfl, rfl⟩
        go_wp2_with fail
        refine (I1.out _).mono ?_
        rintro e w ⟨rfl, rfl⟩
        go_wp2_with fail
        go_ret
        exact ⟨ret_bool HE.out.symm, HW1.out.1.b⟩
      cases i2 : inB b.late 0 1440 <;> rw [i2] at I2
      · have HE := Lib.hid (HNO.out (by unfold grpB; simp [i0, i1, i2]))
        clear HNO HNX i0 i1 i2
        go_wp2_with fail
        refine (I0.out _).mono ?_
        rintro e w ⟨rfl, rfl⟩
        go_wp2_with fail
        refine (I1.out _).mono ?_
        rintro e w ⟨rfl, rfl⟩
        go_wp2_with fail
        refine (I2.out _).mono ?_
        rintro e w ⟨rfl, rfl⟩
        go_wp2_with fail
        go_ret
        exact ⟨ret_bool HE.out.symm, HW1.out.1.b⟩
      cases i3 : inB b.most 0 12 <;> rw [i3] at I3
      · have HE := Lib.hid (HNO.out (by unfold grpB; simp [i0, i1, i2, i3]))
        clear HNO HNX i0 i1 i2 i3
        go_wp2_with fail
        refine (I0.out _).mono ?_
        rintro e w ⟨rfl, rfl⟩
        go_wp2_with fail
        refine (I1.out _).mono ?_
        rintro e w ⟨rfl, rfl⟩
        go_wp2_with fail
        refine (I2.out _).mono ?_
        rintro e w ⟨rfl, rfl⟩
        go_wp2_with fail
        refine (I3.out _).mono ?_
        rintro e w ⟨rfl, rfl⟩
        go_wp2_with fail
        go_ret
        exact ⟨ret_bool HE.out.symm, HW1.out.1.b⟩
      cases i4 : inB b.credit 0 1000 <;> rw [i4] at I4
      · have HE := Lib.hid (HNO.out (by unfold grpB; simp [i0, i1, i2, i3, i4]))
        clear HNO HNX i0 i1 i2 i3 i4
        go_wp2_with fail
        refine (I0.out _).mono ?_
        rintro e w ⟨rfl, rfl⟩
        go_wp2_with fail
        refine (I1.out _).mono ?_
        rintro e w ⟨rfl, rfl⟩
        go_wp2_with fail
        refine (I2.out _).mono ?_
        rintro e w ⟨rfl, rfl⟩
        go_wp2_with fail
        refine (I3.out _).mono ?_
        rintro e w ⟨rfl, rfl⟩
        go_wp2_with fail
        refine (I4.out _).mono ?_
        rintro e w ⟨rfl, rfl⟩
        go_wp2_with fail
        go_ret
        exact ⟨ret_bool HE.out.symm, HW1.out.1.b⟩
      have HE := Lib.hid (HNX.out (by unfold grpB; simp [i0, i1, i2, i3, i4]))
      clear HNO HNX i0 i1 i2 i3 i4
      go_wp2_with fail
      refine (I0.out _).mono ?_
      rintro e w ⟨rfl, rfl⟩
      go_wp2_with fail
      refine (I1.out _).mono ?_
      rintro e w ⟨rfl, rfl⟩
      go_wp2_with fail
      refine (I2.out _).mono ?_
      rintro e w ⟨rfl, rfl⟩
      go_wp2_with fail
      refine (I3.out _).mono ?_
      rintro e w ⟨rfl, rfl⟩
      go_wp2_with fail
      refine (I4.out _).mono ?_
      rintro e w ⟨rfl, rfl⟩
      go_wp2_with fail
      go_roundg (x.G.length - (k + 1))
      case measure => omega
      case rel => exact ⟨k + 1, by omega, Nat.le_refl _, by go_num, Lib.hid ⟨HW1.out.1, HE.out⟩⟩
    have hge : ¬ (k : Int) < x.G.length := by omega
    have HG : Hid (x.G.all grpB = true) := Lib.hid (by
      rw [List.all_eq_true]
      intro g hg
      obtain ⟨j, hj, rfl⟩ := List.getElem_of_mem hg
      exact HW.out.2 j hj (by omega))
    go_wp2_with fail
    clear x1
    go_loopg [5] x.H.length (fun gk i wr => ∃ m : Nat, m ≤ x.H.length ∧ x.H.length - m ≤ gk ∧ i = .int .i64 m ∧ Hid (VB W wr x AH AG ch cg ∧ ∀ j (hj : j < x.H.length), j < m → hourAt x.H j = true))
    case atStart => exact ⟨0, Nat.zero_le _, Nat.le_refl _, rfl, Lib.hid ⟨HW.out.1, fun j _ h => absurd h (by omega)⟩⟩
    case round =>
      obtain ⟨m, hm, hgm, rfl, HY⟩ := hrel
      clear HW
      have x0 : wr.cell? ⟨W.heap.size, 0, none⟩ = some (.slice AH x.H.length ch) := HY.out.1.fx.cell 0
      by_cases hmt : m < x.H.length
      rotate_left
      · have hge : ¬ (m : Int) < x.H.length := by omega
        have x1 : wr.cell? ⟨W.heap.size, 1, none⟩ = some (.slice AG x.G.length cg) := HY.out.1.fx.cell 1
        have x2 : wr.cell? ⟨W.heap.size, 2, none⟩ = some (.int .i64 x.R) := HY.out.1.fx.cell 2
        have HTR : Hid (ttB x = (inB x.R 0 120 && (decide (x.G.length ≤ 5) && decide (x.H.length ≤ 12)))) := Lib.hid (by
          rw [HT.out, HG.out]
          have : chB x.H = true := by
            unfold chB
            rw [List.all_eq_true]
            intro i hi
            have hi' : i < x.H.length := by simpa using hi
            exact HY.out.2 i hi' (by omega)
          rw [this]; rfl)
        have IR := Lib.hid (fun w => HI.out x.R 0 120 w)
        clear HI HT HG
        cases ir : inB x.R 0 120 <;> rw [ir] at IR HTR
        · have HE : Hid (ttB x = false) := Lib.hid HTR.out
          clear ir HTR
          go_wp2_with fail
          refine (IR.out _).mono ?_
          rintro e w ⟨rfl, rfl⟩
          go_wp2_with fail
          go_ret
          exact ⟨ret_bool (by first | exact HE.out.symm | (rw [HE.out]; simp; omega)), HY.out.1.b⟩
        by_cases h5 : x.G.length ≤ 5
        rotate_left
        · have HE : Hid (ttB x = false) := Lib.hid (by rw [HTR.out]; simp [h5])
          have h5' : ¬ (x.G.length : Int) ≤ 5 := by omega
          clear ir HTR h5
          go_wp2_with fail
          refine (IR.out _).mono ?_
          rintro e w ⟨rfl, rfl⟩
          go_wp2_with fail
          go_ret
          exact ⟨ret_bool (by first | exact HE.out.symm | (rw [HE.out]; simp; omega)), HY.out.1.b⟩
        have h5' : (x.G.length : Int) ≤ 5 := by omega
        by_cases h12 : x.H.length ≤ 12
        · have HE : Hid (ttB x = true) := Lib.hid (by rw [HTR.out]; simp [h5, h12])
          have h12' : (x.H.length : Int) ≤ 12 := by omega
          clear ir HTR h5 h12
          go_wp2_with fail
          refine (IR.out _).mono ?_
          rintro e w ⟨rfl, rfl⟩
          go_wp2_with fail
          go_ret
          exact ⟨ret_bool (by first | exact HE.out.symm | (rw [HE.out]; simp; omega)), HY.out.1.b⟩
        · have HE : Hid (ttB x = false) := Lib.hid (by rw [HTR.out]; simp [h5, h12])
          have h12' : ¬ (x.H.length : Int) ≤ 12 := by omega
          clear ir HTR h5 h12
          go_wp2_with fail
          refine (IR.out _).mono ?_
          rintro e w ⟨rfl, rfl⟩
          go_wp2_with fail
          go_ret
          exact ⟨ret_bool (by first | exact HE.out.symm | (rw [HE.out]; simp; omega)), HY.out.1.b⟩
      have hmt2 : (m : Int) < x.H.length := by omega
      obtain ⟨g, o, hg, hgs, hc⟩ := (HR.out.below HY.out.1.b).h m hmt
      obtain ⟨b, hb⟩ : ∃ b, b = x.H[m] := ⟨_, rfl⟩
      rw [← hb] at hc
      have hAT : hourAt x.H m = (hourB b && (decide (m = 0) || (match x.H[m - 1]? with | some a => folB a b | none => false))) := by
        unfold hourAt; rw [List.getElem?_eq_getElem hmt, ← hb]; rfl
      have c0 : wr.cell? ⟨g, o + m * 3, none⟩ = some (.int .i64 b.day) := hc 0 (by omega)
      have c1 : wr.cell? ⟨g, o + m * 3 + 1, none⟩ = some (.int .i64 b.beg) := hc 1 (by omega)
      have c2 : wr.cell? ⟨g, o + m * 3 + 2, none⟩ = some (.int .i64 b.fin) := hc 2 (by omega)
      have HRW : Hid (∀ w, Below W.heap.size W w → ∀ i (hi : i < x.H.length), ∀ j, j < 3 → w.cell? ⟨g, o + i * 3 + j, none⟩ = (hrc x.H[i])[j]?) := Lib.hid fun w hb i hi j hj => by
        obtain ⟨g', o', e', _, hc'⟩ := (HR.out.below hb).h i hi
        rw [hg] at e'; cases e'
        exact hc' j hj
      subst hg
      clear hc hb hgs
      go_upto_region 11 with fail
      have HW1 := Lib.hid (show VD W (wr.alloc (.cells (hrc b) 88)) x (some ⟨g, o, none⟩) AG ch cg wr.heap.size b from ⟨HY.out.1.step (below_one wr (.cells (hrc b) 88)), Has.new wr 88 (hrc b)⟩)
      clear c0 c1 c2 x0
      unfold hrc at HW1
      generalize wr.heap.size = D at HW1 ⊢
      generalize wr.alloc (.cells #[.int .i64 b.day, .int .i64 b.beg, .int .i64 b.fin] 88) = w1 at HW1 ⊢
      have d0 : w1.cell? ⟨D, 0, none⟩ = some (.int .i64 b.day) := HW1.out.fd.cell 0
      have d1 : w1.cell? ⟨D, 1, none⟩ = some (.int .i64 b.beg) := HW1.out.fd.cell 1
      have d2 : w1.cell? ⟨D, 2, none⟩ = some (.int .i64 b.fin) := HW1.out.fd.cell 2
      have HNO : Hid (hourAt x.H m = false → ttB x = false) := Lib.hid fun h => by
        rw [HT.out]
        have : chB x.H = false := by
          unfold chB
          exact List.all_eq_false.2 ⟨m, List.mem_range.2 hmt, by rw [h]; decide⟩
        rw [this, Bool.false_and, Bool.and_false]
      have HNX : Hid (hourAt x.H m = true → ∀ j (hj : j < x.H.length), j < m + 1 → hourAt x.H j = true) := Lib.hid fun h j hj hjk => by
        rcases Nat.lt_or_ge j m with h' | h'
        · exact HY.out.2 j hj h'
        · have : j = m := by omega
          subst this; exact h
      have I0 := Lib.hid (fun w => HI.out b.day 0 6 w)
      clear HI
      have HAT := Lib.hid hAT
      have hB : hourB b = (inB b.day 0 6 && (decide (0 ≤ b.beg) && (decide (b.beg < b.fin) && decide (b.fin ≤ 1440)))) := rfl
      clear hAT
      cases i0 : inB b.day 0 6 <;> rw [i0] at I0 hB
      · have HE := Lib.hid (HNO.out (by rw [HAT.out, hB]; rfl))
        clear HNO HNX HAT i0 hB
        go_wp2_with fail
        refine (I0.out _).mono ?_
        rintro e w ⟨rfl, rfl⟩
        go_wp2_with fail
        go_ret
        exact ⟨ret_bool HE.out.symm, HW1.out.v.b⟩
      clear i0
      by_cases p1 : 0 ≤ b.beg
      rotate_left
      · have HE := Lib.hid (HNO.out (by rw [HAT.out, hB]; simp [p1]))
        have q1 : b.beg < 0 := by omega
        clear HNO HNX HAT hB p1
        go_wp2_with fail
        refine (I0.out _).mono ?_
        rintro e w ⟨rfl, rfl⟩
        go_wp2_with fail
        go_ret
        exact ⟨ret_bool HE.out.symm, HW1.out.v.b⟩
      have q1 : ¬ b.beg < 0 := by omega
      by_cases p2 : b.beg < b.fin
      rotate_left
      · have HE := Lib.hid (HNO.out (by rw [HAT.out, hB]; simp [p2]))
        have q2 : b.fin ≤ b.beg := by omega
        clear HNO HNX HAT hB p1 p2
        go_wp2_with fail
        refine (I0.out _).mono ?_
        rintro e w ⟨rfl, rfl⟩
        go_wp2_with fail
        go_ret
        exact ⟨ret_bool HE.out.symm, HW1.out.v.b⟩
      have q2 : ¬ b.fin ≤ b.beg := by omega
      by_cases p3 : b.fin ≤ 1440
      rotate_left
      · have HE := Lib.hid (HNO.out (by rw [HAT.out, hB]; simp [p3]))
        have q3 : 1440 < b.fin := by omega
        clear HNO HNX HAT hB p1 p2 p3
        go_wp2_with fail
        refine (I0.out _).mono ?_
        rintro e w ⟨rfl, rfl⟩
        go_wp2_with fail
        go_ret
        exact ⟨ret_bool HE.out.symm, HW1.out.v.b⟩
      have q3 : ¬ 1440 < b.fin := by omega
      have HBT : Hid (hourB b = true) := Lib.hid (by rw [hB]; simp [p1, p2, p3])
      clear hB p1 p2 p3
      go_wp2_with fail
      refine (I0.out _).mono ?_
      rintro e w ⟨rfl, rfl⟩
      go_upto_region 13 with fail
      clear d0 d1 d2 I0 q1 q2 q3
      haveI hne : Nonempty (Cls (fun w' => VD W w' x (some ⟨g, o, none⟩) AG ch cg D b)) := ⟨⟨_, HW1.out.drew⟩⟩
      have HD := Lib.hid (VD.drew HW1.out)
      have hx0 : ∀ pc : Cls (fun w' => VD W w' x (some ⟨g, o, none⟩) AG ch cg D b), pc.w.cell? ⟨W.heap.size, 0, none⟩ = some (.slice (some ⟨g, o, none⟩) x.H.length ch) := fun pc => pc.h.v.fx.cell 0
      have hd0 : ∀ pc : Cls (fun w' => VD W w' x (some ⟨g, o, none⟩) AG ch cg D b), pc.w.cell? ⟨D, 0, none⟩ = some (.int .i64 b.day) := fun pc => pc.h.fd.cell 0
      have hd1 : ∀ pc : Cls (fun w' => VD W w' x (some ⟨g, o, none⟩) AG ch cg D b), pc.w.cell? ⟨D, 1, none⟩ = some (.int .i64 b.beg) := fun pc => pc.h.fd.cell 1
      by_cases h0 : m = 0
      · subst h0
        have HE := Lib.hid (HNX.out (by rw [HAT.out, HBT.out]; rfl))
        clear HNO HNX HAT HBT
        refine wp_region_cls (fun w' => VD W w' x (some ⟨g, o, none⟩) AG ch cg D b) hmix (by kernel_rfl) HD.out ?_
        repeat (quiet_step (fail))
        refine wpQuiet_nil ?_
        rintro w7 ⟨⟨_, hw7⟩, rfl⟩
        have H7 := Lib.hid hw7
        clear hx0 hd0 hd1 hne hw7 HD
        try simp only []
        go_wp2_with fail
        go_roundg (x.H.length - (0 + 1))
        case measure => omega
        case rel => exact ⟨0 + 1, by omega, Nat.le_refl _, by go_num, Lib.hid ⟨H7.out.v, HE.out⟩⟩
      obtain ⟨i, hi⟩ : ∃ i, i = m - 1 := ⟨_, rfl⟩
      have hil : i < x.H.length := by omega
      have e1 : IntKind.i64.wrap ((m : Int) - 1) = (i : Int) := by rw [IntWalk.i64_in _ (by omega)]; omega
      have e4 : (i : Int) < x.H.length := by omega
      have e5 : 0 < m := by omega
      have e6 : decide (0 < (m : Int)) = true := by simp; omega
      obtain ⟨a, ha⟩ : ∃ a, a = x.H[i] := ⟨_, rfl⟩
      have HAF : Hid (hourAt x.H m = folB a b) := Lib.hid (by
        rw [HAT.out, HBT.out, ← hi, List.getElem?_eq_getElem hil, ← ha]
        simp [h0])
      have HRA : Hid (∀ w, Below W.heap.size W w → ∀ j, j < 3 → w.cell? ⟨g, o + i * 3 + j, none⟩ = (hrc a)[j]?) := Lib.hid (by rw [ha]; exact fun w hb j hj => HRW.out w hb i hil j hj)
      have ha0 : ∀ pc : Cls (fun w' => VD W w' x (some ⟨g, o, none⟩) AG ch cg D b), pc.w.cell? ⟨g, o + i * 3, none⟩ = some (.int .i64 a.day) := fun pc => HRA.out _ pc.h.v.b 0 (by omega)
      have ha2 : ∀ pc : Cls (fun w' => VD W w' x (some ⟨g, o, none⟩) AG ch cg D b), pc.w.cell? ⟨g, o + i * 3 + 2, none⟩ = some (.int .i64 a.fin) := fun pc => HRA.out _ pc.h.v.b 2 (by omega)
      clear ha hi HAT HBT HRW
      have hmz := Lib.hid h0
      clear h0
      have h3 : b.day < a.day ∨ (¬ b.day < a.day ∧ ¬ b.day = a.day) ∨ (¬ b.day < a.day ∧ b.day = a.day ∧ b.beg < a.fin) ∨ (¬ b.day < a.day ∧ b.day = a.day ∧ ¬ b.beg < a.fin) := by omega
      rcases h3 with p0 | ⟨p0, p1⟩ | ⟨p0, p1, p2⟩ | ⟨p0, p1, p2⟩
      · have HE := Lib.hid (HNO.out (by rw [HAF.out]; unfold folB; simp; omega))
        clear HNO HNX HAF
        refine wp_region_cls (fun w' => VD W w' x (some ⟨g, o, none⟩) AG ch cg D b) hmix (by kernel_rfl) HD.out ?_
        repeat (quiet_step (fail))
        refine wpQuiet_nil ?_
        rintro w7 ⟨⟨_, hw7⟩, rfl⟩
        have H7 := Lib.hid hw7
        clear hx0 hd0 hd1 ha0 ha2 hne hw7 HD
        try simp only []
        go_wp2_with fail
        go_ret
        exact ⟨ret_bool HE.out.symm, H7.out.v.b⟩
      · have HE := Lib.hid (HNX.out (by rw [HAF.out]; unfold folB; simp; omega))
        clear HNO HNX HAF
        have p1' : (b.day == a.day) = false := by simpa using p1
        clear p1
        refine wp_region_cls (fun w' => VD W w' x (some ⟨g, o, none⟩) AG ch cg D b) hmix (by kernel_rfl) HD.out ?_
        repeat (quiet_step (fail))
        refine wpQuiet_nil ?_
        rintro w7 ⟨⟨_, hw7⟩, rfl⟩
        have H7 := Lib.hid hw7
        clear hx0 hd0 hd1 ha0 ha2 hne hw7 HD
        try simp only []
        go_wp2_with fail
        go_roundg (x.H.length - (m + 1))
        case measure => omega
        case rel => exact ⟨m + 1, by omega, Nat.le_refl _, by go_num, Lib.hid ⟨H7.out.v, HE.out⟩⟩
      · have HE := Lib.hid (HNO.out (by rw [HAF.out]; unfold folB; simp; omega))
        clear HNO HNX HAF
        have p1' : (b.day == a.day) = true := by simpa using p1
        clear p1
        refine wp_region_cls (fun w' => VD W w' x (some ⟨g, o, none⟩) AG ch cg D b) hmix (by kernel_rfl) HD.out ?_
        repeat (quiet_step (fail))
        refine wpQuiet_nil ?_
        rintro w7 ⟨⟨_, hw7⟩, rfl⟩
        have H7 := Lib.hid hw7
        clear hx0 hd0 hd1 ha0 ha2 hne hw7 HD
        try simp only []
        go_wp2_with fail
        go_ret
        exact ⟨ret_bool HE.out.symm, H7.out.v.b⟩
      · have HE := Lib.hid (HNX.out (by rw [HAF.out]; unfold folB; simp; omega))
        clear HNO HNX HAF
        have p1' : (b.day == a.day) = true := by simpa using p1
        clear p1
        refine wp_region_cls (fun w' => VD W w' x (some ⟨g, o, none⟩) AG ch cg D b) hmix (by kernel_rfl) HD.out ?_
        repeat (quiet_step (fail))
        refine wpQuiet_nil ?_
        rintro w7 ⟨⟨_, hw7⟩, rfl⟩
        have H7 := Lib.hid hw7
        clear hx0 hd0 hd1 ha0 ha2 hne hw7 HD
        try simp only []
        go_wp2_with fail
        go_roundg (x.H.length - (m + 1))
        case measure => omega
        case rel => exact ⟨m + 1, by omega, Nat.le_refl _, by go_num, Lib.hid ⟨H7.out.v, HE.out⟩⟩
end Go.Proofs.Ytipejhfgfciabaa

/- The document's Best. -/
import Derived.Test.YtfdjoldcdfbfhaaRfH
namespace Go.Proofs.Ytfdjoldcdfbfhaa
open Go.Shelf Go.RowKit
structure Bc (W wr : World) (g : Nat) (lo hi : Int) : Prop where
  b : Below W.heap.size W wr
  s : Has wr W.heap.size 38 #[.int .i64 0, .int .i64 0]
  v : Has wr g 38 #[.int .i64 lo, .int .i64 hi]
  g : W.heap.size < g
theorem Bc.below {W wr w' : World} {g : Nat} {lo hi : Int} (h : Bc W wr g lo hi) (hb : Below wr.heap.size wr w') : Bc W w' g lo hi :=
  ⟨h.b.trans (hb.mono h.b.size), h.s.below hb h.s.lt, h.v.below hb h.v.lt, h.g⟩
theorem Bc.set {W wr : World} {g : Nat} {lo hi : Int} (h : Bc W wr g lo hi) (a b : Int) : Bc W ((wr.setCell ⟨g, 0, none⟩ (.int .i64 a)).setCell ⟨g, 1, none⟩ (.int .i64 b)) g a b := by
  have hg := h.g
  exact ⟨(h.b.setCell (p := ⟨g, 0, none⟩) (by simp only; omega) _).setCell (p := ⟨g, 1, none⟩) (by simp only; omega) _, (h.s.far (p := ⟨g, 0, none⟩) (by simp only; omega) _).far (p := ⟨g, 1, none⟩) (by simp only; omega) _, span_set h.v _ _, hg⟩
set_option maxRecDepth 100000 in
set_option maxHeartbeats 4000000 in
theorem refBest_any (l : List Sn) (A : Option Addr) (cap : Nat) (F limit rise calm frm to : Int) (W : World) (hr : NRow W W.heap.size A l) (hl : l.length ≤ 9223372036854775807) :
    Calls Try.prog 24 #[.slice A l.length cap, .int .i64 F, .int .i64 limit, .int .i64 rise, .int .i64 calm, .int .i64 frm, .int .i64 to] W (BestPost (bestR l F limit rise calm frm to) W) := by
  have HR := Lib.hid hr
  have HV := Lib.hid (fun (w : World) h => refVoting_any l A cap 1 F w h hl)
  have g1 := fun w => errors_any limit rise calm frm to w
  have hb0 := below_one W (.cells #[.int .i64 0, .int .i64 0] 38)
  have hn0 := Has.new W 38 #[.int .i64 0, .int .i64 0]
  have HB := Lib.hid (And.intro hb0 hn0)
  clear hr hb0 hn0
  have fin : ∀ (w2 : World) (a b : Int), Below W.heap.size W w2 → Below W.heap.size W ((w2.setCell ⟨W.heap.size, 0, none⟩ (.int .i64 a)).setCell ⟨W.heap.size, 1, none⟩ (.int .i64 b)) := fun w2 a b h => (h.setCell (by simp only; omega) _).setCell (by simp only; omega) _
  have FIN := Lib.hid fin
  clear fin
  cases hv : vvB l 1 F
  · have HN := Lib.hid (show bestR l F limit rise calm frm to = (0, (0, 0), 1) by unfold bestR; rw [if_pos hv])
    rw [hv] at HV
    clear g1 hv
    unfold vtv at *
    go_enter Try.func24, Try.ntmps24
    go_wp2_with fail
    refine (HV.out _ (HR.out.step HB.out.1)).mono ?_
    rintro e w2 ⟨rfl, hb2⟩
    have H2 := Lib.hid (And.intro (below_seq HB.out.1 hb2) (HB.out.2.below hb2 HB.out.2.lt))
    have r0 : w2.cell? ⟨W.heap.size, 0, none⟩ = some (.int .i64 0) := H2.out.2.cell 0
    have r1 : w2.cell? ⟨W.heap.size, 1, none⟩ = some (.int .i64 0) := H2.out.2.cell 1
    have rz := H2.out.2.frozen
    have rl := H2.out.2.lt
    clear hb2
    go_wp2_with fail
    obtain ⟨wz, hwz⟩ : ∃ wz, wz = (w2.setCell ⟨W.heap.size, 0, none⟩ (.int .i64 0)).setCell ⟨W.heap.size, 1, none⟩ (.int .i64 0) := ⟨_, rfl⟩
    have hz := span_set H2.out.2 (.int .i64 0) (.int .i64 0)
    rw [← hwz] at hz ⊢
    have q0 : wz.cell? ⟨W.heap.size, 0, none⟩ = some (.int .i64 0) := hz.cell 0
    have q1 : wz.cell? ⟨W.heap.size, 1, none⟩ = some (.int .i64 0) := hz.cell 1
    refine bodyPost_ret (v := .tuple #[.int .i64 0, .agg #[.int .i64 0, .int .i64 0], .int .i64 1]) (by simp [results, Try.results24, go_sem, q0, q1]) rfl ?_
    rw [HN.out]
    exact ⟨rfl, by rw [hwz]; exact FIN.out _ _ _ H2.out.1⟩
  have HVV := Lib.hid ((vvB_iff l 1 F).1 hv)
  rw [hv] at HV
  cases h1 : searchB limit rise calm frm to <;> simp only [errB, h1] at g1
  · have HN := Lib.hid (show bestR l F limit rise calm frm to = (0, (0, 0), 2) by unfold bestR; rw [if_neg (by rw [hv]; simp), if_pos h1])
    clear h1 hv
    unfold vtv at *
    go_enter Try.func24, Try.ntmps24
    go_wp2_with fail
    refine (HV.out _ (HR.out.step HB.out.1)).mono ?_
    rintro e w2 ⟨rfl, hb2⟩
    have H2 := Lib.hid (And.intro (below_seq HB.out.1 hb2) (HB.out.2.below hb2 HB.out.2.lt))
    have r0 : w2.cell? ⟨W.heap.size, 0, none⟩ = some (.int .i64 0) := H2.out.2.cell 0
    have r1 : w2.cell? ⟨W.heap.size, 1, none⟩ = some (.int .i64 0) := H2.out.2.cell 1
    have rz := H2.out.2.frozen
    have rl := H2.out.2.lt
    clear hb2
    go_wp2_with fail
    refine (g1 _).mono ?_
    rintro e w3 ⟨rfl, rfl⟩
    go_wp2_with fail
    obtain ⟨wz, hwz⟩ : ∃ wz, wz = (w3.setCell ⟨W.heap.size, 0, none⟩ (.int .i64 0)).setCell ⟨W.heap.size, 1, none⟩ (.int .i64 0) := ⟨_, rfl⟩
    have hz := span_set H2.out.2 (.int .i64 0) (.int .i64 0)
    rw [← hwz] at hz ⊢
    have q0 : wz.cell? ⟨W.heap.size, 0, none⟩ = some (.int .i64 0) := hz.cell 0
    have q1 : wz.cell? ⟨W.heap.size, 1, none⟩ = some (.int .i64 0) := hz.cell 1
    refine bodyPost_ret (v := .tuple #[.int .i64 0, .agg #[.int .i64 0, .int .i64 0], .int .i64 2]) (by simp [results, Try.results24, go_sem, q0, q1]) rfl ?_
    rw [HN.out]
    exact ⟨rfl, by rw [hwz]; exact FIN.out _ _ _ H2.out.1⟩
  obtain ⟨s1, s2, s3, s4⟩ := search_iff h1
  have hbd := Lib.hid (best_bd HVV.out s1 s2 s3 s4)
  have hthr := Lib.hid (fun (V : Int) h1 h2 w hr => refThr_any l A cap V F limit rise calm frm to w hr (HVV.out.votes (n := V) h1 h2) s1 s2 s3 s4)
  have htb := Lib.hid (fun (V : Int) (h1 : 1 ≤ V) (h2 : V ≤ l.length) (x : Int × Int) h => thr_bd (HVV.out.votes (n := V) h1 h2) s1 s2 s3 s4 (x := x) h)
  have hz := Lib.hid (bestN_zero l F limit rise calm frm to)
  have hnx := Lib.hid (bestN_next l F limit rise calm frm to)
  have hRes := Lib.hid (show bestR l F limit rise calm frm to = if (bestN l F limit rise calm frm to l.length).1 = 0 then (0, (0, 0), 4) else ((bestN l F limit rise calm frm to l.length).1, (bestN l F limit rise calm frm to l.length).2, 0) by
    unfold bestR
    rw [if_neg (by rw [hv]; simp), if_neg (by rw [h1]; simp)])
  have h12 := HVV.out.h12
  obtain ⟨bN, hbN⟩ : ∃ f, f = bestN l F limit rise calm frm to := ⟨_, rfl⟩
  rw [← hbN] at hbd hz hnx hRes
  clear h1 hv s1 s2 s3 s4 hbN
  unfold vtv at *
  go_enter Try.func24, Try.ntmps24
  go_wp2_with fail
  refine (HV.out _ (HR.out.step HB.out.1)).mono ?_
  rintro e w2 ⟨rfl, hb2⟩
  have H2 := Lib.hid (And.intro (below_seq HB.out.1 hb2) (HB.out.2.below hb2 HB.out.2.lt))
  have hs2 : W.heap.size < w2.heap.size := H2.out.2.lt
  clear hb2
  go_wp2_with fail
  refine (g1 _).mono ?_
  rintro e w3 ⟨rfl, rfl⟩
  go_wp2_with fail
  have H3 : Hid (Bc W (w3.alloc (.cells #[.int .i64 0, .int .i64 0] 38)) w3.heap.size 0 0) := ⟨H2.out.1.alloc (by omega) _, H2.out.2.alloc _, Has.new w3 38 _, hs2⟩
  generalize w3.alloc (.cells #[.int .i64 0, .int .i64 0] 38) = w5 at H3 ⊢
  generalize w3.heap.size = gB at H3 ⊢
  go_loopg [17, 19] l.length (fun gk v i wr => ∃ k : Nat, k ≤ l.length ∧ l.length - k ≤ gk ∧ v = .int .i64 (bN k).1 ∧ i = .int .i64 ((k : Int) + 1) ∧ Hid (Bc W wr gB (bN k).2.1 (bN k).2.2))
  case atStart => exact ⟨0, Nat.zero_le _, Nat.le_refl _, by rw [hz.out], rfl, by rw [hz.out]; exact H3.out⟩
  case round =>
    obtain ⟨k, hk, hgk, rfl, rfl, HW⟩ := hrel
    obtain ⟨⟨b1, b2⟩, b3, b4, b5⟩ := hbd.out k hk
    obtain ⟨y, hy⟩ : ∃ y, bN k = y := ⟨_, rfl⟩
    rw [hy] at HW b1 b2 b3 b4 b5 ⊢
    have HY := Lib.hid hy
    have hgB := HW.out.g
    clear hy
    by_cases hlt : k < l.length
    · have hlt' : (k : Int) < l.length := by omega
      have hlt2 : (k : Int) + 1 ≤ l.length := by omega
      go_wp2_with fail
      refine (hthr.out ((k : Int) + 1) (by omega) (by omega) wr (HR.out.step HW.out.b)).mono ?_
      rintro e w4 ⟨x, hx, hxb, rfl, hb4⟩
      have H4 := Lib.hid (HW.out.below hb4)
      clear hb4
      have hnk := hnx.out k
      rw [HY.out] at hnk
      obtain ⟨⟨xa, xb⟩, xc⟩ := x
      simp only at hxb ⊢
      cases xc with
      | false =>
        have HNK := Lib.hid (show bN (k + 1) = y by
          rw [hnk]
          rcases hx with ⟨_, h⟩ | ⟨h, _⟩
          · rw [h]
          · cases h)
        clear hnk hx
        go_wp2_with fail
        go_roundg (l.length - (k + 1))
        case measure => omega
        case rel => exact ⟨k + 1, by omega, Nat.le_refl _, by rw [HNK.out], by go_num, by rw [HNK.out]; exact H4.out.below (below_one _ _)⟩
      | true =>
        have hth : thrP l ((k : Int) + 1) F limit rise calm frm (to - frm + 1).toNat = some (xa, xb) := by
          rcases hx with ⟨h, _⟩ | ⟨_, h⟩
          · cases h
          · exact h
        rw [hth] at hnk
        obtain ⟨t1, t2, t3⟩ := htb.out ((k : Int) + 1) (by omega) (by omega) (xa, xb) hth
        clear hth hx
        simp only at hnk t1 t2 t3
        have H5 := Lib.hid (H4.out.below (below_one w4 (.cells #[.int .i64 xa, .int .i64 xb] 38)))
        have x0 : (w4.alloc (.cells #[.int .i64 xa, .int .i64 xb] 38)).cell? ⟨w4.heap.size, 0, none⟩ = some (.int .i64 xa) := (Has.new w4 38 _).cell 0
        have x1 : (w4.alloc (.cells #[.int .i64 xa, .int .i64 xb] 38)).cell? ⟨w4.heap.size, 1, none⟩ = some (.int .i64 xb) := (Has.new w4 38 _).cell 1
        have q0 : (w4.alloc (.cells #[.int .i64 xa, .int .i64 xb] 38)).cell? ⟨gB, 0, none⟩ = some (.int .i64 y.2.1) := H5.out.v.cell 0
        have q1 : (w4.alloc (.cells #[.int .i64 xa, .int .i64 xb] 38)).cell? ⟨gB, 1, none⟩ = some (.int .i64 y.2.2) := H5.out.v.cell 1
        have qz := H5.out.v.frozen
        have ql := H5.out.v.lt
        by_cases hy0 : y.1 = 0
        · rw [if_pos (.inl hy0)] at hnk
          have HNK := Lib.hid hnk
          clear hnk
          have hq : (y.1 == 0) = true := by simp [hy0]
          clear hy0
          go_wp2_with fail
          go_roundg (l.length - (k + 1))
          case measure => omega
          case rel => exact ⟨k + 1, by omega, Nat.le_refl _, by rw [HNK.out], by go_num, by rw [HNK.out]; exact H5.out.set _ _⟩
        · have hq : (y.1 == 0) = false := by simp [hy0]
          by_cases hgt : y.2.2 - y.2.1 < xb - xa
          · rw [if_pos (.inr hgt)] at hnk
            have HNK := Lib.hid hnk
            clear hnk hy0
            go_wp2_with fail
            go_roundg (l.length - (k + 1))
            case measure => omega
            case rel => exact ⟨k + 1, by omega, Nat.le_refl _, by rw [HNK.out], by go_num, by rw [HNK.out]; exact H5.out.set _ _⟩
          · rw [if_neg (by rintro (h | h) <;> omega)] at hnk
            have HNK := Lib.hid hnk
            clear hnk hy0
            go_wp2_with fail
            go_roundg (l.length - (k + 1))
            case measure => omega
            case rel => exact ⟨k + 1, by omega, Nat.le_refl _, by rw [HNK.out], by go_num, by rw [HNK.out]; exact H5.out⟩
    · have hlt' : ¬ (k : Int) + 1 ≤ l.length := by omega
      have hke : k = l.length := by omega
      have hres := hRes.out
      rw [← hke, HY.out] at hres
      have q0 : wr.cell? ⟨gB, 0, none⟩ = some (.int .i64 y.2.1) := HW.out.v.cell 0
      have q1 : wr.cell? ⟨gB, 1, none⟩ = some (.int .i64 y.2.2) := HW.out.v.cell 1
      have r0 : wr.cell? ⟨W.heap.size, 0, none⟩ = some (.int .i64 0) := HW.out.s.cell 0
      have r1 : wr.cell? ⟨W.heap.size, 1, none⟩ = some (.int .i64 0) := HW.out.s.cell 1
      have rz := HW.out.s.frozen
      have rl := HW.out.s.lt
      have ne1 : ¬ gB = W.heap.size := by omega
      have ne2 : ¬ W.heap.size = gB := by omega
      by_cases hy0 : y.1 = 0
      · rw [if_pos hy0] at hres
        have HN := Lib.hid hres
        have hq : (y.1 == 0) = true := by simp [hy0]
        clear hres hke hy0
        go_wp2_with fail
        obtain ⟨wz, hwz⟩ : ∃ wz, wz = (wr.setCell ⟨W.heap.size, 0, none⟩ (.int .i64 0)).setCell ⟨W.heap.size, 1, none⟩ (.int .i64 0) := ⟨_, rfl⟩
        have hz := span_set HW.out.s (.int .i64 0) (.int .i64 0)
        rw [← hwz] at hz ⊢
        have q0 : wz.cell? ⟨W.heap.size, 0, none⟩ = some (.int .i64 0) := hz.cell 0
        have q1 : wz.cell? ⟨W.heap.size, 1, none⟩ = some (.int .i64 0) := hz.cell 1
        refine bodyPost_ret (v := .tuple #[.int .i64 0, .agg #[.int .i64 0, .int .i64 0], .int .i64 4]) (by simp [results, Try.results24, go_sem, q0, q1]) rfl ?_
        rw [HN.out]
        exact ⟨rfl, by rw [hwz]; exact FIN.out _ _ _ HW.out.b⟩
      · rw [if_neg hy0] at hres
        have HN := Lib.hid hres
        have hq : (y.1 == 0) = false := by simp [hy0]
        clear hres hke hy0
        go_wp2_with fail
        go_region
        all_goals go_wp2_with fail
        all_goals
          obtain ⟨wz, hwz⟩ : ∃ wz, wz = ((wr.setCell ⟨W.heap.size, 0, none⟩ (.int .i64 y.2.1)).setCell ⟨W.heap.size, 1, none⟩ (.int .i64 y.2.2)).drew := ⟨_, rfl⟩
          have hz : Has wz W.heap.size 38 #[.int .i64 y.2.1, .int .i64 y.2.2] := by rw [hwz]; exact span_set HW.out.s (.int .i64 y.2.1) (.int .i64 y.2.2)
          rw [← hwz]
          have q0 : wz.cell? ⟨W.heap.size, 0, none⟩ = some (.int .i64 y.2.1) := hz.cell 0
          have q1 : wz.cell? ⟨W.heap.size, 1, none⟩ = some (.int .i64 y.2.2) := hz.cell 1
          refine bodyPost_ret (v := .tuple #[.int .i64 y.1, .agg #[.int .i64 y.2.1, .int .i64 y.2.2], .int .i64 0]) (by simp [results, Try.results24, go_sem, q0, q1]) rfl ?_
          rw [HN.out]
          have hbb : Below W.heap.size W wz := by
            have h := FIN.out _ y.2.1 y.2.2 HW.out.b
            rw [hwz]; exact ⟨h.os, h.tape, h.output, h.size, h.block⟩
          exact ⟨rfl, hbb⟩
end Go.Proofs.Ytfdjoldcdfbfhaa

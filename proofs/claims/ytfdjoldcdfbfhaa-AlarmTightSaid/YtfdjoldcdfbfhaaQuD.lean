/- Best. -/
import Derived.Test.YtfdjoldcdfbfhaaQuC
namespace Go.Proofs.Ytfdjoldcdfbfhaa
open Go.Shelf Go.RowKit
theorem VV.votes {l : List Sn} {V F : Int} (h : VV l V F) {n : Int} (h1 : 1 ≤ n) (h2 : n ≤ l.length) : VV l n F := ⟨h.hL, h.h1, h.h12, ⟨h1, h2⟩, h.hF⟩
/-- the best of the first n votes -/
def bestN (l : List Sn) (F limit rise calm frm to : Int) (n : Nat) : Int × Int × Int := bestP (fun k => thrP l k F limit rise calm frm (to - frm + 1).toNat) n
def bestR (l : List Sn) (F limit rise calm frm to : Int) : Int × (Int × Int) × Int :=
  if vvB l 1 F = false then (0, (0, 0), 1) else if searchB limit rise calm frm to = false then (0, (0, 0), 2)
  else if (bestN l F limit rise calm frm to l.length).1 = 0 then (0, (0, 0), 4) else ((bestN l F limit rise calm frm to l.length).1, (bestN l F limit rise calm frm to l.length).2, 0)
def BestPost (x : Int × (Int × Int) × Int) (W : World) (e : Ending) (W' : World) : Prop :=
  e = .returned (.tuple #[.int .i64 x.1, .agg #[.int .i64 x.2.1.1, .int .i64 x.2.1.2], .int .i64 x.2.2]) ∧ Below W.heap.size W W'
/-- Best's own blocks -/
structure Bb (W wr : World) (A : Option Addr) (n cap : Nat) (F : Int) (lo hi : Int) : Prop where
  b : Below W.heap.size W wr
  s : Has wr W.heap.size 38 #[.int .i64 lo, .int .i64 hi]
  v : ∃ x : Int, Has wr (W.heap.size + 1) 24 #[.slice A n cap, .int .i64 x, .int .i64 F]
theorem Bb.below {W wr w' : World} {A : Option Addr} {n cap : Nat} {F a b : Int} (h : Bb W wr A n cap F a b) (hb : Below wr.heap.size wr w') : Bb W w' A n cap F a b :=
  ⟨h.b.trans (hb.mono h.b.size), h.s.below hb h.s.lt, by obtain ⟨x, hx⟩ := h.v; exact ⟨x, hx.below hb hx.lt⟩⟩
theorem Bb.drew {W wr : World} {A : Option Addr} {n cap : Nat} {F a b : Int} (h : Bb W wr A n cap F a b) : Bb W wr.drew A n cap F a b :=
  ⟨⟨h.b.os, h.b.tape, h.b.output, h.b.size, h.b.block⟩, h.s, h.v⟩
theorem bestN_zero (l : List Sn) (F limit rise calm frm to : Int) : bestN l F limit rise calm frm to 0 = (0, 0, 0) := rfl
theorem bestN_next (l : List Sn) (F limit rise calm frm to : Int) (k : Nat) : bestN l F limit rise calm frm to (k + 1) = match thrP l ((k : Int) + 1) F limit rise calm frm (to - frm + 1).toNat with
    | none => bestN l F limit rise calm frm to k
    | some s => if (bestN l F limit rise calm frm to k).1 = 0 ∨ (bestN l F limit rise calm frm to k).2.2 - (bestN l F limit rise calm frm to k).2.1 < s.2 - s.1 then ((k : Int) + 1, s.1, s.2) else bestN l F limit rise calm frm to k := rfl
theorem thr_bd {l : List Sn} {V F limit rise calm frm to : Int} (hv : VV l V F) (s1 : 0 ≤ limit ∧ limit ≤ 1048576) (s2 : 0 ≤ rise ∧ rise ≤ 1048576) (s3 : 0 ≤ calm ∧ calm ≤ 1048576) (s4 : 0 ≤ frm ∧ frm ≤ to ∧ to ≤ 2000) {x : Int × Int} (h : thrP l V F limit rise calm frm (to - frm + 1).toNat = some x) : 1 ≤ x.1 ∧ x.1 ≤ x.2 ∧ x.2 ≤ 1048576 := by
  have := thrP_some (s := x) (frm := frm) (k := (to - frm + 1).toNat) (rise := rise) ⟨hv.hL, hv.h1, hv.h12, hv.hV, hv.hF, s1, s2, s3⟩ (by omega) h
  exact ⟨this.1, this.2.1, this.2.2.1⟩
theorem best_bd {l : List Sn} {V F limit rise calm frm to : Int} (hv : VV l V F) (s1 : 0 ≤ limit ∧ limit ≤ 1048576) (s2 : 0 ≤ rise ∧ rise ≤ 1048576) (s3 : 0 ≤ calm ∧ calm ≤ 1048576) (s4 : 0 ≤ frm ∧ frm ≤ to ∧ to ≤ 2000) (n : Nat) (hn : n ≤ l.length) :
    (0 ≤ (bestN l F limit rise calm frm to n).1 ∧ (bestN l F limit rise calm frm to n).1 ≤ n) ∧ (0 ≤ (bestN l F limit rise calm frm to n).2.1 ∧ (bestN l F limit rise calm frm to n).2.1 ≤ (bestN l F limit rise calm frm to n).2.2 ∧ (bestN l F limit rise calm frm to n).2.2 ≤ 1048576) := by
  obtain ⟨h1, h2, h3⟩ := bestP_spec (fun k => thrP l k F limit rise calm frm (to - frm + 1).toNat) n
  refine ⟨h1, ?_⟩
  show 0 ≤ (bestP _ n).2.1 ∧ (bestP _ n).2.1 ≤ (bestP _ n).2.2 ∧ (bestP _ n).2.2 ≤ 1048576
  by_cases h0 : (bestP (fun k => thrP l k F limit rise calm frm (to - frm + 1).toNat) n).1 = 0
  · rw [(h2 h0).1]; simp
  · have := thr_bd (hv.votes (n := (bestP (fun k => thrP l k F limit rise calm frm (to - frm + 1).toNat) n).1) (by omega) (by omega)) s1 s2 s3 s4 (h3 h0).1
    omega
theorem Try.info38 : (Try.prog.info? 38).map (fun i => (i.zero, i.size, i.bytes)) = some (some (.agg #[.int .i64 0, .int .i64 0]), 2, 16) := by kernel_rfl
set_option maxRecDepth 100000 in
set_option maxHeartbeats 4000000 in
theorem Best_any (l : List Sn) (A : Option Addr) (cap : Nat) (F limit rise calm frm to : Int) (W : World) (hr : NRow W W.heap.size A l) (hl : l.length ≤ 9223372036854775807) :
    Calls Try.prog 23 #[.slice A l.length cap, .int .i64 F, .int .i64 limit, .int .i64 rise, .int .i64 calm, .int .i64 frm, .int .i64 to] W (BestPost (bestR l F limit rise calm frm to) W) := by
  have HR := Lib.hid hr
  have HV := Lib.hid (fun (w : World) h => voting_any l A cap 1 F w h hl)
  have g1 := fun w => search_any limit rise calm frm to w
  have hb0 := (below_one W (.cells #[.int .i64 0, .int .i64 0] 38)).alloc (Nat.le_of_lt (by simp)) (.cells #[.slice A l.length cap, .int .i64 1, .int .i64 F] 24)
  have hn0 := (Has.new W 38 #[.int .i64 0, .int .i64 0]).alloc (.cells #[.slice A l.length cap, .int .i64 1, .int .i64 F] 24)
  have hn1 := Has.new (W.alloc (.cells #[.int .i64 0, .int .i64 0] 38)) 24 #[.slice A l.length cap, .int .i64 1, .int .i64 F]
  simp only [World.size_alloc] at hn1
  have HB := Lib.hid (And.intro (Bb.mk (F := F) hb0 hn0 ⟨1, hn1⟩) hn1)
  clear hr hb0 hn0 hn1
  have fin : ∀ (w2 : World) (a b : Int), Below W.heap.size W w2 → Below W.heap.size W ((w2.setCell ⟨W.heap.size, 0, none⟩ (.int .i64 a)).setCell ⟨W.heap.size, 1, none⟩ (.int .i64 b)) := fun w2 a b h => (h.setCell (by simp only; omega) _).setCell (by simp only; omega) _
  have FIN := Lib.hid fin
  clear fin
  cases hv : vvB l 1 F
  · have HN := Lib.hid (show bestR l F limit rise calm frm to = (0, (0, 0), 1) by unfold bestR; rw [if_pos hv])
    rw [hv] at HV
    clear g1 hv
    unfold vtv at *
    go_enter Try.func23, Try.ntmps23
    go_wp2_with fail
    generalize ((W.alloc (.cells #[.int .i64 0, .int .i64 0] 38)).alloc (.cells #[.slice A l.length cap, .int .i64 1, .int .i64 F] 24)) = w0 at HB ⊢
    refine (HV.out _ (HR.out.step HB.out.1.b)).mono ?_
    rintro e w2 ⟨rfl, hb2⟩
    have H2 := Lib.hid (HB.out.1.below hb2)
    have r0 : w2.cell? ⟨W.heap.size, 0, none⟩ = some (.int .i64 0) := H2.out.s.cell 0
    have r1 : w2.cell? ⟨W.heap.size, 1, none⟩ = some (.int .i64 0) := H2.out.s.cell 1
    have rz := H2.out.s.frozen
    have rl := H2.out.s.lt
    clear hb2
    go_wp2_with fail
    obtain ⟨wz, hwz⟩ : ∃ wz, wz = (w2.setCell ⟨W.heap.size, 0, none⟩ (.int .i64 0)).setCell ⟨W.heap.size, 1, none⟩ (.int .i64 0) := ⟨_, rfl⟩
    have hz := span_set H2.out.s (.int .i64 0) (.int .i64 0)
    rw [← hwz] at hz ⊢
    have q0 : wz.cell? ⟨W.heap.size, 0, none⟩ = some (.int .i64 0) := hz.cell 0
    have q1 : wz.cell? ⟨W.heap.size, 1, none⟩ = some (.int .i64 0) := hz.cell 1
    refine bodyPost_ret (v := .tuple #[.int .i64 0, .agg #[.int .i64 0, .int .i64 0], .int .i64 1]) (by simp [results, Try.results23, go_sem, q0, q1]) rfl ?_
    rw [HN.out]
    exact ⟨rfl, by rw [hwz]; exact FIN.out _ _ _ H2.out.b⟩
  have HVV := Lib.hid ((vvB_iff l 1 F).1 hv)
  rw [hv] at HV
  cases h1 : searchB limit rise calm frm to <;> rw [h1] at g1
  · have HN := Lib.hid (show bestR l F limit rise calm frm to = (0, (0, 0), 2) by unfold bestR; rw [if_neg (by rw [hv]; simp), if_pos h1])
    clear h1 hv
    unfold vtv at *
    go_enter Try.func23, Try.ntmps23
    go_wp2_with fail
    generalize ((W.alloc (.cells #[.int .i64 0, .int .i64 0] 38)).alloc (.cells #[.slice A l.length cap, .int .i64 1, .int .i64 F] 24)) = w0 at HB ⊢
    refine (HV.out _ (HR.out.step HB.out.1.b)).mono ?_
    rintro e w2 ⟨rfl, hb2⟩
    have H2 := Lib.hid (HB.out.1.below hb2)
    have r0 : w2.cell? ⟨W.heap.size, 0, none⟩ = some (.int .i64 0) := H2.out.s.cell 0
    have r1 : w2.cell? ⟨W.heap.size, 1, none⟩ = some (.int .i64 0) := H2.out.s.cell 1
    have rz := H2.out.s.frozen
    have rl := H2.out.s.lt
    clear hb2
    go_wp2_with fail
    refine (g1 _).mono ?_
    rintro e w3 ⟨rfl, rfl⟩
    go_wp2_with fail
    obtain ⟨wz, hwz⟩ : ∃ wz, wz = (w3.setCell ⟨W.heap.size, 0, none⟩ (.int .i64 0)).setCell ⟨W.heap.size, 1, none⟩ (.int .i64 0) := ⟨_, rfl⟩
    have hz := span_set H2.out.s (.int .i64 0) (.int .i64 0)
    rw [← hwz] at hz ⊢
    have q0 : wz.cell? ⟨W.heap.size, 0, none⟩ = some (.int .i64 0) := hz.cell 0
    have q1 : wz.cell? ⟨W.heap.size, 1, none⟩ = some (.int .i64 0) := hz.cell 1
    refine bodyPost_ret (v := .tuple #[.int .i64 0, .agg #[.int .i64 0, .int .i64 0], .int .i64 2]) (by simp [results, Try.results23, go_sem, q0, q1]) rfl ?_
    rw [HN.out]
    exact ⟨rfl, by rw [hwz]; exact FIN.out _ _ _ H2.out.b⟩
  obtain ⟨s1, s2, s3, s4⟩ := search_iff h1
  have hbd := Lib.hid (best_bd HVV.out s1 s2 s3 s4)
  have hthr := Lib.hid (fun (V : Int) h1 h2 w hr => thresholds_any l A cap V F limit rise calm frm to w hr (HVV.out.votes (n := V) h1 h2) s1 s2 s3 s4)
  have htb := Lib.hid (fun (V : Int) (h1 : 1 ≤ V) (h2 : V ≤ l.length) (x : Int × Int) h => thr_bd (HVV.out.votes (n := V) h1 h2) s1 s2 s3 s4 (x := x) h)
  have hz := Lib.hid (bestN_zero l F limit rise calm frm to)
  have hnx := Lib.hid (bestN_next l F limit rise calm frm to)
  have hRes := Lib.hid (show bestR l F limit rise calm frm to = if (bestN l F limit rise calm frm to l.length).1 = 0 then (0, (0, 0), 4) else ((bestN l F limit rise calm frm to l.length).1, (bestN l F limit rise calm frm to l.length).2, 0) by
    unfold bestR
    rw [if_neg (by rw [hv]; simp), if_neg (by rw [h1]; simp)])
  have h12 := HVV.out.h12
  obtain ⟨bN, hbN⟩ : ∃ f, f = bestN l F limit rise calm frm to := ⟨_, rfl⟩
  rw [← hbN] at hbd hz hnx hRes
  clear h1 hv s1 s2 s3 s4 hbN
  unfold vtv at *
  go_enter Try.func23, Try.ntmps23
  go_wp2_with fail
  generalize ((W.alloc (.cells #[.int .i64 0, .int .i64 0] 38)).alloc (.cells #[.slice A l.length cap, .int .i64 1, .int .i64 F] 24)) = w0 at HB ⊢
  refine (HV.out _ (HR.out.step HB.out.1.b)).mono ?_
  rintro e w2 ⟨rfl, hb2⟩
  have H2 := Lib.hid (HB.out.1.below hb2)
  clear hb2
  go_wp2_with fail
  refine (g1 _).mono ?_
  rintro e w3 ⟨rfl, rfl⟩
  go_wp2_with fail
  go_loopg [14, 38] l.length (fun gk v i wr => ∃ k : Nat, k ≤ l.length ∧ l.length - k ≤ gk ∧ v = .int .i64 (bN k).1 ∧ i = .int .i64 k ∧ Hid (Bb W wr A l.length cap F (bN k).2.1 (bN k).2.2))
  case atStart => exact ⟨0, Nat.zero_le _, Nat.le_refl _, by rw [hz.out], rfl, by rw [hz.out]; exact H2.out⟩
  case round =>
    obtain ⟨k, hk, hgk, rfl, rfl, HW⟩ := hrel
    obtain ⟨xv, hxv⟩ := HW.out.v
    obtain ⟨⟨b1, b2⟩, b3, b4, b5⟩ := hbd.out k hk
    obtain ⟨y, hy⟩ : ∃ y, bN k = y := ⟨_, rfl⟩
    rw [hy] at HW b1 b2 b3 b4 b5 ⊢
    have r0 : wr.cell? ⟨W.heap.size, 0, none⟩ = some (.int .i64 y.2.1) := HW.out.s.cell 0
    have r1 : wr.cell? ⟨W.heap.size, 1, none⟩ = some (.int .i64 y.2.2) := HW.out.s.cell 1
    have rz := HW.out.s.frozen
    have rl := HW.out.s.lt
    have HY := Lib.hid hy
    clear hy
    by_cases hlt : k < l.length
    · have hlt' : (k : Int) < l.length := by omega
      have v0 : wr.cell? ⟨W.heap.size + 1, 0, none⟩ = some (.slice A l.length cap) := hxv.cell 0
      have v1 : wr.cell? ⟨W.heap.size + 1, 1, none⟩ = some (.int .i64 xv) := hxv.cell 1
      have v2 : wr.cell? ⟨W.heap.size + 1, 2, none⟩ = some (.int .i64 F) := hxv.cell 2
      have vz := hxv.frozen
      have vl := hxv.lt
      have HX := Lib.hid hxv
      clear hxv
      go_wp2_with fail
      have hq1 : Below W.heap.size W (wr.setCell ⟨W.heap.size + 1, 1, none⟩ (.int .i64 ((k : Int) + 1))) := HW.out.b.setCell (by simp only; omega) _
      have hqs : Has (wr.setCell ⟨W.heap.size + 1, 1, none⟩ (.int .i64 ((k : Int) + 1))) W.heap.size 38 #[.int .i64 y.2.1, .int .i64 y.2.2] := HW.out.s.far (p := ⟨W.heap.size + 1, 1, none⟩) (by simp only; omega) _
      have hqv : Has (wr.setCell ⟨W.heap.size + 1, 1, none⟩ (.int .i64 ((k : Int) + 1))) (W.heap.size + 1) 24 #[.slice A l.length cap, .int .i64 ((k : Int) + 1), .int .i64 F] := by
        have := HX.out.set 1 (.int .i64 ((k : Int) + 1)); simpa using this
      generalize wr.setCell ⟨W.heap.size + 1, 1, none⟩ (.int .i64 ((k : Int) + 1)) = wq at hq1 hqs hqv ⊢
      have HQ := Lib.hid (And.intro hq1 (And.intro hqs hqv))
      clear hq1 hqs hqv r0 r1 rz rl v0 v1 v2 vz vl
      refine (hthr.out ((k : Int) + 1) (by omega) (by omega) wq (HR.out.step HQ.out.1)).mono ?_
      rintro e w4 ⟨rfl, hb4⟩
      have H4 := Lib.hid (And.intro (HQ.out.1.trans (hb4.mono HQ.out.1.size)) (And.intro (HQ.out.2.1.below hb4 HQ.out.2.1.lt) (HQ.out.2.2.below hb4 HQ.out.2.2.lt)))
      have HB4 := Lib.hid (Bb.mk (F := F) H4.out.1 H4.out.2.1 ⟨_, H4.out.2.2⟩)
      clear hb4
      have hnk := hnx.out k
      rw [HY.out] at hnk
      cases hth : thrP l ((k : Int) + 1) F limit rise calm frm (to - frm + 1).toNat with
      | none =>
        rw [hth] at hnk
        have HNK := Lib.hid (show bN (k + 1) = y from hnk)
        clear hnk hth
        simp only [thrE]
        go_wp2_with fail
        go_roundg (l.length - (k + 1))
        case measure => omega
        case rel => exact ⟨k + 1, by omega, Nat.le_refl _, by rw [HNK.out], by go_num, by rw [HNK.out]; exact HB4.out.below (below_one _ _)⟩
      | some s =>
        rw [hth] at hnk
        obtain ⟨t1, t2, t3⟩ := htb.out ((k : Int) + 1) (by omega) (by omega) s hth
        clear hth
        simp only [thrE]
        simp only at hnk
        have r0 : w4.cell? ⟨W.heap.size, 0, none⟩ = some (.int .i64 y.2.1) := HB4.out.s.cell 0
        have r1 : w4.cell? ⟨W.heap.size, 1, none⟩ = some (.int .i64 y.2.2) := HB4.out.s.cell 1
        have rz := HB4.out.s.frozen
        have rl := HB4.out.s.lt
        have v1 : w4.cell? ⟨W.heap.size + 1, 1, none⟩ = some (.int .i64 ((k : Int) + 1)) := H4.out.2.2.cell 1
        have vl := H4.out.2.2.lt
        by_cases hy0 : y.1 = 0
        · rw [if_pos (.inl hy0)] at hnk
          have HNK := Lib.hid hnk
          clear hnk
          have hq : (y.1 == 0) = true := by simp [hy0]
          have HY0 := Lib.hid hy0
          clear hy0
          go_wp2_with fail
          have x0 : (w4.alloc (.cells #[.int .i64 s.1, .int .i64 s.2] 38)).cell? ⟨w4.heap.size, 0, none⟩ = some (.int .i64 s.1) := (Has.new w4 38 _).cell 0
          have x1 : (w4.alloc (.cells #[.int .i64 s.1, .int .i64 s.2] 38)).cell? ⟨w4.heap.size, 1, none⟩ = some (.int .i64 s.2) := (Has.new w4 38 _).cell 1
          have H5 := Lib.hid (HB4.out.below (below_one w4 (.cells #[.int .i64 s.1, .int .i64 s.2] 38)))
          have q0 : (w4.alloc (.cells #[.int .i64 s.1, .int .i64 s.2] 38)).cell? ⟨W.heap.size, 0, none⟩ = some (.int .i64 y.2.1) := H5.out.s.cell 0
          have q1 : (w4.alloc (.cells #[.int .i64 s.1, .int .i64 s.2] 38)).cell? ⟨W.heap.size, 1, none⟩ = some (.int .i64 y.2.2) := H5.out.s.cell 1
          have qz := H5.out.s.frozen
          have ql := H5.out.s.lt
          have qv : (w4.alloc (.cells #[.int .i64 s.1, .int .i64 s.2] 38)).cell? ⟨W.heap.size + 1, 1, none⟩ = some (.int .i64 ((k : Int) + 1)) := ((below_one w4 _).cell (p := ⟨W.heap.size + 1, 1, none⟩) vl).trans v1
          have ne1 : ¬ w4.heap.size = W.heap.size := by omega
          have ne2 : ¬ W.heap.size = w4.heap.size := by omega
          clear r0 r1 rz rl v1 vl
          generalize w4.alloc (.cells #[.int .i64 s.1, .int .i64 s.2] 38) = w5 at x0 x1 H5 q0 q1 qz ql qv ⊢
          generalize w4.heap.size = gb at x0 x1 ne1 ne2 ⊢
          go_region
          all_goals go_wp2_with fail
          all_goals
            go_roundg (l.length - (k + 1))
            case measure => omega
            case rel =>
              refine ⟨k + 1, by omega, Nat.le_refl _, by rw [HNK.out], by go_num, ?_⟩
              rw [HNK.out]
              obtain ⟨x, hx⟩ := H5.out.v
              refine Bb.drew ⟨FIN.out _ _ _ H5.out.b, span_set H5.out.s _ _, x, ((hx.far (p := ⟨W.heap.size, 0, none⟩) (by simp) _).far (p := ⟨W.heap.size, 1, none⟩) (by simp) _)⟩
        · have hq : (y.1 == 0) = false := by simp [hy0]
          by_cases hgt : y.2.2 - y.2.1 < s.2 - s.1
          · rw [if_pos (.inr hgt)] at hnk
            have HNK := Lib.hid hnk
            clear hnk
            go_wp2_with fail
            have x0 : (w4.alloc (.cells #[.int .i64 s.1, .int .i64 s.2] 38)).cell? ⟨w4.heap.size, 0, none⟩ = some (.int .i64 s.1) := (Has.new w4 38 _).cell 0
            have x1 : (w4.alloc (.cells #[.int .i64 s.1, .int .i64 s.2] 38)).cell? ⟨w4.heap.size, 1, none⟩ = some (.int .i64 s.2) := (Has.new w4 38 _).cell 1
            have H5 := Lib.hid (HB4.out.below (below_one w4 (.cells #[.int .i64 s.1, .int .i64 s.2] 38)))
            have q0 : (w4.alloc (.cells #[.int .i64 s.1, .int .i64 s.2] 38)).cell? ⟨W.heap.size, 0, none⟩ = some (.int .i64 y.2.1) := H5.out.s.cell 0
            have q1 : (w4.alloc (.cells #[.int .i64 s.1, .int .i64 s.2] 38)).cell? ⟨W.heap.size, 1, none⟩ = some (.int .i64 y.2.2) := H5.out.s.cell 1
            have qz := H5.out.s.frozen
            have ql := H5.out.s.lt
            have qv : (w4.alloc (.cells #[.int .i64 s.1, .int .i64 s.2] 38)).cell? ⟨W.heap.size + 1, 1, none⟩ = some (.int .i64 ((k : Int) + 1)) := ((below_one w4 _).cell (p := ⟨W.heap.size + 1, 1, none⟩) vl).trans v1
            have ne1 : ¬ w4.heap.size = W.heap.size := by omega
            have ne2 : ¬ W.heap.size = w4.heap.size := by omega
            clear r0 r1 rz rl v1 vl
            generalize w4.alloc (.cells #[.int .i64 s.1, .int .i64 s.2] 38) = w5 at x0 x1 H5 q0 q1 qz ql qv ⊢
            generalize w4.heap.size = gb at x0 x1 ne1 ne2 ⊢
            go_region
            all_goals go_wp2_with fail
            all_goals
              go_roundg (l.length - (k + 1))
              case measure => omega
              case rel =>
                refine ⟨k + 1, by omega, Nat.le_refl _, by rw [HNK.out], by go_num, ?_⟩
                rw [HNK.out]
                obtain ⟨x, hx⟩ := H5.out.v
                refine Bb.drew ⟨FIN.out _ _ _ H5.out.b, span_set H5.out.s _ _, x, ((hx.far (p := ⟨W.heap.size, 0, none⟩) (by simp) _).far (p := ⟨W.heap.size, 1, none⟩) (by simp) _)⟩
          · rw [if_neg (by rintro (h | h) <;> omega)] at hnk
            have HNK := Lib.hid hnk
            clear hnk
            go_wp2_with fail
            go_roundg (l.length - (k + 1))
            case measure => omega
            case rel => exact ⟨k + 1, by omega, Nat.le_refl _, by rw [HNK.out], by go_num, by rw [HNK.out]; exact HB4.out.below (below_one _ _)⟩
    · have hlt' : ¬ (k : Int) < l.length := by omega
      have hke : k = l.length := by omega
      have hres := hRes.out
      rw [← hke, HY.out] at hres
      by_cases hy0 : y.1 = 0
      · rw [if_pos hy0] at hres
        have HN := Lib.hid hres
        have hq : (y.1 == 0) = true := by simp [hy0]
        clear hres hke hy0
        go_wp2_with fail
        obtain ⟨wz, hwz⟩ : ∃ wz, wz = (wr.setCell ⟨W.heap.size, 0, none⟩ (.int .i64 0)).setCell ⟨W.heap.size, 1, none⟩ (.int .i64 0) := ⟨_, rfl⟩
        have hz := span_set HW.out.s (.int .i64 0) (.int .i64 0)
        rw [← hwz] at hz ⊢
        have q0 : wz.cell? ⟨W.heap.size, 0, none⟩ = some (.int .i64 0) := hz.cell 0
        have q1 : wz.cell? ⟨W.heap.size, 1, none⟩ = some (.int .i64 0) := hz.cell 1
        refine bodyPost_ret (v := .tuple #[.int .i64 0, .agg #[.int .i64 0, .int .i64 0], .int .i64 4]) (by simp [results, Try.results23, go_sem, q0, q1]) rfl ?_
        rw [HN.out]
        exact ⟨rfl, by rw [hwz]; exact FIN.out _ _ _ HW.out.b⟩
      · rw [if_neg hy0] at hres
        have HN := Lib.hid hres
        have hq : (y.1 == 0) = false := by simp [hy0]
        clear hres hke hy0
        go_wp2_with fail
        go_region
        all_goals go_wp2_with fail
        all_goals
          obtain ⟨wz, hwz⟩ : ∃ wz, wz = ((wr.setCell ⟨W.heap.size, 0, none⟩ (.int .i64 y.2.1)).setCell ⟨W.heap.size, 1, none⟩ (.int .i64 y.2.2)).drew := ⟨_, rfl⟩
          have hz : Has wz W.heap.size 38 #[.int .i64 y.2.1, .int .i64 y.2.2] := by rw [hwz]; exact span_set HW.out.s (.int .i64 y.2.1) (.int .i64 y.2.2)
          rw [← hwz]
          have q0 : wz.cell? ⟨W.heap.size, 0, none⟩ = some (.int .i64 y.2.1) := hz.cell 0
          have q1 : wz.cell? ⟨W.heap.size, 1, none⟩ = some (.int .i64 y.2.2) := hz.cell 1
          refine bodyPost_ret (v := .tuple #[.int .i64 y.1, .agg #[.int .i64 y.2.1, .int .i64 y.2.2], .int .i64 0]) (by simp [results, Try.results23, go_sem, q0, q1]) rfl ?_
          rw [HN.out]
          have hbb : Below W.heap.size W wz := by
            have h := FIN.out _ y.2.1 y.2.2 HW.out.b
            rw [hwz]; exact ⟨h.os, h.tape, h.output, h.size, h.block⟩
          exact ⟨rfl, hbb⟩
end Go.Proofs.Ytfdjoldcdfbfhaa

/- Thresholds and Best. -/
import Derived.Test.YtfdjoldcdfbfhaaQuB
namespace Go.Proofs.Ytfdjoldcdfbfhaa
open Go.Shelf Go.RowKit
def thrR (l : List Sn) (V F limit rise calm frm to : Int) : Int × Int × Int :=
  if vvB l V F = false then (0, 0, 1) else if searchB limit rise calm frm to = false then (0, 0, 2) else thrE (thrP l V F limit rise calm frm (to - frm + 1).toNat)
theorem search_iff {limit rise calm frm to : Int} (h : searchB limit rise calm frm to = true) : (0 ≤ limit ∧ limit ≤ 1048576) ∧ (0 ≤ rise ∧ rise ≤ 1048576) ∧ (0 ≤ calm ∧ calm ≤ 1048576) ∧ (0 ≤ frm ∧ frm ≤ to ∧ to ≤ 2000) := by
  simp only [searchB, gasB, minB, Bool.and_eq_true, decide_eq_true_eq] at h
  obtain ⟨⟨⟨a, b⟩, c⟩, d⟩ := h
  exact ⟨a, b, c, d⟩
set_option maxRecDepth 100000 in
set_option maxHeartbeats 2000000 in
theorem Thresholds_any (l : List Sn) (A : Option Addr) (cap : Nat) (V F limit rise calm frm to : Int) (W : World) (hr : NRow W W.heap.size A l) (hl : l.length ≤ 9223372036854775807) :
    Calls Try.prog 21 #[vtv A l.length cap V F, .int .i64 limit, .int .i64 rise, .int .i64 calm, .int .i64 frm, .int .i64 to] W (SpPost (thrR l V F limit rise calm frm to) W) := by
  have HR := Lib.hid hr
  have HV := Lib.hid (fun (w : World) h => voting_any l A cap V F w h hl)
  have g1 := fun w => search_any limit rise calm frm to w
  have hh : Has (W.alloc (.cells #[.slice A l.length cap, .int .i64 V, .int .i64 F] 24)) W.heap.size 24 #[.slice A l.length cap, .int .i64 V, .int .i64 F] := Has.new W 24 _
  have hb0 := below_one W (.cells #[.slice A l.length cap, .int .i64 V, .int .i64 F] 24)
  have hn := Has.new (W.alloc (.cells #[.slice A l.length cap, .int .i64 V, .int .i64 F] 24)) 38 #[.int .i64 0, .int .i64 0]
  simp only [World.size_alloc] at hn
  have HB := Lib.hid (And.intro (hb0.alloc (Nat.le_of_lt (by simp)) (.cells #[.int .i64 0, .int .i64 0] 38)) (And.intro (hh.alloc (.cells #[.int .i64 0, .int .i64 0] 38)) hn))
  clear hb0 hh hr hn
  have fin : ∀ (w2 : World) (a b : Int), Below W.heap.size W w2 → Below W.heap.size W ((w2.setCell ⟨W.heap.size + 1, 0, none⟩ (.int .i64 a)).setCell ⟨W.heap.size + 1, 1, none⟩ (.int .i64 b)) := fun w2 a b h => (h.setCell (by simp only; omega) _).setCell (by simp only; omega) _
  have FIN := Lib.hid fin
  clear fin
  cases hv : vvB l V F
  · have HN := Lib.hid (show thrR l V F limit rise calm frm to = (0, 0, 1) by unfold thrR; rw [if_pos hv])
    rw [hv] at HV
    clear g1 hv
    unfold vtv at *
    go_enter Try.func21, Try.ntmps21
    go_wp2_with fail
    generalize ((W.alloc (.cells #[.slice A l.length cap, .int .i64 V, .int .i64 F] 24)).alloc (.cells #[.int .i64 0, .int .i64 0] 38)) = w0 at HB ⊢
    refine (HV.out _ (HR.out.step HB.out.1)).mono ?_
    rintro e w2 ⟨rfl, hb2⟩
    have H2 := Lib.hid (And.intro (HB.out.1.trans (hb2.mono HB.out.1.size)) (HB.out.2.2.below hb2 HB.out.2.2.lt))
    have r0 : w2.cell? ⟨W.heap.size + 1, 0, none⟩ = some (.int .i64 0) := H2.out.2.cell 0
    have r1 : w2.cell? ⟨W.heap.size + 1, 1, none⟩ = some (.int .i64 0) := H2.out.2.cell 1
    have rz := H2.out.2.frozen
    have rl := H2.out.2.lt
    clear hb2
    go_wp2_with fail
    obtain ⟨wz, hwz⟩ : ∃ wz, wz = (w2.setCell ⟨W.heap.size + 1, 0, none⟩ (.int .i64 0)).setCell ⟨W.heap.size + 1, 1, none⟩ (.int .i64 0) := ⟨_, rfl⟩
    have hz := span_set H2.out.2 (.int .i64 0) (.int .i64 0)
    rw [← hwz] at hz ⊢
    have q0 : wz.cell? ⟨W.heap.size + 1, 0, none⟩ = some (.int .i64 0) := hz.cell 0
    have q1 : wz.cell? ⟨W.heap.size + 1, 1, none⟩ = some (.int .i64 0) := hz.cell 1
    refine bodyPost_ret (v := .tuple #[.agg #[.int .i64 0, .int .i64 0], .int .i64 1]) (by simp [results, Try.results21, go_sem, q0, q1]) rfl ?_
    rw [HN.out]
    exact ⟨rfl, by rw [hwz]; exact FIN.out _ _ _ H2.out.1⟩
  have HVV := Lib.hid ((vvB_iff l V F).1 hv)
  rw [hv] at HV
  cases h1 : searchB limit rise calm frm to <;> rw [h1] at g1
  · have HN := Lib.hid (show thrR l V F limit rise calm frm to = (0, 0, 2) by unfold thrR; rw [if_neg (by rw [hv]; simp), if_pos h1])
    clear h1 hv
    unfold vtv at *
    go_enter Try.func21, Try.ntmps21
    go_wp2_with fail
    generalize ((W.alloc (.cells #[.slice A l.length cap, .int .i64 V, .int .i64 F] 24)).alloc (.cells #[.int .i64 0, .int .i64 0] 38)) = w0 at HB ⊢
    refine (HV.out _ (HR.out.step HB.out.1)).mono ?_
    rintro e w2 ⟨rfl, hb2⟩
    have H2 := Lib.hid (And.intro (HB.out.1.trans (hb2.mono HB.out.1.size)) (HB.out.2.2.below hb2 HB.out.2.2.lt))
    have r0 : w2.cell? ⟨W.heap.size + 1, 0, none⟩ = some (.int .i64 0) := H2.out.2.cell 0
    have r1 : w2.cell? ⟨W.heap.size + 1, 1, none⟩ = some (.int .i64 0) := H2.out.2.cell 1
    have rz := H2.out.2.frozen
    have rl := H2.out.2.lt
    clear hb2
    go_wp2_with fail
    refine (g1 _).mono ?_
    rintro e w3 ⟨rfl, rfl⟩
    go_wp2_with fail
    obtain ⟨wz, hwz⟩ : ∃ wz, wz = (w3.setCell ⟨W.heap.size + 1, 0, none⟩ (.int .i64 0)).setCell ⟨W.heap.size + 1, 1, none⟩ (.int .i64 0) := ⟨_, rfl⟩
    have hz := span_set H2.out.2 (.int .i64 0) (.int .i64 0)
    rw [← hwz] at hz ⊢
    have q0 : wz.cell? ⟨W.heap.size + 1, 0, none⟩ = some (.int .i64 0) := hz.cell 0
    have q1 : wz.cell? ⟨W.heap.size + 1, 1, none⟩ = some (.int .i64 0) := hz.cell 1
    refine bodyPost_ret (v := .tuple #[.agg #[.int .i64 0, .int .i64 0], .int .i64 2]) (by simp [results, Try.results21, go_sem, q0, q1]) rfl ?_
    rw [HN.out]
    exact ⟨rfl, by rw [hwz]; exact FIN.out _ _ _ H2.out.1⟩
  have HN := Lib.hid (show thrR l V F limit rise calm frm to = thrE (thrP l V F limit rise calm frm (to - frm + 1).toNat) by
    unfold thrR
    rw [if_neg (by rw [hv]; simp), if_neg (by rw [h1]; simp)])
  obtain ⟨s1, s2, s3, s4⟩ := search_iff h1
  have hW := fun w h => thresholds_any l A cap V F limit rise calm frm to w h HVV.out s1 s2 s3 s4
  obtain ⟨x, hx⟩ : ∃ x, x = thrE (thrP l V F limit rise calm frm (to - frm + 1).toNat) := ⟨_, rfl⟩
  rw [← hx] at HN hW
  unfold vtv at *
  have HW := Lib.hid hW
  clear h1 hW hv hx
  go_enter Try.func21, Try.ntmps21
  go_wp2_with fail
  generalize ((W.alloc (.cells #[.slice A l.length cap, .int .i64 V, .int .i64 F] 24)).alloc (.cells #[.int .i64 0, .int .i64 0] 38)) = w0 at HB ⊢
  refine (HV.out _ (HR.out.step HB.out.1)).mono ?_
  rintro e w1 ⟨rfl, hb1⟩
  have H1 := Lib.hid (And.intro (HB.out.1.trans (hb1.mono HB.out.1.size)) (And.intro (HB.out.2.1.below hb1 HB.out.2.1.lt) (HB.out.2.2.below hb1 HB.out.2.2.lt)))
  have v0 : w1.cell? ⟨W.heap.size, 0, none⟩ = some (.slice A l.length cap) := H1.out.2.1.cell 0
  have v1 : w1.cell? ⟨W.heap.size, 1, none⟩ = some (.int .i64 V) := H1.out.2.1.cell 1
  have v2 : w1.cell? ⟨W.heap.size, 2, none⟩ = some (.int .i64 F) := H1.out.2.1.cell 2
  clear hb1
  go_wp2_with fail
  refine (g1 _).mono ?_
  rintro e w3 ⟨rfl, rfl⟩
  go_wp2_with fail
  refine (HW.out _ (HR.out.step H1.out.1)).mono ?_
  rintro e w2 ⟨rfl, hb2⟩
  have H2 := Lib.hid (And.intro (H1.out.1.trans (hb2.mono H1.out.1.size)) (H1.out.2.2.below hb2 H1.out.2.2.lt))
  have r0 : w2.cell? ⟨W.heap.size + 1, 0, none⟩ = some (.int .i64 0) := H2.out.2.cell 0
  have r1 : w2.cell? ⟨W.heap.size + 1, 1, none⟩ = some (.int .i64 0) := H2.out.2.cell 1
  have rz := H2.out.2.frozen
  have rl := H2.out.2.lt
  clear hb2 v0 v1 v2
  go_wp2_with fail
  obtain ⟨wz, hwz⟩ : ∃ wz, wz = (w2.setCell ⟨W.heap.size + 1, 0, none⟩ (.int .i64 x.1)).setCell ⟨W.heap.size + 1, 1, none⟩ (.int .i64 x.2.1) := ⟨_, rfl⟩
  have hz := span_set H2.out.2 (.int .i64 x.1) (.int .i64 x.2.1)
  rw [← hwz] at hz ⊢
  have q0 : wz.cell? ⟨W.heap.size + 1, 0, none⟩ = some (.int .i64 x.1) := hz.cell 0
  have q1 : wz.cell? ⟨W.heap.size + 1, 1, none⟩ = some (.int .i64 x.2.1) := hz.cell 1
  refine bodyPost_ret (v := .tuple #[.agg #[.int .i64 x.1, .int .i64 x.2.1], .int .i64 x.2.2]) (by simp [results, Try.results21, go_sem, q0, q1]) rfl ?_
  rw [HN.out]
  exact ⟨rfl, by rw [hwz]; exact FIN.out _ _ _ H2.out.1⟩
end Go.Proofs.Ytfdjoldcdfbfhaa

/- Quiet, and the span of thresholds. -/
import Derived.Test.YtfdjoldcdfbfhaaQuA
namespace Go.Proofs.Ytfdjoldcdfbfhaa
open Go.Shelf Go.RowKit
theorem results_tmp2 {fn : Func} {t u : Tmp} (h : fn.results = #[.tmp t, .tmp u]) (tmps : Array Value) (P : Program) (w : World) :
    (results fn tmps).run P w = .ok (.tuple #[tmps.getD t undef, tmps.getD u undef]) w := by
  simp [results, h]
def quietR (l : List Sn) (V F t calm : Int) : Bool × Int :=
  if vvB l V F = false then (false, 1) else if (gasB t && gasB calm) = false then (false, 2) else (decide (qf l V F calm ≤ t), 0)
def BEPost (x : Bool × Int) (W : World) (e : Ending) (W' : World) : Prop := e = .returned (.tuple #[.bool x.1, .int .i64 x.2]) ∧ Below W.heap.size W W'
set_option maxRecDepth 100000 in
set_option maxHeartbeats 2000000 in
theorem Quiet_any (l : List Sn) (A : Option Addr) (cap : Nat) (V F t calm : Int) (W : World) (hr : NRow W W.heap.size A l) (hl : l.length ≤ 9223372036854775807) :
    Calls Try.prog 16 #[vtv A l.length cap V F, .int .i64 t, .int .i64 calm] W (BEPost (quietR l V F t calm) W) := by
  have HR := Lib.hid hr
  have HV := Lib.hid (fun (w : World) h => voting_any l A cap V F w h hl)
  have g1 := fun w => isGas_any t w
  have g2 := fun w => isGas_any calm w
  have hh : Has (W.alloc (.cells #[.slice A l.length cap, .int .i64 V, .int .i64 F] 24)) W.heap.size 24 #[.slice A l.length cap, .int .i64 V, .int .i64 F] := Has.new W 24 _
  have hb0 := below_one W (.cells #[.slice A l.length cap, .int .i64 V, .int .i64 F] 24)
  have HB := Lib.hid (And.intro hb0 hh)
  clear hb0 hh hr
  cases hv : vvB l V F
  · have HN := Lib.hid (show quietR l V F t calm = (false, 1) by unfold quietR; rw [if_pos hv])
    rw [hv] at HV
    clear g1 g2 hv
    unfold vtv at *
    go_enter Try.func16, Try.ntmps16
    go_wp2_with fail
    refine (HV.out _ (HR.out.step HB.out.1)).mono ?_
    rintro e w2 ⟨rfl, hb2⟩
    have H2 := Lib.hid (below_seq HB.out.1 hb2)
    clear hb2
    go_wp2_with fail
    refine bodyPost_ret (results_tmp2 rfl _ _ _) rfl ?_
    exact ⟨by rw [HN.out]; rfl, H2.out⟩
  have HVV := Lib.hid ((vvB_iff l V F).1 hv)
  rw [hv] at HV
  have HE : (gasB t && gasB calm) = false → Hid (quietR l V F t calm = (false, 2)) := fun h => by
    show _ = _
    unfold quietR
    rw [if_neg (by rw [hv]; simp), if_pos h]
  have HV2 := Lib.hid hv
  clear hv
  unfold vtv at *
  cases h1 : gasB t <;> rw [h1] at g1
  · have HN := HE (by rw [h1]; rfl)
    clear g2 h1 HE
    go_enter Try.func16, Try.ntmps16
    go_wp2_with fail
    refine (HV.out _ (HR.out.step HB.out.1)).mono ?_
    rintro e w2 ⟨rfl, hb2⟩
    have H2 := Lib.hid (below_seq HB.out.1 hb2)
    clear hb2
    go_wp2_with fail
    refine (g1 _).mono ?_
    rintro e w3 ⟨rfl, rfl⟩
    go_wp2_with fail
    refine bodyPost_ret (results_tmp2 rfl _ _ _) rfl ?_
    exact ⟨by rw [HN.out]; rfl, H2.out⟩
  cases h2 : gasB calm <;> rw [h2] at g2
  · have HN := HE (by rw [h1, h2]; rfl)
    clear h1 h2 HE
    go_enter Try.func16, Try.ntmps16
    go_wp2_with fail
    refine (HV.out _ (HR.out.step HB.out.1)).mono ?_
    rintro e w2 ⟨rfl, hb2⟩
    have H2 := Lib.hid (below_seq HB.out.1 hb2)
    clear hb2
    go_wp2_with fail
    refine (g1 _).mono ?_
    rintro e w3 ⟨rfl, rfl⟩
    go_wp2_with fail
    refine (g2 _).mono ?_
    rintro e w3 ⟨rfl, rfl⟩
    go_wp2_with fail
    refine bodyPost_ret (results_tmp2 rfl _ _ _) rfl ?_
    exact ⟨by rw [HN.out]; rfl, H2.out⟩
  have HN := Lib.hid (show quietR l V F t calm = (decide (qf l V F calm ≤ t), 0) by
    unfold quietR
    rw [if_neg (by rw [HV2.out]; simp), if_neg (by rw [h1, h2]; simp)])
  simp only [gasB, decide_eq_true_eq] at h1 h2
  have hW := fun w h => quietFrom_any l A cap V F calm w h HVV.out h2
  unfold vtv at hW
  obtain ⟨q, hq⟩ : ∃ q, qf l V F calm = q := ⟨_, rfl⟩
  rw [hq] at hW HN
  have HW := Lib.hid hW
  clear h1 h2 HE hW hq
  go_enter Try.func16, Try.ntmps16
  go_wp2_with fail
  refine (HV.out _ (HR.out.step HB.out.1)).mono ?_
  rintro e w2 ⟨rfl, hb2⟩
  have H2 := Lib.hid (And.intro (below_seq HB.out.1 hb2) (HB.out.2.below hb2 HB.out.2.lt))
  clear hb2
  have v0 : w2.cell? ⟨W.heap.size, 0, none⟩ = some (.slice A l.length cap) := H2.out.2.cell 0
  have v1 : w2.cell? ⟨W.heap.size, 1, none⟩ = some (.int .i64 V) := H2.out.2.cell 1
  have v2 : w2.cell? ⟨W.heap.size, 2, none⟩ = some (.int .i64 F) := H2.out.2.cell 2
  go_wp2_with fail
  refine (g1 _).mono ?_
  rintro e w3 ⟨rfl, rfl⟩
  go_wp2_with fail
  refine (g2 _).mono ?_
  rintro e w3 ⟨rfl, rfl⟩
  go_wp2_with fail
  refine (HW.out _ (HR.out.step H2.out.1)).mono ?_
  rintro e w4 ⟨rfl, hb4⟩
  have H4 := Lib.hid (H2.out.1.trans (hb4.mono H2.out.1.size))
  clear hb4
  go_wp2_with fail
  refine bodyPost_ret (results_tmp2 rfl _ _ _) rfl ?_
  exact ⟨by rw [HN.out]; rfl, H4.out⟩
def thrE (x : Option (Int × Int)) : Int × Int × Int := match x with | none => (0, 0, 4) | some y => (y.1, y.2, 0)
def SpPost (x : Int × Int × Int) (W : World) (e : Ending) (W' : World) : Prop :=
  e = .returned (.tuple #[.agg #[.int .i64 x.1, .int .i64 x.2.1], .int .i64 x.2.2]) ∧ Below W.heap.size W W'
def thrOf (limit q : Int) (y : Option (Int × Int)) : Option (Int × Int) := match y with | none => none | some x => if limit ≤ x.1 then none else some (q, q + limit - 1 - x.1)
theorem thrP_eq (L : List Sn) (V F limit rise calm frm : Int) (k : Nat) : thrP L V F limit rise calm frm k = thrOf limit (qf L V F calm) (worstP (atN L (V + F).toNat (qf L V F calm) rise) frm k) := rfl
theorem span_set {w : World} {g : Nat} {x y : Value} (h : Has w g 38 #[x, y]) (a b : Value) : Has ((w.setCell ⟨g, 0, none⟩ a).setCell ⟨g, 1, none⟩ b) g 38 #[a, b] := by
  have := (h.set 0 a).set 1 b
  simpa using this
set_option maxRecDepth 100000 in
set_option maxHeartbeats 2000000 in
theorem thresholds_any (l : List Sn) (A : Option Addr) (cap : Nat) (V F limit rise calm frm to : Int) (W : World) (hr : NRow W W.heap.size A l) (hv : VV l V F) (hl : 0 ≤ limit ∧ limit ≤ 1048576) (hri : 0 ≤ rise ∧ rise ≤ 1048576) (hc : 0 ≤ calm ∧ calm ≤ 1048576) (hf : 0 ≤ frm ∧ frm ≤ to ∧ to ≤ 2000) :
    Calls Try.prog 46 #[vtv A l.length cap V F, .int .i64 limit, .int .i64 rise, .int .i64 calm, .int .i64 frm, .int .i64 to] W (SpPost (thrE (thrP l V F limit rise calm frm (to - frm + 1).toNat)) W) := by
  have hqb := qf_bd (V := V) (F := F) hv.hL hv.hV.2 hv.hF.1 hc.1 hc.2
  have hQ := fun w h => quietFrom_any l A cap V F calm w h hv hc
  have hW := fun w h => worst_any l A cap V F (qf l V F calm) rise frm to w h hv (by omega) hri hf
  have hwb : ∀ x, worstP (atN l (V + F).toNat (qf l V F calm) rise) frm (to - frm + 1).toNat = some x → -1 ≤ x.1 ∧ x.1 ≤ 1048576 := fun x hx => by
    obtain ⟨h1, h2⟩ := worstP_some hx
    rcases h2 with ⟨h, -⟩ | ⟨h, j, hj, -, e, -⟩
    · omega
    · have := (h1 j hj).1; omega
  obtain ⟨q, hq⟩ : ∃ q, q = qf l V F calm := ⟨_, rfl⟩
  rw [← hq] at hqb hQ hW hwb
  obtain ⟨y, hy⟩ : ∃ y, y = worstP (atN l (V + F).toNat q rise) frm (to - frm + 1).toNat := ⟨_, rfl⟩
  have hT : thrE (thrP l V F limit rise calm frm (to - frm + 1).toNat) = thrE (thrOf limit q y) := by
    rw [thrP_eq, ← hq, ← hy]
  have hWy : ∀ w, NRow w w.heap.size A l → Calls Try.prog 43 #[vtv A l.length cap V F, .int .i64 q, .int .i64 rise, .int .i64 frm, .int .i64 to] w (TripPost (worstE y) w) := fun w h => (hW w h).mono fun e w' ⟨h1, h2⟩ => ⟨by rw [h1, hy], h2⟩
  rw [← hy] at hwb
  have HH := Lib.hid (And.intro hr (And.intro hQ (And.intro hWy hT)))
  have hh : Has (W.alloc (.cells #[.slice A l.length cap, .int .i64 V, .int .i64 F] 24)) W.heap.size 24 #[.slice A l.length cap, .int .i64 V, .int .i64 F] := Has.new W 24 _
  have hb0 := below_one W (.cells #[.slice A l.length cap, .int .i64 V, .int .i64 F] 24)
  have hn := Has.new (W.alloc (.cells #[.slice A l.length cap, .int .i64 V, .int .i64 F] 24)) 38 #[.int .i64 0, .int .i64 0]
  simp only [World.size_alloc] at hn
  have HB := Lib.hid (And.intro (hb0.alloc (Nat.le_of_lt (by simp)) (.cells #[.int .i64 0, .int .i64 0] 38)) (And.intro (hh.alloc (.cells #[.int .i64 0, .int .i64 0] 38)) hn))
  clear hb0 hh hr hQ hW hWy hT hq hv hn hy
  unfold vtv at *
  go_enter Try.func46, Try.ntmps46
  go_wp2_with fail
  generalize ((W.alloc (.cells #[.slice A l.length cap, .int .i64 V, .int .i64 F] 24)).alloc (.cells #[.int .i64 0, .int .i64 0] 38)) = w0 at HB ⊢
  refine (HH.out.2.1 _ (HH.out.1.step HB.out.1)).mono ?_
  rintro e w1 ⟨rfl, hb1⟩
  have hs1 := hb1.size
  have H1 := Lib.hid (And.intro (HB.out.1.trans (hb1.mono HB.out.1.size)) (And.intro (HB.out.2.1.below hb1 HB.out.2.1.lt) (HB.out.2.2.below hb1 HB.out.2.2.lt)))
  have v0 : w1.cell? ⟨W.heap.size, 0, none⟩ = some (.slice A l.length cap) := H1.out.2.1.cell 0
  have v1 : w1.cell? ⟨W.heap.size, 1, none⟩ = some (.int .i64 V) := H1.out.2.1.cell 1
  have v2 : w1.cell? ⟨W.heap.size, 2, none⟩ = some (.int .i64 F) := H1.out.2.1.cell 2
  clear hb1 hs1
  go_wp2_with fail
  refine (HH.out.2.2.1 _ (HH.out.1.step H1.out.1)).mono ?_
  rintro e w2 ⟨rfl, hb2⟩
  have H2 := Lib.hid (And.intro (H1.out.1.trans (hb2.mono H1.out.1.size)) (H1.out.2.2.below hb2 H1.out.2.2.lt))
  have r0 : w2.cell? ⟨W.heap.size + 1, 0, none⟩ = some (.int .i64 0) := H2.out.2.cell 0
  have r1 : w2.cell? ⟨W.heap.size + 1, 1, none⟩ = some (.int .i64 0) := H2.out.2.cell 1
  have rz := H2.out.2.frozen
  have rl := H2.out.2.lt
  clear hb2 v0 v1 v2
  cases y with
  | none =>
    have HN := Lib.hid (show thrE (thrOf limit q none) = (0, 0, 4) from rfl)
    simp only [worstE]
    go_wp2_with fail
    obtain ⟨wz, hwz⟩ : ∃ wz, wz = (w2.setCell ⟨W.heap.size + 1, 0, none⟩ (.int .i64 0)).setCell ⟨W.heap.size + 1, 1, none⟩ (.int .i64 0) := ⟨_, rfl⟩
    have hz := span_set H2.out.2 (.int .i64 0) (.int .i64 0)
    rw [← hwz] at hz ⊢
    have q0 : wz.cell? ⟨W.heap.size + 1, 0, none⟩ = some (.int .i64 0) := hz.cell 0
    have q1 : wz.cell? ⟨W.heap.size + 1, 1, none⟩ = some (.int .i64 0) := hz.cell 1
    refine bodyPost_ret (v := .tuple #[.agg #[.int .i64 0, .int .i64 0], .int .i64 4]) (by simp [results, Try.results46, go_sem, q0, q1]) rfl ?_
    rw [HH.out.2.2.2, HN.out]
    refine ⟨rfl, ?_⟩
    rw [hwz]
    exact (H2.out.1.setCell (by simp only; omega) _).setCell (by simp only; omega) _
  | some x =>
    have hx := hwb x rfl
    simp only [worstE]
    by_cases hlx : limit ≤ x.1
    · have HN := Lib.hid (show thrE (thrOf limit q (some x)) = (0, 0, 4) by unfold thrOf; simp only; rw [if_pos hlx]; rfl)
      clear hwb
      go_wp2_with fail
      obtain ⟨wz, hwz⟩ : ∃ wz, wz = (w2.setCell ⟨W.heap.size + 1, 0, none⟩ (.int .i64 0)).setCell ⟨W.heap.size + 1, 1, none⟩ (.int .i64 0) := ⟨_, rfl⟩
      have hz := span_set H2.out.2 (.int .i64 0) (.int .i64 0)
      rw [← hwz] at hz ⊢
      have q0 : wz.cell? ⟨W.heap.size + 1, 0, none⟩ = some (.int .i64 0) := hz.cell 0
      have q1 : wz.cell? ⟨W.heap.size + 1, 1, none⟩ = some (.int .i64 0) := hz.cell 1
      refine bodyPost_ret (v := .tuple #[.agg #[.int .i64 0, .int .i64 0], .int .i64 4]) (by simp [results, Try.results46, go_sem, q0, q1]) rfl ?_
      rw [HH.out.2.2.2, HN.out]
      refine ⟨rfl, ?_⟩
      rw [hwz]
      exact (H2.out.1.setCell (by simp only; omega) _).setCell (by simp only; omega) _
    · have HN := Lib.hid (show thrE (thrOf limit q (some x)) = (q, q + limit - 1 - x.1, 0) by unfold thrOf; simp only; rw [if_neg hlx]; rfl)
      clear hwb
      go_wp2_with fail
      obtain ⟨wz, hwz⟩ : ∃ wz, wz = (w2.setCell ⟨W.heap.size + 1, 0, none⟩ (.int .i64 q)).setCell ⟨W.heap.size + 1, 1, none⟩ (.int .i64 (q + limit - 1 - x.1)) := ⟨_, rfl⟩
      have hz := span_set H2.out.2 (.int .i64 q) (.int .i64 (q + limit - 1 - x.1))
      rw [← hwz] at hz ⊢
      have q0 : wz.cell? ⟨W.heap.size + 1, 0, none⟩ = some (.int .i64 q) := hz.cell 0
      have q1 : wz.cell? ⟨W.heap.size + 1, 1, none⟩ = some (.int .i64 (q + limit - 1 - x.1)) := hz.cell 1
      refine bodyPost_ret (v := .tuple #[.agg #[.int .i64 q, .int .i64 (q + limit - 1 - x.1)], .int .i64 0]) (by simp [results, Try.results46, go_sem, q0, q1]) rfl ?_
      rw [HH.out.2.2.2, HN.out]
      refine ⟨rfl, ?_⟩
      rw [hwz]
      exact (H2.out.1.setCell (by simp only; omega) _).setCell (by simp only; omega) _
end Go.Proofs.Ytfdjoldcdfbfhaa

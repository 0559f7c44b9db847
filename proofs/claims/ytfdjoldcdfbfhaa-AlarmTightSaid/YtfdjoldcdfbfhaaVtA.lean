/- The law of Votes. -/
import Derived.Test.YtfdjoldcdfbfhaaDoC
namespace Go.Proofs.Ytfdjoldcdfbfhaa
open Go.Shelf Go.RowKit
theorem quiet_doc (l : List Sn) (V F t calm : Int) : dQuiet l V F t calm = quietR l V F t calm := by
  unfold dQuiet quietR
  cases hv : vvB l V F
  · rfl
  rw [gasB_in, gasB_in]
  cases h1 : inB t 0 1048576
  · rfl
  cases h2 : inB calm 0 1048576
  · rfl
  have hvv := (vvB_iff l V F).1 hv
  have ht : t ≤ 1048576 := by unfold inB at h1; simp at h1; omega
  have := qf_iff (calm := calm) hvv.hV.2 hvv.hF.1 ht
  have e : quietB l V F t calm = decide (qf l V F calm ≤ t) := by
    unfold quietB
    rw [decide_eq_decide, this]
    omega
  rw [e]
set_option maxRecDepth 100000 in
set_option maxHeartbeats 4000000 in
theorem votesLaw_any (l : List Sn) (A0 : Option Addr) (cap0 : Nat) (V F t calm : Int) (L : List Sf) (A : Option Addr) (cap : Nat) (W : World) (hr : NRow W W.heap.size A0 l) (hl : l.length ≤ 9223372036854775807)
    (hf : FRow W W.heap.size A L) (hL : L.length ≤ 9223372036854775807) (hc : L.length ≤ cap) :
    Calls Try.prog 3 #[vtv A0 l.length cap0 V F, .int .i64 t, .int .i64 calm, .slice A L.length cap] W (BoolPost true W) := by
  have HR := Lib.hid (And.intro hr hf)
  have h1 := fun w h h' => Alarm_any l A0 cap0 V F t L A cap w h hl h' hc hL
  have h2 := fun w h h' => docAlarm_any l A0 cap0 V F t L A cap w h hl h' hc hL
  have h3 := fun w h => Quiet_any l A0 cap0 V F t calm w h hl
  have h4 := fun w h => docQuiet_any l A0 cap0 V F t calm w h hl
  obtain ⟨R, hR⟩ : ∃ R, R = alarmR l V F t L := ⟨_, rfl⟩
  rw [quiet_doc] at h4
  obtain ⟨Q, hQ⟩ : ∃ Q, Q = quietR l V F t calm := ⟨_, rfl⟩
  rw [← hR] at h1 h2
  rw [← hQ] at h3 h4
  obtain ⟨R1, R2⟩ := R
  obtain ⟨Q1, Q2⟩ := Q
  have HA := Lib.hid (fun w => alive_any w)
  have H1 := Lib.hid h1
  have H2 := Lib.hid h2
  have H3 := Lib.hid h3
  have H4 := Lib.hid h4
  have hh : Has (W.alloc (.cells #[.slice A0 l.length cap0, .int .i64 V, .int .i64 F] 24)) W.heap.size 24 #[.slice A0 l.length cap0, .int .i64 V, .int .i64 F] := Has.new W 24 _
  have hb0 := below_one W (.cells #[.slice A0 l.length cap0, .int .i64 V, .int .i64 F] 24)
  have HB := Lib.hid (And.intro hb0 hh)
  clear hb0 hh hr hf hR hQ h1 h2 h3 h4 hc
  unfold vtv at *
  by_cases h20 : (20 : Int) < l.length
  · skip
    go_enter Try.func3, Try.ntmps3
    go_wp2_with fail
    refine (HA.out _).mono ?_
    rintro e wb ⟨rfl, hb⟩
    have HF := Lib.hid (below_seq HB.out.1 hb)
    clear hb
    go_wp2_with fail
    go_ret
    exact ⟨rfl, HF.out⟩
  by_cases h300 : (300 : Int) < L.length
  · by_cases h1024 : (L.length : Int) ≤ 1024
    · skip
      go_enter Try.func3, Try.ntmps3
      go_wp2_with fail
      refine (HA.out _).mono ?_
      rintro e wb ⟨rfl, hb⟩
      have HF := Lib.hid (below_seq HB.out.1 hb)
      clear hb
      go_wp2_with fail
      go_ret
      exact ⟨rfl, HF.out⟩
    by_cases h1030 : (1030 : Int) < L.length
    · skip
      go_enter Try.func3, Try.ntmps3
      go_wp2_with fail
      refine (HA.out _).mono ?_
      rintro e wb ⟨rfl, hb⟩
      have HF := Lib.hid (below_seq HB.out.1 hb)
      clear hb
      go_wp2_with fail
      go_ret
      exact ⟨rfl, HF.out⟩
    go_enter Try.func3, Try.ntmps3
    go_wp2_with fail
    generalize W.alloc (.cells #[.slice A0 l.length cap0, .int .i64 V, .int .i64 F] 24) = w0 at HB ⊢
    refine (H1.out _ (HR.out.1.step HB.out.1) (HR.out.2.step HB.out.1)).mono ?_
    rintro e w1 ⟨rfl, hb⟩
    have H5 := Lib.hid (And.intro (below_seq HB.out.1 hb) (HB.out.2.below hb HB.out.2.lt))
    have c0 : w1.cell? ⟨W.heap.size, 0, none⟩ = some (.slice A0 l.length cap0) := H5.out.2.cell 0
    have c1 : w1.cell? ⟨W.heap.size, 1, none⟩ = some (.int .i64 V) := H5.out.2.cell 1
    have c2 : w1.cell? ⟨W.heap.size, 2, none⟩ = some (.int .i64 F) := H5.out.2.cell 2
    clear hb
    go_wp2_with fail
    refine (H2.out _ (HR.out.1.step H5.out.1) (HR.out.2.step H5.out.1)).mono ?_
    rintro e w2 ⟨rfl, hb⟩
    have H6 := Lib.hid (And.intro (below_seq H5.out.1 hb) (H5.out.2.below hb H5.out.2.lt))
    clear c0 c1 c2 hb H5
    have c0 : w2.cell? ⟨W.heap.size, 0, none⟩ = some (.slice A0 l.length cap0) := H6.out.2.cell 0
    have c1 : w2.cell? ⟨W.heap.size, 1, none⟩ = some (.int .i64 V) := H6.out.2.cell 1
    have c2 : w2.cell? ⟨W.heap.size, 2, none⟩ = some (.int .i64 F) := H6.out.2.cell 2
    go_wp2_with fail
    refine (H3.out _ (HR.out.1.step H6.out.1)).mono ?_
    rintro e w3 ⟨rfl, hb⟩
    have H7 := Lib.hid (And.intro (below_seq H6.out.1 hb) (H6.out.2.below hb H6.out.2.lt))
    clear c0 c1 c2 hb H6
    have c0 : w3.cell? ⟨W.heap.size, 0, none⟩ = some (.slice A0 l.length cap0) := H7.out.2.cell 0
    have c1 : w3.cell? ⟨W.heap.size, 1, none⟩ = some (.int .i64 V) := H7.out.2.cell 1
    have c2 : w3.cell? ⟨W.heap.size, 2, none⟩ = some (.int .i64 F) := H7.out.2.cell 2
    go_wp2_with fail
    refine (H4.out _ (HR.out.1.step H7.out.1)).mono ?_
    rintro e w4 ⟨rfl, hb⟩
    have H8 := Lib.hid (below_seq H7.out.1 hb)
    clear c0 c1 c2 hb H7
    go_wp2_with fail
    refine (HA.out _).mono ?_
    rintro e wb ⟨rfl, hb⟩
    have HF := Lib.hid (below_seq H8.out hb)
    clear hb
    go_wp2_with fail
    go_ret
    exact ⟨rfl, HF.out⟩
  · have h1030 : ¬ (1030 : Int) < L.length := by omega
    go_enter Try.func3, Try.ntmps3
    go_wp2_with fail
    generalize W.alloc (.cells #[.slice A0 l.length cap0, .int .i64 V, .int .i64 F] 24) = w0 at HB ⊢
    refine (H1.out _ (HR.out.1.step HB.out.1) (HR.out.2.step HB.out.1)).mono ?_
    rintro e w1 ⟨rfl, hb⟩
    have H5 := Lib.hid (And.intro (below_seq HB.out.1 hb) (HB.out.2.below hb HB.out.2.lt))
    have c0 : w1.cell? ⟨W.heap.size, 0, none⟩ = some (.slice A0 l.length cap0) := H5.out.2.cell 0
    have c1 : w1.cell? ⟨W.heap.size, 1, none⟩ = some (.int .i64 V) := H5.out.2.cell 1
    have c2 : w1.cell? ⟨W.heap.size, 2, none⟩ = some (.int .i64 F) := H5.out.2.cell 2
    clear hb
    go_wp2_with fail
    refine (H2.out _ (HR.out.1.step H5.out.1) (HR.out.2.step H5.out.1)).mono ?_
    rintro e w2 ⟨rfl, hb⟩
    have H6 := Lib.hid (And.intro (below_seq H5.out.1 hb) (H5.out.2.below hb H5.out.2.lt))
    clear c0 c1 c2 hb H5
    have c0 : w2.cell? ⟨W.heap.size, 0, none⟩ = some (.slice A0 l.length cap0) := H6.out.2.cell 0
    have c1 : w2.cell? ⟨W.heap.size, 1, none⟩ = some (.int .i64 V) := H6.out.2.cell 1
    have c2 : w2.cell? ⟨W.heap.size, 2, none⟩ = some (.int .i64 F) := H6.out.2.cell 2
    go_wp2_with fail
    refine (H3.out _ (HR.out.1.step H6.out.1)).mono ?_
    rintro e w3 ⟨rfl, hb⟩
    have H7 := Lib.hid (And.intro (below_seq H6.out.1 hb) (H6.out.2.below hb H6.out.2.lt))
    clear c0 c1 c2 hb H6
    have c0 : w3.cell? ⟨W.heap.size, 0, none⟩ = some (.slice A0 l.length cap0) := H7.out.2.cell 0
    have c1 : w3.cell? ⟨W.heap.size, 1, none⟩ = some (.int .i64 V) := H7.out.2.cell 1
    have c2 : w3.cell? ⟨W.heap.size, 2, none⟩ = some (.int .i64 F) := H7.out.2.cell 2
    go_wp2_with fail
    refine (H4.out _ (HR.out.1.step H7.out.1)).mono ?_
    rintro e w4 ⟨rfl, hb⟩
    have H8 := Lib.hid (below_seq H7.out.1 hb)
    clear c0 c1 c2 hb H7
    go_wp2_with fail
    refine (HA.out _).mono ?_
    rintro e wb ⟨rfl, hb⟩
    have HF := Lib.hid (below_seq H8.out hb)
    clear hb
    go_wp2_with fail
    go_ret
    exact ⟨rfl, HF.out⟩
end Go.Proofs.Ytfdjoldcdfbfhaa

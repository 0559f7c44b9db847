/- The contract of Alarm. -/
import Derived.Test.YtfdjoldcdfbfhaaGrI
namespace Go.Proofs.Ytfdjoldcdfbfhaa
open Go.Shelf Go.RowKit
/-- what Alarm returns -/
def alarmR (l : List Sn) (V F t : Int) (L : List Sf) : Int × Int :=
  if vvB l V F = false then (0, 1) else if gasB t = false then (0, 2) else if 1024 < L.length then (0, 3) else lisR V t l.length L
set_option maxRecDepth 100000 in
set_option maxHeartbeats 2000000 in
theorem Alarm_any (l : List Sn) (A0 : Option Addr) (cap0 : Nat) (V F t : Int) (L : List Sf) (A : Option Addr) (cap : Nat) (W : World) (hr : NRow W W.heap.size A0 l) (hl : l.length ≤ 9223372036854775807)
    (hf : FRow W W.heap.size A L) (hc : L.length ≤ cap) (hL : L.length ≤ 9223372036854775807) :
    Calls Try.prog 14 #[vtv A0 l.length cap0 V F, .int .i64 t, .slice A L.length cap] W (LisPost (alarmR l V F t L) W) := by
  have HR := Lib.hid (And.intro hr hf)
  have HV := Lib.hid (fun (w : World) h => voting_any l A0 cap0 V F w h hl)
  have g1 := fun w => isGas_any t w
  have hh : Has (W.alloc (.cells #[.slice A0 l.length cap0, .int .i64 V, .int .i64 F] 24)) W.heap.size 24 #[.slice A0 l.length cap0, .int .i64 V, .int .i64 F] := Has.new W 24 _
  have hb0 := below_one W (.cells #[.slice A0 l.length cap0, .int .i64 V, .int .i64 F] 24)
  have HB := Lib.hid (And.intro hb0 hh)
  have HC := Lib.hid hc
  clear hb0 hh hr hf hc
  cases hv : vvB l V F
  · have HN := Lib.hid (show alarmR l V F t L = (0, 1) by unfold alarmR; rw [if_pos hv])
    rw [hv] at HV
    clear g1 hv
    unfold vtv at *
    go_enter Try.func14, Try.ntmps14
    go_wp2_with fail
    refine (HV.out _ (HR.out.1.step HB.out.1)).mono ?_
    rintro e w2 ⟨rfl, hb2⟩
    have H2 := Lib.hid (below_seq HB.out.1 hb2)
    clear hb2
    go_wp2_with fail
    refine bodyPost_ret (results_tmp2 rfl _ _ _) rfl ?_
    exact ⟨by rw [HN.out]; rfl, H2.out⟩
  have HVV := Lib.hid ((vvB_iff l V F).1 hv)
  have HV2 := Lib.hid hv
  rw [hv] at HV
  clear hv
  unfold vtv at *
  cases h1 : gasB t <;> rw [h1] at g1
  · have HN := Lib.hid (show alarmR l V F t L = (0, 2) by unfold alarmR; rw [if_neg (by rw [HV2.out]; simp), if_pos h1])
    clear h1
    go_enter Try.func14, Try.ntmps14
    go_wp2_with fail
    refine (HV.out _ (HR.out.1.step HB.out.1)).mono ?_
    rintro e w2 ⟨rfl, hb2⟩
    have H2 := Lib.hid (below_seq HB.out.1 hb2)
    clear hb2
    go_wp2_with fail
    refine (g1 _).mono ?_
    rintro e w3 ⟨rfl, rfl⟩
    go_wp2_with fail
    refine bodyPost_ret (results_tmp2 rfl _ _ _) rfl ?_
    exact ⟨by rw [HN.out]; rfl, H2.out⟩
  by_cases hlen : 1024 < L.length
  · have HN := Lib.hid (show alarmR l V F t L = (0, 3) by unfold alarmR; rw [if_neg (by rw [HV2.out]; simp), if_neg (by rw [h1]; simp), if_pos hlen])
    have hlen' : (1024 : Int) < L.length := by omega
    clear h1 hlen
    go_enter Try.func14, Try.ntmps14
    go_wp2_with fail
    refine (HV.out _ (HR.out.1.step HB.out.1)).mono ?_
    rintro e w2 ⟨rfl, hb2⟩
    have H2 := Lib.hid (below_seq HB.out.1 hb2)
    clear hb2
    go_wp2_with fail
    refine (g1 _).mono ?_
    rintro e w3 ⟨rfl, rfl⟩
    go_wp2_with fail
    refine bodyPost_ret (results_tmp2 rfl _ _ _) rfl ?_
    exact ⟨by rw [HN.out]; rfl, H2.out⟩
  · have HN := Lib.hid (show alarmR l V F t L = lisR V t l.length L by unfold alarmR; rw [if_neg (by rw [HV2.out]; simp), if_neg (by rw [h1]; simp), if_neg hlen])
    have hlen' : ¬ (1024 : Int) < L.length := by omega
    have HL := Lib.hid (fun (w : World) h => listen_any A0 l.length cap0 V F t L A cap w (show l.length ≤ 12 by have := HVV.out.h12; omega) HC.out hL h)
    clear h1 hlen
    go_enter Try.func14, Try.ntmps14
    go_wp2_with fail
    refine (HV.out _ (HR.out.1.step HB.out.1)).mono ?_
    rintro e w2 ⟨rfl, hb2⟩
    have H2 := Lib.hid (And.intro (below_seq HB.out.1 hb2) (HB.out.2.below hb2 HB.out.2.lt))
    clear hb2
    have c0 : w2.cell? ⟨W.heap.size, 0, none⟩ = some (.slice A0 l.length cap0) := H2.out.2.cell 0
    have c1 : w2.cell? ⟨W.heap.size, 1, none⟩ = some (.int .i64 V) := H2.out.2.cell 1
    have c2 : w2.cell? ⟨W.heap.size, 2, none⟩ = some (.int .i64 F) := H2.out.2.cell 2
    go_wp2_with fail
    refine (g1 _).mono ?_
    rintro e w3 ⟨rfl, rfl⟩
    go_wp2_with fail
    refine (HL.out _ (HR.out.2.step H2.out.1)).mono ?_
    rintro e w4 ⟨rfl, hb4⟩
    have H4 := Lib.hid (below_seq H2.out.1 hb4)
    clear hb4
    go_wp2_with fail
    refine bodyPost_ret (results_tmp2 rfl _ _ _) rfl ?_
    exact ⟨by rw [HN.out]; rfl, H4.out⟩
end Go.Proofs.Ytfdjoldcdfbfhaa

/- The quiet thresholds, as the program finds them. -/
import Derived.Test.YtfdjoldcdfbfhaaWoC
namespace Go.Proofs.Ytfdjoldcdfbfhaa
open Go.Shelf Go.RowKit
def IntPost (n : Int) (W : World) (e : Ending) (W' : World) : Prop := e = .returned (.int .i64 n) ∧ Below W.heap.size W W'
theorem key56 (W : World) : KeyF W 56 #[] (fun s => -s.r) :=
  ⟨enters_of Try.func56 (by kernel_rfl) rfl, fun w' _ s hs => quietNum_any s w' hs⟩
set_option maxRecDepth 100000 in
set_option maxHeartbeats 2000000 in
theorem quietFrom_any (l : List Sn) (A : Option Addr) (cap : Nat) (V F calm : Int) (W : World) (hr : NRow W W.heap.size A l) (hv : VV l V F) (hc : 0 ≤ calm ∧ calm ≤ 1048576) :
    Calls Try.prog 40 #[vtv A l.length cap V F, .int .i64 calm] W (IntPost (qf l V F calm) W) := by
  have hh : Has (W.alloc (.cells #[.slice A l.length cap, .int .i64 V, .int .i64 F] 24)) W.heap.size 24 #[.slice A l.length cap, .int .i64 V, .int .i64 F] := Has.new W 24 _
  have hb0 := below_one W (.cells #[.slice A l.length cap, .int .i64 V, .int .i64 F] 24)
  have HB := Lib.hid (And.intro hb0 hh)
  have H0 := Lib.hid (And.intro hr hv)
  have hV := hv.hV; have hF := hv.hF; have h12 := hv.h12; have h1 := hv.h1
  clear hb0 hh hr hv
  unfold vtv
  by_cases hle : V ≤ F
  · have HN := Lib.hid (show qf l V F calm = 1048577 by unfold qf; rw [if_pos hle])
    go_enter Try.func40, Try.ntmps40
    go_wp2_with fail
    go_ret
    exact ⟨by rw [HN.out]; rfl, HB.out.1⟩
  · go_enter Try.func40, Try.ntmps40
    go_wp2_with fail
    refine (inOrder_any (fun s => -s.r) 56 #[] l A cap _ (key56 _) (H0.out.1.step HB.out.1) H0.out.2.hL h1 (by omega)).mono ?_
    rintro e w1 ⟨g, cap1, l', rfl, hb1, hg, hrow, hp, hs⟩
    have hll := hp.length_eq
    have hi : (V - F - 1).toNat < l'.length := by omega
    obtain ⟨i, hie⟩ : ∃ i, (V - F - 1).toNat = i := ⟨_, rfl⟩
    rw [hie] at hi
    have hq : qf l V F calm = calm + l'[i].r + 1 := by
      have hsr : (negs l').Pairwise (· ≤ ·) := by unfold negs; rw [List.pairwise_map]; exact hs
      have hpn : (negs l').Perm (negs l) := hp.map _
      have := qf_eq (calm := calm) hV.2 hF.1 hsr hpn (by omega) (by rw [hie]; simpa [negs] using hi)
      rw [this]
      simp only [hie]
      simp only [negs, List.getElem_map]; omega
    obtain ⟨g0, o0, e0, hg0, -, -, d2⟩ := hrow i hi
    cases e0
    simp only [Nat.zero_add] at d2
    have hvs := H0.out.2.hL _ (hp.mem_iff.1 (List.getElem_mem hi))
    obtain ⟨r, hr⟩ : ∃ r, l'[i].r = r := ⟨_, rfl⟩
    have hr0 := hvs.2.2
    rw [hr] at d2 hq hr0
    have HQ := Lib.hid hq
    have H1 := Lib.hid (And.intro (below_seq HB.out.1 hb1) (HB.out.2.below hb1 HB.out.2.lt))
    have v1 : w1.cell? ⟨W.heap.size, 1, none⟩ = some (.int .i64 V) := H1.out.2.cell 1
    have v2 : w1.cell? ⟨W.heap.size, 2, none⟩ = some (.int .i64 F) := H1.out.2.cell 2
    have p0 : 0 ≤ V - F - 1 := by omega
    have p1 : V - F - 1 < l.length := by omega
    have hgw : g < w1.heap.size := hg0
    clear hb1 hg hrow hp hs hll hq hvs hr hg0
    go_wp2
    go_ret
    exact ⟨by rw [HQ.out]; rfl, H1.out.1⟩
end Go.Proofs.Ytfdjoldcdfbfhaa

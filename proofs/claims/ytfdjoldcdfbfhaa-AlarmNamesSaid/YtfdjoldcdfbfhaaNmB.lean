/- The walk of the law of the errors and the examples. -/
import Derived.Test.YtfdjoldcdfbfhaaAlC
import Derived.Test.YtfdjoldcdfbfhaaLiA
namespace Go.Proofs.Ytfdjoldcdfbfhaa
open Go.Shelf Go.RowKit
def nxS : List Sf := [⟨0, 0, 60⟩, ⟨1, 1, 49⟩, ⟨2, 0, 40⟩, ⟨4, 1, 50⟩, ⟨4, 0, 50⟩]
theorem nx1 : alarmR exL 2 0 50 nxS = (4, 0) := by decide +kernel
theorem nx2 : worstR exL 2 0 50 10 1 30 = (73, 3, 0) := by decide +kernel
theorem nx3 : worstR exL 2 2 50 10 1 30 = (0, 0, 4) := by decide +kernel
theorem nx4 : quietR exL 2 1 50 44 = (true, 0) := by decide +kernel
theorem nx5 : quietR exL 2 1 50 45 = (false, 0) := by decide +kernel
theorem nx6 : thrR exL 2 1 100 10 30 1 30 = (36, 58, 0) := by decide +kernel
def sf3 (s : Sf) : List Value := [.int .i64 s.m, .int .i64 s.s, .int .i64 s.v]
theorem frow_flat {w : World} {g : Nat} {t : TypeId} {l : List Sf} (h : Has w g t (l.flatMap sf3).toArray) : FRow w w.heap.size (some ⟨g, 0, none⟩) l := fun k hk => by
  have y := fun i hi => flat_get sf3 3 (fun _ => rfl) l k hk i hi
  refine ⟨g, 0, rfl, h.lt, ?_, ?_, ?_⟩ <;> rw [Nat.zero_add, h.cell, List.getElem?_toArray]
  · exact y 0 (by omega)
  · exact y 1 (by omega)
  · exact y 2 (by omega)
set_option maxRecDepth 100000 in
set_option maxHeartbeats 2000000 in
theorem names_any (W : World) : Calls Try.prog 6 #[] W (BoolPost true W) := by
  have h1 : ∀ (A A' : Option Addr) w, NRow w w.heap.size A exL → FRow w w.heap.size A' nxS → Calls Try.prog 14 #[vtv A exL.length 3 2 0, .int .i64 50, .slice A' 5 5] w (LisPost (4, 0) w) := fun A A' w h h' => by
    have := Alarm_any exL A 3 2 0 50 nxS A' 5 w h (by decide) h' (by decide) (by decide)
    rwa [nx1] at this
  have h2 : ∀ (A : Option Addr) w, NRow w w.heap.size A exL → Calls Try.prog 19 #[vtv A exL.length 3 2 0, .int .i64 50, .int .i64 10, .int .i64 1, .int .i64 30] w (TripPost (73, 3, 0) w) := fun A w h => by
    have := Worst_any exL A 3 2 0 50 10 1 30 w h (by decide)
    rwa [nx2] at this
  have h3 : ∀ (A : Option Addr) w, NRow w w.heap.size A exL → Calls Try.prog 19 #[vtv A exL.length 3 2 2, .int .i64 50, .int .i64 10, .int .i64 1, .int .i64 30] w (TripPost (0, 0, 4) w) := fun A w h => by
    have := Worst_any exL A 3 2 2 50 10 1 30 w h (by decide)
    rwa [nx3] at this
  have h4 : ∀ (A : Option Addr) w, NRow w w.heap.size A exL → Calls Try.prog 16 #[vtv A exL.length 3 2 1, .int .i64 50, .int .i64 44] w (BEPost (true, 0) w) := fun A w h => by
    have := Quiet_any exL A 3 2 1 50 44 w h (by decide)
    rwa [nx4] at this
  have h5 : ∀ (A : Option Addr) w, NRow w w.heap.size A exL → Calls Try.prog 16 #[vtv A exL.length 3 2 1, .int .i64 50, .int .i64 45] w (BEPost (false, 0) w) := fun A w h => by
    have := Quiet_any exL A 3 2 1 50 45 w h (by decide)
    rwa [nx5] at this
  have h6 : ∀ (A : Option Addr) w, NRow w w.heap.size A exL → Calls Try.prog 21 #[vtv A exL.length 3 2 1, .int .i64 100, .int .i64 10, .int .i64 30, .int .i64 1, .int .i64 30] w (SpPost (36, 58, 0) w) := fun A w h => by
    have := Thresholds_any exL A 3 2 1 100 10 30 1 30 w h (by decide)
    rwa [nx6] at this
  have heq : ∀ w, (binOp .eql 38 (.agg #[.int .i64 36, .int .i64 58]) (.agg #[.int .i64 36, .int .i64 58])).run Try.prog w = .ok (.bool true) w := fun w => by rw [eql38]; rfl
  obtain ⟨n, hn⟩ : ∃ n, n = exL.length := ⟨_, rfl⟩
  have hs := fun f w => sample_any f w
  have hal := fun w => alive_any w
  unfold SamplePost at hs
  rw [← hn] at h1 h2 h3 h4 h5 h6 hs
  unfold vtv at h1 h2 h3 h4 h5 h6 hs
  have H1 := Lib.hid h1
  have H2 := Lib.hid h2
  have H3 := Lib.hid h3
  have H4 := Lib.hid h4
  have H5 := Lib.hid h5
  have H6 := Lib.hid h6
  have HS := Lib.hid hs
  have HA := Lib.hid hal
  clear h1 h2 h3 h4 h5 h6 hs hal hn
  go_enter Try.func6, Try.ntmps6
  go_wp2_with fail
  have hx : Has (W.alloc (.cells #[.int .i64 0, .int .i64 0, .int .i64 60, .int .i64 1, .int .i64 1, .int .i64 49, .int .i64 2, .int .i64 0, .int .i64 40, .int .i64 4, .int .i64 1, .int .i64 50, .int .i64 4, .int .i64 0, .int .i64 50] 45)) W.heap.size 45 #[.int .i64 0, .int .i64 0, .int .i64 60, .int .i64 1, .int .i64 1, .int .i64 49, .int .i64 2, .int .i64 0, .int .i64 40, .int .i64 4, .int .i64 1, .int .i64 50, .int .i64 4, .int .i64 0, .int .i64 50] := Has.new W 45 _
  have hb0 := below_one W (.cells #[.int .i64 0, .int .i64 0, .int .i64 60, .int .i64 1, .int .i64 1, .int .i64 49, .int .i64 2, .int .i64 0, .int .i64 40, .int .i64 4, .int .i64 1, .int .i64 50, .int .i64 4, .int .i64 0, .int .i64 50] 45)
  generalize W.alloc (.cells #[.int .i64 0, .int .i64 0, .int .i64 60, .int .i64 1, .int .i64 1, .int .i64 49, .int .i64 2, .int .i64 0, .int .i64 40, .int .i64 4, .int .i64 1, .int .i64 50, .int .i64 4, .int .i64 0, .int .i64 50] 45) = w0 at hx hb0 ⊢
  have HB0 := Lib.hid (And.intro hb0 (frow_flat (l := nxS) hx))
  clear hb0 hx
  refine (HS.out 0 _).mono ?_
  rintro e w1 ⟨g, rfl, hb, -, hr⟩
  have B1 := Lib.hid (And.intro (below_seq HB0.out.1 hb) (And.intro hr (HB0.out.2.step hb)))
  clear hb hr HB0
  go_wp2_with fail
  refine (H1.out _ _ _ B1.out.2.1 B1.out.2.2).mono ?_
  rintro e w2 ⟨rfl, hb⟩
  have B2 := Lib.hid (below_seq B1.out.1 hb)
  clear hb B1 H1
  go_wp2_with fail
  refine (HS.out 0 _).mono ?_
  rintro e w1 ⟨g, rfl, hb, -, hr⟩
  have B1 := Lib.hid (And.intro (below_seq B2.out hb) hr)
  clear hb hr B2
  go_wp2_with fail
  refine (H2.out _ _ B1.out.2).mono ?_
  rintro e w2 ⟨rfl, hb⟩
  have B2 := Lib.hid (below_seq B1.out.1 hb)
  clear hb B1 H2
  go_wp2_with fail
  refine (HS.out 2 _).mono ?_
  rintro e w1 ⟨g, rfl, hb, -, hr⟩
  have B1 := Lib.hid (And.intro (below_seq B2.out hb) hr)
  clear hb hr B2
  go_wp2_with fail
  refine (H3.out _ _ B1.out.2).mono ?_
  rintro e w2 ⟨rfl, hb⟩
  have B2 := Lib.hid (below_seq B1.out.1 hb)
  clear hb B1 H3
  go_wp2_with fail
  refine (HS.out 1 _).mono ?_
  rintro e w1 ⟨g, rfl, hb, -, hr⟩
  have B1 := Lib.hid (And.intro (below_seq B2.out hb) hr)
  clear hb hr B2
  go_wp2_with fail
  refine (H4.out _ _ B1.out.2).mono ?_
  rintro e w2 ⟨rfl, hb⟩
  have B2 := Lib.hid (below_seq B1.out.1 hb)
  clear hb B1 H4
  go_wp2_with fail
  refine (HS.out 1 _).mono ?_
  rintro e w1 ⟨g, rfl, hb, -, hr⟩
  have B1 := Lib.hid (And.intro (below_seq B2.out hb) hr)
  clear hb hr B2
  go_wp2_with fail
  refine (H5.out _ _ B1.out.2).mono ?_
  rintro e w2 ⟨rfl, hb⟩
  have B2 := Lib.hid (below_seq B1.out.1 hb)
  clear hb B1 H5
  go_wp2_with fail
  refine (HS.out 1 _).mono ?_
  rintro e w1 ⟨g, rfl, hb, -, hr⟩
  have B1 := Lib.hid (And.intro (below_seq B2.out hb) hr)
  clear hb hr B2
  go_wp2_with fail
  refine (H6.out _ _ B1.out.2).mono ?_
  rintro e w2 ⟨rfl, hb⟩
  have B2 := Lib.hid (below_seq B1.out.1 hb)
  clear hb B1 H6
  go_wp2_with fail
  have hq : Has (w2.alloc (.cells #[.int .i64 36, .int .i64 58] 38)) w2.heap.size 38 #[.int .i64 36, .int .i64 58] := Has.new w2 38 _
  have hb := below_one w2 (.cells #[.int .i64 36, .int .i64 58] 38)
  generalize w2.alloc (.cells #[.int .i64 36, .int .i64 58] 38) = w3 at hq hb ⊢
  have B3 := Lib.hid (And.intro (below_seq B2.out hb) hq)
  clear hb hq
  refine (HA.out _).mono ?_
  rintro e w4 ⟨rfl, hb⟩
  have hq := B3.out.2.below hb B3.out.2.lt
  have c0 : w4.cell? ⟨w2.heap.size, 0, none⟩ = some (.int .i64 36) := hq.cell 0
  have c1 : w4.cell? ⟨w2.heap.size, 1, none⟩ = some (.int .i64 58) := hq.cell 1
  have B4 := Lib.hid (below_seq B3.out.1 hb)
  clear hb hq B3 HA
  go_wp2_with fail
  go_ret
  exact ⟨rfl, B4.out⟩
end Go.Proofs.Ytfdjoldcdfbfhaa

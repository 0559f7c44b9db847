/- IceNames, walked: it returns true, whatever lies in memory. -/
import Derived.Test.YtogabjlhecnbbaaIceKeep
import Derived.Test.YtogabjlhecnbbaaIceBr
namespace Go.Proofs.Ytogabjlhecnbbaa
open Go.RowKit Go.Shelf

def smT : List (Int × Int) := [(100, 500), (3000, 2000), (6000, 2800)]
def smD : List Ev := [⟨2, 0, 1, 20, 50⟩, ⟨0, 0, 1, 30, 40⟩]
theorem thin_s1 : thinR smEnd 1800 = ([1], 0) := by decide +kernel
theorem thin_s2 : thinR smZ 1800 = ([], 0) := by decide +kernel
theorem breaks_s1 : breaksR smEnd smT [0, 1] 4000 = (1, 0) := by decide +kernel
theorem breaks_s2 : breaksR smEnd smT [0, 1] 3000 = (0, 4) := by decide +kernel
theorem keeps_s1 : keepsR smZ smD 9 2750 3300 = (2, 1, 0) := by decide +kernel
theorem keeps_s2 : keepsR smZ smD 2 2750 3300 = (0, 0, 4) := by decide +kernel
theorem water_s2 : waterR smZ 20 50 100 150 3 2700 3300 = (0, 0, 4) := by decide +kernel

def bflat (ts : List (Int × Int)) : Array Value := (ts.flatMap fun t => [iv t.1, iv t.2]).toArray
theorem brow_smT {w : World} {B n : Nat} (h : Has w B 51 (bflat smT)) (hn : B < n) : BRow w n (some ⟨B, 0, none⟩) smT := fun k hk => by
  refine ⟨B, 0, rfl, hn, ?_, ?_⟩ <;> rw [Nat.zero_add, h.cell]
  · match k, hk with
    | 0, _ => rfl
    | 1, _ => rfl
    | 2, _ => rfl
  · match k, hk with
    | 0, _ => rfl
    | 1, _ => rfl
    | 2, _ => rfl
theorem irow_two {w : World} {B n : Nat} (h : Has w B 3 #[iv 0, iv 1]) (hn : B < n) : IRow w n (some ⟨B, 0, none⟩) [0, 1] := fun k hk => by
  refine ⟨B, 0, rfl, hn, ?_⟩
  rw [Nat.zero_add, h.cell]
  match k, hk with
  | 0, _ => rfl
  | 1, _ => rfl
theorem irow_one {w : World} {B n : Nat} (h : Has w B 3 #[iv 1]) (hn : B < n) : IRow w n (some ⟨B, 0, none⟩) [1] := fun k hk => by
  refine ⟨B, 0, rfl, hn, ?_⟩
  rw [Nat.zero_add, h.cell]
  match k, hk with
  | 0, _ => rfl

def ThinS1 (wa : World) (r : Ending) (wb : World) : Prop := ∃ A cap, r = .returned (.tuple #[.slice A 1 cap, iv 0]) ∧ Below wa.heap.size wa wb ∧ IRow wb wb.heap.size A [1]
def ThinS2 (wa : World) (r : Ending) (wb : World) : Prop := ∃ A cap, r = .returned (.tuple #[.slice A 0 cap, iv 0]) ∧ Below wa.heap.size wa wb
theorem thin_c1 (B : Nat) (wa : World) (h : Has wa B 60 (flat smEnd)) : Calls Try.prog 17 #[.slice (some ⟨B, 0, none⟩) 2 2, iv 1800] wa (ThinS1 wa) := by
  refine (thin_any smEnd 1800 (some ⟨B, 0, none⟩) 2 wa (zrow_of_has h h.lt) (by decide)).mono ?_
  rw [thin_s1]
  rintro r wb ⟨A, cap, rfl, hb, hI⟩
  exact ⟨A, cap, rfl, hb, hI⟩
theorem thin_c2 (B : Nat) (wa : World) (h : Has wa B 60 (flat smZ)) : Calls Try.prog 17 #[.slice (some ⟨B, 0, none⟩) 2 2, iv 1800] wa (ThinS2 wa) := by
  refine (thin_any smZ 1800 (some ⟨B, 0, none⟩) 2 wa (zrow_of_has h h.lt) (by decide)).mono ?_
  rw [thin_s2]
  rintro r wb ⟨A, cap, rfl, hb, hI⟩
  exact ⟨A, cap, rfl, hb⟩
theorem breaks_c1 (B1 B2 B3 : Nat) (wa : World) (h1 : Has wa B1 60 (flat smEnd)) (h2 : Has wa B2 51 (bflat smT)) (h3 : Has wa B3 3 #[iv 0, iv 1]) :
    Calls Try.prog 21 #[.slice (some ⟨B1, 0, none⟩) 2 2, .slice (some ⟨B2, 0, none⟩) 3 3, .slice (some ⟨B3, 0, none⟩) 2 2, iv 4000] wa fun r wb => r = .returned (.tuple #[iv 1, iv 0]) ∧ Below wa.heap.size wa wb := by
  refine (breaks_any smEnd smT [0, 1] 4000 (some ⟨B1, 0, none⟩) (some ⟨B2, 0, none⟩) (some ⟨B3, 0, none⟩) 2 3 2 wa (zrow_of_has h1 h1.lt) (brow_smT h2 h2.lt) (irow_two h3 h3.lt) (by decide) (by decide) (by decide)).mono ?_
  rw [breaks_s1]
  rintro r wb ⟨rfl, hb⟩
  exact ⟨rfl, hb⟩
theorem breaks_c2 (B1 B2 B3 : Nat) (wa : World) (h1 : Has wa B1 60 (flat smEnd)) (h2 : Has wa B2 51 (bflat smT)) (h3 : Has wa B3 3 #[iv 0, iv 1]) :
    Calls Try.prog 21 #[.slice (some ⟨B1, 0, none⟩) 2 2, .slice (some ⟨B2, 0, none⟩) 3 3, .slice (some ⟨B3, 0, none⟩) 2 2, iv 3000] wa fun r wb => r = .returned (.tuple #[iv 0, iv 4]) ∧ Below wa.heap.size wa wb := by
  refine (breaks_any smEnd smT [0, 1] 3000 (some ⟨B1, 0, none⟩) (some ⟨B2, 0, none⟩) (some ⟨B3, 0, none⟩) 2 3 2 wa (zrow_of_has h1 h1.lt) (brow_smT h2 h2.lt) (irow_two h3 h3.lt) (by decide) (by decide) (by decide)).mono ?_
  rw [breaks_s2]
  rintro r wb ⟨rfl, hb⟩
  exact ⟨rfl, hb⟩
theorem keeps_c1 (B1 B2 : Nat) (wa : World) (h1 : Has wa B1 60 (flat smZ)) (h2 : Has wa B2 54 (eflat smD)) :
    Calls Try.prog 23 #[.slice (some ⟨B1, 0, none⟩) 2 2, .slice (some ⟨B2, 0, none⟩) 2 2, iv 9, iv 2750, iv 3300] wa fun r wb => r = .returned (.tuple #[iv 2, iv 1, iv 0]) ∧ Below wa.heap.size wa wb := by
  refine (keeps_any smZ smD 9 2750 3300 (some ⟨B1, 0, none⟩) (some ⟨B2, 0, none⟩) 2 2 wa (zrow_of_has h1 h1.lt) (erow_of_has h2 h2.lt) (by decide) (by decide)).mono ?_
  rw [keeps_s1]
  rintro r wb ⟨rfl, hb⟩
  exact ⟨rfl, hb⟩
theorem keeps_c2 (B1 B2 : Nat) (wa : World) (h1 : Has wa B1 60 (flat smZ)) (h2 : Has wa B2 54 (eflat smD)) :
    Calls Try.prog 23 #[.slice (some ⟨B1, 0, none⟩) 2 2, .slice (some ⟨B2, 0, none⟩) 2 2, iv 2, iv 2750, iv 3300] wa fun r wb => r = .returned (.tuple #[iv 0, iv 0, iv 4]) ∧ Below wa.heap.size wa wb := by
  refine (keeps_any smZ smD 2 2750 3300 (some ⟨B1, 0, none⟩) (some ⟨B2, 0, none⟩) 2 2 wa (zrow_of_has h1 h1.lt) (erow_of_has h2 h2.lt) (by decide) (by decide)).mono ?_
  rw [keeps_s2]
  rintro r wb ⟨rfl, hb⟩
  exact ⟨rfl, hb⟩
theorem water_c2 (B1 : Nat) (wa : World) (h1 : Has wa B1 60 (flat smZ)) : Calls Try.prog 25 #[.slice (some ⟨B1, 0, none⟩) 2 2, sv 20 50, sv 100 150, iv 3, iv 2700, iv 3300] wa fun r wb => r = .returned (.tuple #[sv 0 0, iv 4]) ∧ Below wa.heap.size wa wb := by
  refine (water_any 20 50 100 150 3 2700 3300 smZ (some ⟨B1, 0, none⟩) 2 wa (zrow_of_has h1 h1.lt) (by decide)).mono ?_
  rw [water_s2]
  rintro r wb ⟨rfl, hb⟩
  exact ⟨rfl, hb⟩
theorem ints_c1 (A : Option Addr) (cap B : Nat) (wa : World) (h1 : IRow wa wa.heap.size A [1]) (h2 : Has wa B 3 #[iv 1]) : Calls Try.prog 20 #[.slice A 1 cap, .slice (some ⟨B, 0, none⟩) 1 1] wa fun r wb => r = .returned (.bool true) ∧ Below wa.heap.size wa wb := by
  refine (ints_any [1] [1] A (some ⟨B, 0, none⟩) cap 1 wa h1 (irow_one h2 h2.lt) (by decide) (by decide)).mono ?_
  rintro r wb ⟨rfl, hb⟩
  exact ⟨rfl, hb⟩

/-- what is kept on the way -/
structure NK (w W : World) (B1 B3 : Nat) : Prop where
  b : Below w.heap.size w W
  z : Has W B1 60 (flat smZ)
  e : Has W B3 60 (flat smEnd)
theorem NK.below {w W W' : World} {B1 B3 : Nat} (h : NK w W B1 B3) (hb : Below W.heap.size W W') : NK w W' B1 B3 := ⟨h.b.trans (hb.mono h.b.size), h.z.below hb h.z.lt, h.e.below hb h.e.lt⟩
theorem NK.alloc {w W : World} {B1 B3 : Nat} (h : NK w W B1 B3) (o : Obj) : NK w (W.alloc o) B1 B3 := h.below (below1 _ _)

set_option maxRecDepth 100000 in
set_option maxHeartbeats 4000000 in
theorem names_any (w : World) : Calls Try.prog 6 #[] w fun e w' => e = .returned (.bool true) ∧ Below w.heap.size w w' := by
  go_enter Try.func6, Try.ntmps6
  go_wp2_with fail
  refine (sample_any w).mono ?_
  rintro r wa ⟨B1, B2, rfl, g1, g2, hb, hZ, hE⟩
  have HZ := Lib.hid (And.intro hb (And.intro hZ hE))
  clear hb hZ hE
  go_wp2_with fail
  refine (play_sm B1 B2 wa HZ.out.2.1 HZ.out.2.2).mono ?_
  rintro r wb ⟨B3, rfl, hbb, g3, hR⟩
  have N1 : NK w wb B1 B3 := ⟨HZ.out.1.trans (hbb.mono HZ.out.1.size), HZ.out.2.1.below hbb HZ.out.2.1.lt, hR⟩
  clear hbb hR HZ
  go_wp2_with fail
  refine (thin_c1 B3 _ (N1.e.alloc _)).mono ?_
  rintro r wc ⟨A1, cp1, rfl, hb, hI⟩
  have N2 := (N1.alloc _).below hb
  clear hb N1
  go_wp2_with fail
  refine (thin_c2 B1 _ N2.z).mono ?_
  rintro r wd ⟨A2, cp2, rfl, hb⟩
  have N3 := N2.below hb
  have hI2 := (hI.below hb).more hb.size
  clear hb N2 hI
  go_wp2_with fail
  have hT0 : Has (wd.alloc (.cells (bflat smT) 51)) wd.heap.size 51 (bflat smT) := Has.new _ _ _
  refine (breaks_c1 B3 wd.heap.size _ _ ((N3.e.alloc _).alloc _) (hT0.alloc _) (Has.newAt (by simp))).mono ?_
  rintro r we ⟨rfl, hb⟩
  have N4 := ((N3.alloc _).alloc _).below hb
  have hT1 := (hT0.alloc _).below hb (by simp; omega)
  have hbI := ((below1 wd (.cells (bflat smT) 51)).alloc (by simp) (.cells #[.int .i64 0, .int .i64 1] 3)).trans (hb.mono (by simp; omega))
  have hI3 := (hI2.below hbI).more hbI.size
  clear hb N3 hT0 hbI hI2
  go_wp2_with fail
  refine (breaks_c2 B3 wd.heap.size _ _ (N4.e.alloc _) (hT1.alloc _) (Has.newAt (by simp))).mono ?_
  rintro r wf ⟨rfl, hb⟩
  have N5 := (N4.alloc _).below hb
  have hbI := (below1 we (.cells #[.int .i64 0, .int .i64 1] 3)).trans (hb.mono (by simp))
  have hI4 := (hI3.below hbI).more hbI.size
  clear hb N4 hT1 hbI hI3
  go_wp2_with (go_at_call 28; refine (span_any _ _ _).mono ?_; rintro e w' ⟨rfl, rfl⟩)
  have hD0 : Has (((wf.alloc (.cells #[iv 20, iv 50] 27)).alloc (.cells #[iv 30, iv 40] 27)).alloc (.cells (eflat smD) 54)) (wf.heap.size + 1 + 1) 54 (eflat smD) := Has.newAt (by simp)
  have hB0 := ((below1 wf (.cells #[iv 20, iv 50] 27)).alloc (by simp) (.cells #[iv 30, iv 40] 27)).alloc (by simp; omega) (.cells (eflat smD) 54)
  have N6 := N5.below hB0
  have hI5 := (hI4.below hB0).more hB0.size
  clear N5 hI4 hB0
  refine (keeps_c1 B1 (wf.heap.size + 1 + 1) _ N6.z hD0).mono ?_
  rintro r wg ⟨rfl, hb⟩
  have N7 := N6.below hb
  have hI6 := (hI5.below hb).more hb.size
  have hD1 := hD0.below hb hD0.lt
  clear hb N6 hI5 hD0
  go_wp2_with fail
  refine (keeps_c2 B1 (wf.heap.size + 1 + 1) _ N7.z hD1).mono ?_
  rintro r wh ⟨rfl, hb⟩
  have N8 := N7.below hb
  have hI7 := (hI6.below hb).more hb.size
  clear hb N7 hI6 hD1
  go_wp2_with (go_at_call 28; refine (span_any _ _ _).mono ?_; rintro e w' ⟨rfl, rfl⟩)
  have hB1 := (below1 wh (.cells #[iv 20, iv 50] 27)).alloc (by simp) (.cells #[iv 100, iv 150] 27)
  have N9 := N8.below hB1
  have hI8 := (hI7.below hB1).more hB1.size
  clear N8 hI7 hB1
  refine (water_c2 B1 _ N9.z).mono ?_
  rintro r wi ⟨rfl, hb⟩
  have N10 := N9.below hb
  have hI9 := (hI8.below hb).more hb.size
  clear hb N9 hI8
  go_wp2_with fail
  refine (alive_any _).mono ?_
  rintro r wj ⟨rfl, hb⟩
  have hB2 := (below1 wi (.cells #[.int .i64 0, .int .i64 0] 27)).trans (hb.mono (by simp))
  have N11 := N10.below hB2
  have hI10 := (hI9.below hB2).more hB2.size
  clear hb hB2 N10 hI9
  go_wp2_with fail
  have hB3 := below1 wj (.cells #[.int .i64 1] 3)
  refine (ints_c1 A1 cp1 wj.heap.size _ ((hI10.below hB3).more hB3.size) (Has.new _ _ _)).mono ?_
  rintro r wk ⟨rfl, hb⟩
  have N12 := (N11.below hB3).below hb
  clear hb hB3 N11 hI10
  go_wp2_with fail
  go_ret
  exact ⟨rfl, N12.b⟩
end Go.Proofs.Ytogabjlhecnbbaa

/- Contracts: validStep. -/
import Derived.Test.YtdmpkeaanaoeaaaAirE
namespace Go.Proofs.Ytdmpkeaanaoeaaa
open Go.RowKit
abbrev stpc (s : Stp) : Array Value := #[.int .i64 s.cold, .int .i64 s.ppl, .int .i64 s.chg, .int .i64 s.o0, .int .i64 s.o1, .int .i64 s.s0, .int .i64 s.s1, .int .i64 s.dry]
def stpv (s : Stp) : Value := .agg (stpc s)
theorem box_two (W : World) (a : Air) (A B : Option Addr) (ca cb : Nat) (s : Stp) : Below W.heap.size W ((W.alloc (.cells (airc a A B ca cb) 26)).alloc (.cells (stpc s) 50)) ∧ Has ((W.alloc (.cells (airc a A B ca cb) 26)).alloc (.cells (stpc s) 50)) W.heap.size 26 (airc a A B ca cb) ∧ Has ((W.alloc (.cells (airc a A B ca cb) 26)).alloc (.cells (stpc s) 50)) (W.heap.size + 1) 50 (stpc s) := by
  have h2 := Has.new (W.alloc (.cells (airc a A B ca cb) 26)) 50 (stpc s)
  simp only [World.size_alloc] at h2
  exact ⟨(below_one W _).alloc (by simp) _, (box_air W a A B ca cb).alloc _, h2⟩
set_option maxRecDepth 100000 in
set_option maxHeartbeats 4000000 in
theorem validStep_any (a : Air) (A B : Option Addr) (ca cb : Nat) (s : Stp) (W : World) (h : AR W W.heap.size a A B) (hn1 : 1 ≤ a.T.length) : Calls Try.prog 65 #[airv a A B ca cb, stpv s] W (BoolPost (stepB a s) W) := by
  have HB := Lib.hid (box_two W a A B ca cb s)
  have H1 := Lib.hid (onCurve_any a A B ca cb s.cold ((W.alloc (.cells (airc a A B ca cb) 26)).alloc (.cells (stpc s) 50)) (h.step HB.out.1) hn1)
  have H2 := Lib.hid (fun w => within_any s.ppl 0 16384 w)
  have H3 := Lib.hid (fun w => within_any s.chg 0 1000 w)
  have H4 := Lib.hid (fun w => spanWithin_any s.o0 s.o1 100000 w)
  have H5 := Lib.hid (fun w => spanWithin_any s.s0 s.s1 68719476736 w)
  have H6 := Lib.hid (fun w => within_any s.dry 0 68719476736 w)
  have hn : ∀ c, stepB a s = c → Hid (stepB a s = c) := fun b h => h
  clear h hn1
  unfold airv stpv at *
  cases h1 : onB a s.cold <;> rw [h1] at H1
  · have HE := hn false (by unfold stepB; rw [h1]; rfl)
    clear hn h1
    go_enter Try.func65, Try.ntmps65
    go_wp2_with fail
    refine H1.out.mono ?_
    rintro e w1 ⟨rfl, hb1⟩
    have X1 := Lib.hid (And.intro (below_seq HB.out.1 hb1) (Has.below HB.out.2.2 hb1 (Has.lt HB.out.2.2)))
    clear hb1
    go_wp2_with fail
    go_ret
    exact ⟨ret_bool HE.out.symm, X1.out.1⟩
  cases h2 : inB s.ppl 0 16384 <;> rw [h2] at H2
  · have HE := hn false (by unfold stepB; rw [h1, h2]; rfl)
    clear hn h1 h2
    go_enter Try.func65, Try.ntmps65
    go_wp2_with fail
    refine H1.out.mono ?_
    rintro e w1 ⟨rfl, hb1⟩
    have X1 := Lib.hid (And.intro (below_seq HB.out.1 hb1) (Has.below HB.out.2.2 hb1 (Has.lt HB.out.2.2)))
    have k1_1 : w1.cell? ⟨W.heap.size + 1, 1, none⟩ = some (.int .i64 s.ppl) := X1.out.2.cell 1
    clear hb1
    go_wp2_with fail
    refine (H2.out _).mono ?_
    rintro e w91 ⟨rfl, rfl⟩
    go_wp2_with fail
    go_ret
    exact ⟨ret_bool HE.out.symm, X1.out.1⟩
  cases h3 : inB s.chg 0 1000 <;> rw [h3] at H3
  · have HE := hn false (by unfold stepB; rw [h1, h2, h3]; rfl)
    clear hn h1 h2 h3
    go_enter Try.func65, Try.ntmps65
    go_wp2_with fail
    refine H1.out.mono ?_
    rintro e w1 ⟨rfl, hb1⟩
    have X1 := Lib.hid (And.intro (below_seq HB.out.1 hb1) (Has.below HB.out.2.2 hb1 (Has.lt HB.out.2.2)))
    have k1_1 : w1.cell? ⟨W.heap.size + 1, 1, none⟩ = some (.int .i64 s.ppl) := X1.out.2.cell 1
    have k1_2 : w1.cell? ⟨W.heap.size + 1, 2, none⟩ = some (.int .i64 s.chg) := X1.out.2.cell 2
    clear hb1
    go_wp2_with fail
    refine (H2.out _).mono ?_
    rintro e w91 ⟨rfl, rfl⟩
    go_wp2_with fail
    refine (H3.out _).mono ?_
    rintro e w92 ⟨rfl, rfl⟩
    go_wp2_with fail
    go_ret
    exact ⟨ret_bool HE.out.symm, X1.out.1⟩
  cases h4 : spB s.o0 s.o1 100000 <;> rw [h4] at H4
  · have HE := hn false (by unfold stepB; rw [h1, h2, h3, h4]; rfl)
    clear hn h1 h2 h3 h4
    go_enter Try.func65, Try.ntmps65
    go_wp2_with fail
    refine H1.out.mono ?_
    rintro e w1 ⟨rfl, hb1⟩
    have X1 := Lib.hid (And.intro (below_seq HB.out.1 hb1) (Has.below HB.out.2.2 hb1 (Has.lt HB.out.2.2)))
    have k1_1 : w1.cell? ⟨W.heap.size + 1, 1, none⟩ = some (.int .i64 s.ppl) := X1.out.2.cell 1
    have k1_2 : w1.cell? ⟨W.heap.size + 1, 2, none⟩ = some (.int .i64 s.chg) := X1.out.2.cell 2
    have k1_3 : w1.cell? ⟨W.heap.size + 1, 3, none⟩ = some (.int .i64 s.o0) := X1.out.2.cell 3
    have k1_4 : w1.cell? ⟨W.heap.size + 1, 4, none⟩ = some (.int .i64 s.o1) := X1.out.2.cell 4
    clear hb1
    go_wp2_with fail
    refine (H2.out _).mono ?_
    rintro e w91 ⟨rfl, rfl⟩
    go_wp2_with fail
    refine (H3.out _).mono ?_
    rintro e w92 ⟨rfl, rfl⟩
    go_wp2_with fail
    refine (H4.out _).mono ?_
    rintro e w2 ⟨rfl, hb2⟩
    have X2 := Lib.hid (And.intro (below_seq X1.out.1 hb2) (Has.below X1.out.2 hb2 (Has.lt X1.out.2)))
    clear hb2
    go_wp2_with fail
    go_ret
    exact ⟨ret_bool HE.out.symm, X2.out.1⟩
  cases h5 : spB s.s0 s.s1 68719476736 <;> rw [h5] at H5
  · have HE := hn false (by unfold stepB; rw [h1, h2, h3, h4, h5]; rfl)
    clear hn h1 h2 h3 h4 h5
    go_enter Try.func65, Try.ntmps65
    go_wp2_with fail
    refine H1.out.mono ?_
    rintro e w1 ⟨rfl, hb1⟩
    have X1 := Lib.hid (And.intro (below_seq HB.out.1 hb1) (Has.below HB.out.2.2 hb1 (Has.lt HB.out.2.2)))
    have k1_1 : w1.cell? ⟨W.heap.size + 1, 1, none⟩ = some (.int .i64 s.ppl) := X1.out.2.cell 1
    have k1_2 : w1.cell? ⟨W.heap.size + 1, 2, none⟩ = some (.int .i64 s.chg) := X1.out.2.cell 2
    have k1_3 : w1.cell? ⟨W.heap.size + 1, 3, none⟩ = some (.int .i64 s.o0) := X1.out.2.cell 3
    have k1_4 : w1.cell? ⟨W.heap.size + 1, 4, none⟩ = some (.int .i64 s.o1) := X1.out.2.cell 4
    have k1_5 : w1.cell? ⟨W.heap.size + 1, 5, none⟩ = some (.int .i64 s.s0) := X1.out.2.cell 5
    have k1_6 : w1.cell? ⟨W.heap.size + 1, 6, none⟩ = some (.int .i64 s.s1) := X1.out.2.cell 6
    clear hb1
    go_wp2_with fail
    refine (H2.out _).mono ?_
    rintro e w91 ⟨rfl, rfl⟩
    go_wp2_with fail
    refine (H3.out _).mono ?_
    rintro e w92 ⟨rfl, rfl⟩
    go_wp2_with fail
    refine (H4.out _).mono ?_
    rintro e w2 ⟨rfl, hb2⟩
    have X2 := Lib.hid (And.intro (below_seq X1.out.1 hb2) (Has.below X1.out.2 hb2 (Has.lt X1.out.2)))
    have k2_5 : w2.cell? ⟨W.heap.size + 1, 5, none⟩ = some (.int .i64 s.s0) := X2.out.2.cell 5
    have k2_6 : w2.cell? ⟨W.heap.size + 1, 6, none⟩ = some (.int .i64 s.s1) := X2.out.2.cell 6
    clear hb2
    go_wp2_with fail
    refine (H5.out _).mono ?_
    rintro e w3 ⟨rfl, hb3⟩
    have X3 := Lib.hid (And.intro (below_seq X2.out.1 hb3) (Has.below X2.out.2 hb3 (Has.lt X2.out.2)))
    clear hb3
    go_wp2_with fail
    go_ret
    exact ⟨ret_bool HE.out.symm, X3.out.1⟩
  obtain ⟨c, hc⟩ : ∃ c, inB s.dry 0 68719476736 = c := ⟨_, rfl⟩
  have HE := hn c (by unfold stepB; rw [h1, h2, h3, h4, h5, hc]; rfl)
  rw [hc] at H6
  clear hn h1 h2 h3 h4 h5 hc
  go_enter Try.func65, Try.ntmps65
  go_wp2_with fail
  refine H1.out.mono ?_
  rintro e w1 ⟨rfl, hb1⟩
  have X1 := Lib.hid (And.intro (below_seq HB.out.1 hb1) (Has.below HB.out.2.2 hb1 (Has.lt HB.out.2.2)))
  have k1_1 : w1.cell? ⟨W.heap.size + 1, 1, none⟩ = some (.int .i64 s.ppl) := X1.out.2.cell 1
  have k1_2 : w1.cell? ⟨W.heap.size + 1, 2, none⟩ = some (.int .i64 s.chg) := X1.out.2.cell 2
  have k1_3 : w1.cell? ⟨W.heap.size + 1, 3, none⟩ = some (.int .i64 s.o0) := X1.out.2.cell 3
  have k1_4 : w1.cell? ⟨W.heap.size + 1, 4, none⟩ = some (.int .i64 s.o1) := X1.out.2.cell 4
  have k1_5 : w1.cell? ⟨W.heap.size + 1, 5, none⟩ = some (.int .i64 s.s0) := X1.out.2.cell 5
  have k1_6 : w1.cell? ⟨W.heap.size + 1, 6, none⟩ = some (.int .i64 s.s1) := X1.out.2.cell 6
  have k1_7 : w1.cell? ⟨W.heap.size + 1, 7, none⟩ = some (.int .i64 s.dry) := X1.out.2.cell 7
  clear hb1
  go_wp2_with fail
  refine (H2.out _).mono ?_
  rintro e w91 ⟨rfl, rfl⟩
  go_wp2_with fail
  refine (H3.out _).mono ?_
  rintro e w92 ⟨rfl, rfl⟩
  go_wp2_with fail
  refine (H4.out _).mono ?_
  rintro e w2 ⟨rfl, hb2⟩
  have X2 := Lib.hid (And.intro (below_seq X1.out.1 hb2) (Has.below X1.out.2 hb2 (Has.lt X1.out.2)))
  have k2_5 : w2.cell? ⟨W.heap.size + 1, 5, none⟩ = some (.int .i64 s.s0) := X2.out.2.cell 5
  have k2_6 : w2.cell? ⟨W.heap.size + 1, 6, none⟩ = some (.int .i64 s.s1) := X2.out.2.cell 6
  have k2_7 : w2.cell? ⟨W.heap.size + 1, 7, none⟩ = some (.int .i64 s.dry) := X2.out.2.cell 7
  clear hb2
  go_wp2_with fail
  refine (H5.out _).mono ?_
  rintro e w3 ⟨rfl, hb3⟩
  have X3 := Lib.hid (And.intro (below_seq X2.out.1 hb3) (Has.below X2.out.2 hb3 (Has.lt X2.out.2)))
  have k3_7 : w3.cell? ⟨W.heap.size + 1, 7, none⟩ = some (.int .i64 s.dry) := X3.out.2.cell 7
  clear hb3
  go_wp2_with fail
  refine (H6.out _).mono ?_
  rintro e w95 ⟨rfl, rfl⟩
  go_wp2_with fail
  go_ret
  exact ⟨ret_bool HE.out.symm, X3.out.1⟩
end Go.Proofs.Ytdmpkeaanaoeaaa

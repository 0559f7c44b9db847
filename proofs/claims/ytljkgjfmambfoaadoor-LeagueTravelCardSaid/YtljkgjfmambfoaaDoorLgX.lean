/- Contracts: the document's Valid; large. -/
import Derived.Test.YtljkgjfmambfoaaDoorLgH
namespace Go.Proofs.YtljkgjfmambfoaaDoor
open Go.RowKit Go.Shelf
attribute [local irreducible] wpQuiet
set_option maxRecDepth 100000 in
theorem in_any (n lo hi : Int) (w : World) : Calls Tryd.prog 32 #[.int .i64 n, .int .i64 lo, .int .i64 hi] w fun e w' => e = .returned (.bool (inB n lo hi)) ∧ w' = w := by
  have hn : ∀ c, (decide (lo ≤ n ∧ n ≤ hi) = c) → inB n lo hi = c := fun b h => h
  have h3 : ¬ lo ≤ n ∨ (lo ≤ n ∧ ¬ n ≤ hi) ∨ (lo ≤ n ∧ n ≤ hi) := by omega
  rcases h3 with h0 | ⟨h0, h1⟩ | ⟨h0, h1⟩
  rotate_right
  · have HN := Lib.hid (hn true (by simp; omega))
    clear hn
    go_enter Tryd.func32, Tryd.ntmps32
    go_wp2
    go_ret
    exact ⟨by rw [HN.out]; rfl, rfl⟩
  all_goals
    have HN := Lib.hid (hn false (by simp; omega))
    clear hn
    go_enter Tryd.func32, Tryd.ntmps32
    go_wp2
    go_ret
    exact ⟨by rw [HN.out]; rfl, rfl⟩
theorem game_doc (n : Nat) (g : Gm) : gameB n g = (inB g.day 0 16384 && (inB g.home 0 ((n : Int) - 1) && (inB g.away 0 ((n : Int) - 1) && (!decide (g.home = g.away) && (inB g.fin 0 2 && (decide (g.fin = 0) || (inB g.hg 0 99 && (inB g.ag 0 99 && !decide (g.hg = g.ag))))))))) := by
  unfold gameB teamB goalsB inB
  rw [Bool.eq_iff_iff]
  simp
  omega
set_option maxRecDepth 100000 in
set_option maxHeartbeats 4000000 in
theorem docGame_any (g : Gm) (n : Nat) (W : World) (hn : n ≤ big) : Calls Tryd.prog 48 #[gmv g, .int .i64 (n : Int)] W (BoolPost (gameB n g) W) := by
  have HB : Hid (Below W.heap.size W (W.alloc (.cells (gmc g) 53)) ∧ Has (W.alloc (.cells (gmc g) 53)) W.heap.size 53 (gmc g)) := Lib.hid ⟨below_one _ _, Has.new _ _ _⟩
  have HG := Lib.hid (game_doc n g)
  have H0 := Lib.hid (fun w => in_any g.day 0 16384 w)
  have H1 := Lib.hid (fun w => in_any g.home 0 ((n : Int) - 1) w)
  have H2 := Lib.hid (fun w => in_any g.away 0 ((n : Int) - 1) w)
  have H3 := Lib.hid (fun w => in_any g.fin 0 2 w)
  have H4 := Lib.hid (fun w => in_any g.hg 0 99 w)
  have H5 := Lib.hid (fun w => in_any g.ag 0 99 w)
  have hn' : n ≤ 9223372036854775807 := hn
  clear hn
  unfold gmv
  cases h0 : inB g.day 0 16384 <;> rw [h0] at H0
  · have HE : Hid (gameB n g = false) := Lib.hid (by rw [HG.out, h0]; simp)
    clear HG  h0
    go_enter Tryd.func48, Tryd.ntmps48
    go_upto_region 1 with fail
    generalize W.alloc (.cells (gmc g) 53) = w9 at HB ⊢
    have y0 : w9.cell? ⟨W.heap.size, 0, none⟩ = some (.int .i64 g.day) := HB.out.2.cell 0
    have y1 : w9.cell? ⟨W.heap.size, 1, none⟩ = some (.int .i64 g.home) := HB.out.2.cell 1
    have y2 : w9.cell? ⟨W.heap.size, 2, none⟩ = some (.int .i64 g.away) := HB.out.2.cell 2
    have y3 : w9.cell? ⟨W.heap.size, 3, none⟩ = some (.int .i64 g.fin) := HB.out.2.cell 3
    have y4 : w9.cell? ⟨W.heap.size, 4, none⟩ = some (.int .i64 g.hg) := HB.out.2.cell 4
    have y5 : w9.cell? ⟨W.heap.size, 5, none⟩ = some (.int .i64 g.ag) := HB.out.2.cell 5
    go_wp2_with fail
    refine (H0.out _).mono ?_
    rintro e u0 ⟨rfl, rfl⟩
    go_wp2_with fail
    go_ret
    exact ⟨ret_bool HE.out.symm, HB.out.1⟩
  cases h1 : inB g.home 0 ((n : Int) - 1) <;> rw [h1] at H1
  · have HE : Hid (gameB n g = false) := Lib.hid (by rw [HG.out, h0, h1]; simp)
    clear HG  h0 h1
    go_enter Tryd.func48, Tryd.ntmps48
    go_upto_region 1 with fail
    generalize W.alloc (.cells (gmc g) 53) = w9 at HB ⊢
    have y0 : w9.cell? ⟨W.heap.size, 0, none⟩ = some (.int .i64 g.day) := HB.out.2.cell 0
    have y1 : w9.cell? ⟨W.heap.size, 1, none⟩ = some (.int .i64 g.home) := HB.out.2.cell 1
    have y2 : w9.cell? ⟨W.heap.size, 2, none⟩ = some (.int .i64 g.away) := HB.out.2.cell 2
    have y3 : w9.cell? ⟨W.heap.size, 3, none⟩ = some (.int .i64 g.fin) := HB.out.2.cell 3
    have y4 : w9.cell? ⟨W.heap.size, 4, none⟩ = some (.int .i64 g.hg) := HB.out.2.cell 4
    have y5 : w9.cell? ⟨W.heap.size, 5, none⟩ = some (.int .i64 g.ag) := HB.out.2.cell 5
    go_wp2_with fail
    refine (H0.out _).mono ?_
    rintro e u0 ⟨rfl, rfl⟩
    go_wp2_with fail
    refine (H1.out _).mono ?_
    rintro e u1 ⟨rfl, rfl⟩
    go_wp2_with fail
    go_ret
    exact ⟨ret_bool HE.out.symm, HB.out.1⟩
  cases h2 : inB g.away 0 ((n : Int) - 1) <;> rw [h2] at H2
  · have HE : Hid (gameB n g = false) := Lib.hid (by rw [HG.out, h0, h1, h2]; simp)
    clear HG  h0 h1 h2
    go_enter Tryd.func48, Tryd.ntmps48
    go_upto_region 1 with fail
    generalize W.alloc (.cells (gmc g) 53) = w9 at HB ⊢
    have y0 : w9.cell? ⟨W.heap.size, 0, none⟩ = some (.int .i64 g.day) := HB.out.2.cell 0
    have y1 : w9.cell? ⟨W.heap.size, 1, none⟩ = some (.int .i64 g.home) := HB.out.2.cell 1
    have y2 : w9.cell? ⟨W.heap.size, 2, none⟩ = some (.int .i64 g.away) := HB.out.2.cell 2
    have y3 : w9.cell? ⟨W.heap.size, 3, none⟩ = some (.int .i64 g.fin) := HB.out.2.cell 3
    have y4 : w9.cell? ⟨W.heap.size, 4, none⟩ = some (.int .i64 g.hg) := HB.out.2.cell 4
    have y5 : w9.cell? ⟨W.heap.size, 5, none⟩ = some (.int .i64 g.ag) := HB.out.2.cell 5
    go_wp2_with fail
    refine (H0.out _).mono ?_
    rintro e u0 ⟨rfl, rfl⟩
    go_wp2_with fail
    refine (H1.out _).mono ?_
    rintro e u1 ⟨rfl, rfl⟩
    go_wp2_with fail
    refine (H2.out _).mono ?_
    rintro e u2 ⟨rfl, rfl⟩
    go_wp2_with fail
    go_ret
    exact ⟨ret_bool HE.out.symm, HB.out.1⟩
  by_cases h6 : g.home = g.away
  · have q1 : (g.home == g.away) = true := by simpa using h6
    have HE : Hid (gameB n g = false) := Lib.hid (by rw [HG.out, h0, h1, h2, decide_eq_true h6]; simp)
    clear HG  h0 h1 h2 h6
    go_enter Tryd.func48, Tryd.ntmps48
    go_upto_region 1 with fail
    generalize W.alloc (.cells (gmc g) 53) = w9 at HB ⊢
    have y0 : w9.cell? ⟨W.heap.size, 0, none⟩ = some (.int .i64 g.day) := HB.out.2.cell 0
    have y1 : w9.cell? ⟨W.heap.size, 1, none⟩ = some (.int .i64 g.home) := HB.out.2.cell 1
    have y2 : w9.cell? ⟨W.heap.size, 2, none⟩ = some (.int .i64 g.away) := HB.out.2.cell 2
    have y3 : w9.cell? ⟨W.heap.size, 3, none⟩ = some (.int .i64 g.fin) := HB.out.2.cell 3
    have y4 : w9.cell? ⟨W.heap.size, 4, none⟩ = some (.int .i64 g.hg) := HB.out.2.cell 4
    have y5 : w9.cell? ⟨W.heap.size, 5, none⟩ = some (.int .i64 g.ag) := HB.out.2.cell 5
    go_wp2_with fail
    refine (H0.out _).mono ?_
    rintro e u0 ⟨rfl, rfl⟩
    go_wp2_with fail
    refine (H1.out _).mono ?_
    rintro e u1 ⟨rfl, rfl⟩
    go_wp2_with fail
    refine (H2.out _).mono ?_
    rintro e u2 ⟨rfl, rfl⟩
    go_wp2_with fail
    go_ret
    exact ⟨ret_bool HE.out.symm, HB.out.1⟩
  have q1 : (g.home == g.away) = false := by simpa using h6
  have HG := Lib.hid (show gameB n g = (inB g.fin 0 2 && (decide (g.fin = 0) || (inB g.hg 0 99 && (inB g.ag 0 99 && !decide (g.hg = g.ag))))) from by rw [HG.out, h0, h1, h2, decide_eq_false h6]; simp)
  clear h0 h1 h2 h6
  cases h3 : inB g.fin 0 2 <;> rw [h3] at H3
  · have HE : Hid (gameB n g = false) := Lib.hid (by rw [HG.out, h3]; simp)
    clear HG h3
    go_enter Tryd.func48, Tryd.ntmps48
    go_upto_region 1 with fail
    generalize W.alloc (.cells (gmc g) 53) = w9 at HB ⊢
    have y0 : w9.cell? ⟨W.heap.size, 0, none⟩ = some (.int .i64 g.day) := HB.out.2.cell 0
    have y1 : w9.cell? ⟨W.heap.size, 1, none⟩ = some (.int .i64 g.home) := HB.out.2.cell 1
    have y2 : w9.cell? ⟨W.heap.size, 2, none⟩ = some (.int .i64 g.away) := HB.out.2.cell 2
    have y3 : w9.cell? ⟨W.heap.size, 3, none⟩ = some (.int .i64 g.fin) := HB.out.2.cell 3
    have y4 : w9.cell? ⟨W.heap.size, 4, none⟩ = some (.int .i64 g.hg) := HB.out.2.cell 4
    have y5 : w9.cell? ⟨W.heap.size, 5, none⟩ = some (.int .i64 g.ag) := HB.out.2.cell 5
    go_wp2_with fail
    refine (H0.out _).mono ?_
    rintro e u0 ⟨rfl, rfl⟩
    go_wp2_with fail
    refine (H1.out _).mono ?_
    rintro e u1 ⟨rfl, rfl⟩
    go_wp2_with fail
    refine (H2.out _).mono ?_
    rintro e u2 ⟨rfl, rfl⟩
    go_wp2_with fail
    refine (H3.out _).mono ?_
    rintro e u3 ⟨rfl, rfl⟩
    go_wp2_with fail
    go_ret
    exact ⟨ret_bool HE.out.symm, HB.out.1⟩
  by_cases h7 : g.fin = 0
  · have q2 : (g.fin == 0) = true := by simpa using h7
    have HE : Hid (gameB n g = true) := Lib.hid (by rw [HG.out, h3, decide_eq_true h7]; simp)
    clear HG h3 h7
    go_enter Tryd.func48, Tryd.ntmps48
    go_upto_region 1 with fail
    generalize W.alloc (.cells (gmc g) 53) = w9 at HB ⊢
    have y0 : w9.cell? ⟨W.heap.size, 0, none⟩ = some (.int .i64 g.day) := HB.out.2.cell 0
    have y1 : w9.cell? ⟨W.heap.size, 1, none⟩ = some (.int .i64 g.home) := HB.out.2.cell 1
    have y2 : w9.cell? ⟨W.heap.size, 2, none⟩ = some (.int .i64 g.away) := HB.out.2.cell 2
    have y3 : w9.cell? ⟨W.heap.size, 3, none⟩ = some (.int .i64 g.fin) := HB.out.2.cell 3
    have y4 : w9.cell? ⟨W.heap.size, 4, none⟩ = some (.int .i64 g.hg) := HB.out.2.cell 4
    have y5 : w9.cell? ⟨W.heap.size, 5, none⟩ = some (.int .i64 g.ag) := HB.out.2.cell 5
    go_wp2_with fail
    refine (H0.out _).mono ?_
    rintro e u0 ⟨rfl, rfl⟩
    go_wp2_with fail
    refine (H1.out _).mono ?_
    rintro e u1 ⟨rfl, rfl⟩
    go_wp2_with fail
    refine (H2.out _).mono ?_
    rintro e u2 ⟨rfl, rfl⟩
    go_wp2_with fail
    refine (H3.out _).mono ?_
    rintro e u3 ⟨rfl, rfl⟩
    go_wp2_with fail
    go_ret
    exact ⟨ret_bool HE.out.symm, HB.out.1⟩
  have q2 : (g.fin == 0) = false := by simpa using h7
  have HG := Lib.hid (show gameB n g = (inB g.hg 0 99 && (inB g.ag 0 99 && !decide (g.hg = g.ag))) from by rw [HG.out, h3, decide_eq_false h7]; simp)
  clear h3 h7
  cases h4 : inB g.hg 0 99 <;> rw [h4] at H4
  · have HE : Hid (gameB n g = false) := Lib.hid (by rw [HG.out, h4]; simp)
    clear HG h4
    go_enter Tryd.func48, Tryd.ntmps48
    go_upto_region 1 with fail
    generalize W.alloc (.cells (gmc g) 53) = w9 at HB ⊢
    have y0 : w9.cell? ⟨W.heap.size, 0, none⟩ = some (.int .i64 g.day) := HB.out.2.cell 0
    have y1 : w9.cell? ⟨W.heap.size, 1, none⟩ = some (.int .i64 g.home) := HB.out.2.cell 1
    have y2 : w9.cell? ⟨W.heap.size, 2, none⟩ = some (.int .i64 g.away) := HB.out.2.cell 2
    have y3 : w9.cell? ⟨W.heap.size, 3, none⟩ = some (.int .i64 g.fin) := HB.out.2.cell 3
    have y4 : w9.cell? ⟨W.heap.size, 4, none⟩ = some (.int .i64 g.hg) := HB.out.2.cell 4
    have y5 : w9.cell? ⟨W.heap.size, 5, none⟩ = some (.int .i64 g.ag) := HB.out.2.cell 5
    go_wp2_with fail
    refine (H0.out _).mono ?_
    rintro e u0 ⟨rfl, rfl⟩
    go_wp2_with fail
    refine (H1.out _).mono ?_
    rintro e u1 ⟨rfl, rfl⟩
    go_wp2_with fail
    refine (H2.out _).mono ?_
    rintro e u2 ⟨rfl, rfl⟩
    go_wp2_with fail
    refine (H3.out _).mono ?_
    rintro e u3 ⟨rfl, rfl⟩
    go_wp2_with fail
    refine (H4.out _).mono ?_
    rintro e u4 ⟨rfl, rfl⟩
    go_wp2_with fail
    go_ret
    exact ⟨ret_bool HE.out.symm, HB.out.1⟩
  cases h5 : inB g.ag 0 99 <;> rw [h5] at H5
  · have HE : Hid (gameB n g = false) := Lib.hid (by rw [HG.out, h4, h5]; simp)
    clear HG h4 h5
    go_enter Tryd.func48, Tryd.ntmps48
    go_upto_region 1 with fail
    generalize W.alloc (.cells (gmc g) 53) = w9 at HB ⊢
    have y0 : w9.cell? ⟨W.heap.size, 0, none⟩ = some (.int .i64 g.day) := HB.out.2.cell 0
    have y1 : w9.cell? ⟨W.heap.size, 1, none⟩ = some (.int .i64 g.home) := HB.out.2.cell 1
    have y2 : w9.cell? ⟨W.heap.size, 2, none⟩ = some (.int .i64 g.away) := HB.out.2.cell 2
    have y3 : w9.cell? ⟨W.heap.size, 3, none⟩ = some (.int .i64 g.fin) := HB.out.2.cell 3
    have y4 : w9.cell? ⟨W.heap.size, 4, none⟩ = some (.int .i64 g.hg) := HB.out.2.cell 4
    have y5 : w9.cell? ⟨W.heap.size, 5, none⟩ = some (.int .i64 g.ag) := HB.out.2.cell 5
    go_wp2_with fail
    refine (H0.out _).mono ?_
    rintro e u0 ⟨rfl, rfl⟩
    go_wp2_with fail
    refine (H1.out _).mono ?_
    rintro e u1 ⟨rfl, rfl⟩
    go_wp2_with fail
    refine (H2.out _).mono ?_
    rintro e u2 ⟨rfl, rfl⟩
    go_wp2_with fail
    refine (H3.out _).mono ?_
    rintro e u3 ⟨rfl, rfl⟩
    go_wp2_with fail
    refine (H4.out _).mono ?_
    rintro e u4 ⟨rfl, rfl⟩
    go_wp2_with fail
    refine (H5.out _).mono ?_
    rintro e u5 ⟨rfl, rfl⟩
    go_wp2_with fail
    go_ret
    exact ⟨ret_bool HE.out.symm, HB.out.1⟩
  by_cases h8 : g.hg = g.ag
  · have q3 : (g.hg == g.ag) = true := by simpa using h8
    have q4 : (g.hg != g.ag) = false := by simpa using h8
    have HE : Hid (gameB n g = false) := Lib.hid (by rw [HG.out, h4, h5, decide_eq_true h8]; simp)
    clear HG h4 h5 h8
    go_enter Tryd.func48, Tryd.ntmps48
    go_upto_region 1 with fail
    generalize W.alloc (.cells (gmc g) 53) = w9 at HB ⊢
    have y0 : w9.cell? ⟨W.heap.size, 0, none⟩ = some (.int .i64 g.day) := HB.out.2.cell 0
    have y1 : w9.cell? ⟨W.heap.size, 1, none⟩ = some (.int .i64 g.home) := HB.out.2.cell 1
    have y2 : w9.cell? ⟨W.heap.size, 2, none⟩ = some (.int .i64 g.away) := HB.out.2.cell 2
    have y3 : w9.cell? ⟨W.heap.size, 3, none⟩ = some (.int .i64 g.fin) := HB.out.2.cell 3
    have y4 : w9.cell? ⟨W.heap.size, 4, none⟩ = some (.int .i64 g.hg) := HB.out.2.cell 4
    have y5 : w9.cell? ⟨W.heap.size, 5, none⟩ = some (.int .i64 g.ag) := HB.out.2.cell 5
    go_wp2_with fail
    refine (H0.out _).mono ?_
    rintro e u0 ⟨rfl, rfl⟩
    go_wp2_with fail
    refine (H1.out _).mono ?_
    rintro e u1 ⟨rfl, rfl⟩
    go_wp2_with fail
    refine (H2.out _).mono ?_
    rintro e u2 ⟨rfl, rfl⟩
    go_wp2_with fail
    refine (H3.out _).mono ?_
    rintro e u3 ⟨rfl, rfl⟩
    go_wp2_with fail
    refine (H4.out _).mono ?_
    rintro e u4 ⟨rfl, rfl⟩
    go_wp2_with fail
    refine (H5.out _).mono ?_
    rintro e u5 ⟨rfl, rfl⟩
    go_wp2_with fail
    go_ret
    exact ⟨ret_bool HE.out.symm, HB.out.1⟩
  have q3 : (g.hg == g.ag) = false := by simpa using h8
  have q4 : (g.hg != g.ag) = true := by simpa using h8
  have HE : Hid (gameB n g = true) := Lib.hid (by rw [HG.out, h4, h5, decide_eq_false h8]; simp)
  clear HG h4 h5 h8
  go_enter Tryd.func48, Tryd.ntmps48
  go_upto_region 1 with fail
  generalize W.alloc (.cells (gmc g) 53) = w9 at HB ⊢
  have y0 : w9.cell? ⟨W.heap.size, 0, none⟩ = some (.int .i64 g.day) := HB.out.2.cell 0
  have y1 : w9.cell? ⟨W.heap.size, 1, none⟩ = some (.int .i64 g.home) := HB.out.2.cell 1
  have y2 : w9.cell? ⟨W.heap.size, 2, none⟩ = some (.int .i64 g.away) := HB.out.2.cell 2
  have y3 : w9.cell? ⟨W.heap.size, 3, none⟩ = some (.int .i64 g.fin) := HB.out.2.cell 3
  have y4 : w9.cell? ⟨W.heap.size, 4, none⟩ = some (.int .i64 g.hg) := HB.out.2.cell 4
  have y5 : w9.cell? ⟨W.heap.size, 5, none⟩ = some (.int .i64 g.ag) := HB.out.2.cell 5
  go_wp2_with fail
  refine (H0.out _).mono ?_
  rintro e u0 ⟨rfl, rfl⟩
  go_wp2_with fail
  refine (H1.out _).mono ?_
  rintro e u1 ⟨rfl, rfl⟩
  go_wp2_with fail
  refine (H2.out _).mono ?_
  rintro e u2 ⟨rfl, rfl⟩
  go_wp2_with fail
  refine (H3.out _).mono ?_
  rintro e u3 ⟨rfl, rfl⟩
  go_wp2_with fail
  refine (H4.out _).mono ?_
  rintro e u4 ⟨rfl, rfl⟩
  go_wp2_with fail
  refine (H5.out _).mono ?_
  rintro e u5 ⟨rfl, rfl⟩
  go_wp2_with fail
  go_ret
  exact ⟨ret_bool HE.out.symm, HB.out.1⟩
theorem lg_row {x : Lg} {k : Nat} (hk : k < x.F.length) (h : farRowB x.F.length x.F[k] = false) : lgB x = false := by
  unfold lgB farB
  rw [show (x.F.all fun r => farRowB x.F.length r) = false from List.all_eq_false.2 ⟨x.F[k], List.getElem_mem hk, by rw [h]; decide⟩]
  simp
theorem lg_gam {x : Lg} {k : Nat} (hk : k < x.G.length) (h : gameB x.F.length x.G[k] = false) : lgB x = false := by
  unfold lgB
  rw [show (x.G.all fun g => gameB x.F.length g) = false from List.all_eq_false.2 ⟨x.G[k], List.getElem_mem hk, by rw [h]; decide⟩]
  simp
theorem lg_big {x : Lg} (h : 6 < x.F.length ∨ 64 < x.G.length) : lgB x = false := by
  unfold lgB farB
  rcases h with h | h
  · rw [decide_eq_false (p := x.F.length ≤ 6) (by omega)]; simp
  · rw [decide_eq_false (p := x.G.length ≤ 64) (by omega)]; simp
theorem lg_done {x : Lg} (h1 : x.F.length ≤ 6) (h2 : x.G.length ≤ 64) (hf : ∀ j (hj : j < x.F.length), farRowB x.F.length x.F[j] = true) (hg : ∀ j (hj : j < x.G.length), gameB x.F.length x.G[j] = true) : lgB x = decide (openN x.G ≤ 8) := by
  unfold lgB farB
  rw [decide_eq_true h1, decide_eq_true h2, show (x.F.all fun r => farRowB x.F.length r) = true from by
    rw [List.all_eq_true]
    intro r hr
    obtain ⟨j, hj, rfl⟩ := List.getElem_of_mem hr
    exact hf j hj, show (x.G.all fun g => gameB x.F.length g) = true from by
    rw [List.all_eq_true]
    intro r hr
    obtain ⟨j, hj, rfl⟩ := List.getElem_of_mem hr
    exact hg j hj]
  simp
set_option maxRecDepth 100000 in
set_option maxHeartbeats 4000000 in
theorem docValid11 (x : Lg) (AF AG : Option Addr) (cf cg : Nat) (W : World) (hr : LgR W W.heap.size x AF AG) (hsn : x.F.length ≤ 6) (hsg : x.G.length ≤ 64) :
    Calls Tryd.prog 22 #[lgv x AF AG cf cg] W (BoolPost (lgB x) W) := by
  have HB : Hid (LX W (W.alloc (.cells (lgc x AF AG cf cg) 25)) W.heap.size x AF AG cf cg) := Lib.hid (LX.start hr)
  have HI := Lib.hid (fun n w => in_any n 0 100000 w)
  have HGA := Lib.hid (fun g w => docGame_any g x.F.length w hr.lf)
  have HO := Lib.hid (fun (k : Nat) (h : k < x.G.length) => openN_take h)
  have HOL := Lib.hid (fun k => openN_le (x.G.take k))
  have HRF := Lib.hid (fun k (hk : k < x.F.length) h => lg_row (x := x) (k := k) hk h)
  have HGF := Lib.hid (fun k (hk : k < x.G.length) h => lg_gam (x := x) (k := k) hk h)
  have hlf : x.F.length ≤ 9223372036854775807 := hr.lf
  have hlg : x.G.length ≤ 9223372036854775807 := hr.lg
  have HSM := Lib.hid (And.intro hsn hsg)
  obtain ⟨X, hX⟩ : ∃ X, X = lgB x := ⟨_, rfl⟩
  have HX := Lib.hid hX
  rw [← hX] at HRF HGF ⊢
  clear hr hX
  unfold lgv gmv at *
  go_enter Tryd.func22, Tryd.ntmps22
  go_upto_region 1 with fail
  generalize W.alloc (.cells (lgc x AF AG cf cg) 25) = w9 at HB ⊢
  have x0 : w9.cell? ⟨W.heap.size, 0, none⟩ = some (.slice AF x.F.length cf) := HB.out.fx.cell 0
  have x1 : w9.cell? ⟨W.heap.size, 1, none⟩ = some (.slice AG x.G.length cg) := HB.out.fx.cell 1
  go_wp2_with fail
  go_loopg [4] x.F.length (fun gk i wr => ∃ k : Nat, k ≤ x.F.length ∧ x.F.length - k ≤ gk ∧ i = .int .i64 ((k : Nat) : Int) ∧ wr = w9 ∧ Hid (∀ j (hj : j < x.F.length), j < k → farRowB x.F.length x.F[j] = true))
  case atStart => exact ⟨0, by omega, by omega, rfl, rfl, Lib.hid (fun j _ h => absurd h (by omega))⟩
  case round =>
    obtain ⟨k, hk, hgk, rfl, hw, HW⟩ := hrel
    obtain rfl : w9 = wr := hw.symm
    by_cases hlt : k < x.F.length
    rotate_left
    · have HK : Hid (k = x.F.length) := Lib.hid (by omega)
      have hge : ¬ (k : Int) < x.F.length := by omega
      have HFA := Lib.hid (fun j (hj : j < x.F.length) (h : j < x.F.length) => HW.out j hj (by have := HK.out; omega))
      clear HW HK hlt hgk hk hw
      go_wp2_with fail
      clear x0 x1
      go_loopg [6, 7] x.G.length (fun gk n i wr => ∃ k : Nat, k ≤ x.G.length ∧ x.G.length - k ≤ gk ∧ i = .int .i64 ((k : Nat) : Int) ∧ n = .int .i64 (openN (x.G.take k) : Nat) ∧ Hid (LX W wr W.heap.size x AF AG cf cg) ∧ Hid (∀ j (hj : j < x.G.length), j < k → gameB x.F.length x.G[j] = true))
      case atStart => exact ⟨0, by omega, by omega, rfl, rfl, HB, Lib.hid (fun j _ h => absurd h (by omega))⟩
      case round =>
        clear HB
        obtain ⟨k, hk, hgk, rfl, rfl, HB, HW⟩ := hrel
        have hol : openN (x.G.take k) ≤ 65 := by have := HOL.out k; rw [List.length_take] at this; omega
        have x0 : wr.cell? ⟨W.heap.size, 0, none⟩ = some (.slice AF x.F.length cf) := HB.out.fx.cell 0
        have x1 : wr.cell? ⟨W.heap.size, 1, none⟩ = some (.slice AG x.G.length cg) := HB.out.fx.cell 1
        by_cases hlt : k < x.G.length
        rotate_left
        · have hge : ¬ (k : Int) < x.G.length := by omega
          have HE : Hid (X = decide (openN (x.G.take k) ≤ 8)) := Lib.hid (by
            rw [HX.out, List.take_of_length_le (by omega)]
            exact lg_done HSM.out.1 HSM.out.2 (fun j hj => HFA.out j hj hj) (fun j hj => HW.out j hj (by omega)))
          have s1 : (x.F.length : Int) ≤ 6 := by have := HSM.out.1; omega
          have s2 : (x.G.length : Int) ≤ 64 := by have := HSM.out.2; omega
          clear HW HO
          generalize openN (x.G.take k) = q at HE hol ⊢
          by_cases h8 : (q : Int) ≤ 8
          all_goals
            go_wp2_with fail
            go_ret
            exact ⟨ret_bool (by rw [HE.out]; simp; omega), HB.out.b⟩
        have hlt2 : k < x.G.length := by omega
        have hlt3 : (k : Int) < x.G.length := by omega
        have hlt4 : (k : Int) ≤ 64 := by omega
        obtain ⟨B, o, hg, hgs, hc⟩ := HB.out.r.g k hlt2
        obtain ⟨g, hb⟩ : ∃ g, g = x.G[k] := ⟨_, rfl⟩
        rw [← hb] at hc
        have HOk := Lib.hid (HO.out k hlt2)
        rw [← hb] at HOk
        have HBE := Lib.hid hb
        have c0 : wr.cell? ⟨B, o + k * 6, none⟩ = some (.int .i64 g.day) := hc 0 (by omega)
        have c1 : wr.cell? ⟨B, o + k * 6 + 1, none⟩ = some (.int .i64 g.home) := hc 1 (by omega)
        have c2 : wr.cell? ⟨B, o + k * 6 + 2, none⟩ = some (.int .i64 g.away) := hc 2 (by omega)
        have c3 : wr.cell? ⟨B, o + k * 6 + 3, none⟩ = some (.int .i64 g.fin) := hc 3 (by omega)
        have c4 : wr.cell? ⟨B, o + k * 6 + 4, none⟩ = some (.int .i64 g.hg) := hc 4 (by omega)
        have c5 : wr.cell? ⟨B, o + k * 6 + 5, none⟩ = some (.int .i64 g.ag) := hc 5 (by omega)
        have HC3 := Lib.hid (fun w (hw : Below W.heap.size W w) (h9 : Below W.heap.size W wr) => (show w.cell? ⟨B, o + k * 6 + 3, none⟩ = some (.int .i64 g.fin) from by rw [← c3]; exact (hw.cell (p := ⟨B, _, none⟩) hgs).trans (h9.cell (p := ⟨B, _, none⟩) hgs).symm))
        subst hg
        clear hb hc
        have HGk := Lib.hid (HGA.out g wr)
        cases hgB : gameB x.F.length g <;> rw [hgB] at HGk
        · have HE : Hid (X = false) := Lib.hid (HGF.out k hlt2 (by rw [← HBE.out]; exact hgB))
          clear HBE hgB HOk
          go_wp2_with fail
          refine HGk.out.mono ?_
          rintro e w2 ⟨rfl, hb2⟩
          have HB2 := Lib.hid (HB.out.step hb2)
          clear hb2 x0 x1 c0 c1 c2 c3 c4 c5
          go_wp2_with fail
          go_ret
          exact ⟨ret_bool HE.out.symm, HB2.out.b⟩
        have HN : Hid (∀ j (hj : j < x.G.length), j < k + 1 → gameB x.F.length x.G[j] = true) := Lib.hid fun j hj hjk => by
          rcases Nat.lt_or_ge j k with h' | h'
          · exact HW.out j hj h'
          · have : j = k := by omega
            subst this
            rw [← HBE.out]; exact hgB
        clear HBE hgB HW
        go_wp2_with fail
        refine HGk.out.mono ?_
        rintro e w2 ⟨rfl, hb2⟩
        have HB2 := Lib.hid (HB.out.step hb2)
        clear hb2 x0 x1 c0 c1 c2 c3 c4 c5
        have x1 : w2.cell? ⟨W.heap.size, 1, none⟩ = some (.slice (some ⟨B, o, none⟩) x.G.length cg) := HB2.out.fx.cell 1
        have c3 : w2.cell? ⟨B, o + k * 6 + 3, none⟩ = some (.int .i64 g.fin) := HC3.out w2 HB2.out.b HB.out.b
        obtain ⟨qo, hqo⟩ : ∃ qo, qo = openN (x.G.take k) := ⟨_, rfl⟩
        rw [← hqo] at hol HOk ⊢
        by_cases hop : g.fin = 0
        · have q1 : (g.fin == 0) = true := by simpa using hop
          have HQ : Hid (openN (x.G.take (k + 1)) = qo + 1) := Lib.hid (by rw [HOk.out]; unfold openB; rw [decide_eq_true hop]; rfl)
          clear HOk hop hqo
          go_wp2_with fail
          go_roundg (x.G.length - (k + 1))
          case measure => omega
          case rel => exact ⟨k + 1, by omega, Nat.le_refl _, by go_num, by rw [HQ.out]; go_num, HB2, HN⟩
        · have q1 : (g.fin == 0) = false := by simpa using hop
          have HQ : Hid (openN (x.G.take (k + 1)) = qo) := Lib.hid (by rw [HOk.out]; unfold openB; rw [decide_eq_false hop]; rfl)
          clear HOk hop hqo
          go_wp2_with fail
          go_roundg (x.G.length - (k + 1))
          case measure => omega
          case rel => exact ⟨k + 1, by omega, Nat.le_refl _, by go_num, by rw [HQ.out], HB2, HN⟩
    have hltf : k < x.F.length := by omega
    have hlt2 : (k : Int) < x.F.length := by omega
    have hlt3 : (k : Int) ≤ 6 := by omega
    obtain ⟨g, o, M, m, hg, hc, hm, hml⟩ := farRow_cell HB.out.up.f hltf
    have HM := Lib.hid hm
    have hml' : x.F[k].length ≤ 9223372036854775807 := hml
    obtain ⟨r, hr⟩ : ∃ r, r = x.F[k] := ⟨_, rfl⟩
    rw [← hr] at hc HM hml'
    have HBE := Lib.hid hr
    subst hg
    clear hr hm hml hw
    by_cases hrl : (r.length : Int) = x.F.length
    rotate_left
    · have hrl1 : ((r.length : Int) == x.F.length) = false := by simpa using hrl
      have hrl2 : ((r.length : Int) != x.F.length) = true := by simpa using hrl
      have HE : Hid (X = false) := Lib.hid (HRF.out k hltf (by rw [← HBE.out]; unfold farRowB; rw [decide_eq_false hrl]; rfl))
      clear hrl
      go_wp2_with fail
      go_ret
      exact ⟨ret_bool HE.out.symm, HB.out.b⟩
    have hrl1 : ((r.length : Int) == x.F.length) = true := by simpa using hrl
    have hrl2 : ((r.length : Int) != x.F.length) = false := by simpa using hrl
    have HR : Hid (farRowB x.F.length r = r.all fun n => inB n 0 100000) := Lib.hid (by unfold farRowB; rw [decide_eq_true hrl]; rfl)
    have HRL : Hid (r.length = x.F.length) := Lib.hid (by omega)
    clear hrl
    go_wp2_with fail
    go_loopg [5] x.F.length (fun gq i wr => ∃ q : Nat, q ≤ x.F.length ∧ x.F.length - q ≤ gq ∧ i = .int .i64 ((q : Nat) : Int) ∧ wr = w9 ∧ Hid (∀ j (hj : j < r.length), j < q → inB r[j] 0 100000 = true))
    case atStart => exact ⟨0, Nat.zero_le _, Nat.le_refl _, rfl, rfl, Lib.hid (fun j _ h => absurd h (by omega))⟩
    case round =>
      obtain ⟨q, hq, hgq, rfl, hw, HQ⟩ := hrel
      obtain rfl : w9 = wr := hw.symm
      clear hw
      by_cases hqt : q < x.F.length
      rotate_left
      · have hge : ¬ (q : Int) < x.F.length := by omega
        have HN : Hid (∀ j (hj : j < x.F.length), j < k + 1 → farRowB x.F.length x.F[j] = true) := Lib.hid fun j hj hjk => by
          rcases Nat.lt_or_ge j k with h' | h'
          · exact HW.out j hj h'
          · have : j = k := by omega
            subst this
            rw [← HBE.out, HR.out, List.all_eq_true]
            intro n hn
            obtain ⟨i, hi, rfl⟩ := List.getElem_of_mem hn
            exact HQ.out i hi (by have := HRL.out; omega)
        clear HBE HW HQ
        go_wp2_with fail
        go_roundg (x.F.length - (k + 1))
        case measure => omega
        case rel => exact ⟨k + 1, by omega, Nat.le_refl _, by go_num, rfl, HN⟩
      have hqt2 : (q : Int) < x.F.length := by omega
      have hqr : q < r.length := by have := HRL.out; omega
      have hqr2 : (q : Int) < r.length := by omega
      obtain ⟨g2, o2, hg2, -, hc2⟩ := HM.out q hqr
      obtain ⟨v, hv⟩ : ∃ v, v = r[q] := ⟨_, rfl⟩
      rw [← hv] at hc2
      have HVE := Lib.hid hv
      have HWI := Lib.hid (fun w => HI.out v w)
      subst hg2
      clear hv
      cases hin : inB v 0 100000 <;> rw [hin] at HWI
      · have HE : Hid (X = false) := Lib.hid (HRF.out k hltf (by
          rw [← HBE.out, HR.out, List.all_eq_false]
          exact ⟨r[q], List.getElem_mem hqr, by rw [← HVE.out, hin]; decide⟩))
        clear hin HVE
        go_wp2_with fail
        refine (HWI.out _).mono ?_
        rintro e w2 ⟨rfl, rfl⟩
        go_wp2_with fail
        go_ret
        exact ⟨ret_bool HE.out.symm, HB.out.b⟩
      · have HN : Hid (∀ j (hj : j < r.length), j < q + 1 → inB r[j] 0 100000 = true) := Lib.hid fun j hj hjk => by
          rcases Nat.lt_or_ge j q with h' | h'
          · exact HQ.out j hj h'
          · have : j = q := by omega
            subst this
            rw [← HVE.out]; exact hin
        clear hin HVE HQ
        go_wp2_with fail
        refine (HWI.out _).mono ?_
        rintro e w2 ⟨rfl, rfl⟩
        go_wp2_with fail
        go_roundg (x.F.length - (q + 1))
        case measure => omega
        case rel => exact ⟨q + 1, by omega, Nat.le_refl _, by go_num, rfl, HN⟩
set_option maxRecDepth 100000 in
set_option maxHeartbeats 4000000 in
theorem docValid10 (x : Lg) (AF AG : Option Addr) (cf cg : Nat) (W : World) (hr : LgR W W.heap.size x AF AG) (hsn : x.F.length ≤ 6) (hsg : 64 < x.G.length) :
    Calls Tryd.prog 22 #[lgv x AF AG cf cg] W (BoolPost (lgB x) W) := by
  have HB : Hid (LX W (W.alloc (.cells (lgc x AF AG cf cg) 25)) W.heap.size x AF AG cf cg) := Lib.hid (LX.start hr)
  have HI := Lib.hid (fun n w => in_any n 0 100000 w)
  have HGA := Lib.hid (fun g w => docGame_any g x.F.length w hr.lf)
  have HO := Lib.hid (fun (k : Nat) (h : k < x.G.length) => openN_take h)
  have HOL := Lib.hid (fun k => openN_le (x.G.take k))
  have HRF := Lib.hid (fun k (hk : k < x.F.length) h => lg_row (x := x) (k := k) hk h)
  have HGF := Lib.hid (fun k (hk : k < x.G.length) h => lg_gam (x := x) (k := k) hk h)
  have hlf : x.F.length ≤ 9223372036854775807 := hr.lf
  have hlg : x.G.length ≤ 9223372036854775807 := hr.lg
  have HSM := Lib.hid (And.intro hsn hsg)
  obtain ⟨X, hX⟩ : ∃ X, X = lgB x := ⟨_, rfl⟩
  have HX := Lib.hid hX
  rw [← hX] at HRF HGF ⊢
  clear hr hX
  unfold lgv gmv at *
  go_enter Tryd.func22, Tryd.ntmps22
  go_upto_region 1 with fail
  generalize W.alloc (.cells (lgc x AF AG cf cg) 25) = w9 at HB ⊢
  have x0 : w9.cell? ⟨W.heap.size, 0, none⟩ = some (.slice AF x.F.length cf) := HB.out.fx.cell 0
  have x1 : w9.cell? ⟨W.heap.size, 1, none⟩ = some (.slice AG x.G.length cg) := HB.out.fx.cell 1
  go_wp2_with fail
  go_loopg [4] x.F.length (fun gk i wr => ∃ k : Nat, k ≤ x.F.length ∧ x.F.length - k ≤ gk ∧ i = .int .i64 ((k : Nat) : Int) ∧ wr = w9 ∧ Hid (∀ j (hj : j < x.F.length), j < k → farRowB x.F.length x.F[j] = true))
  case atStart => exact ⟨0, by omega, by omega, rfl, rfl, Lib.hid (fun j _ h => absurd h (by omega))⟩
  case round =>
    obtain ⟨k, hk, hgk, rfl, hw, HW⟩ := hrel
    obtain rfl : w9 = wr := hw.symm
    by_cases hlt : k < x.F.length
    rotate_left
    · have HK : Hid (k = x.F.length) := Lib.hid (by omega)
      have hge : ¬ (k : Int) < x.F.length := by omega
      have HFA := Lib.hid (fun j (hj : j < x.F.length) (h : j < x.F.length) => HW.out j hj (by have := HK.out; omega))
      clear HW HK hlt hgk hk hw
      go_wp2_with fail
      clear x0 x1
      go_loopg [6, 7] 65 (fun gk n i wr => ∃ k : Nat, k ≤ 65 ∧ 65 - k ≤ gk ∧ i = .int .i64 ((k : Nat) : Int) ∧ n = .int .i64 (openN (x.G.take k) : Nat) ∧ Hid (LX W wr W.heap.size x AF AG cf cg) ∧ Hid (∀ j (hj : j < x.G.length), j < k → gameB x.F.length x.G[j] = true))
      case atStart => exact ⟨0, by omega, by omega, rfl, rfl, HB, Lib.hid (fun j _ h => absurd h (by omega))⟩
      case round =>
        clear HB
        obtain ⟨k, hk, hgk, rfl, rfl, HB, HW⟩ := hrel
        have hol : openN (x.G.take k) ≤ 65 := by have := HOL.out k; rw [List.length_take] at this; omega
        have x0 : wr.cell? ⟨W.heap.size, 0, none⟩ = some (.slice AF x.F.length cf) := HB.out.fx.cell 0
        have x1 : wr.cell? ⟨W.heap.size, 1, none⟩ = some (.slice AG x.G.length cg) := HB.out.fx.cell 1
        by_cases hlt : k < 65
        rotate_left
        · have HE : Hid (X = false) := Lib.hid (by rw [HX.out]; exact lg_big (by have := HSM.out; omega))
          have s1 : (x.F.length : Int) ≤ 6 := by have := HSM.out.1; omega
          have s2 : ¬ (x.G.length : Int) ≤ 64 := by have := HSM.out.2; omega
          rcases Nat.lt_or_ge k x.G.length with hge1 | hge0
          · have hge1' : (k : Int) < x.G.length := by omega
            have hge2 : ¬ (k : Int) ≤ 64 := by omega
            clear HW HO
            generalize openN (x.G.take k) = q at hol ⊢
            by_cases h8 : (q : Int) ≤ 8
            all_goals
              go_wp2_with fail
              go_ret
              exact ⟨ret_bool HE.out.symm, HB.out.b⟩
          · have hge : ¬ (k : Int) < x.G.length := by omega
            clear HW HO
            generalize openN (x.G.take k) = q at hol ⊢
            by_cases h8 : (q : Int) ≤ 8
            all_goals
              go_wp2_with fail
              go_ret
              exact ⟨ret_bool HE.out.symm, HB.out.b⟩
        have hlt2 : k < x.G.length := by omega
        have hlt3 : (k : Int) < x.G.length := by omega
        have hlt4 : (k : Int) ≤ 64 := by omega
        obtain ⟨B, o, hg, hgs, hc⟩ := HB.out.r.g k hlt2
        obtain ⟨g, hb⟩ : ∃ g, g = x.G[k] := ⟨_, rfl⟩
        rw [← hb] at hc
        have HOk := Lib.hid (HO.out k hlt2)
        rw [← hb] at HOk
        have HBE := Lib.hid hb
        have c0 : wr.cell? ⟨B, o + k * 6, none⟩ = some (.int .i64 g.day) := hc 0 (by omega)
        have c1 : wr.cell? ⟨B, o + k * 6 + 1, none⟩ = some (.int .i64 g.home) := hc 1 (by omega)
        have c2 : wr.cell? ⟨B, o + k * 6 + 2, none⟩ = some (.int .i64 g.away) := hc 2 (by omega)
        have c3 : wr.cell? ⟨B, o + k * 6 + 3, none⟩ = some (.int .i64 g.fin) := hc 3 (by omega)
        have c4 : wr.cell? ⟨B, o + k * 6 + 4, none⟩ = some (.int .i64 g.hg) := hc 4 (by omega)
        have c5 : wr.cell? ⟨B, o + k * 6 + 5, none⟩ = some (.int .i64 g.ag) := hc 5 (by omega)
        have HC3 := Lib.hid (fun w (hw : Below W.heap.size W w) (h9 : Below W.heap.size W wr) => (show w.cell? ⟨B, o + k * 6 + 3, none⟩ = some (.int .i64 g.fin) from by rw [← c3]; exact (hw.cell (p := ⟨B, _, none⟩) hgs).trans (h9.cell (p := ⟨B, _, none⟩) hgs).symm))
        subst hg
        clear hb hc
        have HGk := Lib.hid (HGA.out g wr)
        cases hgB : gameB x.F.length g <;> rw [hgB] at HGk
        · have HE : Hid (X = false) := Lib.hid (HGF.out k hlt2 (by rw [← HBE.out]; exact hgB))
          clear HBE hgB HOk
          go_wp2_with fail
          refine HGk.out.mono ?_
          rintro e w2 ⟨rfl, hb2⟩
          have HB2 := Lib.hid (HB.out.step hb2)
          clear hb2 x0 x1 c0 c1 c2 c3 c4 c5
          go_wp2_with fail
          go_ret
          exact ⟨ret_bool HE.out.symm, HB2.out.b⟩
        have HN : Hid (∀ j (hj : j < x.G.length), j < k + 1 → gameB x.F.length x.G[j] = true) := Lib.hid fun j hj hjk => by
          rcases Nat.lt_or_ge j k with h' | h'
          · exact HW.out j hj h'
          · have : j = k := by omega
            subst this
            rw [← HBE.out]; exact hgB
        clear HBE hgB HW
        go_wp2_with fail
        refine HGk.out.mono ?_
        rintro e w2 ⟨rfl, hb2⟩
        have HB2 := Lib.hid (HB.out.step hb2)
        clear hb2 x0 x1 c0 c1 c2 c3 c4 c5
        have x1 : w2.cell? ⟨W.heap.size, 1, none⟩ = some (.slice (some ⟨B, o, none⟩) x.G.length cg) := HB2.out.fx.cell 1
        have c3 : w2.cell? ⟨B, o + k * 6 + 3, none⟩ = some (.int .i64 g.fin) := HC3.out w2 HB2.out.b HB.out.b
        obtain ⟨qo, hqo⟩ : ∃ qo, qo = openN (x.G.take k) := ⟨_, rfl⟩
        rw [← hqo] at hol HOk ⊢
        by_cases hop : g.fin = 0
        · have q1 : (g.fin == 0) = true := by simpa using hop
          have HQ : Hid (openN (x.G.take (k + 1)) = qo + 1) := Lib.hid (by rw [HOk.out]; unfold openB; rw [decide_eq_true hop]; rfl)
          clear HOk hop hqo
          go_wp2_with fail
          go_roundg (65 - (k + 1))
          case measure => omega
          case rel => exact ⟨k + 1, by omega, Nat.le_refl _, by go_num, by rw [HQ.out]; go_num, HB2, HN⟩
        · have q1 : (g.fin == 0) = false := by simpa using hop
          have HQ : Hid (openN (x.G.take (k + 1)) = qo) := Lib.hid (by rw [HOk.out]; unfold openB; rw [decide_eq_false hop]; rfl)
          clear HOk hop hqo
          go_wp2_with fail
          go_roundg (65 - (k + 1))
          case measure => omega
          case rel => exact ⟨k + 1, by omega, Nat.le_refl _, by go_num, by rw [HQ.out], HB2, HN⟩
    have hltf : k < x.F.length := by omega
    have hlt2 : (k : Int) < x.F.length := by omega
    have hlt3 : (k : Int) ≤ 6 := by omega
    obtain ⟨g, o, M, m, hg, hc, hm, hml⟩ := farRow_cell HB.out.up.f hltf
    have HM := Lib.hid hm
    have hml' : x.F[k].length ≤ 9223372036854775807 := hml
    obtain ⟨r, hr⟩ : ∃ r, r = x.F[k] := ⟨_, rfl⟩
    rw [← hr] at hc HM hml'
    have HBE := Lib.hid hr
    subst hg
    clear hr hm hml hw
    by_cases hrl : (r.length : Int) = x.F.length
    rotate_left
    · have hrl1 : ((r.length : Int) == x.F.length) = false := by simpa using hrl
      have hrl2 : ((r.length : Int) != x.F.length) = true := by simpa using hrl
      have HE : Hid (X = false) := Lib.hid (HRF.out k hltf (by rw [← HBE.out]; unfold farRowB; rw [decide_eq_false hrl]; rfl))
      clear hrl
      go_wp2_with fail
      go_ret
      exact ⟨ret_bool HE.out.symm, HB.out.b⟩
    have hrl1 : ((r.length : Int) == x.F.length) = true := by simpa using hrl
    have hrl2 : ((r.length : Int) != x.F.length) = false := by simpa using hrl
    have HR : Hid (farRowB x.F.length r = r.all fun n => inB n 0 100000) := Lib.hid (by unfold farRowB; rw [decide_eq_true hrl]; rfl)
    have HRL : Hid (r.length = x.F.length) := Lib.hid (by omega)
    clear hrl
    go_wp2_with fail
    go_loopg [5] x.F.length (fun gq i wr => ∃ q : Nat, q ≤ x.F.length ∧ x.F.length - q ≤ gq ∧ i = .int .i64 ((q : Nat) : Int) ∧ wr = w9 ∧ Hid (∀ j (hj : j < r.length), j < q → inB r[j] 0 100000 = true))
    case atStart => exact ⟨0, Nat.zero_le _, Nat.le_refl _, rfl, rfl, Lib.hid (fun j _ h => absurd h (by omega))⟩
    case round =>
      obtain ⟨q, hq, hgq, rfl, hw, HQ⟩ := hrel
      obtain rfl : w9 = wr := hw.symm
      clear hw
      by_cases hqt : q < x.F.length
      rotate_left
      · have hge : ¬ (q : Int) < x.F.length := by omega
        have HN : Hid (∀ j (hj : j < x.F.length), j < k + 1 → farRowB x.F.length x.F[j] = true) := Lib.hid fun j hj hjk => by
          rcases Nat.lt_or_ge j k with h' | h'
          · exact HW.out j hj h'
          · have : j = k := by omega
            subst this
            rw [← HBE.out, HR.out, List.all_eq_true]
            intro n hn
            obtain ⟨i, hi, rfl⟩ := List.getElem_of_mem hn
            exact HQ.out i hi (by have := HRL.out; omega)
        clear HBE HW HQ
        go_wp2_with fail
        go_roundg (x.F.length - (k + 1))
        case measure => omega
        case rel => exact ⟨k + 1, by omega, Nat.le_refl _, by go_num, rfl, HN⟩
      have hqt2 : (q : Int) < x.F.length := by omega
      have hqr : q < r.length := by have := HRL.out; omega
      have hqr2 : (q : Int) < r.length := by omega
      obtain ⟨g2, o2, hg2, -, hc2⟩ := HM.out q hqr
      obtain ⟨v, hv⟩ : ∃ v, v = r[q] := ⟨_, rfl⟩
      rw [← hv] at hc2
      have HVE := Lib.hid hv
      have HWI := Lib.hid (fun w => HI.out v w)
      subst hg2
      clear hv
      cases hin : inB v 0 100000 <;> rw [hin] at HWI
      · have HE : Hid (X = false) := Lib.hid (HRF.out k hltf (by
          rw [← HBE.out, HR.out, List.all_eq_false]
          exact ⟨r[q], List.getElem_mem hqr, by rw [← HVE.out, hin]; decide⟩))
        clear hin HVE
        go_wp2_with fail
        refine (HWI.out _).mono ?_
        rintro e w2 ⟨rfl, rfl⟩
        go_wp2_with fail
        go_ret
        exact ⟨ret_bool HE.out.symm, HB.out.b⟩
      · have HN : Hid (∀ j (hj : j < r.length), j < q + 1 → inB r[j] 0 100000 = true) := Lib.hid fun j hj hjk => by
          rcases Nat.lt_or_ge j q with h' | h'
          · exact HQ.out j hj h'
          · have : j = q := by omega
            subst this
            rw [← HVE.out]; exact hin
        clear hin HVE HQ
        go_wp2_with fail
        refine (HWI.out _).mono ?_
        rintro e w2 ⟨rfl, rfl⟩
        go_wp2_with fail
        go_roundg (x.F.length - (q + 1))
        case measure => omega
        case rel => exact ⟨q + 1, by omega, Nat.le_refl _, by go_num, rfl, HN⟩
set_option maxRecDepth 100000 in
set_option maxHeartbeats 4000000 in
theorem docValid21 (x : Lg) (AF AG : Option Addr) (cf cg : Nat) (W : World) (hr : LgR W W.heap.size x AF AG) (hsn : 6 < x.F.length ∧ x.F.length ≤ 7) (hsg : x.G.length ≤ 64) :
    Calls Tryd.prog 22 #[lgv x AF AG cf cg] W (BoolPost (lgB x) W) := by
  have HB : Hid (LX W (W.alloc (.cells (lgc x AF AG cf cg) 25)) W.heap.size x AF AG cf cg) := Lib.hid (LX.start hr)
  have HI := Lib.hid (fun n w => in_any n 0 100000 w)
  have HGA := Lib.hid (fun g w => docGame_any g x.F.length w hr.lf)
  have HO := Lib.hid (fun (k : Nat) (h : k < x.G.length) => openN_take h)
  have HOL := Lib.hid (fun k => openN_le (x.G.take k))
  have HRF := Lib.hid (fun k (hk : k < x.F.length) h => lg_row (x := x) (k := k) hk h)
  have HGF := Lib.hid (fun k (hk : k < x.G.length) h => lg_gam (x := x) (k := k) hk h)
  have hlf : x.F.length ≤ 9223372036854775807 := hr.lf
  have hlg : x.G.length ≤ 9223372036854775807 := hr.lg
  have HSM := Lib.hid (And.intro hsn hsg)
  obtain ⟨X, hX⟩ : ∃ X, X = lgB x := ⟨_, rfl⟩
  have HX := Lib.hid hX
  rw [← hX] at HRF HGF ⊢
  clear hr hX
  unfold lgv gmv at *
  go_enter Tryd.func22, Tryd.ntmps22
  go_upto_region 1 with fail
  generalize W.alloc (.cells (lgc x AF AG cf cg) 25) = w9 at HB ⊢
  have x0 : w9.cell? ⟨W.heap.size, 0, none⟩ = some (.slice AF x.F.length cf) := HB.out.fx.cell 0
  have x1 : w9.cell? ⟨W.heap.size, 1, none⟩ = some (.slice AG x.G.length cg) := HB.out.fx.cell 1
  go_wp2_with fail
  go_loopg [4] x.F.length (fun gk i wr => ∃ k : Nat, k ≤ x.F.length ∧ x.F.length - k ≤ gk ∧ i = .int .i64 ((k : Nat) : Int) ∧ wr = w9 ∧ Hid (∀ j (hj : j < x.F.length), j < k → farRowB x.F.length x.F[j] = true))
  case atStart => exact ⟨0, by omega, by omega, rfl, rfl, Lib.hid (fun j _ h => absurd h (by omega))⟩
  case round =>
    obtain ⟨k, hk, hgk, rfl, hw, HW⟩ := hrel
    obtain rfl : w9 = wr := hw.symm
    by_cases hlt : k < x.F.length
    rotate_left
    · have HK : Hid (k = x.F.length) := Lib.hid (by omega)
      have hge : ¬ (k : Int) < x.F.length := by omega
      have HFA := Lib.hid (fun j (hj : j < x.F.length) (h : j < x.F.length) => HW.out j hj (by have := HK.out; omega))
      clear HW HK hlt hgk hk hw
      go_wp2_with fail
      clear x0 x1
      go_loopg [6, 7] x.G.length (fun gk n i wr => ∃ k : Nat, k ≤ x.G.length ∧ x.G.length - k ≤ gk ∧ i = .int .i64 ((k : Nat) : Int) ∧ n = .int .i64 (openN (x.G.take k) : Nat) ∧ Hid (LX W wr W.heap.size x AF AG cf cg) ∧ Hid (∀ j (hj : j < x.G.length), j < k → gameB x.F.length x.G[j] = true))
      case atStart => exact ⟨0, by omega, by omega, rfl, rfl, HB, Lib.hid (fun j _ h => absurd h (by omega))⟩
      case round =>
        clear HB
        obtain ⟨k, hk, hgk, rfl, rfl, HB, HW⟩ := hrel
        have hol : openN (x.G.take k) ≤ 65 := by have := HOL.out k; rw [List.length_take] at this; omega
        have x0 : wr.cell? ⟨W.heap.size, 0, none⟩ = some (.slice AF x.F.length cf) := HB.out.fx.cell 0
        have x1 : wr.cell? ⟨W.heap.size, 1, none⟩ = some (.slice AG x.G.length cg) := HB.out.fx.cell 1
        by_cases hlt : k < x.G.length
        rotate_left
        · have hge : ¬ (k : Int) < x.G.length := by omega
          have HE : Hid (X = false) := Lib.hid (by rw [HX.out]; exact lg_big (by have := HSM.out; omega))
          have s1 : ¬ (x.F.length : Int) ≤ 6 := by have := HSM.out.1; omega
          have s2 : (x.G.length : Int) ≤ 64 := by have := HSM.out.2; omega
          clear HW HO
          generalize openN (x.G.take k) = q at hol ⊢
          by_cases h8 : (q : Int) ≤ 8
          all_goals
            go_wp2_with fail
            go_ret
            exact ⟨ret_bool HE.out.symm, HB.out.b⟩
        have hlt2 : k < x.G.length := by omega
        have hlt3 : (k : Int) < x.G.length := by omega
        have hlt4 : (k : Int) ≤ 64 := by omega
        obtain ⟨B, o, hg, hgs, hc⟩ := HB.out.r.g k hlt2
        obtain ⟨g, hb⟩ : ∃ g, g = x.G[k] := ⟨_, rfl⟩
        rw [← hb] at hc
        have HOk := Lib.hid (HO.out k hlt2)
        rw [← hb] at HOk
        have HBE := Lib.hid hb
        have c0 : wr.cell? ⟨B, o + k * 6, none⟩ = some (.int .i64 g.day) := hc 0 (by omega)
        have c1 : wr.cell? ⟨B, o + k * 6 + 1, none⟩ = some (.int .i64 g.home) := hc 1 (by omega)
        have c2 : wr.cell? ⟨B, o + k * 6 + 2, none⟩ = some (.int .i64 g.away) := hc 2 (by omega)
        have c3 : wr.cell? ⟨B, o + k * 6 + 3, none⟩ = some (.int .i64 g.fin) := hc 3 (by omega)
        have c4 : wr.cell? ⟨B, o + k * 6 + 4, none⟩ = some (.int .i64 g.hg) := hc 4 (by omega)
        have c5 : wr.cell? ⟨B, o + k * 6 + 5, none⟩ = some (.int .i64 g.ag) := hc 5 (by omega)
        have HC3 := Lib.hid (fun w (hw : Below W.heap.size W w) (h9 : Below W.heap.size W wr) => (show w.cell? ⟨B, o + k * 6 + 3, none⟩ = some (.int .i64 g.fin) from by rw [← c3]; exact (hw.cell (p := ⟨B, _, none⟩) hgs).trans (h9.cell (p := ⟨B, _, none⟩) hgs).symm))
        subst hg
        clear hb hc
        have HGk := Lib.hid (HGA.out g wr)
        cases hgB : gameB x.F.length g <;> rw [hgB] at HGk
        · have HE : Hid (X = false) := Lib.hid (HGF.out k hlt2 (by rw [← HBE.out]; exact hgB))
          clear HBE hgB HOk
          go_wp2_with fail
          refine HGk.out.mono ?_
          rintro e w2 ⟨rfl, hb2⟩
          have HB2 := Lib.hid (HB.out.step hb2)
          clear hb2 x0 x1 c0 c1 c2 c3 c4 c5
          go_wp2_with fail
          go_ret
          exact ⟨ret_bool HE.out.symm, HB2.out.b⟩
        have HN : Hid (∀ j (hj : j < x.G.length), j < k + 1 → gameB x.F.length x.G[j] = true) := Lib.hid fun j hj hjk => by
          rcases Nat.lt_or_ge j k with h' | h'
          · exact HW.out j hj h'
          · have : j = k := by omega
            subst this
            rw [← HBE.out]; exact hgB
        clear HBE hgB HW
        go_wp2_with fail
        refine HGk.out.mono ?_
        rintro e w2 ⟨rfl, hb2⟩
        have HB2 := Lib.hid (HB.out.step hb2)
        clear hb2 x0 x1 c0 c1 c2 c3 c4 c5
        have x1 : w2.cell? ⟨W.heap.size, 1, none⟩ = some (.slice (some ⟨B, o, none⟩) x.G.length cg) := HB2.out.fx.cell 1
        have c3 : w2.cell? ⟨B, o + k * 6 + 3, none⟩ = some (.int .i64 g.fin) := HC3.out w2 HB2.out.b HB.out.b
        obtain ⟨qo, hqo⟩ : ∃ qo, qo = openN (x.G.take k) := ⟨_, rfl⟩
        rw [← hqo] at hol HOk ⊢
        by_cases hop : g.fin = 0
        · have q1 : (g.fin == 0) = true := by simpa using hop
          have HQ : Hid (openN (x.G.take (k + 1)) = qo + 1) := Lib.hid (by rw [HOk.out]; unfold openB; rw [decide_eq_true hop]; rfl)
          clear HOk hop hqo
          go_wp2_with fail
          go_roundg (x.G.length - (k + 1))
          case measure => omega
          case rel => exact ⟨k + 1, by omega, Nat.le_refl _, by go_num, by rw [HQ.out]; go_num, HB2, HN⟩
        · have q1 : (g.fin == 0) = false := by simpa using hop
          have HQ : Hid (openN (x.G.take (k + 1)) = qo) := Lib.hid (by rw [HOk.out]; unfold openB; rw [decide_eq_false hop]; rfl)
          clear HOk hop hqo
          go_wp2_with fail
          go_roundg (x.G.length - (k + 1))
          case measure => omega
          case rel => exact ⟨k + 1, by omega, Nat.le_refl _, by go_num, by rw [HQ.out], HB2, HN⟩
    have hltf : k < x.F.length := by omega
    have hlt2 : (k : Int) < x.F.length := by omega
    have hlt3 : (k : Int) ≤ 6 := by omega
    obtain ⟨g, o, M, m, hg, hc, hm, hml⟩ := farRow_cell HB.out.up.f hltf
    have HM := Lib.hid hm
    have hml' : x.F[k].length ≤ 9223372036854775807 := hml
    obtain ⟨r, hr⟩ : ∃ r, r = x.F[k] := ⟨_, rfl⟩
    rw [← hr] at hc HM hml'
    have HBE := Lib.hid hr
    subst hg
    clear hr hm hml hw
    by_cases hrl : (r.length : Int) = x.F.length
    rotate_left
    · have hrl1 : ((r.length : Int) == x.F.length) = false := by simpa using hrl
      have hrl2 : ((r.length : Int) != x.F.length) = true := by simpa using hrl
      have HE : Hid (X = false) := Lib.hid (HRF.out k hltf (by rw [← HBE.out]; unfold farRowB; rw [decide_eq_false hrl]; rfl))
      clear hrl
      go_wp2_with fail
      go_ret
      exact ⟨ret_bool HE.out.symm, HB.out.b⟩
    have hrl1 : ((r.length : Int) == x.F.length) = true := by simpa using hrl
    have hrl2 : ((r.length : Int) != x.F.length) = false := by simpa using hrl
    have HR : Hid (farRowB x.F.length r = r.all fun n => inB n 0 100000) := Lib.hid (by unfold farRowB; rw [decide_eq_true hrl]; rfl)
    have HRL : Hid (r.length = x.F.length) := Lib.hid (by omega)
    clear hrl
    go_wp2_with fail
    go_loopg [5] x.F.length (fun gq i wr => ∃ q : Nat, q ≤ x.F.length ∧ x.F.length - q ≤ gq ∧ i = .int .i64 ((q : Nat) : Int) ∧ wr = w9 ∧ Hid (∀ j (hj : j < r.length), j < q → inB r[j] 0 100000 = true))
    case atStart => exact ⟨0, Nat.zero_le _, Nat.le_refl _, rfl, rfl, Lib.hid (fun j _ h => absurd h (by omega))⟩
    case round =>
      obtain ⟨q, hq, hgq, rfl, hw, HQ⟩ := hrel
      obtain rfl : w9 = wr := hw.symm
      clear hw
      by_cases hqt : q < x.F.length
      rotate_left
      · have hge : ¬ (q : Int) < x.F.length := by omega
        have HN : Hid (∀ j (hj : j < x.F.length), j < k + 1 → farRowB x.F.length x.F[j] = true) := Lib.hid fun j hj hjk => by
          rcases Nat.lt_or_ge j k with h' | h'
          · exact HW.out j hj h'
          · have : j = k := by omega
            subst this
            rw [← HBE.out, HR.out, List.all_eq_true]
            intro n hn
            obtain ⟨i, hi, rfl⟩ := List.getElem_of_mem hn
            exact HQ.out i hi (by have := HRL.out; omega)
        clear HBE HW HQ
        go_wp2_with fail
        go_roundg (x.F.length - (k + 1))
        case measure => omega
        case rel => exact ⟨k + 1, by omega, Nat.le_refl _, by go_num, rfl, HN⟩
      have hqt2 : (q : Int) < x.F.length := by omega
      have hqr : q < r.length := by have := HRL.out; omega
      have hqr2 : (q : Int) < r.length := by omega
      obtain ⟨g2, o2, hg2, -, hc2⟩ := HM.out q hqr
      obtain ⟨v, hv⟩ : ∃ v, v = r[q] := ⟨_, rfl⟩
      rw [← hv] at hc2
      have HVE := Lib.hid hv
      have HWI := Lib.hid (fun w => HI.out v w)
      subst hg2
      clear hv
      cases hin : inB v 0 100000 <;> rw [hin] at HWI
      · have HE : Hid (X = false) := Lib.hid (HRF.out k hltf (by
          rw [← HBE.out, HR.out, List.all_eq_false]
          exact ⟨r[q], List.getElem_mem hqr, by rw [← HVE.out, hin]; decide⟩))
        clear hin HVE
        go_wp2_with fail
        refine (HWI.out _).mono ?_
        rintro e w2 ⟨rfl, rfl⟩
        go_wp2_with fail
        go_ret
        exact ⟨ret_bool HE.out.symm, HB.out.b⟩
      · have HN : Hid (∀ j (hj : j < r.length), j < q + 1 → inB r[j] 0 100000 = true) := Lib.hid fun j hj hjk => by
          rcases Nat.lt_or_ge j q with h' | h'
          · exact HQ.out j hj h'
          · have : j = q := by omega
            subst this
            rw [← HVE.out]; exact hin
        clear hin HVE HQ
        go_wp2_with fail
        refine (HWI.out _).mono ?_
        rintro e w2 ⟨rfl, rfl⟩
        go_wp2_with fail
        go_roundg (x.F.length - (q + 1))
        case measure => omega
        case rel => exact ⟨q + 1, by omega, Nat.le_refl _, by go_num, rfl, HN⟩
set_option maxRecDepth 100000 in
set_option maxHeartbeats 4000000 in
theorem docValid20 (x : Lg) (AF AG : Option Addr) (cf cg : Nat) (W : World) (hr : LgR W W.heap.size x AF AG) (hsn : 6 < x.F.length ∧ x.F.length ≤ 7) (hsg : 64 < x.G.length) :
    Calls Tryd.prog 22 #[lgv x AF AG cf cg] W (BoolPost (lgB x) W) := by
  have HB : Hid (LX W (W.alloc (.cells (lgc x AF AG cf cg) 25)) W.heap.size x AF AG cf cg) := Lib.hid (LX.start hr)
  have HI := Lib.hid (fun n w => in_any n 0 100000 w)
  have HGA := Lib.hid (fun g w => docGame_any g x.F.length w hr.lf)
  have HO := Lib.hid (fun (k : Nat) (h : k < x.G.length) => openN_take h)
  have HOL := Lib.hid (fun k => openN_le (x.G.take k))
  have HRF := Lib.hid (fun k (hk : k < x.F.length) h => lg_row (x := x) (k := k) hk h)
  have HGF := Lib.hid (fun k (hk : k < x.G.length) h => lg_gam (x := x) (k := k) hk h)
  have hlf : x.F.length ≤ 9223372036854775807 := hr.lf
  have hlg : x.G.length ≤ 9223372036854775807 := hr.lg
  have HSM := Lib.hid (And.intro hsn hsg)
  obtain ⟨X, hX⟩ : ∃ X, X = lgB x := ⟨_, rfl⟩
  have HX := Lib.hid hX
  rw [← hX] at HRF HGF ⊢
  clear hr hX
  unfold lgv gmv at *
  go_enter Tryd.func22, Tryd.ntmps22
  go_upto_region 1 with fail
  generalize W.alloc (.cells (lgc x AF AG cf cg) 25) = w9 at HB ⊢
  have x0 : w9.cell? ⟨W.heap.size, 0, none⟩ = some (.slice AF x.F.length cf) := HB.out.fx.cell 0
  have x1 : w9.cell? ⟨W.heap.size, 1, none⟩ = some (.slice AG x.G.length cg) := HB.out.fx.cell 1
  go_wp2_with fail
  go_loopg [4] x.F.length (fun gk i wr => ∃ k : Nat, k ≤ x.F.length ∧ x.F.length - k ≤ gk ∧ i = .int .i64 ((k : Nat) : Int) ∧ wr = w9 ∧ Hid (∀ j (hj : j < x.F.length), j < k → farRowB x.F.length x.F[j] = true))
  case atStart => exact ⟨0, by omega, by omega, rfl, rfl, Lib.hid (fun j _ h => absurd h (by omega))⟩
  case round =>
    obtain ⟨k, hk, hgk, rfl, hw, HW⟩ := hrel
    obtain rfl : w9 = wr := hw.symm
    by_cases hlt : k < x.F.length
    rotate_left
    · have HK : Hid (k = x.F.length) := Lib.hid (by omega)
      have hge : ¬ (k : Int) < x.F.length := by omega
      have HFA := Lib.hid (fun j (hj : j < x.F.length) (h : j < x.F.length) => HW.out j hj (by have := HK.out; omega))
      clear HW HK hlt hgk hk hw
      go_wp2_with fail
      clear x0 x1
      go_loopg [6, 7] 65 (fun gk n i wr => ∃ k : Nat, k ≤ 65 ∧ 65 - k ≤ gk ∧ i = .int .i64 ((k : Nat) : Int) ∧ n = .int .i64 (openN (x.G.take k) : Nat) ∧ Hid (LX W wr W.heap.size x AF AG cf cg) ∧ Hid (∀ j (hj : j < x.G.length), j < k → gameB x.F.length x.G[j] = true))
      case atStart => exact ⟨0, by omega, by omega, rfl, rfl, HB, Lib.hid (fun j _ h => absurd h (by omega))⟩
      case round =>
        clear HB
        obtain ⟨k, hk, hgk, rfl, rfl, HB, HW⟩ := hrel
        have hol : openN (x.G.take k) ≤ 65 := by have := HOL.out k; rw [List.length_take] at this; omega
        have x0 : wr.cell? ⟨W.heap.size, 0, none⟩ = some (.slice AF x.F.length cf) := HB.out.fx.cell 0
        have x1 : wr.cell? ⟨W.heap.size, 1, none⟩ = some (.slice AG x.G.length cg) := HB.out.fx.cell 1
        by_cases hlt : k < 65
        rotate_left
        · have HE : Hid (X = false) := Lib.hid (by rw [HX.out]; exact lg_big (by have := HSM.out; omega))
          have s1 : ¬ (x.F.length : Int) ≤ 6 := by have := HSM.out.1; omega
          have s2 : ¬ (x.G.length : Int) ≤ 64 := by have := HSM.out.2; omega
          rcases Nat.lt_or_ge k x.G.length with hge1 | hge0
          · have hge1' : (k : Int) < x.G.length := by omega
            have hge2 : ¬ (k : Int) ≤ 64 := by omega
            clear HW HO
            generalize openN (x.G.take k) = q at hol ⊢
            by_cases h8 : (q : Int) ≤ 8
            all_goals
              go_wp2_with fail
              go_ret
              exact ⟨ret_bool HE.out.symm, HB.out.b⟩
          · have hge : ¬ (k : Int) < x.G.length := by omega
            clear HW HO
            generalize openN (x.G.take k) = q at hol ⊢
            by_cases h8 : (q : Int) ≤ 8
            all_goals
              go_wp2_with fail
              go_ret
              exact ⟨ret_bool HE.out.symm, HB.out.b⟩
        have hlt2 : k < x.G.length := by omega
        have hlt3 : (k : Int) < x.G.length := by omega
        have hlt4 : (k : Int) ≤ 64 := by omega
        obtain ⟨B, o, hg, hgs, hc⟩ := HB.out.r.g k hlt2
        obtain ⟨g, hb⟩ : ∃ g, g = x.G[k] := ⟨_, rfl⟩
        rw [← hb] at hc
        have HOk := Lib.hid (HO.out k hlt2)
        rw [← hb] at HOk
        have HBE := Lib.hid hb
        have c0 : wr.cell? ⟨B, o + k * 6, none⟩ = some (.int .i64 g.day) := hc 0 (by omega)
        have c1 : wr.cell? ⟨B, o + k * 6 + 1, none⟩ = some (.int .i64 g.home) := hc 1 (by omega)
        have c2 : wr.cell? ⟨B, o + k * 6 + 2, none⟩ = some (.int .i64 g.away) := hc 2 (by omega)
        have c3 : wr.cell? ⟨B, o + k * 6 + 3, none⟩ = some (.int .i64 g.fin) := hc 3 (by omega)
        have c4 : wr.cell? ⟨B, o + k * 6 + 4, none⟩ = some (.int .i64 g.hg) := hc 4 (by omega)
        have c5 : wr.cell? ⟨B, o + k * 6 + 5, none⟩ = some (.int .i64 g.ag) := hc 5 (by omega)
        have HC3 := Lib.hid (fun w (hw : Below W.heap.size W w) (h9 : Below W.heap.size W wr) => (show w.cell? ⟨B, o + k * 6 + 3, none⟩ = some (.int .i64 g.fin) from by rw [← c3]; exact (hw.cell (p := ⟨B, _, none⟩) hgs).trans (h9.cell (p := ⟨B, _, none⟩) hgs).symm))
        subst hg
        clear hb hc
        have HGk := Lib.hid (HGA.out g wr)
        cases hgB : gameB x.F.length g <;> rw [hgB] at HGk
        · have HE : Hid (X = false) := Lib.hid (HGF.out k hlt2 (by rw [← HBE.out]; exact hgB))
          clear HBE hgB HOk
          go_wp2_with fail
          refine HGk.out.mono ?_
          rintro e w2 ⟨rfl, hb2⟩
          have HB2 := Lib.hid (HB.out.step hb2)
          clear hb2 x0 x1 c0 c1 c2 c3 c4 c5
          go_wp2_with fail
          go_ret
          exact ⟨ret_bool HE.out.symm, HB2.out.b⟩
        have HN : Hid (∀ j (hj : j < x.G.length), j < k + 1 → gameB x.F.length x.G[j] = true) := Lib.hid fun j hj hjk => by
          rcases Nat.lt_or_ge j k with h' | h'
          · exact HW.out j hj h'
          · have : j = k := by omega
            subst this
            rw [← HBE.out]; exact hgB
        clear HBE hgB HW
        go_wp2_with fail
        refine HGk.out.mono ?_
        rintro e w2 ⟨rfl, hb2⟩
        have HB2 := Lib.hid (HB.out.step hb2)
        clear hb2 x0 x1 c0 c1 c2 c3 c4 c5
        have x1 : w2.cell? ⟨W.heap.size, 1, none⟩ = some (.slice (some ⟨B, o, none⟩) x.G.length cg) := HB2.out.fx.cell 1
        have c3 : w2.cell? ⟨B, o + k * 6 + 3, none⟩ = some (.int .i64 g.fin) := HC3.out w2 HB2.out.b HB.out.b
        obtain ⟨qo, hqo⟩ : ∃ qo, qo = openN (x.G.take k) := ⟨_, rfl⟩
        rw [← hqo] at hol HOk ⊢
        by_cases hop : g.fin = 0
        · have q1 : (g.fin == 0) = true := by simpa using hop
          have HQ : Hid (openN (x.G.take (k + 1)) = qo + 1) := Lib.hid (by rw [HOk.out]; unfold openB; rw [decide_eq_true hop]; rfl)
          clear HOk hop hqo
          go_wp2_with fail
          go_roundg (65 - (k + 1))
          case measure => omega
          case rel => exact ⟨k + 1, by omega, Nat.le_refl _, by go_num, by rw [HQ.out]; go_num, HB2, HN⟩
        · have q1 : (g.fin == 0) = false := by simpa using hop
          have HQ : Hid (openN (x.G.take (k + 1)) = qo) := Lib.hid (by rw [HOk.out]; unfold openB; rw [decide_eq_false hop]; rfl)
          clear HOk hop hqo
          go_wp2_with fail
          go_roundg (65 - (k + 1))
          case measure => omega
          case rel => exact ⟨k + 1, by omega, Nat.le_refl _, by go_num, by rw [HQ.out], HB2, HN⟩
    have hltf : k < x.F.length := by omega
    have hlt2 : (k : Int) < x.F.length := by omega
    have hlt3 : (k : Int) ≤ 6 := by omega
    obtain ⟨g, o, M, m, hg, hc, hm, hml⟩ := farRow_cell HB.out.up.f hltf
    have HM := Lib.hid hm
    have hml' : x.F[k].length ≤ 9223372036854775807 := hml
    obtain ⟨r, hr⟩ : ∃ r, r = x.F[k] := ⟨_, rfl⟩
    rw [← hr] at hc HM hml'
    have HBE := Lib.hid hr
    subst hg
    clear hr hm hml hw
    by_cases hrl : (r.length : Int) = x.F.length
    rotate_left
    · have hrl1 : ((r.length : Int) == x.F.length) = false := by simpa using hrl
      have hrl2 : ((r.length : Int) != x.F.length) = true := by simpa using hrl
      have HE : Hid (X = false) := Lib.hid (HRF.out k hltf (by rw [← HBE.out]; unfold farRowB; rw [decide_eq_false hrl]; rfl))
      clear hrl
      go_wp2_with fail
      go_ret
      exact ⟨ret_bool HE.out.symm, HB.out.b⟩
    have hrl1 : ((r.length : Int) == x.F.length) = true := by simpa using hrl
    have hrl2 : ((r.length : Int) != x.F.length) = false := by simpa using hrl
    have HR : Hid (farRowB x.F.length r = r.all fun n => inB n 0 100000) := Lib.hid (by unfold farRowB; rw [decide_eq_true hrl]; rfl)
    have HRL : Hid (r.length = x.F.length) := Lib.hid (by omega)
    clear hrl
    go_wp2_with fail
    go_loopg [5] x.F.length (fun gq i wr => ∃ q : Nat, q ≤ x.F.length ∧ x.F.length - q ≤ gq ∧ i = .int .i64 ((q : Nat) : Int) ∧ wr = w9 ∧ Hid (∀ j (hj : j < r.length), j < q → inB r[j] 0 100000 = true))
    case atStart => exact ⟨0, Nat.zero_le _, Nat.le_refl _, rfl, rfl, Lib.hid (fun j _ h => absurd h (by omega))⟩
    case round =>
      obtain ⟨q, hq, hgq, rfl, hw, HQ⟩ := hrel
      obtain rfl : w9 = wr := hw.symm
      clear hw
      by_cases hqt : q < x.F.length
      rotate_left
      · have hge : ¬ (q : Int) < x.F.length := by omega
        have HN : Hid (∀ j (hj : j < x.F.length), j < k + 1 → farRowB x.F.length x.F[j] = true) := Lib.hid fun j hj hjk => by
          rcases Nat.lt_or_ge j k with h' | h'
          · exact HW.out j hj h'
          · have : j = k := by omega
            subst this
            rw [← HBE.out, HR.out, List.all_eq_true]
            intro n hn
            obtain ⟨i, hi, rfl⟩ := List.getElem_of_mem hn
            exact HQ.out i hi (by have := HRL.out; omega)
        clear HBE HW HQ
        go_wp2_with fail
        go_roundg (x.F.length - (k + 1))
        case measure => omega
        case rel => exact ⟨k + 1, by omega, Nat.le_refl _, by go_num, rfl, HN⟩
      have hqt2 : (q : Int) < x.F.length := by omega
      have hqr : q < r.length := by have := HRL.out; omega
      have hqr2 : (q : Int) < r.length := by omega
      obtain ⟨g2, o2, hg2, -, hc2⟩ := HM.out q hqr
      obtain ⟨v, hv⟩ : ∃ v, v = r[q] := ⟨_, rfl⟩
      rw [← hv] at hc2
      have HVE := Lib.hid hv
      have HWI := Lib.hid (fun w => HI.out v w)
      subst hg2
      clear hv
      cases hin : inB v 0 100000 <;> rw [hin] at HWI
      · have HE : Hid (X = false) := Lib.hid (HRF.out k hltf (by
          rw [← HBE.out, HR.out, List.all_eq_false]
          exact ⟨r[q], List.getElem_mem hqr, by rw [← HVE.out, hin]; decide⟩))
        clear hin HVE
        go_wp2_with fail
        refine (HWI.out _).mono ?_
        rintro e w2 ⟨rfl, rfl⟩
        go_wp2_with fail
        go_ret
        exact ⟨ret_bool HE.out.symm, HB.out.b⟩
      · have HN : Hid (∀ j (hj : j < r.length), j < q + 1 → inB r[j] 0 100000 = true) := Lib.hid fun j hj hjk => by
          rcases Nat.lt_or_ge j q with h' | h'
          · exact HQ.out j hj h'
          · have : j = q := by omega
            subst this
            rw [← HVE.out]; exact hin
        clear hin HVE HQ
        go_wp2_with fail
        refine (HWI.out _).mono ?_
        rintro e w2 ⟨rfl, rfl⟩
        go_wp2_with fail
        go_roundg (x.F.length - (q + 1))
        case measure => omega
        case rel => exact ⟨q + 1, by omega, Nat.le_refl _, by go_num, rfl, HN⟩
set_option maxRecDepth 100000 in
set_option maxHeartbeats 4000000 in
theorem docValid01 (x : Lg) (AF AG : Option Addr) (cf cg : Nat) (W : World) (hr : LgR W W.heap.size x AF AG) (hsn : 7 < x.F.length) (hsg : x.G.length ≤ 64) :
    Calls Tryd.prog 22 #[lgv x AF AG cf cg] W (BoolPost (lgB x) W) := by
  have HB : Hid (LX W (W.alloc (.cells (lgc x AF AG cf cg) 25)) W.heap.size x AF AG cf cg) := Lib.hid (LX.start hr)
  have HI := Lib.hid (fun n w => in_any n 0 100000 w)
  have HGA := Lib.hid (fun g w => docGame_any g x.F.length w hr.lf)
  have HO := Lib.hid (fun (k : Nat) (h : k < x.G.length) => openN_take h)
  have HOL := Lib.hid (fun k => openN_le (x.G.take k))
  have HRF := Lib.hid (fun k (hk : k < x.F.length) h => lg_row (x := x) (k := k) hk h)
  have HGF := Lib.hid (fun k (hk : k < x.G.length) h => lg_gam (x := x) (k := k) hk h)
  have hlf : x.F.length ≤ 9223372036854775807 := hr.lf
  have hlg : x.G.length ≤ 9223372036854775807 := hr.lg
  have HSM := Lib.hid (And.intro hsn hsg)
  obtain ⟨X, hX⟩ : ∃ X, X = lgB x := ⟨_, rfl⟩
  have HX := Lib.hid hX
  rw [← hX] at HRF HGF ⊢
  clear hr hX
  unfold lgv gmv at *
  go_enter Tryd.func22, Tryd.ntmps22
  go_upto_region 1 with fail
  generalize W.alloc (.cells (lgc x AF AG cf cg) 25) = w9 at HB ⊢
  have x0 : w9.cell? ⟨W.heap.size, 0, none⟩ = some (.slice AF x.F.length cf) := HB.out.fx.cell 0
  have x1 : w9.cell? ⟨W.heap.size, 1, none⟩ = some (.slice AG x.G.length cg) := HB.out.fx.cell 1
  go_wp2_with fail
  go_loopg [4] 7 (fun gk i wr => ∃ k : Nat, k ≤ 7 ∧ 7 - k ≤ gk ∧ i = .int .i64 ((k : Nat) : Int) ∧ wr = w9 ∧ Hid (∀ j (hj : j < x.F.length), j < k → farRowB x.F.length x.F[j] = true))
  case atStart => exact ⟨0, by omega, by omega, rfl, rfl, Lib.hid (fun j _ h => absurd h (by omega))⟩
  case round =>
    obtain ⟨k, hk, hgk, rfl, hw, HW⟩ := hrel
    obtain rfl : w9 = wr := hw.symm
    by_cases hlt : k < 7
    rotate_left
    · have HK : Hid (k = 7) := Lib.hid (by omega)
      have hge1 : (k : Int) < x.F.length := by omega
      have hge2 : ¬ (k : Int) ≤ 6 := by omega
      have HFA := Lib.hid (fun j (hj : j < x.F.length) (h : j < 7) => HW.out j hj (by have := HK.out; omega))
      clear HW HK hlt hgk hk hw
      go_wp2_with fail
      clear x0 x1
      go_loopg [6, 7] x.G.length (fun gk n i wr => ∃ k : Nat, k ≤ x.G.length ∧ x.G.length - k ≤ gk ∧ i = .int .i64 ((k : Nat) : Int) ∧ n = .int .i64 (openN (x.G.take k) : Nat) ∧ Hid (LX W wr W.heap.size x AF AG cf cg) ∧ Hid (∀ j (hj : j < x.G.length), j < k → gameB x.F.length x.G[j] = true))
      case atStart => exact ⟨0, by omega, by omega, rfl, rfl, HB, Lib.hid (fun j _ h => absurd h (by omega))⟩
      case round =>
        clear HB
        obtain ⟨k, hk, hgk, rfl, rfl, HB, HW⟩ := hrel
        have hol : openN (x.G.take k) ≤ 65 := by have := HOL.out k; rw [List.length_take] at this; omega
        have x0 : wr.cell? ⟨W.heap.size, 0, none⟩ = some (.slice AF x.F.length cf) := HB.out.fx.cell 0
        have x1 : wr.cell? ⟨W.heap.size, 1, none⟩ = some (.slice AG x.G.length cg) := HB.out.fx.cell 1
        by_cases hlt : k < x.G.length
        rotate_left
        · have hge : ¬ (k : Int) < x.G.length := by omega
          have HE : Hid (X = false) := Lib.hid (by rw [HX.out]; exact lg_big (by have := HSM.out; omega))
          have s1 : ¬ (x.F.length : Int) ≤ 6 := by have := HSM.out.1; omega
          have s2 : (x.G.length : Int) ≤ 64 := by have := HSM.out.2; omega
          clear HW HO
          generalize openN (x.G.take k) = q at hol ⊢
          by_cases h8 : (q : Int) ≤ 8
          all_goals
            go_wp2_with fail
            go_ret
            exact ⟨ret_bool HE.out.symm, HB.out.b⟩
        have hlt2 : k < x.G.length := by omega
        have hlt3 : (k : Int) < x.G.length := by omega
        have hlt4 : (k : Int) ≤ 64 := by omega
        obtain ⟨B, o, hg, hgs, hc⟩ := HB.out.r.g k hlt2
        obtain ⟨g, hb⟩ : ∃ g, g = x.G[k] := ⟨_, rfl⟩
        rw [← hb] at hc
        have HOk := Lib.hid (HO.out k hlt2)
        rw [← hb] at HOk
        have HBE := Lib.hid hb
        have c0 : wr.cell? ⟨B, o + k * 6, none⟩ = some (.int .i64 g.day) := hc 0 (by omega)
        have c1 : wr.cell? ⟨B, o + k * 6 + 1, none⟩ = some (.int .i64 g.home) := hc 1 (by omega)
        have c2 : wr.cell? ⟨B, o + k * 6 + 2, none⟩ = some (.int .i64 g.away) := hc 2 (by omega)
        have c3 : wr.cell? ⟨B, o + k * 6 + 3, none⟩ = some (.int .i64 g.fin) := hc 3 (by omega)
        have c4 : wr.cell? ⟨B, o + k * 6 + 4, none⟩ = some (.int .i64 g.hg) := hc 4 (by omega)
        have c5 : wr.cell? ⟨B, o + k * 6 + 5, none⟩ = some (.int .i64 g.ag) := hc 5 (by omega)
        have HC3 := Lib.hid (fun w (hw : Below W.heap.size W w) (h9 : Below W.heap.size W wr) => (show w.cell? ⟨B, o + k * 6 + 3, none⟩ = some (.int .i64 g.fin) from by rw [← c3]; exact (hw.cell (p := ⟨B, _, none⟩) hgs).trans (h9.cell (p := ⟨B, _, none⟩) hgs).symm))
        subst hg
        clear hb hc
        have HGk := Lib.hid (HGA.out g wr)
        cases hgB : gameB x.F.length g <;> rw [hgB] at HGk
        · have HE : Hid (X = false) := Lib.hid (HGF.out k hlt2 (by rw [← HBE.out]; exact hgB))
          clear HBE hgB HOk
          go_wp2_with fail
          refine HGk.out.mono ?_
          rintro e w2 ⟨rfl, hb2⟩
          have HB2 := Lib.hid (HB.out.step hb2)
          clear hb2 x0 x1 c0 c1 c2 c3 c4 c5
          go_wp2_with fail
          go_ret
          exact ⟨ret_bool HE.out.symm, HB2.out.b⟩
        have HN : Hid (∀ j (hj : j < x.G.length), j < k + 1 → gameB x.F.length x.G[j] = true) := Lib.hid fun j hj hjk => by
          rcases Nat.lt_or_ge j k with h' | h'
          · exact HW.out j hj h'
          · have : j = k := by omega
            subst this
            rw [← HBE.out]; exact hgB
        clear HBE hgB HW
        go_wp2_with fail
        refine HGk.out.mono ?_
        rintro e w2 ⟨rfl, hb2⟩
        have HB2 := Lib.hid (HB.out.step hb2)
        clear hb2 x0 x1 c0 c1 c2 c3 c4 c5
        have x1 : w2.cell? ⟨W.heap.size, 1, none⟩ = some (.slice (some ⟨B, o, none⟩) x.G.length cg) := HB2.out.fx.cell 1
        have c3 : w2.cell? ⟨B, o + k * 6 + 3, none⟩ = some (.int .i64 g.fin) := HC3.out w2 HB2.out.b HB.out.b
        obtain ⟨qo, hqo⟩ : ∃ qo, qo = openN (x.G.take k) := ⟨_, rfl⟩
        rw [← hqo] at hol HOk ⊢
        by_cases hop : g.fin = 0
        · have q1 : (g.fin == 0) = true := by simpa using hop
          have HQ : Hid (openN (x.G.take (k + 1)) = qo + 1) := Lib.hid (by rw [HOk.out]; unfold openB; rw [decide_eq_true hop]; rfl)
          clear HOk hop hqo
          go_wp2_with fail
          go_roundg (x.G.length - (k + 1))
          case measure => omega
          case rel => exact ⟨k + 1, by omega, Nat.le_refl _, by go_num, by rw [HQ.out]; go_num, HB2, HN⟩
        · have q1 : (g.fin == 0) = false := by simpa using hop
          have HQ : Hid (openN (x.G.take (k + 1)) = qo) := Lib.hid (by rw [HOk.out]; unfold openB; rw [decide_eq_false hop]; rfl)
          clear HOk hop hqo
          go_wp2_with fail
          go_roundg (x.G.length - (k + 1))
          case measure => omega
          case rel => exact ⟨k + 1, by omega, Nat.le_refl _, by go_num, by rw [HQ.out], HB2, HN⟩
    have hltf : k < x.F.length := by omega
    have hlt2 : (k : Int) < x.F.length := by omega
    have hlt3 : (k : Int) ≤ 6 := by omega
    obtain ⟨g, o, M, m, hg, hc, hm, hml⟩ := farRow_cell HB.out.up.f hltf
    have HM := Lib.hid hm
    have hml' : x.F[k].length ≤ 9223372036854775807 := hml
    obtain ⟨r, hr⟩ : ∃ r, r = x.F[k] := ⟨_, rfl⟩
    rw [← hr] at hc HM hml'
    have HBE := Lib.hid hr
    subst hg
    clear hr hm hml hw
    by_cases hrl : (r.length : Int) = x.F.length
    rotate_left
    · have hrl1 : ((r.length : Int) == x.F.length) = false := by simpa using hrl
      have hrl2 : ((r.length : Int) != x.F.length) = true := by simpa using hrl
      have HE : Hid (X = false) := Lib.hid (HRF.out k hltf (by rw [← HBE.out]; unfold farRowB; rw [decide_eq_false hrl]; rfl))
      clear hrl
      go_wp2_with fail
      go_ret
      exact ⟨ret_bool HE.out.symm, HB.out.b⟩
    have hrl1 : ((r.length : Int) == x.F.length) = true := by simpa using hrl
    have hrl2 : ((r.length : Int) != x.F.length) = false := by simpa using hrl
    have HR : Hid (farRowB x.F.length r = r.all fun n => inB n 0 100000) := Lib.hid (by unfold farRowB; rw [decide_eq_true hrl]; rfl)
    have HRL : Hid (r.length = x.F.length) := Lib.hid (by omega)
    clear hrl
    go_wp2_with fail
    go_loopg [5] x.F.length (fun gq i wr => ∃ q : Nat, q ≤ x.F.length ∧ x.F.length - q ≤ gq ∧ i = .int .i64 ((q : Nat) : Int) ∧ wr = w9 ∧ Hid (∀ j (hj : j < r.length), j < q → inB r[j] 0 100000 = true))
    case atStart => exact ⟨0, Nat.zero_le _, Nat.le_refl _, rfl, rfl, Lib.hid (fun j _ h => absurd h (by omega))⟩
    case round =>
      obtain ⟨q, hq, hgq, rfl, hw, HQ⟩ := hrel
      obtain rfl : w9 = wr := hw.symm
      clear hw
      by_cases hqt : q < x.F.length
      rotate_left
      · have hge : ¬ (q : Int) < x.F.length := by omega
        have HN : Hid (∀ j (hj : j < x.F.length), j < k + 1 → farRowB x.F.length x.F[j] = true) := Lib.hid fun j hj hjk => by
          rcases Nat.lt_or_ge j k with h' | h'
          · exact HW.out j hj h'
          · have : j = k := by omega
            subst this
            rw [← HBE.out, HR.out, List.all_eq_true]
            intro n hn
            obtain ⟨i, hi, rfl⟩ := List.getElem_of_mem hn
            exact HQ.out i hi (by have := HRL.out; omega)
        clear HBE HW HQ
        go_wp2_with fail
        go_roundg (7 - (k + 1))
        case measure => omega
        case rel => exact ⟨k + 1, by omega, Nat.le_refl _, by go_num, rfl, HN⟩
      have hqt2 : (q : Int) < x.F.length := by omega
      have hqr : q < r.length := by have := HRL.out; omega
      have hqr2 : (q : Int) < r.length := by omega
      obtain ⟨g2, o2, hg2, -, hc2⟩ := HM.out q hqr
      obtain ⟨v, hv⟩ : ∃ v, v = r[q] := ⟨_, rfl⟩
      rw [← hv] at hc2
      have HVE := Lib.hid hv
      have HWI := Lib.hid (fun w => HI.out v w)
      subst hg2
      clear hv
      cases hin : inB v 0 100000 <;> rw [hin] at HWI
      · have HE : Hid (X = false) := Lib.hid (HRF.out k hltf (by
          rw [← HBE.out, HR.out, List.all_eq_false]
          exact ⟨r[q], List.getElem_mem hqr, by rw [← HVE.out, hin]; decide⟩))
        clear hin HVE
        go_wp2_with fail
        refine (HWI.out _).mono ?_
        rintro e w2 ⟨rfl, rfl⟩
        go_wp2_with fail
        go_ret
        exact ⟨ret_bool HE.out.symm, HB.out.b⟩
      · have HN : Hid (∀ j (hj : j < r.length), j < q + 1 → inB r[j] 0 100000 = true) := Lib.hid fun j hj hjk => by
          rcases Nat.lt_or_ge j q with h' | h'
          · exact HQ.out j hj h'
          · have : j = q := by omega
            subst this
            rw [← HVE.out]; exact hin
        clear hin HVE HQ
        go_wp2_with fail
        refine (HWI.out _).mono ?_
        rintro e w2 ⟨rfl, rfl⟩
        go_wp2_with fail
        go_roundg (x.F.length - (q + 1))
        case measure => omega
        case rel => exact ⟨q + 1, by omega, Nat.le_refl _, by go_num, rfl, HN⟩
set_option maxRecDepth 100000 in
set_option maxHeartbeats 4000000 in
theorem docValid00 (x : Lg) (AF AG : Option Addr) (cf cg : Nat) (W : World) (hr : LgR W W.heap.size x AF AG) (hsn : 7 < x.F.length) (hsg : 64 < x.G.length) :
    Calls Tryd.prog 22 #[lgv x AF AG cf cg] W (BoolPost (lgB x) W) := by
  have HB : Hid (LX W (W.alloc (.cells (lgc x AF AG cf cg) 25)) W.heap.size x AF AG cf cg) := Lib.hid (LX.start hr)
  have HI := Lib.hid (fun n w => in_any n 0 100000 w)
  have HGA := Lib.hid (fun g w => docGame_any g x.F.length w hr.lf)
  have HO := Lib.hid (fun (k : Nat) (h : k < x.G.length) => openN_take h)
  have HOL := Lib.hid (fun k => openN_le (x.G.take k))
  have HRF := Lib.hid (fun k (hk : k < x.F.length) h => lg_row (x := x) (k := k) hk h)
  have HGF := Lib.hid (fun k (hk : k < x.G.length) h => lg_gam (x := x) (k := k) hk h)
  have hlf : x.F.length ≤ 9223372036854775807 := hr.lf
  have hlg : x.G.length ≤ 9223372036854775807 := hr.lg
  have HSM := Lib.hid (And.intro hsn hsg)
  obtain ⟨X, hX⟩ : ∃ X, X = lgB x := ⟨_, rfl⟩
  have HX := Lib.hid hX
  rw [← hX] at HRF HGF ⊢
  clear hr hX
  unfold lgv gmv at *
  go_enter Tryd.func22, Tryd.ntmps22
  go_upto_region 1 with fail
  generalize W.alloc (.cells (lgc x AF AG cf cg) 25) = w9 at HB ⊢
  have x0 : w9.cell? ⟨W.heap.size, 0, none⟩ = some (.slice AF x.F.length cf) := HB.out.fx.cell 0
  have x1 : w9.cell? ⟨W.heap.size, 1, none⟩ = some (.slice AG x.G.length cg) := HB.out.fx.cell 1
  go_wp2_with fail
  go_loopg [4] 7 (fun gk i wr => ∃ k : Nat, k ≤ 7 ∧ 7 - k ≤ gk ∧ i = .int .i64 ((k : Nat) : Int) ∧ wr = w9 ∧ Hid (∀ j (hj : j < x.F.length), j < k → farRowB x.F.length x.F[j] = true))
  case atStart => exact ⟨0, by omega, by omega, rfl, rfl, Lib.hid (fun j _ h => absurd h (by omega))⟩
  case round =>
    obtain ⟨k, hk, hgk, rfl, hw, HW⟩ := hrel
    obtain rfl : w9 = wr := hw.symm
    by_cases hlt : k < 7
    rotate_left
    · have HK : Hid (k = 7) := Lib.hid (by omega)
      have hge1 : (k : Int) < x.F.length := by omega
      have hge2 : ¬ (k : Int) ≤ 6 := by omega
      have HFA := Lib.hid (fun j (hj : j < x.F.length) (h : j < 7) => HW.out j hj (by have := HK.out; omega))
      clear HW HK hlt hgk hk hw
      go_wp2_with fail
      clear x0 x1
      go_loopg [6, 7] 65 (fun gk n i wr => ∃ k : Nat, k ≤ 65 ∧ 65 - k ≤ gk ∧ i = .int .i64 ((k : Nat) : Int) ∧ n = .int .i64 (openN (x.G.take k) : Nat) ∧ Hid (LX W wr W.heap.size x AF AG cf cg) ∧ Hid (∀ j (hj : j < x.G.length), j < k → gameB x.F.length x.G[j] = true))
      case atStart => exact ⟨0, by omega, by omega, rfl, rfl, HB, Lib.hid (fun j _ h => absurd h (by omega))⟩
      case round =>
        clear HB
        obtain ⟨k, hk, hgk, rfl, rfl, HB, HW⟩ := hrel
        have hol : openN (x.G.take k) ≤ 65 := by have := HOL.out k; rw [List.length_take] at this; omega
        have x0 : wr.cell? ⟨W.heap.size, 0, none⟩ = some (.slice AF x.F.length cf) := HB.out.fx.cell 0
        have x1 : wr.cell? ⟨W.heap.size, 1, none⟩ = some (.slice AG x.G.length cg) := HB.out.fx.cell 1
        by_cases hlt : k < 65
        rotate_left
        · have HE : Hid (X = false) := Lib.hid (by rw [HX.out]; exact lg_big (by have := HSM.out; omega))
          have s1 : ¬ (x.F.length : Int) ≤ 6 := by have := HSM.out.1; omega
          have s2 : ¬ (x.G.length : Int) ≤ 64 := by have := HSM.out.2; omega
          rcases Nat.lt_or_ge k x.G.length with hge1 | hge0
          · have hge1' : (k : Int) < x.G.length := by omega
            have hge2 : ¬ (k : Int) ≤ 64 := by omega
            clear HW HO
            generalize openN (x.G.take k) = q at hol ⊢
            by_cases h8 : (q : Int) ≤ 8
            all_goals
              go_wp2_with fail
              go_ret
              exact ⟨ret_bool HE.out.symm, HB.out.b⟩
          · have hge : ¬ (k : Int) < x.G.length := by omega
            clear HW HO
            generalize openN (x.G.take k) = q at hol ⊢
            by_cases h8 : (q : Int) ≤ 8
            all_goals
              go_wp2_with fail
              go_ret
              exact ⟨ret_bool HE.out.symm, HB.out.b⟩
        have hlt2 : k < x.G.length := by omega
        have hlt3 : (k : Int) < x.G.length := by omega
        have hlt4 : (k : Int) ≤ 64 := by omega
        obtain ⟨B, o, hg, hgs, hc⟩ := HB.out.r.g k hlt2
        obtain ⟨g, hb⟩ : ∃ g, g = x.G[k] := ⟨_, rfl⟩
        rw [← hb] at hc
        have HOk := Lib.hid (HO.out k hlt2)
        rw [← hb] at HOk
        have HBE := Lib.hid hb
        have c0 : wr.cell? ⟨B, o + k * 6, none⟩ = some (.int .i64 g.day) := hc 0 (by omega)
        have c1 : wr.cell? ⟨B, o + k * 6 + 1, none⟩ = some (.int .i64 g.home) := hc 1 (by omega)
        have c2 : wr.cell? ⟨B, o + k * 6 + 2, none⟩ = some (.int .i64 g.away) := hc 2 (by omega)
        have c3 : wr.cell? ⟨B, o + k * 6 + 3, none⟩ = some (.int .i64 g.fin) := hc 3 (by omega)
        have c4 : wr.cell? ⟨B, o + k * 6 + 4, none⟩ = some (.int .i64 g.hg) := hc 4 (by omega)
        have c5 : wr.cell? ⟨B, o + k * 6 + 5, none⟩ = some (.int .i64 g.ag) := hc 5 (by omega)
        have HC3 := Lib.hid (fun w (hw : Below W.heap.size W w) (h9 : Below W.heap.size W wr) => (show w.cell? ⟨B, o + k * 6 + 3, none⟩ = some (.int .i64 g.fin) from by rw [← c3]; exact (hw.cell (p := ⟨B, _, none⟩) hgs).trans (h9.cell (p := ⟨B, _, none⟩) hgs).symm))
        subst hg
        clear hb hc
        have HGk := Lib.hid (HGA.out g wr)
        cases hgB : gameB x.F.length g <;> rw [hgB] at HGk
        · have HE : Hid (X = false) := Lib.hid (HGF.out k hlt2 (by rw [← HBE.out]; exact hgB))
          clear HBE hgB HOk
          go_wp2_with fail
          refine HGk.out.mono ?_
          rintro e w2 ⟨rfl, hb2⟩
          have HB2 := Lib.hid (HB.out.step hb2)
          clear hb2 x0 x1 c0 c1 c2 c3 c4 c5
          go_wp2_with fail
          go_ret
          exact ⟨ret_bool HE.out.symm, HB2.out.b⟩
        have HN : Hid (∀ j (hj : j < x.G.length), j < k + 1 → gameB x.F.length x.G[j] = true) := Lib.hid fun j hj hjk => by
          rcases Nat.lt_or_ge j k with h' | h'
          · exact HW.out j hj h'
          · have : j = k := by omega
            subst this
            rw [← HBE.out]; exact hgB
        clear HBE hgB HW
        go_wp2_with fail
        refine HGk.out.mono ?_
        rintro e w2 ⟨rfl, hb2⟩
        have HB2 := Lib.hid (HB.out.step hb2)
        clear hb2 x0 x1 c0 c1 c2 c3 c4 c5
        have x1 : w2.cell? ⟨W.heap.size, 1, none⟩ = some (.slice (some ⟨B, o, none⟩) x.G.length cg) := HB2.out.fx.cell 1
        have c3 : w2.cell? ⟨B, o + k * 6 + 3, none⟩ = some (.int .i64 g.fin) := HC3.out w2 HB2.out.b HB.out.b
        obtain ⟨qo, hqo⟩ : ∃ qo, qo = openN (x.G.take k) := ⟨_, rfl⟩
        rw [← hqo] at hol HOk ⊢
        by_cases hop : g.fin = 0
        · have q1 : (g.fin == 0) = true := by simpa using hop
          have HQ : Hid (openN (x.G.take (k + 1)) = qo + 1) := Lib.hid (by rw [HOk.out]; unfold openB; rw [decide_eq_true hop]; rfl)
          clear HOk hop hqo
          go_wp2_with fail
          go_roundg (65 - (k + 1))
          case measure => omega
          case rel => exact ⟨k + 1, by omega, Nat.le_refl _, by go_num, by rw [HQ.out]; go_num, HB2, HN⟩
        · have q1 : (g.fin == 0) = false := by simpa using hop
          have HQ : Hid (openN (x.G.take (k + 1)) = qo) := Lib.hid (by rw [HOk.out]; unfold openB; rw [decide_eq_false hop]; rfl)
          clear HOk hop hqo
          go_wp2_with fail
          go_roundg (65 - (k + 1))
          case measure => omega
          case rel => exact ⟨k + 1, by omega, Nat.le_refl _, by go_num, by rw [HQ.out], HB2, HN⟩
    have hltf : k < x.F.length := by omega
    have hlt2 : (k : Int) < x.F.length := by omega
    have hlt3 : (k : Int) ≤ 6 := by omega
    obtain ⟨g, o, M, m, hg, hc, hm, hml⟩ := farRow_cell HB.out.up.f hltf
    have HM := Lib.hid hm
    have hml' : x.F[k].length ≤ 9223372036854775807 := hml
    obtain ⟨r, hr⟩ : ∃ r, r = x.F[k] := ⟨_, rfl⟩
    rw [← hr] at hc HM hml'
    have HBE := Lib.hid hr
    subst hg
    clear hr hm hml hw
    by_cases hrl : (r.length : Int) = x.F.length
    rotate_left
    · have hrl1 : ((r.length : Int) == x.F.length) = false := by simpa using hrl
      have hrl2 : ((r.length : Int) != x.F.length) = true := by simpa using hrl
      have HE : Hid (X = false) := Lib.hid (HRF.out k hltf (by rw [← HBE.out]; unfold farRowB; rw [decide_eq_false hrl]; rfl))
      clear hrl
      go_wp2_with fail
      go_ret
      exact ⟨ret_bool HE.out.symm, HB.out.b⟩
    have hrl1 : ((r.length : Int) == x.F.length) = true := by simpa using hrl
    have hrl2 : ((r.length : Int) != x.F.length) = false := by simpa using hrl
    have HR : Hid (farRowB x.F.length r = r.all fun n => inB n 0 100000) := Lib.hid (by unfold farRowB; rw [decide_eq_true hrl]; rfl)
    have HRL : Hid (r.length = x.F.length) := Lib.hid (by omega)
    clear hrl
    go_wp2_with fail
    go_loopg [5] x.F.length (fun gq i wr => ∃ q : Nat, q ≤ x.F.length ∧ x.F.length - q ≤ gq ∧ i = .int .i64 ((q : Nat) : Int) ∧ wr = w9 ∧ Hid (∀ j (hj : j < r.length), j < q → inB r[j] 0 100000 = true))
    case atStart => exact ⟨0, Nat.zero_le _, Nat.le_refl _, rfl, rfl, Lib.hid (fun j _ h => absurd h (by omega))⟩
    case round =>
      obtain ⟨q, hq, hgq, rfl, hw, HQ⟩ := hrel
      obtain rfl : w9 = wr := hw.symm
      clear hw
      by_cases hqt : q < x.F.length
      rotate_left
      · have hge : ¬ (q : Int) < x.F.length := by omega
        have HN : Hid (∀ j (hj : j < x.F.length), j < k + 1 → farRowB x.F.length x.F[j] = true) := Lib.hid fun j hj hjk => by
          rcases Nat.lt_or_ge j k with h' | h'
          · exact HW.out j hj h'
          · have : j = k := by omega
            subst this
            rw [← HBE.out, HR.out, List.all_eq_true]
            intro n hn
            obtain ⟨i, hi, rfl⟩ := List.getElem_of_mem hn
            exact HQ.out i hi (by have := HRL.out; omega)
        clear HBE HW HQ
        go_wp2_with fail
        go_roundg (7 - (k + 1))
        case measure => omega
        case rel => exact ⟨k + 1, by omega, Nat.le_refl _, by go_num, rfl, HN⟩
      have hqt2 : (q : Int) < x.F.length := by omega
      have hqr : q < r.length := by have := HRL.out; omega
      have hqr2 : (q : Int) < r.length := by omega
      obtain ⟨g2, o2, hg2, -, hc2⟩ := HM.out q hqr
      obtain ⟨v, hv⟩ : ∃ v, v = r[q] := ⟨_, rfl⟩
      rw [← hv] at hc2
      have HVE := Lib.hid hv
      have HWI := Lib.hid (fun w => HI.out v w)
      subst hg2
      clear hv
      cases hin : inB v 0 100000 <;> rw [hin] at HWI
      · have HE : Hid (X = false) := Lib.hid (HRF.out k hltf (by
          rw [← HBE.out, HR.out, List.all_eq_false]
          exact ⟨r[q], List.getElem_mem hqr, by rw [← HVE.out, hin]; decide⟩))
        clear hin HVE
        go_wp2_with fail
        refine (HWI.out _).mono ?_
        rintro e w2 ⟨rfl, rfl⟩
        go_wp2_with fail
        go_ret
        exact ⟨ret_bool HE.out.symm, HB.out.b⟩
      · have HN : Hid (∀ j (hj : j < r.length), j < q + 1 → inB r[j] 0 100000 = true) := Lib.hid fun j hj hjk => by
          rcases Nat.lt_or_ge j q with h' | h'
          · exact HQ.out j hj h'
          · have : j = q := by omega
            subst this
            rw [← HVE.out]; exact hin
        clear hin HVE HQ
        go_wp2_with fail
        refine (HWI.out _).mono ?_
        rintro e w2 ⟨rfl, rfl⟩
        go_wp2_with fail
        go_roundg (x.F.length - (q + 1))
        case measure => omega
        case rel => exact ⟨q + 1, by omega, Nat.le_refl _, by go_num, rfl, HN⟩
theorem docValid_any (x : Lg) (AF AG : Option Addr) (cf cg : Nat) (W : World) (hr : LgR W W.heap.size x AF AG) : Calls Tryd.prog 22 #[lgv x AF AG cf cg] W (BoolPost (lgB x) W) := by
  by_cases h1 : x.F.length ≤ 6
  · by_cases h2 : x.G.length ≤ 64
    · exact docValid11 x AF AG cf cg W hr h1 h2
    · exact docValid10 x AF AG cf cg W hr h1 (by omega)
  · by_cases h3 : x.F.length ≤ 7
    · by_cases h2 : x.G.length ≤ 64
      · exact docValid21 x AF AG cf cg W hr (by omega) h2
      · exact docValid20 x AF AG cf cg W hr (by omega) (by omega)
    · by_cases h2 : x.G.length ≤ 64
      · exact docValid01 x AF AG cf cg W hr (by omega) h2
      · exact docValid00 x AF AG cf cg W hr (by omega) (by omega)
end Go.Proofs.YtljkgjfmambfoaaDoor

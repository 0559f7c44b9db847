/- What is valid. -/
import Derived.Test.YtfdjoldcdfbfhaaWoA
namespace Go.Proofs.Ytfdjoldcdfbfhaa
open Go.Shelf Go.RowKit
def gasB (n : Int) : Bool := decide (0 ≤ n ∧ n ≤ 1048576)
def minB (a b : Int) : Bool := decide (0 ≤ a ∧ a ≤ b ∧ b ≤ 2000)
def vSb (s : Sn) : Bool := decide (0 ≤ s.f ∧ s.f ≤ 2000 ∧ 1 ≤ s.e ∧ s.e ≤ 1000) && gasB s.r
theorem vSb_iff (s : Sn) : vSb s = true ↔ vS s := by
  unfold vSb vS gasB; simp; omega
def vvB (l : List Sn) (V F : Int) : Bool := decide (1 ≤ l.length ∧ l.length ≤ 12) && l.all vSb && decide ((1 ≤ V ∧ V ≤ l.length) ∧ (0 ≤ F ∧ F ≤ l.length))
theorem vvB_iff (l : List Sn) (V F : Int) : vvB l V F = true ↔ VV l V F := by
  unfold vvB
  simp only [Bool.and_eq_true, decide_eq_true_eq, List.all_eq_true, vSb_iff]
  constructor
  · rintro ⟨⟨⟨a, b⟩, c⟩, d, e⟩; exact ⟨c, a, b, d, e⟩
  · rintro ⟨a, b, c, d, e⟩; exact ⟨⟨⟨b, c⟩, a⟩, d, e⟩
def searchB (limit rise calm frm to : Int) : Bool := gasB limit && gasB rise && gasB calm && minB frm to
theorem isGas_any (n : Int) (w : World) : Calls Try.prog 36 #[.int .i64 n] w fun e w' => e = .returned (.bool (gasB n)) ∧ w' = w := by
  have hn : ∀ b, (decide (0 ≤ n ∧ n ≤ 1048576) = b) → gasB n = b := fun b h => h
  by_cases h0 : 0 ≤ n
  · by_cases h1 : n ≤ 1048576
    · have HN := Lib.hid (hn true (by simp; omega))
      clear hn
      go_enter Try.func36, Try.ntmps36
      go_wp2
      go_ret
      exact ⟨by rw [HN.out]; rfl, rfl⟩
    · have HN := Lib.hid (hn false (by simp; omega))
      clear hn
      go_enter Try.func36, Try.ntmps36
      go_wp2
      go_ret
      exact ⟨by rw [HN.out]; rfl, rfl⟩
  · have HN := Lib.hid (hn false (by simp; omega))
    clear hn
    go_enter Try.func36, Try.ntmps36
    go_wp2
    go_ret
    exact ⟨by rw [HN.out]; rfl, rfl⟩
theorem minutes_any (a b : Int) (w : World) : Calls Try.prog 42 #[.int .i64 a, .int .i64 b] w fun e w' => e = .returned (.bool (minB a b)) ∧ w' = w := by
  have hn : ∀ c, (decide (0 ≤ a ∧ a ≤ b ∧ b ≤ 2000) = c) → minB a b = c := fun b h => h
  have h3 : ¬ 0 ≤ a ∨ (0 ≤ a ∧ ¬ a ≤ b) ∨ (0 ≤ a ∧ a ≤ b ∧ ¬ b ≤ 2000) ∨ (0 ≤ a ∧ a ≤ b ∧ b ≤ 2000) := by omega
  rcases h3 with h0 | ⟨h0, h1⟩ | ⟨h0, h1, h2⟩ | ⟨h0, h1, h2⟩
  rotate_right
  · have HN := Lib.hid (hn true (by simp; omega))
    clear hn
    go_enter Try.func42, Try.ntmps42
    go_wp2
    go_ret
    exact ⟨by rw [HN.out]; rfl, rfl⟩
  all_goals
    have HN := Lib.hid (hn false (by simp; omega))
    clear hn
    go_enter Try.func42, Try.ntmps42
    go_wp2
    go_ret
    exact ⟨by rw [HN.out]; rfl, rfl⟩
theorem search_any (limit rise calm frm to : Int) (w : World) : Calls Try.prog 45 #[.int .i64 limit, .int .i64 rise, .int .i64 calm, .int .i64 frm, .int .i64 to] w fun e w' => e = .returned (.bool (searchB limit rise calm frm to)) ∧ w' = w := by
  have g1 := fun w => isGas_any limit w
  have g2 := fun w => isGas_any rise w
  have g3 := fun w => isGas_any calm w
  have g4 := fun w => minutes_any frm to w
  unfold searchB
  cases h1 : gasB limit <;> rw [h1] at g1
  · clear h1 g2 g3 g4
    go_enter Try.func45, Try.ntmps45
    go_wp2_with fail
    refine (g1 _).mono ?_
    rintro e w' ⟨rfl, rfl⟩
    go_wp2_with fail
    go_ret
    exact ⟨rfl, rfl⟩
  cases h2 : gasB rise <;> rw [h2] at g2
  · clear h1 h2 g3 g4
    go_enter Try.func45, Try.ntmps45
    go_wp2_with fail
    refine (g1 _).mono ?_
    rintro e w' ⟨rfl, rfl⟩
    go_wp2_with fail
    refine (g2 _).mono ?_
    rintro e w' ⟨rfl, rfl⟩
    go_wp2_with fail
    go_ret
    exact ⟨rfl, rfl⟩
  cases h3 : gasB calm <;> rw [h3] at g3
  · clear h1 h2 h3 g4
    go_enter Try.func45, Try.ntmps45
    go_wp2_with fail
    refine (g1 _).mono ?_
    rintro e w' ⟨rfl, rfl⟩
    go_wp2_with fail
    refine (g2 _).mono ?_
    rintro e w' ⟨rfl, rfl⟩
    go_wp2_with fail
    refine (g3 _).mono ?_
    rintro e w' ⟨rfl, rfl⟩
    go_wp2_with fail
    go_ret
    exact ⟨rfl, rfl⟩
  clear h1 h2 h3
  go_enter Try.func45, Try.ntmps45
  go_wp2_with fail
  refine (g1 _).mono ?_
  rintro e w' ⟨rfl, rfl⟩
  go_wp2_with fail
  refine (g2 _).mono ?_
  rintro e w' ⟨rfl, rfl⟩
  go_wp2_with fail
  refine (g3 _).mono ?_
  rintro e w' ⟨rfl, rfl⟩
  go_wp2_with fail
  refine (g4 _).mono ?_
  rintro e w' ⟨rfl, rfl⟩
  go_wp2_with fail
  go_ret
  exact ⟨by simp, rfl⟩
set_option maxRecDepth 100000 in
set_option maxHeartbeats 1000000 in
theorem sensor_any (s : Sn) (w : World) : Calls Try.prog 49 #[snv s] w fun e w' => e = .returned (.bool (vSb s)) ∧ Below w.heap.size w w' := by
  have hn : ∀ c, vSb s = c → Hid (vSb s = c) := fun b h => h
  have g1 := fun w => isGas_any s.r w
  have hb := Lib.hid (below_one w)
  unfold snv
  have h3 : ¬ 0 ≤ s.f ∨ (0 ≤ s.f ∧ ¬ s.f ≤ 2000) ∨ (0 ≤ s.f ∧ s.f ≤ 2000 ∧ ¬ 1 ≤ s.e) ∨ (0 ≤ s.f ∧ s.f ≤ 2000 ∧ 1 ≤ s.e ∧ ¬ s.e ≤ 1000) ∨ (0 ≤ s.f ∧ s.f ≤ 2000 ∧ 1 ≤ s.e ∧ s.e ≤ 1000) := by omega
  rcases h3 with h0 | ⟨h0, h1⟩ | ⟨h0, h1, h2⟩ | ⟨h0, h1, h2, h3⟩ | ⟨h0, h1, h2, h3⟩
  rotate_right
  · have HN := hn (gasB s.r) (by unfold vSb; rw [decide_eq_true (by omega), Bool.true_and])
    obtain ⟨c, hc⟩ : ∃ c, gasB s.r = c := ⟨_, rfl⟩
    rw [hc] at HN g1
    clear hn hc
    go_enter Try.func49, Try.ntmps49
    go_wp2_with fail
    refine (g1 _).mono ?_
    rintro e w' ⟨rfl, rfl⟩
    go_wp2_with fail
    go_ret
    exact ⟨by rw [HN.out]; rfl, hb.out _⟩
  all_goals
    have HN := hn false (by unfold vSb; rw [decide_eq_false (by omega), Bool.false_and])
    clear hn g1
    go_enter Try.func49, Try.ntmps49
    go_wp2_with fail
    go_ret
    exact ⟨by rw [HN.out]; rfl, hb.out _⟩
end Go.Proofs.Ytfdjoldcdfbfhaa

/- Contracts of the small functions: within, validGroup, validHour, follows, mayHave. -/
import Derived.Test.YtipejhfgfciabaaMem
import Derived.Test.YtipejhfgfciabaaPost
import Derived.Test.YtipejhfgfciabaaHrA
import Derived.Lib.Hide
import Derived.Outline
import Derived.BigQuiet
import Derived.Deep.QuietTactic
import Derived.IntWalk
import Derived.Deep.DeepCutAuto
namespace Go.Proofs.Ytipejhfgfciabaa
open Go.RowKit
def BoolPost (b : Bool) (W : World) (e : Ending) (W' : World) : Prop := e = .returned (.bool b) ∧ Below W.heap.size W W'
def IntPost (n : Int) (W : World) (e : Ending) (W' : World) : Prop := e = .returned (.int .i64 n) ∧ Below W.heap.size W W'
theorem ret_bool {a b : Bool} (h : a = b) : Ending.returned (.bool a) = .returned (.bool b) := by rw [h]
def inB (n lo hi : Int) : Bool := decide (lo ≤ n ∧ n ≤ hi)
/-- a row of numbers that lies below B -/
def IRow (w : World) (B : Nat) (A : Option Addr) (l : List Int) : Prop :=
  ∀ k (h : k < l.length), ∃ g o, A = some ⟨g, o, none⟩ ∧ g < B ∧ w.cell? ⟨g, o + k, none⟩ = some (.int .i64 l[k])
theorem IRow.below {w w' : World} {B : Nat} {A : Option Addr} {l : List Int} (h : IRow w B A l) (hb : Below B w w') : IRow w' B A l := fun k hk => by
  obtain ⟨g, o, e, hg, c⟩ := h k hk
  exact ⟨g, o, e, hg, (hb.cell (p := ⟨g, _, none⟩) hg).trans c⟩
theorem IRow.more {w : World} {B B' : Nat} {A : Option Addr} {l : List Int} (h : IRow w B A l) (hB : B ≤ B') : IRow w B' A l := fun k hk => by
  obtain ⟨g, o, e, hg, c⟩ := h k hk
  exact ⟨g, o, e, by omega, c⟩
theorem IRow.step {w w' : World} {A : Option Addr} {l : List Int} (h : IRow w w.heap.size A l) (hb : Below w.heap.size w w') : IRow w' w'.heap.size A l := (h.below hb).more hb.size
theorem below_drN {W w : World} (h : Below W.heap.size W w) (n : Nat) : Below W.heap.size W (w.drewN n) := ⟨h.os, h.tape, h.output, h.size, h.block⟩
theorem has_newAt {w : World} {t : TypeId} {cs : Array Value} {n : Nat} (h : n = w.heap.size) : Has (w.alloc (.cells cs t)) n t cs := by subst h; exact Has.new _ _ _
abbrev grc (g : Gr) : Array Value := #[.int .i64 g.days, .int .i64 g.early, .int .i64 g.late, .int .i64 g.most, .int .i64 g.credit]
def grv (g : Gr) : Value := .agg (grc g)
abbrev hrc (h : Hr) : Array Value := #[.int .i64 h.day, .int .i64 h.beg, .int .i64 h.fin]
def hrv (h : Hr) : Value := .agg (hrc h)
def grpB (g : Gr) : Bool := inB g.days 0 127 && (inB g.early 0 1440 && (inB g.late 0 1440 && (inB g.most 0 12 && inB g.credit 0 1000)))
def hourB (h : Hr) : Bool := inB h.day 0 6 && (decide (0 ≤ h.beg) && (decide (h.beg < h.fin) && decide (h.fin ≤ 1440)))
def folB (a h : Hr) : Bool := decide (a.day < h.day) || (decide (h.day = a.day) && decide (a.fin ≤ h.beg))
set_option maxRecDepth 100000 in
theorem within_any (n lo hi : Int) (w : World) : Calls Try.prog 72 #[.int .i64 n, .int .i64 lo, .int .i64 hi] w fun e w' => e = .returned (.bool (inB n lo hi)) ∧ w' = w := by
  have hn : ∀ c, (decide (lo ≤ n ∧ n ≤ hi) = c) → inB n lo hi = c := fun b h => h
  have h3 : ¬ lo ≤ n ∨ (lo ≤ n ∧ ¬ n ≤ hi) ∨ (lo ≤ n ∧ n ≤ hi) := by omega
  rcases h3 with h0 | ⟨h0, h1⟩ | ⟨h0, h1⟩
  rotate_right
  · have HN := Lib.hid (hn true (by simp; omega))
    clear hn
    go_enter Try.func72, Try.ntmps72
    go_wp2
    go_ret
    exact ⟨by rw [HN.out]; rfl, rfl⟩
  all_goals
    have HN := Lib.hid (hn false (by simp; omega))
    clear hn
    go_enter Try.func72, Try.ntmps72
    go_wp2
    go_ret
    exact ⟨by rw [HN.out]; rfl, rfl⟩
set_option maxRecDepth 100000 in
set_option maxHeartbeats 4000000 in
theorem validGroup_any (g : Gr) (W : World) : Calls Try.prog 73 #[grv g] W (BoolPost (grpB g) W) := by
  have HB := Lib.hid (And.intro (below_one W (.cells (grc g) 49)) (Has.new W 49 (grc g)))
  have H0 := Lib.hid (fun w => within_any g.days 0 127 w)
  have H1 := Lib.hid (fun w => within_any g.early 0 1440 w)
  have H2 := Lib.hid (fun w => within_any g.late 0 1440 w)
  have H3 := Lib.hid (fun w => within_any g.most 0 12 w)
  have H4 := Lib.hid (fun w => within_any g.credit 0 1000 w)
  have hn : ∀ c, grpB g = c → Hid (grpB g = c) := fun b h => h
  unfold grv
  cases h0 : inB g.days 0 127 <;> rw [h0] at H0
  · have HE := hn false (by unfold grpB; rw [h0]; rfl)
    clear hn h0
    go_enter Try.func73, Try.ntmps73
    go_wp2_with fail
    refine (H0.out _).mono ?_
    rintro e w0 ⟨rfl, rfl⟩
    go_wp2_with fail
    go_ret
    exact ⟨ret_bool HE.out.symm, HB.out.1⟩
  cases h1 : inB g.early 0 1440 <;> rw [h1] at H1
  · have HE := hn false (by unfold grpB; rw [h0, h1]; rfl)
    clear hn h0 h1
    go_enter Try.func73, Try.ntmps73
    go_wp2_with fail
    refine (H0.out _).mono ?_
    rintro e w0 ⟨rfl, rfl⟩
    go_wp2_with fail
    refine (H1.out _).mono ?_
    rintro e w1 ⟨rfl, rfl⟩
    go_wp2_with fail
    go_ret
    exact ⟨ret_bool HE.out.symm, HB.out.1⟩
  cases h2 : inB g.late 0 1440 <;> rw [h2] at H2
  · have HE := hn false (by unfold grpB; rw [h0, h1, h2]; rfl)
    clear hn h0 h1 h2
    go_enter Try.func73, Try.ntmps73
    go_wp2_with fail
    refine (H0.out _).mono ?_
    rintro e w0 ⟨rfl, rfl⟩
    go_wp2_with fail
    refine (H1.out _).mono ?_
    rintro e w1 ⟨rfl, rfl⟩
    go_wp2_with fail
    refine (H2.out _).mono ?_
    rintro e w2 ⟨rfl, rfl⟩
    go_wp2_with fail
    go_ret
    exact ⟨ret_bool HE.out.symm, HB.out.1⟩
  cases h3 : inB g.most 0 12 <;> rw [h3] at H3
  · have HE := hn false (by unfold grpB; rw [h0, h1, h2, h3]; rfl)
    clear hn h0 h1 h2 h3
    go_enter Try.func73, Try.ntmps73
    go_wp2_with fail
    refine (H0.out _).mono ?_
    rintro e w0 ⟨rfl, rfl⟩
    go_wp2_with fail
    refine (H1.out _).mono ?_
    rintro e w1 ⟨rfl, rfl⟩
    go_wp2_with fail
    refine (H2.out _).mono ?_
    rintro e w2 ⟨rfl, rfl⟩
    go_wp2_with fail
    refine (H3.out _).mono ?_
    rintro e w3 ⟨rfl, rfl⟩
    go_wp2_with fail
    go_ret
    exact ⟨ret_bool HE.out.symm, HB.out.1⟩
  cases h4 : inB g.credit 0 1000 <;> rw [h4] at H4
  · have HE := hn false (by unfold grpB; rw [h0, h1, h2, h3, h4]; rfl)
    clear hn h0 h1 h2 h3 h4
    go_enter Try.func73, Try.ntmps73
    go_wp2_with fail
    refine (H0.out _).mono ?_
    rintro e w0 ⟨rfl, rfl⟩
    go_wp2_with fail
    refine (H1.out _).mono ?_
    rintro e w1 ⟨rfl, rfl⟩
    go_wp2_with fail
    refine (H2.out _).mono ?_
    rintro e w2 ⟨rfl, rfl⟩
    go_wp2_with fail
    refine (H3.out _).mono ?_
    rintro e w3 ⟨rfl, rfl⟩
    go_wp2_with fail
    refine (H4.out _).mono ?_
    rintro e w4 ⟨rfl, rfl⟩
    go_wp2_with fail
    go_ret
    exact ⟨ret_bool HE.out.symm, HB.out.1⟩
  have HE := hn true (by unfold grpB; rw [h0, h1, h2, h3, h4]; rfl)
  clear hn h0 h1 h2 h3 h4
  go_enter Try.func73, Try.ntmps73
  go_wp2_with fail
  refine (H0.out _).mono ?_
  rintro e w0 ⟨rfl, rfl⟩
  go_wp2_with fail
  refine (H1.out _).mono ?_
  rintro e w1 ⟨rfl, rfl⟩
  go_wp2_with fail
  refine (H2.out _).mono ?_
  rintro e w2 ⟨rfl, rfl⟩
  go_wp2_with fail
  refine (H3.out _).mono ?_
  rintro e w3 ⟨rfl, rfl⟩
  go_wp2_with fail
  refine (H4.out _).mono ?_
  rintro e w4 ⟨rfl, rfl⟩
  go_wp2_with fail
  go_ret
  exact ⟨ret_bool HE.out.symm, HB.out.1⟩
set_option maxRecDepth 100000 in
set_option maxHeartbeats 4000000 in
theorem validHour_any (h : Hr) (W : World) : Calls Try.prog 74 #[hrv h] W (BoolPost (hourB h) W) := by
  have HB := Lib.hid (below_one W (.cells (hrc h) 88))
  have H0 := Lib.hid (fun w => within_any h.day 0 6 w)
  have hn : ∀ c, hourB h = c → Hid (hourB h = c) := fun b h => h
  unfold hrv
  cases h0 : inB h.day 0 6 <;> rw [h0] at H0
  · have HE := hn false (by unfold hourB; rw [h0]; rfl)
    clear hn h0
    go_enter Try.func74, Try.ntmps74
    go_wp2_with fail
    refine (H0.out _).mono ?_
    rintro e w0 ⟨rfl, rfl⟩
    go_wp2_with fail
    go_ret
    exact ⟨ret_bool HE.out.symm, HB.out⟩
  have h3 : ¬ 0 ≤ h.beg ∨ (0 ≤ h.beg ∧ ¬ h.beg < h.fin) ∨ (0 ≤ h.beg ∧ h.beg < h.fin ∧ ¬ h.fin ≤ 1440) ∨ (0 ≤ h.beg ∧ h.beg < h.fin ∧ h.fin ≤ 1440) := by omega
  rcases h3 with p0 | ⟨p0, p1⟩ | ⟨p0, p1, p2⟩ | ⟨p0, p1, p2⟩
  rotate_right
  · have HE := hn true (by unfold hourB; rw [h0]; simp [p0, p1, p2])
    clear hn h0
    go_enter Try.func74, Try.ntmps74
    go_wp2_with fail
    refine (H0.out _).mono ?_
    rintro e w0 ⟨rfl, rfl⟩
    go_wp2_with fail
    go_ret
    exact ⟨ret_bool HE.out.symm, HB.out⟩
  all_goals
    have HE := hn false (by unfold hourB; rw [h0]; simp; omega)
    clear hn h0
    go_enter Try.func74, Try.ntmps74
    go_wp2_with fail
    refine (H0.out _).mono ?_
    rintro e w0 ⟨rfl, rfl⟩
    go_wp2_with fail
    go_ret
    exact ⟨ret_bool (by first | exact HE.out.symm | (rw [HE.out]; simp <;> omega)), HB.out⟩
set_option maxRecDepth 100000 in
set_option maxHeartbeats 4000000 in
theorem follows_any (a h : Hr) (W : World) : Calls Try.prog 75 #[hrv a, hrv h] W (BoolPost (folB a h) W) := by
  have HB := Lib.hid ((below_one W (.cells (hrc a) 88)).alloc (by simp) (.cells (hrc h) 88))
  have hn : ∀ c, folB a h = c → Hid (folB a h = c) := fun b h => h
  unfold hrv
  have h3 : a.day < h.day ∨ (¬ a.day < h.day ∧ ¬ h.day = a.day) ∨ (h.day = a.day ∧ ¬ a.fin ≤ h.beg) ∨ (h.day = a.day ∧ a.fin ≤ h.beg) := by omega
  rcases h3 with p0 | ⟨p0, p1⟩ | ⟨p1, p2⟩ | ⟨p1, p2⟩
  · have HE := hn true (by unfold folB; simp [p0])
    clear hn
    go_enter Try.func75, Try.ntmps75
    go_wp2_with fail
    go_ret
    exact ⟨ret_bool HE.out.symm, HB.out⟩
  · have HE := hn false (by unfold folB; simp [p0, p1])
    have p1 : (h.day == a.day) = false := by simpa using p1
    clear hn
    go_enter Try.func75, Try.ntmps75
    go_wp2_with fail
    go_ret
    exact ⟨ret_bool HE.out.symm, HB.out⟩
  · have HE := hn false (by unfold folB; simp [p1]; omega)
    have p0 : ¬ a.day < h.day := by omega
    have p1 : (h.day == a.day) = true := by simpa using p1
    clear hn
    go_enter Try.func75, Try.ntmps75
    go_wp2_with fail
    go_ret
    exact ⟨ret_bool HE.out.symm, HB.out⟩
  · have HE := hn true (by unfold folB; simp [p1, p2])
    have p0 : ¬ a.day < h.day := by omega
    have p1 : (h.day == a.day) = true := by simpa using p1
    clear hn
    go_enter Try.func75, Try.ntmps75
    go_wp2_with fail
    go_ret
    exact ⟨ret_bool HE.out.symm, HB.out⟩
end Go.Proofs.Ytipejhfgfciabaa

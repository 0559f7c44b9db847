/- The sensors' numbers, the comparison, the sort. -/
import Derived.Shelf.SlSortCmp.InsertionK
import Derived.Sort.LotA
import Derived.Lib.Hide
import Derived.Shelf.Abstract
import Derived.BigGuardPart
import Derived.Test.YtfdjoldcdfbfhaaAlB
import Derived.Test.YtfdjoldcdfbfhaaMem
import Derived.Test.YtfdjoldcdfbfhaaProg
namespace Go.Proofs.Ytfdjoldcdfbfhaa
open Go.Shelf Go.RowKit Go.Lib Go.Sort
def snv (s : Sn) : Value := .agg #[.int .i64 s.f, .int .i64 s.e, .int .i64 s.r]
theorem isNaN_any (x : Int) (w : World) : Calls Try.prog 69 #[.int .i64 x] w fun e w' => e = .returned (.bool false) ∧ w' = w := by
  have hq : ((x : Int) != x) = false := by simp
  go_enter Try.func69, Try.ntmps69
  go_wp2
  go_ret
  exact ⟨rfl, rfl⟩
theorem compare_any (x y : Int) (w : World) : Calls Try.prog 66 #[.int .i64 x, .int .i64 y] w fun e w' => (∃ c, e = .returned (.int .i64 c) ∧ (c < 0 ↔ x < y) ∧ c = compareInt x y) ∧ w' = w := by
  have hc : compareInt x y = if x < y then -1 else if y < x then 1 else 0 := by unfold compareInt; rfl
  by_cases h1 : x < y
  · go_enter Try.func66, Try.ntmps66
    go_wp2_with fail
    refine (isNaN_any _ _).mono ?_
    rintro e w' ⟨rfl, rfl⟩
    go_wp2_with fail
    refine (isNaN_any _ _).mono ?_
    rintro e w' ⟨rfl, rfl⟩
    go_wp2_with fail
    go_ret
    exact ⟨⟨_, rfl, by omega, by rw [hc, if_pos h1]⟩, rfl⟩
  · by_cases h2 : y < x
    · go_enter Try.func66, Try.ntmps66
      go_wp2_with fail
      refine (isNaN_any _ _).mono ?_
      rintro e w' ⟨rfl, rfl⟩
      go_wp2_with fail
      refine (isNaN_any _ _).mono ?_
      rintro e w' ⟨rfl, rfl⟩
      go_wp2_with fail
      go_ret
      exact ⟨⟨_, rfl, by omega, by rw [hc, if_neg (by omega), if_pos h2]⟩, rfl⟩
    · go_enter Try.func66, Try.ntmps66
      go_wp2_with fail
      refine (isNaN_any _ _).mono ?_
      rintro e w' ⟨rfl, rfl⟩
      go_wp2_with fail
      refine (isNaN_any _ _).mono ?_
      rintro e w' ⟨rfl, rfl⟩
      go_wp2_with fail
      go_ret
      exact ⟨⟨_, rfl, by omega, by rw [hc, if_neg (by omega), if_neg (by omega)]⟩, rfl⟩
/-- what a call that only lays blocks leaves -/
def Gr (w : World) (e : Ending) (v : Value) (w' : World) : Prop := e = .returned v ∧ ∃ q os', w' = grow (w.drewN q) os'
theorem sureFrom_any (s : Sn) (t rise m : Int) (w : World) (hs : vS s) (ht : 0 ≤ t ∧ t ≤ 4194304) (hr : 0 ≤ rise ∧ rise ≤ 1048576) (hm : 0 ≤ m ∧ m ≤ 2000) :
    Calls Try.prog 58 #[snv s, .int .i64 t, .int .i64 rise, .int .i64 m] w fun e w' => Gr w e (.int .i64 (num t rise m s)) w' := by
  obtain ⟨h1, h2, h3⟩ := hs
  unfold snv
  by_cases hb : m < s.f
  · have hn := Lib.hid (show num t rise m s = 1048577 by unfold num; rw [if_pos hb])
    go_enter Try.func58, Try.ntmps58
    go_wp2
    go_ret
    exact ⟨by rw [hn.out]; rfl, 0, _, by rw [alloc_eq_grow]; rfl⟩
  · by_cases h0 : t + s.r = 0
    · have hn := Lib.hid (show num t rise m s = 0 by unfold num; rw [if_neg hb, if_pos h0])
      have hq : (t + s.r == 0) = true := by simp [h0]
      go_enter Try.func58, Try.ntmps58
      go_wp2
      go_ret
      exact ⟨by rw [hn.out]; rfl, 0, _, by rw [alloc_eq_grow]; rfl⟩
    · have hq : (t + s.r == 0) = false := by simp [h0]
      have hb' := tmod_bd (a := m - s.f) (b := s.e) (by omega) h2.1
      have hn := Lib.hid (show num t rise m s = t + s.r + rise * ((m - s.f).tmod s.e) by unfold num; rw [if_neg hb, if_neg h0])
      obtain ⟨q, hqq⟩ : ∃ q, (m - s.f).tmod s.e = q := ⟨_, rfl⟩
      rw [hqq] at hb' hn
      have h4 := Int.mul_nonneg hr.1 hb'.1
      have h5 : rise * q ≤ 1048576 * 999 := Int.mul_le_mul hr.2 (by omega) hb'.1 (by omega)
      obtain ⟨p, hp⟩ : ∃ p, rise * q = p := ⟨_, rfl⟩
      rw [hp] at h4 h5 hn
      have he0 : ¬ s.e = 0 := by omega
      have hw1 : IntKind.i64.wrap (m - s.f) = m - s.f := by rw [IntKind.wrap_i64]; omega
      have hw2 : IntKind.i64.wrap q = q := by rw [IntKind.wrap_i64]; omega
      have hw3 : IntKind.i64.wrap p = p := by rw [IntKind.wrap_i64]; omega
      have hw4 : IntKind.i64.wrap (t + s.r) = t + s.r := by rw [IntKind.wrap_i64]; omega
      have hw5 : IntKind.i64.wrap (t + s.r + p) = t + s.r + p := by rw [IntKind.wrap_i64]; omega
      go_enter Try.func58, Try.ntmps58
      go_wp2
      go_quiet (fail)
      go_wp2
      go_ret
      exact ⟨by rw [hn.out]; rfl, nq, _, by rw [alloc_eq_grow]; rfl⟩
/-- what a call that only lays blocks leaves, said of what came before -/
theorem Gr.below {w w' : World} {e : Ending} {v : Value} (h : Gr w e v w') : Below w.heap.size w w' := by
  obtain ⟨-, q, os', rfl⟩ := h
  exact ⟨rfl, rfl, rfl, by rw [size_grow]; exact Nat.le_add_right _ _, fun k hk => by show (w.heap ++ os')[k]? = w.heap[k]?; exact Array.getElem?_append_left hk⟩
theorem grow_seq {w w' : World} {o : Obj} (h : ∃ q os', w' = grow ((w.alloc o).drewN q) os') : ∃ q os', w' = grow (w.drewN q) os' := by
  obtain ⟨q, os', rfl⟩ := h
  exact ⟨q, #[o] ++ os', by rw [alloc_eq_grow, ← grow_grow]; rfl⟩
theorem worstNum_any (s : Sn) (t rise m : Int) (a1 a2 a3 : Addr) (w : World) (hs : vS s) (ht : 0 ≤ t ∧ t ≤ 4194304) (hr : 0 ≤ rise ∧ rise ≤ 1048576) (hm : 0 ≤ m ∧ m ≤ 2000)
    (c1 : w.cell? a1 = some (.int .i64 t)) (c2 : w.cell? a2 = some (.int .i64 rise)) (c3 : w.cell? a3 = some (.int .i64 m)) (l1 : a1.block < w.heap.size) (l2 : a2.block < w.heap.size) (l3 : a3.block < w.heap.size) :
    Calls Try.prog 57 #[snv s, .pointer (some a1), .pointer (some a2), .pointer (some a3)] w fun e w' => Gr w e (.int .i64 (num t rise m s)) w' := by
  have hcon := fun w' => sureFrom_any s t rise m w' hs ht hr hm
  have HS := Lib.hid (And.intro hs (And.intro ht (And.intro hr hm)))
  obtain ⟨n, hn⟩ : ∃ n, num t rise m s = n := ⟨_, rfl⟩
  rw [hn] at hcon ⊢
  clear hs ht hr hm hn
  unfold snv at hcon ⊢
  have k1 : ∀ o, (w.alloc o).cell? a1 = some (.int .i64 t) := fun o => (below_one w o).cell l1 |>.trans c1
  have k2 : ∀ o, (w.alloc o).cell? a2 = some (.int .i64 rise) := fun o => (below_one w o).cell l2 |>.trans c2
  have k3 : ∀ o, (w.alloc o).cell? a3 = some (.int .i64 m) := fun o => (below_one w o).cell l3 |>.trans c3
  clear c1 c2 c3
  go_enter Try.func57, Try.ntmps57
  go_wp2_with fail
  refine (hcon _).mono ?_
  rintro e w' ⟨rfl, hw'⟩
  go_wp2_with fail
  go_ret
  exact ⟨rfl, grow_seq hw'⟩
theorem quietNum_any (s : Sn) (w : World) (hs : vS s) : Calls Try.prog 56 #[snv s] w fun e w' => Gr w e (.int .i64 (-s.r)) w' := by
  have h := hs.2.2
  unfold snv
  go_enter Try.func56, Try.ntmps56
  go_wp2
  go_ret
  exact ⟨rfl, 0, _, by rw [alloc_eq_grow]; rfl⟩
end Go.Proofs.Ytfdjoldcdfbfhaa

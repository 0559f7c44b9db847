/- Contracts: counting, sum, total, rounded. -/
import Derived.Test.YtmclchaalmonnaaScF
import Derived.Test.YtmclchaalmonnaaShf
import Derived.Lib.OwnBridge
import Derived.Sort.OwnSortedInts
namespace Go.Proofs.Ytmclchaalmonnaa
open Go.RowKit
/-- rows of numbers, sorted -/
theorem ins_perm (a : Int) : ∀ l, (ins a l).Perm (a :: l)
  | [] => .refl _
  | b :: l => by
    unfold ins
    split
    · exact .refl _
    · exact ((ins_perm a l).cons b).trans (.swap a b l)
theorem srt_perm : ∀ l, (srt l).Perm l
  | [] => .refl _
  | a :: l => (ins_perm a (srt l)).trans ((srt_perm l).cons a)
theorem ins_sorted (a : Int) : ∀ l, l.Pairwise (· ≤ ·) → (ins a l).Pairwise (· ≤ ·)
  | [], _ => by simp [ins]
  | b :: l, h => by
    obtain ⟨h1, h2⟩ := List.pairwise_cons.1 h
    unfold ins
    split
    · rename_i hab
      refine List.pairwise_cons.2 ⟨fun c hc => ?_, h⟩
      rcases List.mem_cons.1 hc with rfl | hc
      · exact hab
      · exact Int.le_trans hab (h1 c hc)
    · rename_i hab
      refine List.pairwise_cons.2 ⟨fun c hc => ?_, ins_sorted a l h2⟩
      rcases List.mem_cons.1 ((ins_perm a l).mem_iff.1 hc) with rfl | hc
      · omega
      · exact h1 c hc
theorem srt_sorted : ∀ l, (srt l).Pairwise (· ≤ ·)
  | [] => .nil
  | a :: l => ins_sorted a _ (srt_sorted l)
theorem sorted_unique : ∀ {l m : List Int}, l.Perm m → l.Pairwise (· ≤ ·) → m.Pairwise (· ≤ ·) → l = m := fun h h1 h2 =>
  List.Perm.eq_of_pairwise (fun _ _ _ _ h h' => Int.le_antisymm h h') h1 h2 h
theorem mergeSort_srt (l : List Int) : (l.mergeSort fun x y => decide (x ≤ y)) = srt l := by
  refine sorted_unique ((List.mergeSort_perm l _).trans (srt_perm l).symm) ?_ (srt_sorted l)
  have := List.pairwise_mergeSort (le := fun x y : Int => decide (x ≤ y)) (fun _ _ _ h1 h2 => by simp at *; omega) (fun _ _ => by simp; omega) l
  exact this.imp (fun h => by simpa using h)
/-- a new sorted row -/
def SrtPost (l : List Int) (W : World) (e : Ending) (W' : World) : Prop :=
  ∃ g c, W.heap.size ≤ g ∧ e = .returned (.slice (some ⟨g, 0, none⟩) l.length c) ∧ (∀ j (h : j < l.length), g < W'.heap.size ∧ W'.cell? ⟨g, j, none⟩ = some (.int .i64 l[j])) ∧ Below W.heap.size W W'
theorem clone_any (l : List Int) (g o c : Nat) (W : World) (hc : ∀ j (h : j < l.length), W.cell? ⟨g, o + j, none⟩ = some (.int .i64 l[j])) (hl : l.length ≤ 1000000) :
    Calls Try.prog 80 #[.slice (some ⟨g, o, none⟩) l.length c] W fun e w' => ∃ v', e = .returned v' ∧ w'.ownsRow W.heap.size 3 1 v' l.length (l.map (Value.int .i64)) ∧ v' ≠ .slice none 0 0 ∧ Below W.heap.size W w' := by
  have h := Go.Proofs.Try.slices_Clone_int g o l.length c l W (Nat.le_refl _) (by omega) (fun j hj => by rw [hc j hj]; simp [List.getD, hj])
  rw [List.take_length] at h
  exact h
theorem sort_any (l : List Int) (g c : Nat) (B : Nat) (W : World) (h : W.ownsRow B 3 1 (.slice (some ⟨g, 0, none⟩) l.length c) l.length (l.map (Value.int .i64))) (hl : l.length ≤ 1000000) :
    Calls Try.prog 50 #[.slice (some ⟨g, 0, none⟩) l.length c] W fun e w' => e = .returned (.tuple #[]) ∧ (∀ j (hj : j < (srt l).length), g < w'.heap.size ∧ w'.cell? ⟨g, j, none⟩ = some (.int .i64 (srt l)[j])) ∧ W.grownBy w' (some g) := by
  obtain ⟨g', c', e0, _, hlt, _, _, _, hH⟩ := Go.Lib.holds_of_ownsRow h (by intro e; cases e)
  cases e0
  refine (Go.Proofs.Try.slices_Sort_int g 0 c l W hH hlt (by omega)).mono ?_
  rintro e w' ⟨rfl, n, os, rfl⟩
  rw [mergeSort_srt]
  refine ⟨rfl, fun j hj => ⟨?_, ?_⟩, Go.grownBy_sortedI _⟩
  · simp [Go.Sort.grow]; omega
  · rw [Go.Sort.cell?_grow _ _ _ (by simpa using hlt)]
    have := Go.Sort.cell?_putRow (Value.int .i64) (Go.Sort.ahead W n) g 0 l.toArray (srt l).toArray hH (by simp [srt_length]) j (by simpa using hj)
    rw [Nat.zero_add] at this
    rw [this]
    simp [hj]

/-- the marks that count, in a new row -/
def CntPost (l : List Int) (W : World) (e : Ending) (W' : World) : Prop :=
  ∃ A c, e = .returned (.slice A (mid l).length c) ∧ IRow W' W'.heap.size A (mid l) ∧ Below W.heap.size W W'
set_option maxRecDepth 100000 in
set_option maxHeartbeats 1000000 in
theorem counting_any (l : List Int) (A : Option Addr) (c : Nat) (W : World) (ha : IRow W W.heap.size A l) (h1 : 1 ≤ l.length) (h9 : l.length ≤ 9) :
    Calls Try.prog 60 #[.slice A l.length c] W (CntPost l W) := by
  obtain ⟨g, o, rfl, -⟩ := ha 0 (by omega)
  have HC := Lib.hid (clone_any l g o c W (fun j hj => by obtain ⟨g', o', e, -, h⟩ := ha j hj; cases e; exact h) (by omega))
  have HL := Lib.hid (srt_length l)
  have HL2 := Lib.hid h9
  clear ha
  go_enter Try.func60, Try.ntmps60
  go_wp2_with fail
  refine HC.out.mono ?_
  rintro e w1 ⟨v', rfl, hown, hne, hb⟩
  obtain ⟨g', c', rfl, hbg, hlt, hcap, hx1, hx2, hx3⟩ := Go.Lib.holds_of_ownsRow hown hne
  have HS := Lib.hid (sort_any l g' c' _ w1 hown (by omega))
  have HB := Lib.hid (And.intro hb (And.intro hbg hlt))
  clear hown hne hb hbg hlt hx1 hx2 hx3
  go_wp2_with fail
  refine HS.out.mono ?_
  rintro e w2 ⟨rfl, hcs, hgr⟩
  have H2 := Lib.hid (And.intro hcs (HB.out.1.grown hgr HB.out.1.size (fun k hk => by cases hk; exact HB.out.2.1)))
  clear hcs hgr
  by_cases h5 : 5 ≤ l.length
  · have h5' : (5 : Int) ≤ l.length := by omega
    have HM : Hid (mid l = ((srt l).take (l.length - 1)).drop 1) := Lib.hid (by unfold mid; rw [if_pos h5])
    have q1 : (1 : Int) ≤ (l.length : Int) - 1 := by omega
    have q2 : (l.length : Int) - 1 ≤ c' := by omega
    have q3 : ¬ c' = 1 := by omega
    go_wp2_with fail
    go_ret
    refine ⟨some ⟨g', 1, none⟩, c' - 1, by rw [HM.out, List.length_drop, List.length_take, HL.out, Nat.min_eq_left (by omega)]; rfl, ?_, H2.out.2⟩
    rw [HM.out]
    intro k hk
    have hk' : k + 1 < (srt l).length := by rw [List.length_drop, List.length_take, HL.out] at hk; rw [HL.out]; omega
    refine ⟨g', 1, rfl, (H2.out.1 (k + 1) hk').1, ?_⟩
    rw [show 1 + k = k + 1 by omega, (H2.out.1 (k + 1) hk').2]
    simp
  · have h5' : ¬ (5 : Int) ≤ l.length := by omega
    have HM : Hid (mid l = srt l) := Lib.hid (by unfold mid; rw [if_neg h5])
    clear h5
    go_wp2_with fail
    go_ret
    refine ⟨some ⟨g', 0, none⟩, c', by rw [HM.out, HL.out]; rfl, ?_, H2.out.2⟩
    rw [HM.out]
    exact fun k hk => ⟨g', 0, rfl, (H2.out.1 k hk).1, by simpa using (H2.out.1 k hk).2⟩
theorem sum_take_bd {l : List Int} {M : Int} (h : ∀ x ∈ l, -M ≤ x ∧ x ≤ M) (k : Nat) : k ≤ l.length → -(M * k) ≤ (l.take k).sum ∧ (l.take k).sum ≤ M * k := by
  induction k with
  | zero => intro _; simp
  | succ k ih =>
    intro hk
    have h1 := ih (by omega)
    have h2 := h l[k] (List.getElem_mem (by omega))
    rw [List.take_succ_eq_append_getElem (by omega), List.sum_append, List.sum_singleton, Int.natCast_add, Int.mul_add]
    omega
theorem sum_take_succ {l : List Int} {k : Nat} (h : k < l.length) : (l.take (k + 1)).sum = (l.take k).sum + l[k] := by
  rw [List.take_succ_eq_append_getElem h, List.sum_append, List.sum_singleton]
set_option maxRecDepth 100000 in
theorem same_any (n : Int) (w : World) : Calls Try.prog 79 #[.int .i64 n] w fun e w' => e = .returned (.int .i64 n) ∧ w' = w := by
  go_enter Try.func79, Try.ntmps79
  go_wp2_with fail
  go_ret
  exact ⟨rfl, rfl⟩
set_option maxRecDepth 100000 in
set_option maxHeartbeats 1000000 in
theorem sum_any (l : List Int) (A : Option Addr) (c : Nat) (W : World) (ha : IRow W W.heap.size A l) (hl : l.length ≤ 1000) (hb : ∀ x ∈ l, -1000000000000 ≤ x ∧ x ≤ 1000000000000) :
    Calls Try.prog 78 #[.slice A l.length c, .func (.func 79) #[] #[]] W (IntPost l.sum W) := by
  have HA := Lib.hid ha
  have HBD := Lib.hid hb
  have HSU := Lib.hid (sum_take_bd hb)
  have HSM := Lib.hid (fun n w => same_any n w)
  clear ha hb
  go_enter Try.func78, Try.ntmps78
  go_wp2_with fail
  go_loopg [10, 5] l.length (fun gk i n wr => ∃ k : Nat, k ≤ l.length ∧ l.length - k ≤ gk ∧ i = .int .i64 k ∧ n = .int .i64 (l.take k).sum ∧ wr = W)
  case atStart => exact ⟨0, Nat.zero_le _, Nat.le_refl _, rfl, rfl, rfl⟩
  case round =>
    obtain ⟨k, hk, hgk, rfl, rfl, rfl⟩ := hrel
    by_cases hlt : k < l.length
    rotate_left
    · have hge : ¬ (k : Int) < l.length := by omega
      have HE : Hid ((l.take k).sum = l.sum) := Lib.hid (by rw [List.take_of_length_le (by omega)])
      generalize (l.take k).sum = q at *
      go_wp2_with fail
      go_ret
      exact ⟨ret_int HE.out, Below.refl _ _⟩
    have hlt2 : (k : Int) < l.length := by omega
    obtain ⟨g, o, hg, hgs, hc⟩ := HA.out k hlt
    have hb1 := HSU.out k hk
    have hb2 := HBD.out l[k] (List.getElem_mem hlt)
    have HN := Lib.hid (sum_take_succ hlt)
    obtain ⟨q, hq⟩ : ∃ q, q = (l.take k).sum := ⟨_, rfl⟩
    obtain ⟨v, hv⟩ : ∃ v, v = l[k] := ⟨_, rfl⟩
    rw [← hq] at hb1 HN ⊢
    rw [← hv] at hb2 HN hc
    have e1 : IntKind.i64.wrap (q + v) = q + v := IntWalk.i64_in _ (by omega)
    subst hg
    clear hq hv hgs hb1 hb2
    go_wp2_with fail
    refine (HSM.out _ _).mono ?_
    rintro e w2 ⟨rfl, rfl⟩
    go_wp2_with fail
    go_roundg (l.length - (k + 1))
    case measure => omega
    case rel => exact ⟨k + 1, by omega, Nat.le_refl _, by go_num, by rw [HN.out], rfl⟩
set_option maxRecDepth 100000 in
theorem total_any (l : List Int) (A : Option Addr) (c : Nat) (W : World) (ha : IRow W W.heap.size A l) (hl : l.length ≤ 1000) (hb : ∀ x ∈ l, -1000000000000 ≤ x ∧ x ≤ 1000000000000) :
    Calls Try.prog 57 #[.slice A l.length c] W (IntPost l.sum W) := by
  have HS := Lib.hid (sum_any l A c W ha hl hb)
  clear ha hb
  go_enter Try.func57, Try.ntmps57
  go_wp2_with fail
  refine HS.out.mono ?_
  rintro e w2 ⟨rfl, hb⟩
  have HB := Lib.hid hb
  clear hb
  go_wp2_with fail
  go_ret
  exact ⟨rfl, HB.out⟩
set_option maxRecDepth 100000 in
theorem rounded_pos (n b : Int) (w : World) (h0 : 0 ≤ n ∧ n ≤ 1000000000000) (h1 : 1 ≤ b ∧ b ≤ 1000000) : Calls Try.prog 61 #[.int .i64 n, .int .i64 b] w fun e w' => e = .returned (.int .i64 (rnd n b)) ∧ w' = w := by
  have hn : ¬ n < 0 := by omega
  have HR : Hid (rnd n b = (2 * n + b) / (2 * b)) := Lib.hid (by unfold rnd; rw [if_neg hn])
  have HT : Hid ((2 * n + b).tdiv (2 * b) = (2 * n + b) / (2 * b)) := Lib.hid (Int.tdiv_eq_ediv_of_nonneg (by omega))
  go_enter Try.func61, Try.ntmps61
  go_wp2_with fail
  go_ret
  exact ⟨ret_int HR.out.symm, rfl⟩
set_option maxRecDepth 100000 in
theorem rounded_any (n b : Int) (w : World) (h0 : -1000000000000 ≤ n ∧ n ≤ 1000000000000) (h1 : 1 ≤ b ∧ b ≤ 1000000) : Calls Try.prog 61 #[.int .i64 n, .int .i64 b] w fun e w' => e = .returned (.int .i64 (rnd n b)) ∧ w' = w := by
  by_cases hn : 0 ≤ n
  · exact rounded_pos n b w ⟨hn, h0.2⟩ h1
  have hn : n < 0 := by omega
  have HP := Lib.hid (rounded_pos (-n) b w (by omega) h1)
  have HR : Hid (rnd n b = -(rnd (-n) b)) := Lib.hid (by unfold rnd; rw [if_pos hn, if_neg (by omega)])
  have hb : 0 ≤ rnd (-n) b ∧ rnd (-n) b ≤ 3000000000000 := by
    unfold rnd
    rw [if_neg (by omega)]
    have h2 : 0 ≤ (2 * -n + b) / (2 * b) := Int.ediv_nonneg (by omega) (by omega)
    have h3 : (2 * -n + b) / (2 * b) ≤ 2 * -n + b := Int.ediv_le_self _ (by omega)
    omega
  generalize rnd (-n) b = q at HP HR hb
  go_enter Try.func61, Try.ntmps61
  go_wp2_with fail
  refine HP.out.mono ?_
  rintro e w2 ⟨rfl, rfl⟩
  go_wp2_with fail
  go_ret
  exact ⟨ret_int HR.out.symm, rfl⟩
theorem rnd_bd {n b M : Int} (h0 : -M ≤ n ∧ n ≤ M) (h1 : 1 ≤ b) : -(2 * M + b) ≤ rnd n b ∧ rnd n b ≤ 2 * M + b := by
  unfold rnd
  split
  · have h2 : 0 ≤ (2 * -n + b) / (2 * b) := Int.ediv_nonneg (by omega) (by omega)
    have h3 : (2 * -n + b) / (2 * b) ≤ 2 * -n + b := Int.ediv_le_self _ (by omega)
    omega
  · have h2 : 0 ≤ (2 * n + b) / (2 * b) := Int.ediv_nonneg (by omega) (by omega)
    have h3 : (2 * n + b) / (2 * b) ≤ 2 * n + b := Int.ediv_le_self _ (by omega)
    omega
theorem mid_mem {l : List Int} {x : Int} (h : x ∈ mid l) : x ∈ l := by
  unfold mid at h
  split at h
  · exact (srt_perm l).mem_iff.1 (List.mem_of_mem_take (List.mem_of_mem_drop h))
  · exact (srt_perm l).mem_iff.1 h
end Go.Proofs.Ytmclchaalmonnaa

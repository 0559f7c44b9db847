/- Contracts: rising, Equal, Compare. -/
import Derived.Test.YtipejhfgfciabaaHrE
import Derived.Test.YtipejhfgfciabaaShf
import Derived.Lib.OwnBridge
import Derived.Sort.OwnSortedInts
namespace Go.Proofs.Ytipejhfgfciabaa
open Go.RowKit
/-- rows of numbers, sorted -/
theorem ins_perm (a : Int) : ∀ l, (ins a l).Perm (a :: l)
  | [] => .refl _
  | b :: l => by
    unfold ins
    split
    · exact .refl _
    · exact ((ins_perm a l).cons b).trans (.swap a b l)
theorem srt_perm : ∀ l, (srt l).Perm l
  | [] => .refl _
  | a :: l => (ins_perm a (srt l)).trans ((srt_perm l).cons a)
theorem ins_sorted (a : Int) : ∀ l, l.Pairwise (· ≤ ·) → (ins a l).Pairwise (· ≤ ·)
  | [], _ => by simp [ins]
  | b :: l, h => by
    obtain ⟨h1, h2⟩ := List.pairwise_cons.1 h
    unfold ins
    split
    · rename_i hab
      refine List.pairwise_cons.2 ⟨fun c hc => ?_, h⟩
      rcases List.mem_cons.1 hc with rfl | hc
      · exact hab
      · exact Int.le_trans hab (h1 c hc)
    · rename_i hab
      refine List.pairwise_cons.2 ⟨fun c hc => ?_, ins_sorted a l h2⟩
      rcases List.mem_cons.1 ((ins_perm a l).mem_iff.1 hc) with rfl | hc
      · omega
      · exact h1 c hc
theorem srt_sorted : ∀ l, (srt l).Pairwise (· ≤ ·)
  | [] => .nil
  | a :: l => ins_sorted a _ (srt_sorted l)
theorem sorted_unique : ∀ {l m : List Int}, l.Perm m → l.Pairwise (· ≤ ·) → m.Pairwise (· ≤ ·) → l = m := fun h h1 h2 =>
  List.Perm.eq_of_pairwise (fun _ _ _ _ h h' => Int.le_antisymm h h') h1 h2 h
theorem mergeSort_srt (l : List Int) : (l.mergeSort fun x y => decide (x ≤ y)) = srt l := by
  refine sorted_unique ((List.mergeSort_perm l _).trans (srt_perm l).symm) ?_ (srt_sorted l)
  have := List.pairwise_mergeSort (le := fun x y : Int => decide (x ≤ y)) (fun _ _ _ h1 h2 => by simp at *; omega) (fun _ _ => by simp; omega) l
  exact this.imp (fun h => by simpa using h)
/-- a new sorted row -/
def SrtPost (l : List Int) (W : World) (e : Ending) (W' : World) : Prop :=
  ∃ g c, W.heap.size ≤ g ∧ e = .returned (.slice (some ⟨g, 0, none⟩) l.length c) ∧ (∀ j (h : j < l.length), g < W'.heap.size ∧ W'.cell? ⟨g, j, none⟩ = some (.int .i64 l[j])) ∧ Below W.heap.size W W'
theorem clone_any (l : List Int) (g o c : Nat) (W : World) (hc : ∀ j (h : j < l.length), W.cell? ⟨g, o + j, none⟩ = some (.int .i64 l[j])) (hl : l.length ≤ 1000000) :
    Calls Try.prog 80 #[.slice (some ⟨g, o, none⟩) l.length c] W fun e w' => ∃ v', e = .returned v' ∧ w'.ownsRow W.heap.size 3 1 v' l.length (l.map (Value.int .i64)) ∧ v' ≠ .slice none 0 0 ∧ Below W.heap.size W w' := by
  have h := Go.Proofs.Try.slices_Clone_int g o l.length c l W (Nat.le_refl _) (by omega) (fun j hj => by rw [hc j hj]; simp [List.getD, hj])
  rw [List.take_length] at h
  exact h
theorem sort_any (l : List Int) (g c : Nat) (B : Nat) (W : World) (h : W.ownsRow B 3 1 (.slice (some ⟨g, 0, none⟩) l.length c) l.length (l.map (Value.int .i64))) (hl : l.length ≤ 1000000) :
    Calls Try.prog 81 #[.slice (some ⟨g, 0, none⟩) l.length c] W fun e w' => e = .returned (.tuple #[]) ∧ (∀ j (hj : j < (srt l).length), g < w'.heap.size ∧ w'.cell? ⟨g, j, none⟩ = some (.int .i64 (srt l)[j])) ∧ W.grownBy w' (some g) := by
  obtain ⟨g', c', e0, _, hlt, _, _, _, hH⟩ := Go.Lib.holds_of_ownsRow h (by intro e; cases e)
  cases e0
  refine (Go.Proofs.Try.slices_Sort_int g 0 c l W hH hlt (by omega)).mono ?_
  rintro e w' ⟨rfl, n, os, rfl⟩
  rw [mergeSort_srt]
  refine ⟨rfl, fun j hj => ⟨?_, ?_⟩, Go.grownBy_sortedI _⟩
  · simp [Go.Sort.grow]; omega
  · rw [Go.Sort.cell?_grow _ _ _ (by simpa using hlt)]
    have := Go.Sort.cell?_putRow (Value.int .i64) (Go.Sort.ahead W n) g 0 l.toArray (srt l).toArray hH (by simp [srt_length]) j (by simpa using hj)
    rw [Nat.zero_add] at this
    rw [this]
    simp [hj]
set_option maxRecDepth 100000 in
set_option maxHeartbeats 1000000 in
theorem rising_any (l : List Int) (g o c : Nat) (W : World) (hc : ∀ j (h : j < l.length), W.cell? ⟨g, o + j, none⟩ = some (.int .i64 l[j])) (hl : l.length ≤ 1000000) :
    Calls Try.prog 46 #[.slice (some ⟨g, o, none⟩) l.length c] W (SrtPost (srt l) W) := by
  have HC := Lib.hid (clone_any l g o c W hc hl)
  have HL := Lib.hid (And.intro hl (srt_length l))
  clear hc hl
  go_enter Try.func46, Try.ntmps46
  go_wp2_with fail
  refine HC.out.mono ?_
  rintro e w1 ⟨v', rfl, hown, hne, hb⟩
  obtain ⟨g', c', rfl, hbg, hlt, -, -, -, -⟩ := Go.Lib.holds_of_ownsRow hown hne
  have HS := Lib.hid (sort_any l g' c' _ w1 hown HL.out.1)
  have HB := Lib.hid (And.intro hb (And.intro hbg hlt))
  clear hown hne hb hbg hlt
  go_wp2_with fail
  refine HS.out.mono ?_
  rintro e w2 ⟨rfl, hcs, hgr⟩
  have H2 := Lib.hid (And.intro hcs (HB.out.1.grown hgr HB.out.1.size (fun k hk => by cases hk; exact HB.out.2.1)))
  clear hcs hgr
  go_wp2_with fail
  go_ret
  exact ⟨g', c', HB.out.2.1, by rw [HL.out.2]; rfl, H2.out.1, H2.out.2⟩
theorem equal_any (l m : List Int) (A A' : Option Addr) (c d B B' : Nat) (W : World) (h1 : IRow W B A l) (h2 : IRow W B' A' m) (hl : l.length ≤ 1000000) (hm : m.length ≤ 1000000) :
    Calls Try.prog 84 #[.slice A l.length c, .slice A' m.length d] W fun e w' => e = .returned (.bool (decide (l = m))) ∧ ∃ q, w' = W.drewN q := by
  by_cases hlm : l.length = m.length
  · rcases Nat.eq_zero_or_pos l.length with h0 | h0
    · have e1 : l = [] := List.eq_nil_of_length_eq_zero h0
      have e2 : m = [] := List.eq_nil_of_length_eq_zero (by omega)
      subst e1 e2
      exact (Go.Proofs.Try.slices_Equal_int_empty A A' c 0 d W (by omega)).mono fun e w' ⟨he, hw⟩ => ⟨by rw [he]; rfl, 0, hw⟩
    · obtain ⟨g, o, rfl, _, _⟩ := h1 0 h0
      obtain ⟨g', o', rfl, _, _⟩ := h2 0 (by omega)
      have := Go.Proofs.Try.slices_Equal_int g o l.length c g' o' m.length d l m W (Nat.le_refl _) (Nat.le_refl _) (by omega) (by omega) (fun j hj => by
        obtain ⟨x, y, e, _, hc⟩ := h1 j hj
        cases e; rw [hc]; simp [List.getD, hj]) (fun j hj => by
        obtain ⟨x, y, e, _, hc⟩ := h2 j hj
        cases e; rw [hc]; simp [List.getD, hj])
      rw [List.take_length, List.take_length] at this
      exact this.mono fun e w' ⟨he, hw⟩ => ⟨by rw [he]; congr 2; rw [Bool.eq_iff_iff]; simp, hw⟩
  · exact (Go.Proofs.Try.slices_Equal_int_lens A A' l.length c m.length d W hlm).mono fun e w' ⟨he, hw⟩ => ⟨by rw [he, decide_eq_false (fun e => hlm (by rw [e]))], 0, hw⟩
end Go.Proofs.Ytipejhfgfciabaa

/- The alarm, plainly: the number of a sensor, how many are at most x, the k-th of the numbers, the worst of the minutes. -/
import Derived.Test.YtfdjoldcdfbfhaaMem
namespace Go.Proofs.Ytfdjoldcdfbfhaa

structure Sn where
  f : Int
  e : Int
  r : Int
/-- from which concentration on a sensor surely says yes in minute m -/
def num (t rise m : Int) (s : Sn) : Int := if m < s.f then 1048577 else if t + s.r = 0 then 0 else t + s.r + rise * ((m - s.f).tmod s.e)
def cnt (x : Int) (l : List Int) : Nat := l.countP (fun n => decide (n ≤ x))
theorem cnt_cons (x a : Int) (l : List Int) : cnt x (a :: l) = cnt x l + if a ≤ x then 1 else 0 := by
  unfold cnt; rw [List.countP_cons]; simp
theorem cnt_perm {x : Int} {l l' : List Int} (h : l.Perm l') : cnt x l = cnt x l' := h.countP_eq _
theorem cnt_le (x : Int) (l : List Int) : cnt x l ≤ l.length := List.countP_le_length
theorem cnt_mono {x y : Int} (h : x ≤ y) (l : List Int) : cnt x l ≤ cnt y l := by
  induction l with
  | nil => simp [cnt]
  | cons a l ih => rw [cnt_cons, cnt_cons]; split <;> split <;> omega
theorem cnt_zero {x : Int} {l : List Int} (h : ∀ a ∈ l, x < a) : cnt x l = 0 := by
  unfold cnt; rw [List.countP_eq_zero]; intro a ha; have := h a ha; simp; omega
theorem sorted_idx {S : List Int} (hs : S.Pairwise (· ≤ ·)) {i : Nat} (hi : i < S.length) (x : Int) : S[i] ≤ x ↔ i < cnt x S := by
  induction S generalizing i with
  | nil => simp at hi
  | cons a l ih =>
    obtain ⟨h1, h2⟩ := List.pairwise_cons.1 hs
    rw [cnt_cons]
    by_cases ha : a ≤ x
    · rw [if_pos ha]
      cases i with
      | zero => simp [ha]
      | succ i => rw [List.getElem_cons_succ, ih h2 (by simpa using hi)]; omega
    · have h0 : cnt x l = 0 := cnt_zero fun b hb => by have := h1 b hb; omega
      rw [if_neg ha, h0]
      cases i with
      | zero => simpa using ha
      | succ i =>
        have := h1 _ (List.getElem_mem (l := l) (n := i) (by simpa using hi))
        simp only [List.getElem_cons_succ]; omega
/-- a is the K-th number, the least first, or 1048577 where that is more than 1048576, or there is none -/
def AtV (N : List Int) (K : Nat) (a : Int) : Prop := a ≤ 1048577 ∧ ∀ x, x ≤ 1048576 → (a ≤ x ↔ K ≤ cnt x N)
theorem AtV.uniq {N : List Int} {K : Nat} {a b : Int} (h : AtV N K a) (h' : AtV N K b) : a = b := by
  obtain ⟨h1, h2⟩ := h
  obtain ⟨h3, h4⟩ := h'
  rcases Int.lt_trichotomy a b with hl | hl | hl
  · have := (h4 a (by omega)).2 ((h2 a (by omega)).1 (Int.le_refl _)); omega
  · exact hl
  · have := (h2 b (by omega)).2 ((h4 b (by omega)).1 (Int.le_refl _)); omega
def pick (S : List Int) (K : Nat) : Int := match S[K - 1]? with | some n => if n ≤ 1048576 then n else 1048577 | none => 1048577
theorem pick_at {S N : List Int} (hs : S.Pairwise (· ≤ ·)) (hp : S.Perm N) {K : Nat} (hK : 1 ≤ K) : AtV N K (pick S K) := by
  unfold pick
  by_cases hk : K - 1 < S.length
  · rw [List.getElem?_eq_getElem hk]
    have h := fun x => sorted_idx hs hk x
    simp only
    refine ⟨by split <;> omega, fun x hx => ?_⟩
    rw [← cnt_perm hp, show K ≤ cnt x S ↔ S[K - 1] ≤ x by rw [h]; omega]
    split <;> omega
  · rw [List.getElem?_eq_none (by omega)]
    refine ⟨by simp, fun x hx => ?_⟩
    have := cnt_le x N
    have := hp.length_eq
    simp only; omega
def ins (a : Int) : List Int → List Int
  | [] => [a]
  | b :: l => if a ≤ b then a :: b :: l else b :: ins a l
def srt : List Int → List Int
  | [] => []
  | a :: l => ins a (srt l)
theorem ins_perm (a : Int) (l : List Int) : (ins a l).Perm (a :: l) := by
  induction l with
  | nil => exact List.Perm.refl _
  | cons b l ih =>
    unfold ins
    split
    · exact List.Perm.refl _
    · exact (ih.cons b).trans (List.Perm.swap a b l)
theorem ins_sorted (a : Int) {l : List Int} (h : l.Pairwise (· ≤ ·)) : (ins a l).Pairwise (· ≤ ·) := by
  induction l with
  | nil => simp [ins]
  | cons b l ih =>
    obtain ⟨h1, h2⟩ := List.pairwise_cons.1 h
    unfold ins
    split
    · rename_i hab
      refine List.pairwise_cons.2 ⟨fun x hx => ?_, h⟩
      rcases List.mem_cons.1 hx with rfl | hx
      · exact hab
      · have := h1 x hx; omega
    · rename_i hab
      refine List.pairwise_cons.2 ⟨fun x hx => ?_, ih h2⟩
      rcases List.mem_cons.1 ((ins_perm a l).mem_iff.1 hx) with rfl | hx
      · omega
      · exact h1 x hx
theorem srt_sorted (N : List Int) : (srt N).Pairwise (· ≤ ·) := by
  induction N with
  | nil => exact List.Pairwise.nil
  | cons a l ih => exact ins_sorted a ih
theorem srt_perm (N : List Int) : (srt N).Perm N := by
  induction N with
  | nil => exact List.Perm.refl _
  | cons a l ih => exact (ins_perm a (srt l)).trans (ih.cons a)
def atV (N : List Int) (K : Nat) : Int := pick (srt N) K
theorem atV_at (N : List Int) {K : Nat} (hK : 1 ≤ K) : AtV N K (atV N K) := pick_at (srt_sorted N) (srt_perm N) hK
theorem pick_eq {S N : List Int} (hs : S.Pairwise (· ≤ ·)) (hp : S.Perm N) {K : Nat} (hK : 1 ≤ K) : pick S K = atV N K := (pick_at hs hp hK).uniq (atV_at N hK)
/-- the worst of the first k minutes from 'from' on: how much, and when; none: there can be 1048576 in one -/
def worstP (f : Int → Int) (frm : Int) : Nat → Option (Int × Int)
  | 0 => some (-1, frm)
  | k + 1 => match worstP f frm k with
    | none => none
    | some x => if 1048576 < f (frm + k) then none else if x.1 < f (frm + k) - 1 then some (f (frm + k) - 1, frm + k) else some x
theorem worstP_none {f : Int → Int} {frm : Int} {k : Nat} (h : worstP f frm k = none) : ∀ j, k ≤ j → worstP f frm j = none := by
  intro j hj
  obtain ⟨d, rfl⟩ : ∃ d, j = k + d := ⟨j - k, by omega⟩
  induction d with
  | zero => exact h
  | succ d ih =>
    have := ih (by omega)
    show worstP f frm (k + d + 1) = none
    unfold worstP; rw [this]
/-- what the worst of k minutes is -/
def WorstR (f : Int → Int) (frm : Int) (k : Nat) (x : Int × Int) : Prop :=
  (∀ j : Nat, j < k → f (frm + j) ≤ 1048576 ∧ f (frm + j) - 1 ≤ x.1) ∧ ((x.1 = -1 ∧ x.2 = frm) ∨ (-1 < x.1 ∧ ∃ j : Nat, j < k ∧ x.2 = frm + j ∧ f (frm + j) - 1 = x.1 ∧ ∀ i : Nat, i < j → f (frm + i) - 1 < x.1))
theorem worstP_some {f : Int → Int} {frm : Int} {k : Nat} {x : Int × Int} (h : worstP f frm k = some x) : WorstR f frm k x := by
  induction k generalizing x with
  | zero =>
    simp only [worstP, Option.some.injEq] at h
    subst h
    exact ⟨fun j hj => absurd hj (by omega), .inl ⟨rfl, rfl⟩⟩
  | succ k ih =>
    unfold worstP at h
    cases hw : worstP f frm k with
    | none => rw [hw] at h; cases h
    | some y =>
      rw [hw] at h
      obtain ⟨i1, i2⟩ := ih hw
      simp only at h
      split at h
      · cases h
      rename_i hg
      split at h
      · rename_i hlt
        cases h
        refine ⟨fun j hj => ?_, ?_⟩
        · rcases Nat.lt_succ_iff_lt_or_eq.1 hj with hj | rfl
          · have := i1 j hj; simp only; omega
          · simp only; omega
        · have hm : -1 ≤ y.1 := by rcases i2 with h | h <;> omega
          refine .inr ⟨by simp only; omega, k, by omega, rfl, rfl, fun i hi => ?_⟩
          have := i1 i hi; simp only; omega
      · rename_i hlt
        cases h
        refine ⟨fun j hj => ?_, ?_⟩
        · rcases Nat.lt_succ_iff_lt_or_eq.1 hj with hj | rfl
          · exact i1 j hj
          · omega
        · rcases i2 with h | ⟨h, j, hj, r⟩
          · exact .inl h
          · exact .inr ⟨h, j, by omega, r⟩
theorem worstP_bad {f : Int → Int} {frm : Int} {k : Nat} (h : worstP f frm k = none) : ∃ j : Nat, j < k ∧ 1048576 < f (frm + j) := by
  induction k with
  | zero => cases h
  | succ k ih =>
    unfold worstP at h
    cases hw : worstP f frm k with
    | none => obtain ⟨j, a, b⟩ := ih hw; exact ⟨j, by omega, b⟩
    | some y =>
      rw [hw] at h
      simp only at h
      split at h
      · rename_i hg; exact ⟨k, by omega, hg⟩
      · split at h <;> cases h
theorem worstP_good {f : Int → Int} {frm : Int} {k : Nat} (h : ∀ j : Nat, j < k → f (frm + j) ≤ 1048576) : ∃ x, worstP f frm k = some x := by
  cases hw : worstP f frm k with
  | some x => exact ⟨x, rfl⟩
  | none => obtain ⟨j, a, b⟩ := worstP_bad hw; have := h j a; omega
/-- soon: there never is limit -/
theorem worst_soon {f : Int → Int} {frm : Int} {k : Nat} {limit : Int} (h0 : 0 ≤ limit) (h1 : limit ≤ 1048576) :
    (∃ x, worstP f frm k = some x ∧ x.1 < limit) ↔ ∀ j : Nat, j < k → f (frm + j) ≤ limit := by
  constructor
  · rintro ⟨x, hx, hl⟩ j hj
    have := (worstP_some hx).1 j hj; omega
  · intro h
    obtain ⟨x, hx⟩ := worstP_good (f := f) (frm := frm) (k := k) fun j hj => by have := h j hj; omega
    refine ⟨x, hx, ?_⟩
    rcases (worstP_some hx).2 with ⟨a, -⟩ | ⟨-, j, hj, -, e, -⟩
    · omega
    · have := h j hj; omega
end Go.Proofs.Ytfdjoldcdfbfhaa

/- Contracts: copies of rows; a list with another mark. -/
import Derived.Test.YtmclchaalmonnaaScQ
import Derived.Deep.AppendLies
import Derived.Laws.AppendOwnNone
import Derived.OwnWalk
import Derived.Lib.SliceRun
namespace Go.Proofs.Ytmclchaalmonnaa
open Go.RowKit Go.Lib
theorem flat_get {α : Type} (f : α → List Value) (n : Nat) (hf : ∀ a, (f a).length = n) (l : List α) (i : Nat) (h : i < l.length) (j : Nat) (hj : j < n) : (l.flatMap f)[i * n + j]? = (f l[i])[j]? := by
  induction l generalizing i with
  | nil => exact absurd h (by simp)
  | cons a l ih =>
    cases i with
    | zero =>
      simp only [List.flatMap_cons, Nat.zero_mul, Nat.zero_add, List.getElem_cons_zero]
      rw [List.getElem?_append_left (by rw [hf]; exact hj)]
    | succ i =>
      simp only [List.flatMap_cons, List.getElem_cons_succ]
      rw [List.getElem?_append_right (by rw [hf, Nat.succ_mul]; omega), ← ih i (by simpa using h)]
      congr 1
      rw [hf, Nat.succ_mul]; omega
theorem flat_len {α : Type} (f : α → List Value) (n : Nat) (hf : ∀ a, (f a).length = n) (l : List α) : (l.flatMap f).length = l.length * n := by
  induction l with
  | nil => simp
  | cons a l ih => rw [List.flatMap_cons, List.length_append, ih, hf, List.length_cons, Nat.succ_mul]; omega
def enc6 (e : En) : List Value := [.int .i64 e.c.place, .int .i64 e.c.element, .int .i64 e.c.under, .bool e.c.late, .bool e.c.fall, .slice e.M e.c.marks.length e.m]
theorem enc6_len (e : En) : (enc6 e).length = 6 := rfl
def fl6 (E : List En) : List Value := E.flatMap enc6
theorem fl6_len (E : List En) : (fl6 E).length = E.length * 6 := flat_len enc6 6 enc6_len E
theorem fl6_one (E : List En) : ∀ u ∈ fl6 E, u.oneCell' = true := by
  intro u hu
  simp only [fl6, List.mem_flatMap] at hu
  obtain ⟨z, _, hz⟩ := hu
  simp only [enc6, List.mem_cons, List.not_mem_nil, or_false] at hz
  rcases hz with rfl | rfl | rfl | rfl | rfl | rfl <;> rfl
theorem addr_add (g o j : Nat) : (⟨g, o, none⟩ : Addr).add j = ⟨g, o + j, none⟩ := by unfold Addr.add; split <;> simp_all
theorem own_made (w : World) (e : TypeId) (size : Nat) : (w.alloc (.cells #[] e)).ownsRow w.heap.size e size (.slice (some ⟨w.heap.size, 0, none⟩) 0 0) 0 [] :=
  ⟨by simp, .inr ⟨w.heap.size, 0, #[], rfl, Nat.le_refl _, by have := Has.new w e #[]; simpa [Has] using this, Nat.le_refl _, by unfold maxLen; omega, by simp, by simp⟩⟩
theorem copy_below {w w1 : World} {e : TypeId} (hgr : (w.alloc (.cells #[] e)).grownBy w1 (Value.slice (some ⟨w.heap.size, 0, none⟩) 0 0).ownBlock) : Below w.heap.size w w1 := by
  have h1 := below_one w (.cells #[] e)
  exact ⟨hgr.os.trans h1.os, hgr.tape.trans h1.tape, hgr.output.trans h1.output, Nat.le_trans h1.size hgr.size, fun k hk => (hgr.block k (by simp; omega) (by simp only [Value.ownBlock, ne_eq, Option.some.injEq]; omega)).trans (h1.block k hk)⟩
theorem Try.info52 : (Try.prog.info? 52).map (fun i => (i.zero, i.size, i.bytes)) = some (some (.agg #[.int .i64 0, .int .i64 0, .int .i64 0, .bool false, .bool false, .slice none 0 0]), 6, 56) := by kernel_rfl
theorem Try.info22 : (Try.prog.info? 22).map (fun i => (i.zero, i.size, i.bytes)) = some (some (.slice none 0 0), 1, 24) := by kernel_rfl
/-- a copy, in a block of its own, if there is something in it -/
def ClonePost (t : TypeId) (size n : Nat) (vals : List Value) (W : World) (e : Ending) (W' : World) : Prop :=
  ∃ A c, e = .returned (.slice A n c) ∧ (0 < n → ∃ g cur, A = some ⟨g, 0, none⟩ ∧ W.heap.size ≤ g ∧ Has W' g t cur ∧ cur.toList.take (n * size) = vals) ∧ Below W.heap.size W W'
theorem clone_of {t : TypeId} {size n : Nat} {vals : List Value} {W W' : World} {v : Value} (h : W'.ownsRow W.heap.size t size v n vals) (hb : Below W.heap.size W W') : ClonePost t size n vals W (.returned v) W' := by
  obtain ⟨hl, ⟨rfl, h0⟩ | ⟨g, cap, cur, rfl, hB, hgc, h1, h2, h3, h4⟩⟩ := h
  · refine ⟨none, 0, by rw [h0], fun hn => by omega, hb⟩
  · exact ⟨some ⟨g, 0, none⟩, cap, rfl, fun _ => ⟨g, cur, rfl, hB, hgc, h4⟩, hb⟩
set_option maxRecDepth 100000 in
set_option maxHeartbeats 1000000 in
theorem cloneC_any (E : List En) (A : Option Addr) (c : Nat) (W : World) (hc : ∀ ad, A = some ad → ∀ j u, (fl6 E)[j]? = some u → W.cell? (ad.add j) = some u) (hA : ∀ ad, A = some ad → E ≠ [] → ad.block < W.heap.size) (hn0 : A = none → E = []) (hl : E.length ≤ 1000) :
    Calls Try.prog 85 #[.slice A E.length c] W (ClonePost 52 6 E.length (fl6 E) W) := by
  obtain ⟨i0, hi, hz0, hz1, hz2⟩ := info_parts Try.info52
  cases A with
  | none =>
    have hE := hn0 rfl
    subst hE
    clear hc hA hn0
    go_enter Try.func85, Try.ntmps85
    have hsl : ∀ w, (binOp .eql 25 (.slice none 0 c) (.slice none 0 0)).run Try.prog w = .ok (.bool true) w := fun w => run_eql_slice_nil w 25 52 _ _ _ _ _ Try.underlying25
    go_wp2_with fail
    go_ret
    exact ⟨none, 0, rfl, fun h => absurd h (by simp), Below.refl _ _⟩
  | some ad =>
    have hm := Lib.hid (own_made W 52 6)
    have HC : Hid (∀ j u, (fl6 E)[j]? = some u → (W.alloc (.cells #[] 52)).cell? (ad.add j) = some u) := Lib.hid fun j u h => by
      have hE : E ≠ [] := by rintro rfl; simp [fl6] at h
      have hb : (ad.add j).block < W.heap.size := by rw [show (ad.add j).block = ad.block by unfold Addr.add; split <;> rfl]; exact hA ad rfl hE
      exact ((below_one W _).cell hb).trans (hc ad rfl j u h)
    have hsl : ∀ w, (binOp .eql 25 (.slice (some ad) E.length c) (.slice none 0 0)).run Try.prog w = .ok (.bool false) w := fun w => run_eql_slice_nil w 25 52 _ _ _ _ _ Try.underlying25
    clear hc hA hn0
    go_enter Try.func85, Try.ntmps85
    go_wp2_with (at_builtin; refine wpList_append_own _ rfl _ _ 25 rfl W.heap.size 52 i0 (.agg #[.int .i64 0, .int .i64 0, .int .i64 0, .bool false, .bool false, .slice none 0 0]) 6 56 Try.underlying25 hi hz0 hz1 hz2 rfl (by decide) (.slice (some ⟨W.heap.size, 0, none⟩) 0 0) 0 [] rfl hm.out ad E.length c (fl6 E) rfl ?q1 ?q2 ?q3 ?q4 ?q5 ?q6 ?q7)
    case q1 => exact fl6_len E
    case q2 => exact HC.out
    case q3 => exact fl6_one E
    case q4 => unfold maxLen; omega
    case q5 => omega
    case q6 => simp
    rintro v1 w1 hown hgr _
    have HO := Lib.hid (And.intro hown (copy_below hgr))
    clear hown hgr
    go_wp2_with fail
    go_ret
    exact clone_of HO.out.1 HO.out.2
/-- marks of a part, and where they lie -/
structure Pe where
  m : List Int
  M : Option Addr
  k : Nat
def enc1 (e : Pe) : List Value := [.slice e.M e.m.length e.k]
def fl1 (E : List Pe) : List Value := E.flatMap enc1
theorem fl1_len (E : List Pe) : (fl1 E).length = E.length * 1 := flat_len enc1 1 (fun _ => rfl) E
theorem fl1_one (E : List Pe) : ∀ u ∈ fl1 E, u.oneCell' = true := by
  intro u hu
  simp only [fl1, List.mem_flatMap] at hu
  obtain ⟨z, _, hz⟩ := hu
  simp only [enc1, List.mem_cons, List.not_mem_nil, or_false] at hz
  rcases hz with rfl
  rfl
set_option maxRecDepth 100000 in
set_option maxHeartbeats 1000000 in
theorem cloneP_any (E : List Pe) (A : Option Addr) (c : Nat) (W : World) (hc : ∀ ad, A = some ad → ∀ j u, (fl1 E)[j]? = some u → W.cell? (ad.add j) = some u) (hA : ∀ ad, A = some ad → E ≠ [] → ad.block < W.heap.size) (hn0 : A = none → E = []) (hl : E.length ≤ 1000) :
    Calls Try.prog 86 #[.slice A E.length c] W (ClonePost 22 1 E.length (fl1 E) W) := by
  obtain ⟨i0, hi, hz0, hz1, hz2⟩ := info_parts Try.info22
  cases A with
  | none =>
    have hE := hn0 rfl
    subst hE
    clear hc hA hn0
    go_enter Try.func86, Try.ntmps86
    have hsl : ∀ w, (binOp .eql 26 (.slice none 0 c) (.slice none 0 0)).run Try.prog w = .ok (.bool true) w := fun w => run_eql_slice_nil w 26 22 _ _ _ _ _ Try.underlying26
    go_wp2_with fail
    go_ret
    exact ⟨none, 0, rfl, fun h => absurd h (by simp), Below.refl _ _⟩
  | some ad =>
    have hm := Lib.hid (own_made W 22 1)
    have HC : Hid (∀ j u, (fl1 E)[j]? = some u → (W.alloc (.cells #[] 22)).cell? (ad.add j) = some u) := Lib.hid fun j u h => by
      have hE : E ≠ [] := by rintro rfl; simp [fl1] at h
      have hb : (ad.add j).block < W.heap.size := by rw [show (ad.add j).block = ad.block by unfold Addr.add; split <;> rfl]; exact hA ad rfl hE
      exact ((below_one W _).cell hb).trans (hc ad rfl j u h)
    have hsl : ∀ w, (binOp .eql 26 (.slice (some ad) E.length c) (.slice none 0 0)).run Try.prog w = .ok (.bool false) w := fun w => run_eql_slice_nil w 26 22 _ _ _ _ _ Try.underlying26
    clear hc hA hn0
    go_enter Try.func86, Try.ntmps86
    go_wp2_with (at_builtin; refine wpList_append_own _ rfl _ _ 26 rfl W.heap.size 22 i0 (.slice none 0 0) 1 24 Try.underlying26 hi hz0 hz1 hz2 rfl (by decide) (.slice (some ⟨W.heap.size, 0, none⟩) 0 0) 0 [] rfl hm.out ad E.length c (fl1 E) rfl ?q1 ?q2 ?q3 ?q4 ?q5 ?q6 ?q7)
    case q1 => exact fl1_len E
    case q2 => exact HC.out
    case q3 => exact fl1_one E
    case q4 => unfold maxLen; omega
    case q5 => omega
    case q6 => simp
    rintro v1 w1 hown hgr _
    have HO := Lib.hid (And.intro hown (copy_below hgr))
    clear hown hgr
    go_wp2_with fail
    go_ret
    exact clone_of HO.out.1 HO.out.2
/-- a new row with one number replaced -/
def RepPost (l : List Int) (j : Nat) (q : Int) (W : World) (e : Ending) (W' : World) : Prop :=
  ∃ g c cur, e = .returned (.slice (some ⟨g, 0, none⟩) l.length c) ∧ W.heap.size ≤ g ∧ Has W' g 3 cur ∧ (∀ k (h : k < (l.set j q).length), cur[k]? = some (.int .i64 (l.set j q)[k])) ∧ Below W.heap.size W W'
set_option maxRecDepth 100000 in
set_option maxHeartbeats 1000000 in
theorem replaced_any (l : List Int) (A : Option Addr) (c j : Nat) (q : Int) (W : World) (ha : IRow W W.heap.size A l) (hj : j < l.length) (hl : l.length ≤ 1000) :
    Calls Try.prog 87 #[.slice A l.length c, .int .i64 j, .int .i64 q] W (RepPost l j q W) := by
  obtain ⟨g, o, rfl, -⟩ := ha 0 (by omega)
  have HC := Lib.hid (clone_any l g o c W (fun j hj => by obtain ⟨g', o', e, -, h⟩ := ha j hj; cases e; exact h) (by omega))
  clear ha
  go_enter Try.func87, Try.ntmps87
  go_wp2_with fail
  refine HC.out.mono ?_
  rintro e w1 ⟨v', rfl, hown, hne, hb⟩
  obtain ⟨hlen, ⟨rfl, -⟩ | ⟨g2, cap, cur, rfl, hB, hgc, h1, h2, h3, h4⟩⟩ := hown
  · exact absurd rfl hne
  have hcur : ∀ k (h : k < l.length), cur[k]? = some (.int .i64 l[k]) := fun k h => by
    have h5 : (cur.toList.take (l.length * 1))[k]? = (l.map (Value.int .i64))[k]? := by rw [h4]
    rw [List.getElem?_take_of_lt (by omega)] at h5
    simpa [h] using h5
  have hgc' : Has w1 g2 3 cur := hgc
  have HB := Lib.hid (And.intro hb (And.intro hB (And.intro hgc' hcur)))
  have hj2 : (j : Int) < l.length := by omega
  have z0 : w1.cell? ⟨g2, j, none⟩ = some (.int .i64 l[j]) := (hgc'.cell j).trans (hcur j hj)
  have zf := hgc'.frozen j
  clear hlen hne hb hB hgc h1 h2 h3 h4 hcur hgc'
  go_wp2_with fail
  go_ret
  refine ⟨g2, cap, cur.setIfInBounds j (.int .i64 q), rfl, HB.out.2.1, HB.out.2.2.1.set j _, fun k hk => ?_, HB.out.1.setCell (by simp only; exact HB.out.2.1) _⟩
  rw [List.length_set] at hk
  rw [List.getElem_set]
  have hjs : j < cur.size := by
    have := HB.out.2.2.2 j hj
    exact (Array.getElem?_eq_some_iff.1 this).1
  by_cases hjk : j = k
  · subst hjk
    rw [if_pos rfl, Array.getElem?_setIfInBounds_self_of_lt hjs]
  · rw [if_neg hjk, Array.getElem?_setIfInBounds_ne hjk]
    exact HB.out.2.2.2 k hk
end Go.Proofs.Ytmclchaalmonnaa

/- Contracts of validTable, first and Breaks. -/
import Derived.Test.YtogabjlhecnbbaaIceThin
namespace Go.Proofs.Ytogabjlhecnbbaa
open Go.RowKit Go.Shelf

/-- bearings in a row of memory -/
def BRow (w : World) (B : Nat) (A : Option Addr) (ts : List (Int × Int)) : Prop :=
  ∀ k (h : k < ts.length), ∃ g o, A = some ⟨g, o, none⟩ ∧ g < B ∧ w.cell? ⟨g, o + k * 2, none⟩ = some (iv ts[k].1) ∧ w.cell? ⟨g, o + k * 2 + 1, none⟩ = some (iv ts[k].2)
theorem BRow.below {w w' : World} {B : Nat} {A : Option Addr} {ts : List (Int × Int)} (h : BRow w B A ts) (hb : Below B w w') : BRow w' B A ts := fun k hk => by
  obtain ⟨g, o, e, hg, c0, c1⟩ := h k hk
  refine ⟨g, o, e, hg, ?_, ?_⟩ <;> rw [hb.cell (p := ⟨g, _, none⟩) hg] <;> assumption
theorem BRow.more {w : World} {B B' : Nat} {A : Option Addr} {ts : List (Int × Int)} (h : BRow w B A ts) (hb : B ≤ B') : BRow w B' A ts := fun k hk => by
  obtain ⟨g, o, e, hg, c⟩ := h k hk
  exact ⟨g, o, e, Nat.lt_of_lt_of_le hg hb, c⟩
theorem IRow.below {w w' : World} {B : Nat} {A : Option Addr} {ts : List Int} (h : IRow w B A ts) (hb : Below B w w') : IRow w' B A ts := fun k hk => by
  obtain ⟨g, o, e, hg, c0⟩ := h k hk
  refine ⟨g, o, e, hg, ?_⟩
  rw [hb.cell (p := ⟨g, _, none⟩) hg]; assumption
theorem IRow.more {w : World} {B B' : Nat} {A : Option Addr} {ts : List Int} (h : IRow w B A ts) (hb : B ≤ B') : IRow w B' A ts := fun k hk => by
  obtain ⟨g, o, e, hg, c⟩ := h k hk
  exact ⟨g, o, e, Nat.lt_of_lt_of_le hg hb, c⟩

set_option maxHeartbeats 400000 in
theorem firstI (f : Nat) (cp : Array Value) (p : Int → Bool) (xs : List Int) (A : Option Addr) (cap : Nat) (w : World) (hz : IRow w w.heap.size A xs) (hl : xs.length ≤ 9223372036854775807)
    (eg : ∀ args w, (callFunc f args).run Try.prog w = .ok (.enter f args) w)
    (hf : ∀ x W, x ∈ xs → Below w.heap.size w W → Calls Try.prog f (#[iv x] ++ cp) W fun e w' => e = .returned (.bool (p x)) ∧ Below W.heap.size W w') :
    Calls Try.prog 44 #[.slice A xs.length cap, .func (.func f) #[] cp] w fun e w' => e = .returned (.tuple #[.int .i64 (firstAt p xs).1, .bool (firstAt p xs).2]) ∧ Below w.heap.size w w' := by
  have HF := Lib.hid hf
  clear hf
  go_enter Try.func44, Try.ntmps44
  go_wp2
  go_loopw [10] (fun i wr => ∃ k : Nat, k ≤ xs.length ∧ i = .int .i64 k ∧ NoneTo p xs k ∧ Below w.heap.size w wr) (fun i _ => xs.length - (intOf i).toNat)
  case atStart => exact ⟨0, Nat.zero_le _, rfl, fun j _ h => absurd h (by omega), Below.refl _ _⟩
  case round =>
    obtain ⟨k, hk, rfl, hn, hb⟩ := hrel
    by_cases hlt : k < xs.length
    · obtain ⟨g, o, rfl, hg, c0⟩ := hz k hlt
      rw [← hb.cell (p := ⟨g, _, none⟩) hg] at c0
      go_wp2_with fail
      refine (HF.out xs[k] _ (List.getElem_mem hlt) hb).mono ?_
      rintro e w1 ⟨rfl, hb1⟩
      have hbw : Below w.heap.size w w1 := belowT hb hb1
      cases hp : p xs[k]
      · go_wp2_with fail
        go_roundw
        case rel => exact ⟨k + 1, by omega, by go_num, noneTo_succ hn hp, hbw⟩
        case measure => simp [intOf]; omega
      · have HFA := Lib.hid (firstAt_yes hn hlt hp)
        go_wp2_with fail
        go_ret2
        exact ⟨by rw [HFA.out]; rfl, hbw⟩
    · have HFA := Lib.hid (firstAt_no (xs := xs) hn (by omega))
      go_wp2_with fail
      go_ret2
      exact ⟨by rw [HFA.out]; rfl, hb⟩

set_option maxHeartbeats 400000 in
theorem firstB (f : Nat) (cp : Array Value) (p : Int × Int → Bool) (xs : List (Int × Int)) (A : Option Addr) (cap : Nat) (w : World) (hz : BRow w w.heap.size A xs) (hl : xs.length ≤ 9223372036854775807)
    (eg : ∀ args w, (callFunc f args).run Try.prog w = .ok (.enter f args) w)
    (hf : ∀ (x : Int × Int) W, Below w.heap.size w W → Calls Try.prog f (#[sv x.1 x.2] ++ cp) W fun e w' => e = .returned (.bool (p x)) ∧ Below W.heap.size W w') :
    Calls Try.prog 46 #[.slice A xs.length cap, .func (.func f) #[] cp] w fun e w' => e = .returned (.tuple #[.int .i64 (firstAt p xs).1, .bool (firstAt p xs).2]) ∧ Below w.heap.size w w' := by
  have HF := Lib.hid hf
  clear hf
  go_enter Try.func46, Try.ntmps46
  go_wp2
  go_loopw [10] (fun i wr => ∃ k : Nat, k ≤ xs.length ∧ i = .int .i64 k ∧ NoneTo p xs k ∧ Below w.heap.size w wr) (fun i _ => xs.length - (intOf i).toNat)
  case atStart => exact ⟨0, Nat.zero_le _, rfl, fun j _ h => absurd h (by omega), Below.refl _ _⟩
  case round =>
    obtain ⟨k, hk, rfl, hn, hb⟩ := hrel
    by_cases hlt : k < xs.length
    · obtain ⟨g, o, rfl, hg, c0, c1⟩ := hz k hlt
      rw [← hb.cell (p := ⟨g, _, none⟩) hg] at c0 c1
      have hgr : g < wr.heap.size := Nat.lt_of_lt_of_le hg hb.size
      go_wp2_with fail
      refine (HF.out xs[k] _ (hb.alloc hb.size _)).mono ?_
      rintro e w1 ⟨rfl, hb1⟩
      have hbw : Below w.heap.size w w1 := belowT (hb.alloc hb.size _) hb1
      cases hp : p xs[k]
      · go_wp2_with fail
        go_roundw
        case rel => exact ⟨k + 1, by omega, by go_num, noneTo_succ hn hp, hbw⟩
        case measure => simp [intOf]; omega
      · have HFA := Lib.hid (firstAt_yes hn hlt hp)
        go_wp2_with fail
        go_ret2
        exact ⟨by rw [HFA.out]; rfl, hbw⟩
    · have HFA := Lib.hid (firstAt_no (xs := xs) hn (by omega))
      go_wp2_with fail
      go_ret2
      exact ⟨by rw [HFA.out]; rfl, hb⟩

def bOk (b t : Int × Int) : Bool := decide (b.1 < t.1 ∧ t.1 ≤ 100000 ∧ b.2 < t.2 ∧ t.2 ≤ 20000)
def tabFrom : Int × Int → List (Int × Int) → Bool
  | _, [] => true
  | b, t :: r => bOk b t && tabFrom t r
def tableOk (ts : List (Int × Int)) : Bool := decide (1 ≤ ts.length) && decide (ts.length ≤ 16) && tabFrom (0, -1) ts

set_option maxHeartbeats 1000000 in
theorem vt_any (ts : List (Int × Int)) (A : Option Addr) (cap : Nat) (w : World) (hz : BRow w w.heap.size A ts) (hl : ts.length ≤ 9223372036854775807) :
    Calls Try.prog 43 #[.slice A ts.length cap] w fun e w' => e = .returned (.bool (tableOk ts)) ∧ Below w.heap.size w w' := by
  by_cases h1 : ts.length < 1
  · go_enter Try.func43, Try.ntmps43
    go_wp2_with fail
    go_ret
    exact ⟨ret_bool (by simp [tableOk]; omega), Below.refl _ _⟩
  have h1' : 1 ≤ (ts.length : Int) := by omega
  have h1b : decide ((ts.length : Int) < 1) = false := by simp; omega
  by_cases h2 : 16 < ts.length
  · have h2' : 16 < (ts.length : Int) := by omega
    go_enter Try.func43, Try.ntmps43
    go_wp2_with fail
    go_ret
    exact ⟨ret_bool (by simp [tableOk]; omega), Below.refl _ _⟩
  have h2b : decide (16 < (ts.length : Int)) = false := by simp; omega
  have HT : Hid (tableOk ts = tabFrom (0, -1) ts) := by show _ = _; simp [tableOk]; omega
  go_enter Try.func43, Try.ntmps43
  go_wp2_with fail
  go_loopw [17] (fun i wr => ∃ (k : Nat) (bp : Int × Int), k ≤ ts.length ∧ i = .int .i64 k ∧ Hid (tabFrom (0, -1) ts = tabFrom bp (ts.drop k)) ∧ Below w.heap.size w wr ∧ Has wr w.heap.size 51 #[iv bp.1, iv bp.2]) (fun i _ => ts.length - (intOf i).toNat)
  case atStart => exact ⟨0, (0, -1), Nat.zero_le _, rfl, (by show _ = _; simp), below1 _ _, Has.new _ _ _⟩
  case round =>
    obtain ⟨k, bp, hk, rfl, hT, hb, hB⟩ := hrel
    have hwl := hB.lt
    have e0 : wr.cell? ⟨w.heap.size, 0, none⟩ = some (iv bp.1) := hB.cell 0
    have e1 : wr.cell? ⟨w.heap.size, 1, none⟩ = some (iv bp.2) := hB.cell 1
    have f0 := hB.frozen 0
    have f1 := hB.frozen 1
    have hwl1 : w.heap.size < wr.heap.size + 1 := by omega
    have HB := Lib.hid hB
    clear hB
    by_cases hlt : k < ts.length
    · obtain ⟨g, o, rfl, hg, c0, c1⟩ := hz k hlt
      rw [← hb.cell (p := ⟨g, _, none⟩) hg] at c0 c1
      have hgr : g < wr.heap.size := Nat.lt_of_lt_of_le hg hb.size
      have hst : Hid (tabFrom (0, -1) ts = (bOk bp ts[k] && tabFrom ts[k] (ts.drop (k + 1)))) := by
        show _ = _
        rw [hT.out, List.drop_eq_getElem_cons hlt]; rfl
      obtain ⟨t1, ht1⟩ : ∃ t1, t1 = ts[k].1 := ⟨_, rfl⟩
      obtain ⟨t2, ht2⟩ : ∃ t2, t2 = ts[k].2 := ⟨_, rfl⟩
      rw [← ht1] at c0
      rw [← ht2] at c1
      have hbk : Hid (bOk bp ts[k] = decide (bp.1 < t1 ∧ t1 ≤ 100000 ∧ bp.2 < t2 ∧ t2 ≤ 20000)) := by show _ = _; rw [ht1, ht2]; rfl
      have HT1 := Lib.hid (And.intro ht1 ht2)
      clear ht1 ht2
      by_cases q1 : t1 ≤ bp.1
      · have HF : Hid (tableOk ts = false) := by show _ = _; rw [HT.out, hst.out, hbk.out]; simp; omega
        go_wp2_with fail
        go_ret
        exact ⟨ret_bool HF.out.symm, hb.alloc hb.size _⟩
      have q1b : decide (t1 ≤ bp.1) = false := by simpa using q1
      by_cases q2 : 100000 < t1
      · have HF : Hid (tableOk ts = false) := by show _ = _; rw [HT.out, hst.out, hbk.out]; simp; omega
        go_wp2_with fail
        go_ret
        exact ⟨ret_bool HF.out.symm, hb.alloc hb.size _⟩
      have q2b : decide (100000 < t1) = false := by simpa using q2
      by_cases q3 : t2 ≤ bp.2
      · have HF : Hid (tableOk ts = false) := by show _ = _; rw [HT.out, hst.out, hbk.out]; simp; omega
        go_wp2_with fail
        go_ret
        exact ⟨ret_bool HF.out.symm, hb.alloc hb.size _⟩
      have q3b : decide (t2 ≤ bp.2) = false := by simpa using q3
      by_cases q4 : 20000 < t2
      · have HF : Hid (tableOk ts = false) := by show _ = _; rw [HT.out, hst.out, hbk.out]; simp; omega
        go_wp2_with fail
        go_ret
        exact ⟨ret_bool HF.out.symm, hb.alloc hb.size _⟩
      have q4b : decide (20000 < t2) = false := by simpa using q4
      have HS : Hid (tabFrom (0, -1) ts = tabFrom ts[k] (ts.drop (k + 1))) := by
        show _ = _
        rw [hst.out, hbk.out, show decide (bp.1 < t1 ∧ t1 ≤ 100000 ∧ bp.2 < t2 ∧ t2 ≤ 20000) = true by simp; omega, Bool.true_and]
      go_wp2_with fail
      go_roundw
      case rel =>
        refine ⟨k + 1, ts[k], by omega, by go_num, HS, ?_, ?_⟩
        · first | exact ((hb.setCell (p := ⟨w.heap.size, 0, none⟩) (Nat.le_refl _) _).setCell (p := ⟨w.heap.size, 1, none⟩) (Nat.le_refl _) _).alloc (by simp; exact hb.size) _ | exact (((hb.alloc hb.size _).setCell (p := ⟨w.heap.size, 0, none⟩) (Nat.le_refl _) _).setCell (p := ⟨w.heap.size, 1, none⟩) (Nat.le_refl _) _)
        · rw [← HT1.out.1, ← HT1.out.2]
          exact (((HB.out.set 0 (iv t1)).set 1 (iv t2)).alloc _)
      case measure => simp [intOf]; omega
    · have HF : Hid (tableOk ts = true) := by show _ = _; rw [HT.out, hT.out, List.drop_eq_nil_of_le (by omega)]; rfl
      go_wp2_with fail
      go_ret
      exact ⟨ret_bool HF.out.symm, hb⟩
end Go.Proofs.Ytogabjlhecnbbaa

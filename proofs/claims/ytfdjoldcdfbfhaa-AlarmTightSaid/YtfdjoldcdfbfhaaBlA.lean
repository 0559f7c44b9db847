/- Votes as bits: say and count. -/
import Derived.Test.YtfdjoldcdfbfhaaOpA
namespace Go.Proofs.Ytfdjoldcdfbfhaa
open Go.Shelf Go.RowKit
/-- the ballot with what a sensor says now -/
def setB (b i : Nat) (y : Bool) : Nat := if y then b ||| 2 ^ i else (BitVec.ofNat 64 b &&& ~~~ BitVec.ofNat 64 (2 ^ i)).toNat
def cntB (b : Nat) : Nat → Nat
  | 0 => 0
  | k + 1 => cntB b k + if b.testBit k then 1 else 0
theorem pow12 {i : Nat} (hi : i < 12) : 2 ^ i < 4096 := by
  have : 2 ^ i < 2 ^ 12 := Nat.pow_lt_pow_right (by omega) hi
  exact this
theorem setB_lt {b i : Nat} (hb : b < 4096) (hi : i < 12) (y : Bool) : setB b i y < 4096 := by
  unfold setB
  cases y
  · simp only [Bool.false_eq_true, if_false, BitVec.toNat_and, BitVec.toNat_ofNat]
    have h := @Nat.and_le_left (b % 2 ^ 64) (~~~ BitVec.ofNat 64 (2 ^ i)).toNat
    have : b % 2 ^ 64 = b := Nat.mod_eq_of_lt (by omega)
    omega
  · simp only [if_true]
    exact Nat.or_lt_two_pow (n := 12) hb (pow12 hi)
theorem setB_bit {b i j : Nat} (hi : i < 12) (hj : j < 12) (y : Bool) : (setB b i y).testBit j = if j = i then y else b.testBit j := by
  unfold setB
  cases y
  · simp only [Bool.false_eq_true, if_false, BitVec.testBit_toNat, BitVec.getLsbD_and, BitVec.getLsbD_not, BitVec.getLsbD_ofNat, Nat.testBit_two_pow]
    have h64 : j < 64 := by omega
    simp only [h64, decide_true, Bool.true_and]
    by_cases h : j = i
    · subst h; simp
    · have h' : ¬ i = j := fun e => h e.symm
      simp [h, h']
  · simp only [if_true, Nat.testBit_or, Nat.testBit_two_pow]
    by_cases h : j = i
    · subst h; simp
    · have h' : ¬ i = j := fun e => h e.symm
      simp [h, h']
theorem wrap_small {n : Int} (h0 : 0 ≤ n) (h1 : n < 18446744073709551616) : IntKind.u64.wrap n = n := by
  rw [show IntKind.u64.wrap n = n % 18446744073709551616 from by simp [IntKind.wrap, IntKind.bits, IntKind.signed]]
  omega
theorem wrap_pow {i : Nat} (hi : i < 12) : IntKind.u64.wrap (2 ^ i : Int) = ((2 ^ i : Nat) : Int) := by
  have hp := pow12 hi
  have e : (2 : Int) ^ i = ((2 ^ i : Nat) : Int) := by simp
  rw [e]
  generalize 2 ^ i = p at hp
  exact wrap_small (by omega) (by omega)
theorem ofInt_nat (n : Nat) : BitVec.ofInt 64 (n : Int) = BitVec.ofNat 64 n := BitVec.ofInt_natCast ..
theorem bits_or {b i : Nat} (hb : b < 4096) (hi : i < 12) : bits .or .u64 b (IntKind.u64.wrap (2 ^ i)) = ((setB b i true : Nat) : Int) := by
  have hp := pow12 hi
  have hlt := setB_lt hb hi true
  rw [wrap_pow hi]
  show IntKind.u64.wrap (((BitVec.ofInt 64 (b : Int) ||| BitVec.ofInt 64 ((2 ^ i : Nat) : Int)).toNat : Nat) : Int) = _
  rw [ofInt_nat, ofInt_nat, BitVec.toNat_or, BitVec.toNat_ofNat, BitVec.toNat_ofNat, Nat.mod_eq_of_lt (show b < 2 ^ 64 by omega), Nat.mod_eq_of_lt (show 2 ^ i < 2 ^ 64 by omega)]
  have : b ||| 2 ^ i = setB b i true := by simp [setB]
  rw [this]
  exact wrap_small (by omega) (by omega)
theorem bits_andNot {b i : Nat} (hb : b < 4096) (hi : i < 12) : bits .andNot .u64 b (IntKind.u64.wrap (2 ^ i)) = ((setB b i false : Nat) : Int) := by
  have hlt := setB_lt hb hi false
  rw [wrap_pow hi]
  show IntKind.u64.wrap (((BitVec.ofInt 64 (b : Int) &&& ~~~ BitVec.ofInt 64 ((2 ^ i : Nat) : Int)).toNat : Nat) : Int) = _
  rw [ofInt_nat, ofInt_nat]
  have : (BitVec.ofNat 64 b &&& ~~~ BitVec.ofNat 64 (2 ^ i)).toNat = setB b i false := by simp [setB]
  rw [this]
  exact wrap_small (by omega) (by omega)
theorem bits_and {b k : Nat} (hb : b < 4096) : bits .and .u64 ((b : Int) / 2 ^ k) 1 = ((if b.testBit k then 1 else 0 : Nat) : Int) := by
  have e : ((b : Int) / 2 ^ k) = ((b / 2 ^ k : Nat) : Int) := by simp
  have hle : b / 2 ^ k ≤ b := Nat.div_le_self _ _
  rw [e]
  show IntKind.u64.wrap (((BitVec.ofInt 64 ((b / 2 ^ k : Nat) : Int) &&& BitVec.ofInt 64 ((1 : Nat) : Int)).toNat : Nat) : Int) = _
  rw [ofInt_nat, ofInt_nat, BitVec.toNat_and, BitVec.toNat_ofNat, BitVec.toNat_ofNat, Nat.mod_eq_of_lt (show b / 2 ^ k < 2 ^ 64 by omega), Nat.mod_eq_of_lt (show 1 < 2 ^ 64 by omega), Nat.and_one_is_mod]
  have hm : b / 2 ^ k % 2 < 2 := Nat.mod_lt _ (by omega)
  have ht : b.testBit k = decide (b / 2 ^ k % 2 = 1) := Nat.testBit_eq_decide_div_mod_eq
  rw [wrap_small (by omega) (by omega), ht]
  by_cases h : b / 2 ^ k % 2 = 1
  · simp [h]
  · have : b / 2 ^ k % 2 = 0 := by omega
    simp [this]
theorem cntB_le (b k : Nat) : cntB b k ≤ k := by
  induction k with
  | zero => exact Nat.le_refl _
  | succ k ih => unfold cntB; split <;> omega
theorem say_any (b i : Nat) (y : Bool) (w : World) (hb : b < 4096) (hi : i < 12) : Calls Try.prog 53 #[.int .u64 b, .int .i64 i, .bool y] w fun e w' => e = .returned (.int .u64 (setB b i y)) ∧ w' = w := by
  have h1 := bits_or hb hi
  have h2 := bits_andNot hb hi
  cases y
  · obtain ⟨q, hq⟩ : ∃ q, setB b i false = q := ⟨_, rfl⟩
    rw [hq] at h2 ⊢
    clear hq h1
    go_enter Try.func53, Try.ntmps53
    go_wp2
    go_ret
    exact ⟨rfl, rfl⟩
  · obtain ⟨q, hq⟩ : ∃ q, setB b i true = q := ⟨_, rfl⟩
    rw [hq] at h1 ⊢
    clear hq h2
    go_enter Try.func53, Try.ntmps53
    go_wp2
    go_ret
    exact ⟨rfl, rfl⟩
theorem count_any (b : Nat) (w : World) (hb : b < 4096) : Calls Try.prog 54 #[.int .u64 b] w fun e w' => e = .returned (.int .i64 (cntB b 12)) ∧ w' = w := by
  have HB := Lib.hid (fun k => bits_and (k := k) hb)
  go_enter Try.func54, Try.ntmps54
  go_wp2
  go_loopg [3, 5] 12 (fun gk n i wr => ∃ k : Nat, k ≤ 12 ∧ 12 - k ≤ gk ∧ i = .int .i64 k ∧ n = .int .i64 (cntB b k) ∧ wr = w)
  case atStart => exact ⟨0, by omega, by omega, rfl, rfl, rfl⟩
  case round =>
    obtain ⟨k, hk, hgk, rfl, rfl, rfl⟩ := hrel
    by_cases hlt : k < 12
    · have hlt' : (k : Int) < 12 := by omega
      have hbit := HB.out k
      have hle := cntB_le b k
      obtain ⟨q, hq⟩ : ∃ q, q = cntB b k := ⟨_, rfl⟩
      obtain ⟨d, hd⟩ : ∃ d : Nat, d = if b.testBit k then 1 else 0 := ⟨_, rfl⟩
      have hd1 : d ≤ 1 := by rw [hd]; split <;> omega
      rw [← hd] at hbit
      have HC := Lib.hid (show cntB b (k + 1) = q + d by rw [hq, hd]; rfl)
      rw [← hq] at hle ⊢
      clear hd hq
      go_wp2
      go_roundg (12 - (k + 1))
      case measure => omega
      case rel => exact ⟨k + 1, by omega, Nat.le_refl _, by go_num, by rw [HC.out]; go_num, rfl⟩
    · have hk12 : k = 12 := by omega
      subst hk12
      have hlt' : ¬ ((12 : Nat) : Int) < 12 := by omega
      go_wp2
      go_ret
      exact ⟨rfl, rfl⟩
end Go.Proofs.Ytfdjoldcdfbfhaa

/- What sensors said last, as a list of booleans: the document's votes. -/
import Derived.Test.YtfdjoldcdfbfhaaGrH
namespace Go.Proofs.Ytfdjoldcdfbfhaa
def sayL (n b : Nat) : List Bool := (List.range n).map (fun j => b.testBit j)
theorem sayL_len (n b : Nat) : (sayL n b).length = n := by simp [sayL]
theorem sayL_get {n b j : Nat} (h : j < n) : (sayL n b)[j]? = some (b.testBit j) := by
  simp [sayL, h]
theorem sayL_set {n b i : Nat} (hn : n ≤ 12) (hi : i < n) (y : Bool) : (sayL n b).set i y = sayL n (setB b i y) := by
  apply List.ext_getElem
  · simp [sayL]
  · intro j h1 h2
    have hj : j < n := by simpa [sayL] using h2
    rw [List.getElem_set]
    simp only [sayL, List.getElem_map, List.getElem_range]
    rw [setB_bit (by omega) (by omega)]
    by_cases h : i = j
    · subst h; simp
    · rw [if_neg h, if_neg (fun e => h e.symm)]
theorem sayL_zero (n : Nat) : sayL n 0 = List.replicate n false := by
  apply List.ext_getElem
  · simp [sayL]
  · intro j h1 h2; simp [sayL]
/-- how many of the first k say yes -/
def cntT (l : List Bool) : Nat → Nat
  | 0 => 0
  | k + 1 => cntT l k + (if l[k]? = some true then 1 else 0)
theorem cntT_say {n b : Nat} : ∀ k, k ≤ n → cntT (sayL n b) k = cntB b k
  | 0, _ => rfl
  | k + 1, h => by
    unfold cntT cntB
    rw [cntT_say k (by omega), sayL_get (show k < n by omega)]
    simp
theorem cntB_hi {b n : Nat} (hb : b < 2 ^ n) : ∀ d, cntB b (n + d) = cntB b n
  | 0 => rfl
  | d + 1 => by
    show cntB b (n + d) + _ = _
    rw [cntB_hi hb d]
    have : b.testBit (n + d) = false := Nat.testBit_lt_two_pow (Nat.lt_of_lt_of_le hb (Nat.pow_le_pow_right (by omega) (by omega)))
    simp [this]
theorem sayL_12 {n b : Nat} (hn : n ≤ 12) (hb : b < 2 ^ n) : cntT (sayL n b) n = cntB b 12 := by
  rw [cntT_say n (Nat.le_refl _)]
  have := cntB_hi hb (12 - n)
  rw [show n + (12 - n) = 12 by omega] at this
  exact this.symm
theorem setB_lt2 {b i n : Nat} (hn : n ≤ 12) (hb : b < 2 ^ n) (hi : i < n) (y : Bool) : setB b i y < 2 ^ n := by
  have h12 : 2 ^ n ≤ 2 ^ 12 := Nat.pow_le_pow_right (by omega) hn
  have h12' : (2 : Nat) ^ 12 = 4096 := by decide
  unfold setB
  cases y
  · simp only [Bool.false_eq_true, if_false, BitVec.toNat_and, BitVec.toNat_ofNat]
    have h := @Nat.and_le_left (b % 2 ^ 64) (~~~ BitVec.ofNat 64 (2 ^ i)).toNat
    have : b % 2 ^ 64 = b := Nat.mod_eq_of_lt (by omega)
    omega
  · simp only [if_true]
    exact Nat.or_lt_two_pow hb (Nat.pow_lt_pow_right (by omega) hi)
theorem balN_next {t : Int} {L : List Sf} {k : Nat} (h : k < L.length) : balN t L (k + 1) = setB (balN t L k) L[k].s.toNat (decide (t ≤ L[k].v)) := by
  show (match L[k]? with | some s => setB (balN t L k) s.s.toNat (decide (t ≤ s.v)) | none => balN t L k) = _
  rw [List.getElem?_eq_getElem h]
theorem balN_lt2 {t : Int} {L : List Sf} {n : Nat} (hn : n ≤ 12) : ∀ m, m ≤ L.length → (∀ j, j < m → chkAt L n j = 0) → balN t L m < 2 ^ n
  | 0, _, _ => Nat.two_pow_pos n
  | m + 1, hm, h => by
    have ih := balN_lt2 (t := t) (n := n) hn m (by omega) (fun j hj => h j (by omega))
    have hg := good_s (L := L) (n := n) (j := m) (by omega) (h m (by omega))
    rw [balN_next (by omega)]
    exact setB_lt2 hn ih (by omega) _
end Go.Proofs.Ytfdjoldcdfbfhaa

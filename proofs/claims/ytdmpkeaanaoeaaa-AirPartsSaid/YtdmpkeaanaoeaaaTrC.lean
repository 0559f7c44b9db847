/- What comes in the law of True (plain). -/
import Derived.Test.YtdmpkeaanaoeaaaTrA
namespace Go.Proofs.Ytdmpkeaanaoeaaa
/-- the remainders, round and round -/
def atU (U : List Int) (j : Nat) : Int := U.getD (j % U.length) 0
theorem atU_bd {U : List Int} (hu : ∀ n ∈ U, 0 ≤ n ∧ n ≤ 4294967295) (h0 : 0 < U.length) (j : Nat) : 0 ≤ atU U j ∧ atU U j ≤ 4294967295 := by
  unfold atU
  have h := Nat.mod_lt j h0
  rw [List.getD_eq_getElem?_getD, List.getElem?_eq_getElem h]
  exact hu _ (List.getElem_mem h)
/-- what comes in a step -/
def xsOf (a : Air) (s : Stp) (p q r : Int) : Int := partP (a.R * pickN s.o0 s.o1 p) s.chg + pickN (s.ppl * a.b0) (s.ppl * a.b1) q + pickN s.s0 s.s1 r
theorem xsOf_in {a : Air} {s : Stp} (hv : VA a) (hs : VS a s) (p q r : Int) : comesLo a s ≤ xsOf a s p q r ∧ xsOf a s p q r ≤ comesHi a s := by
  have ho := hs.o; have hst := hs.st; have hp := hs.p; have hb := hv.b; have hg := hs.g; have hR := hv.R
  have h1 := pickN_in (n := p) ho.2.1
  have h2 := pickN_in (lo := s.ppl * a.b0) (hi := s.ppl * a.b1) (n := q) (Int.mul_le_mul_of_nonneg_left hb.2.1 hp.1)
  have h3 := pickN_in (n := r) hst.2.1
  have m1 : a.R * s.o0 ≤ a.R * pickN s.o0 s.o1 p := Int.mul_le_mul_of_nonneg_left h1.1 (by omega)
  have m2 : a.R * pickN s.o0 s.o1 p ≤ a.R * s.o1 := Int.mul_le_mul_of_nonneg_left h1.2 (by omega)
  have q1 := (part_mono m1 hg.1 hg.2).1
  have q2 := (part_mono m2 hg.1 hg.2).1
  unfold comesLo comesHi xsOf
  omega
/-- what comes, step by step -/
def xsU (a : Air) (L : List Stp) (U : List Int) (k : Nat) : Int := match L[k]? with | some s => xsOf a s (atU U k) (atU U (k + 1)) (atU U (k + 2)) | none => 0
theorem xsU_at {a : Air} {L : List Stp} {U : List Int} {k : Nat} (h : k < L.length) : xsU a L U k = xsOf a L[k] (atU U k) (atU U (k + 1)) (atU U (k + 2)) := by
  unfold xsU; rw [List.getElem?_eq_getElem h]
theorem xsU_comes {a : Air} {L : List Stp} (hv : VA a) (hs : ∀ s ∈ L, VS a s) (U : List Int) : Comes (xsU a L U) (msOf a L) := fun k hk => by
  have hk' : k < L.length := by simpa [msOf] using hk
  have hm : (msOf a L)[k] = moOf a L[k] := by simp [msOf]
  rw [hm, xsU_at hk']
  exact xsOf_in hv (hs _ (List.getElem_mem hk')) _ _ _
end Go.Proofs.Ytdmpkeaanaoeaaa

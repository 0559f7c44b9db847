/- check against the reading ahead: what the document asks. -/
import Derived.Test.YtfdjoldcdfbfhaaGrA
namespace Go.Proofs.Ytfdjoldcdfbfhaa
theorem bgn_prev {L : List Sf} {i : Nat} (hi : i < L.length) : ∃ hb : bgn L (i + 1) < L.length, (L[bgn L (i + 1)]'hb).m = L[i].m := by
  have hb : bgn L i < L.length := by have := bgn_le L i; omega
  have hl : bgn L (i + 1) < L.length := by have := bgn_lt L i; omega
  have hn := bgn_next hi hb
  refine ⟨hl, ?_⟩
  by_cases hm : L[i].m = (L[bgn L i]'hb).m
  · rw [if_pos hm] at hn
    simp only [hn]; exact hm.symm
  · rw [if_neg hm] at hn
    simp only [hn]
/-- what the document says of reading i -/
def docE (L : List Sf) (n : Int) (i : Nat) (hi : i < L.length) : Int := if badB L[i] n = true then 1 else if 0 < i ∧ L[i].m < (L[i - 1]'(by omega)).m then 7 else 0
theorem chk_doc {L : List Sf} {n : Int} {i : Nat} (hi : i < L.length) : chkAt L n i = docE L n i hi := by
  have hb : bgn L i < L.length := by have := bgn_le L i; omega
  rw [chkAt_eq hi hb]
  unfold chkE docE
  split
  · rfl
  · cases i with
    | zero =>
      have : (L[bgn L 0]'hb).m = L[0].m := rfl
      rw [if_neg (show ¬ L[0].m < (L[bgn L 0]'hb).m by omega), if_neg (fun h => absurd h.1 (Nat.lt_irrefl 0))]
    | succ i =>
      obtain ⟨hb', e⟩ := bgn_prev (L := L) (i := i) (by omega)
      rw [e]
      simp
end Go.Proofs.Ytfdjoldcdfbfhaa

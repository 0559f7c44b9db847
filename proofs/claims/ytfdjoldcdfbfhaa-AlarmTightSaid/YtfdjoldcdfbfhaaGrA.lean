/- Groups of readings, plainly; a part of a row of readings. -/
import Derived.Test.YtfdjoldcdfbfhaaBlB
import Derived.Test.YtfdjoldcdfbfhaaRfB
import Derived.Test.YtfdjoldcdfbfhaaStl
namespace Go.Proofs.Ytfdjoldcdfbfhaa
open Go.Shelf Go.RowKit
def off3 (A : Option Addr) (cap k : Nat) : Option Addr := if cap = k then A else A.map (fun a => a.add (k * 3))
theorem cut25 (A : Option Addr) (n cap b i : Nat) (hb : b ≤ i) (hi : i ≤ n) (hc : n ≤ cap) (w : World) :
    (Instr.sliceAt 25 (.slice A n cap) (some (.int .i64 b)) (some (.int .i64 i)) none).run Try.prog w = .ok (.slice (off3 A cap b) (i - b) (cap - b)) w := by
  have h0 : (0 : Int) ≤ b := by omega
  have h1 : (b : Int) ≤ i := by omega
  have h2 : (i : Int) ≤ cap := by omega
  simp [go_sem, h0, h1, h2, Try.underlying25, sliced, Result.andThen, off3]
theorem cut25_lo (A : Option Addr) (n cap b : Nat) (hb : b ≤ n) (w : World) :
    (Instr.sliceAt 25 (.slice A n cap) (some (.int .i64 b)) none none).run Try.prog w = .ok (.slice (off3 A cap b) (n - b) (cap - b)) w := by
  have h0 : (0 : Int) ≤ b := by omega
  have h1 : (b : Int) ≤ n := by omega
  simp [go_sem, h0, h1, Try.underlying25, sliced, Result.andThen, off3]
theorem FRow.part {w : World} {B : Nat} {A : Option Addr} {L : List Sf} (h : FRow w B A L) {cap : Nat} (hc : L.length ≤ cap) (b m : Nat) : FRow w B (off3 A cap b) ((L.drop b).take m) := fun k hk => by
  have hk' : b + k < L.length := by simp at hk; omega
  obtain ⟨g, o, e, hg, c0, c1, c2⟩ := h (b + k) hk'
  refine ⟨g, o + b * 3, ?_, hg, ?_, ?_, ?_⟩
  · unfold off3
    rw [if_neg (by omega), e]
    show some (Addr.add ⟨g, o, none⟩ (b * 3)) = _
    rw [addr_add]
  all_goals
    simp only [List.getElem_take, List.getElem_drop]
    first
      | (rw [show o + b * 3 + k * 3 = o + (b + k) * 3 by omega]; assumption)
      | (rw [show o + b * 3 + k * 3 + 1 = o + (b + k) * 3 + 1 by omega]; assumption)
      | (rw [show o + b * 3 + k * 3 + 2 = o + (b + k) * 3 + 2 by omega]; assumption)
/-- where the group begins in which reading i may go on -/
def bgn (L : List Sf) : Nat → Nat
  | 0 => 0
  | i + 1 => if L[i]?.map (·.m) = L[bgn L i]?.map (·.m) then bgn L i else i
theorem bgn_le (L : List Sf) (i : Nat) : bgn L i ≤ i := by
  induction i with
  | zero => exact Nat.le_refl _
  | succ i ih => unfold bgn; split <;> omega
theorem bgn_lt (L : List Sf) (i : Nat) : bgn L (i + 1) < i + 1 := by
  have := bgn_le L i
  unfold bgn; split <;> omega
/-- what check says of reading i -/
def chkAt (L : List Sf) (n : Int) (i : Nat) : Int := match L[i]?, L[bgn L i]? with | some s, some b => chkE s b.m n | _, _ => 0
theorem chkAt_eq {L : List Sf} {n : Int} {i : Nat} (hi : i < L.length) (hb : bgn L i < L.length) : chkAt L n i = chkE L[i] (L[bgn L i]'hb).m n := by
  unfold chkAt; rw [List.getElem?_eq_getElem hi, List.getElem?_eq_getElem hb]
theorem bgn_next {L : List Sf} {i : Nat} (hi : i < L.length) (hb : bgn L i < L.length) : bgn L (i + 1) = if L[i].m = (L[bgn L i]'hb).m then bgn L i else i := by
  show (if L[i]?.map (·.m) = L[bgn L i]?.map (·.m) then _ else _) = _
  rw [List.getElem?_eq_getElem hi, List.getElem?_eq_getElem hb]
  simp
end Go.Proofs.Ytfdjoldcdfbfhaa

/-
  No cell of these rows narrows 'for every input' (looked for: loops, veiled, ifaces, maps, wideKeys, modest, calm, conditions, laid).
  DERIVED. THE GIVEN ROWS OF THIS SEAT. 9 by the template 'for every input the law returns true; each argument reads behind the call as it read before'; 0 by the template 'total and deterministic' (their statements: YtmclchaalmonnaaTotals.lean).
  GIVEN WITH THE SEED: the statements are not yours to turn. If you find one false, say at which input.
  Laid BY PROGRAM, IN A SANDBOX (cutbox-rows.mjs): the forced cells as the released guide's own fill.sh prints them over the translation fa06d47d896c359b… (all of the seat's roots in one cut). By AI agents, Wed Nov 11 2026. No macro, syntax, notation, axiom, sorry.
-/
import Derived.Test.YtmclchaalmonnaaChecked
import GoSem.Claim
import GoSem.ClaimJoined
import GoSem.ClaimMapViews
import Derived.JoinedTies
import Derived.KernelRfl
namespace Go.Proofs.Ytmclchaalmonnaa
/- THE CELL 'sum', in the pinned program and in every row, IS THE sha256 OF THE DUMP (.gsa) THAT YtmclchaalmonnaaProg.lean LOADS. Nothing in Lean hashes anything: it is a label: what it is worth is what the hold of that sum in a sandbox is worth. -/
noncomputable def Try.pinned : Pinned := { name := "ytmclchaalmonnaa", sum := "fa06d47d896c359ba072c209e63960465f3eb1a3196a694aee113e20fa13d2dd", checked := Try.checked }
namespace Rows
def none {H : Type} : Left H := { results := [], args := [] }

/-- 'icehalllaw07.ScoreValues': WHATEVER THE INPUT: true; the input reads as it did. -/
def scoreValuesSpec : ChangeSpec := { name := "scoreValues", fn := fun _ => fun
  | [d1, d2] => { results := [.lit (.bool true)], args := [d1, d2] }
  | _ => none }
def scoreValuesRow : OpenClaim := { program := "ytmclchaalmonnaa", sum := "fa06d47d896c359ba072c209e63960465f3eb1a3196a694aee113e20fa13d2dd", func := "icehall/icehalllaw07.ScoreValues", spec := "scoreValues", unfollowed := true, recurses := true, apart := false }
def ScoreValuesSaid : Prop := scoreValuesRow.holds Try.pinned (OpenSpec.ofChange scoreValuesSpec)

/-- ITS FALSE NEIGHBOUR: 'it returns false'. Refute it at one input. -/
def scoreValuesWrong : ChangeSpec := { name := "scoreValues", fn := fun _ => fun
  | [d1, d2] => { results := [.lit (.bool false)], args := [d1, d2] }
  | _ => none }
def ScoreValuesWrongFalsely : Prop := scoreValuesRow.holds Try.pinned (OpenSpec.ofChange scoreValuesWrong)

/-- 'icehalllaw07.ScoreRanks': WHATEVER THE INPUT: true; the input reads as it did. -/
def scoreRanksSpec : ChangeSpec := { name := "scoreRanks", fn := fun _ => fun
  | [d1, d2, d3, d4, d5] => { results := [.lit (.bool true)], args := [d1, d2, d3, d4, d5] }
  | _ => none }
def scoreRanksRow : OpenClaim := { program := "ytmclchaalmonnaa", sum := "fa06d47d896c359ba072c209e63960465f3eb1a3196a694aee113e20fa13d2dd", func := "icehall/icehalllaw07.ScoreRanks", spec := "scoreRanks", unfollowed := true, recurses := true, apart := false }
def ScoreRanksSaid : Prop := scoreRanksRow.holds Try.pinned (OpenSpec.ofChange scoreRanksSpec)

/-- ITS FALSE NEIGHBOUR: 'it returns false'. Refute it at one input. -/
def scoreRanksWrong : ChangeSpec := { name := "scoreRanks", fn := fun _ => fun
  | [d1, d2, d3, d4, d5] => { results := [.lit (.bool false)], args := [d1, d2, d3, d4, d5] }
  | _ => none }
def ScoreRanksWrongFalsely : Prop := scoreRanksRow.holds Try.pinned (OpenSpec.ofChange scoreRanksWrong)

/-- 'icehalllaw07.ScoreNames': WHATEVER THE INPUT: true; the input reads as it did. -/
def scoreNamesSpec : ChangeSpec := { name := "scoreNames", fn := fun _ => fun
  | [] => { results := [.lit (.bool true)], args := [] }
  | _ => none }
def scoreNamesRow : OpenClaim := { program := "ytmclchaalmonnaa", sum := "fa06d47d896c359ba072c209e63960465f3eb1a3196a694aee113e20fa13d2dd", func := "icehall/icehalllaw07.ScoreNames", spec := "scoreNames", unfollowed := true, recurses := true, apart := false }
def ScoreNamesSaid : Prop := scoreNamesRow.holds Try.pinned (OpenSpec.ofChange scoreNamesSpec)

/-- ITS FALSE NEIGHBOUR: 'it returns false'. Refute it at one input. -/
def scoreNamesWrong : ChangeSpec := { name := "scoreNames", fn := fun _ => fun
  | [] => { results := [.lit (.bool false)], args := [] }
  | _ => none }
def ScoreNamesWrongFalsely : Prop := scoreNamesRow.holds Try.pinned (OpenSpec.ofChange scoreNamesWrong)

/-- 'icehalllaw07.ScoreOrder': WHATEVER THE INPUT: true; the input reads as it did. -/
def scoreOrderSpec : ChangeSpec := { name := "scoreOrder", fn := fun _ => fun
  | [d1, d2, d3, d4, d5] => { results := [.lit (.bool true)], args := [d1, d2, d3, d4, d5] }
  | _ => none }
def scoreOrderRow : OpenClaim := { program := "ytmclchaalmonnaa", sum := "fa06d47d896c359ba072c209e63960465f3eb1a3196a694aee113e20fa13d2dd", func := "icehall/icehalllaw07.ScoreOrder", spec := "scoreOrder", unfollowed := true, recurses := true, apart := false }
def ScoreOrderSaid : Prop := scoreOrderRow.holds Try.pinned (OpenSpec.ofChange scoreOrderSpec)

/-- ITS FALSE NEIGHBOUR: 'it returns false'. Refute it at one input. -/
def scoreOrderWrong : ChangeSpec := { name := "scoreOrder", fn := fun _ => fun
  | [d1, d2, d3, d4, d5] => { results := [.lit (.bool false)], args := [d1, d2, d3, d4, d5] }
  | _ => none }
def ScoreOrderWrongFalsely : Prop := scoreOrderRow.holds Try.pinned (OpenSpec.ofChange scoreOrderWrong)

/-- 'icehalllaw07.ScoreSwing': WHATEVER THE INPUT: true; the input reads as it did. -/
def scoreSwingSpec : ChangeSpec := { name := "scoreSwing", fn := fun _ => fun
  | [d1, d2, d3, d4, d5] => { results := [.lit (.bool true)], args := [d1, d2, d3, d4, d5] }
  | _ => none }
def scoreSwingRow : OpenClaim := { program := "ytmclchaalmonnaa", sum := "fa06d47d896c359ba072c209e63960465f3eb1a3196a694aee113e20fa13d2dd", func := "icehall/icehalllaw07.ScoreSwing", spec := "scoreSwing", unfollowed := true, recurses := true, apart := false }
def ScoreSwingSaid : Prop := scoreSwingRow.holds Try.pinned (OpenSpec.ofChange scoreSwingSpec)

/-- ITS FALSE NEIGHBOUR: 'it returns false'. Refute it at one input. -/
def scoreSwingWrong : ChangeSpec := { name := "scoreSwing", fn := fun _ => fun
  | [d1, d2, d3, d4, d5] => { results := [.lit (.bool false)], args := [d1, d2, d3, d4, d5] }
  | _ => none }
def ScoreSwingWrongFalsely : Prop := scoreSwingRow.holds Try.pinned (OpenSpec.ofChange scoreSwingWrong)

/-- 'icehalllaw07.ScoreEnds': WHATEVER THE INPUT: true; the input reads as it did. -/
def scoreEndsSpec : ChangeSpec := { name := "scoreEnds", fn := fun _ => fun
  | [d1, d2, d3, d4] => { results := [.lit (.bool true)], args := [d1, d2, d3, d4] }
  | _ => none }
def scoreEndsRow : OpenClaim := { program := "ytmclchaalmonnaa", sum := "fa06d47d896c359ba072c209e63960465f3eb1a3196a694aee113e20fa13d2dd", func := "icehall/icehalllaw07.ScoreEnds", spec := "scoreEnds", unfollowed := true, recurses := true, apart := false }
def ScoreEndsSaid : Prop := scoreEndsRow.holds Try.pinned (OpenSpec.ofChange scoreEndsSpec)

/-- ITS FALSE NEIGHBOUR: 'it returns false'. Refute it at one input. -/
def scoreEndsWrong : ChangeSpec := { name := "scoreEnds", fn := fun _ => fun
  | [d1, d2, d3, d4] => { results := [.lit (.bool false)], args := [d1, d2, d3, d4] }
  | _ => none }
def ScoreEndsWrongFalsely : Prop := scoreEndsRow.holds Try.pinned (OpenSpec.ofChange scoreEndsWrong)

/-- 'icehalllaw07.ScoreOutlier': WHATEVER THE INPUT: true; the input reads as it did. -/
def scoreOutlierSpec : ChangeSpec := { name := "scoreOutlier", fn := fun _ => fun
  | [d1, d2, d3, d4] => { results := [.lit (.bool true)], args := [d1, d2, d3, d4] }
  | _ => none }
def scoreOutlierRow : OpenClaim := { program := "ytmclchaalmonnaa", sum := "fa06d47d896c359ba072c209e63960465f3eb1a3196a694aee113e20fa13d2dd", func := "icehall/icehalllaw07.ScoreOutlier", spec := "scoreOutlier", unfollowed := true, recurses := true, apart := false }
def ScoreOutlierSaid : Prop := scoreOutlierRow.holds Try.pinned (OpenSpec.ofChange scoreOutlierSpec)

/-- ITS FALSE NEIGHBOUR: 'it returns false'. Refute it at one input. -/
def scoreOutlierWrong : ChangeSpec := { name := "scoreOutlier", fn := fun _ => fun
  | [d1, d2, d3, d4] => { results := [.lit (.bool false)], args := [d1, d2, d3, d4] }
  | _ => none }
def ScoreOutlierWrongFalsely : Prop := scoreOutlierRow.holds Try.pinned (OpenSpec.ofChange scoreOutlierWrong)

/-- 'icehalllaw07.ScoreMore': WHATEVER THE INPUT: true; the input reads as it did. -/
def scoreMoreSpec : ChangeSpec := { name := "scoreMore", fn := fun _ => fun
  | [d1, d2, d3, d4] => { results := [.lit (.bool true)], args := [d1, d2, d3, d4] }
  | _ => none }
def scoreMoreRow : OpenClaim := { program := "ytmclchaalmonnaa", sum := "fa06d47d896c359ba072c209e63960465f3eb1a3196a694aee113e20fa13d2dd", func := "icehall/icehalllaw07.ScoreMore", spec := "scoreMore", unfollowed := true, recurses := true, apart := false }
def ScoreMoreSaid : Prop := scoreMoreRow.holds Try.pinned (OpenSpec.ofChange scoreMoreSpec)

/-- ITS FALSE NEIGHBOUR: 'it returns false'. Refute it at one input. -/
def scoreMoreWrong : ChangeSpec := { name := "scoreMore", fn := fun _ => fun
  | [d1, d2, d3, d4] => { results := [.lit (.bool false)], args := [d1, d2, d3, d4] }
  | _ => none }
def ScoreMoreWrongFalsely : Prop := scoreMoreRow.holds Try.pinned (OpenSpec.ofChange scoreMoreWrong)

/-- 'icehalllaw07.ScoreOwns': WHATEVER THE INPUT: true; the input reads as it did. -/
def scoreOwnsSpec : ChangeSpec := { name := "scoreOwns", fn := fun _ => fun
  | [d1, d2, d3, d4] => { results := [.lit (.bool true)], args := [d1, d2, d3, d4] }
  | _ => none }
def scoreOwnsRow : OpenClaim := { program := "ytmclchaalmonnaa", sum := "fa06d47d896c359ba072c209e63960465f3eb1a3196a694aee113e20fa13d2dd", func := "icehall/icehalllaw07.ScoreOwns", spec := "scoreOwns", unfollowed := true, recurses := true, apart := false }
def ScoreOwnsSaid : Prop := scoreOwnsRow.holds Try.pinned (OpenSpec.ofChange scoreOwnsSpec)

/-- ITS FALSE NEIGHBOUR: 'it returns false'. Refute it at one input. -/
def scoreOwnsWrong : ChangeSpec := { name := "scoreOwns", fn := fun _ => fun
  | [d1, d2, d3, d4] => { results := [.lit (.bool false)], args := [d1, d2, d3, d4] }
  | _ => none }
def ScoreOwnsWrongFalsely : Prop := scoreOwnsRow.holds Try.pinned (OpenSpec.ofChange scoreOwnsWrong)

/- THE SECOND FORM. 'bulk': how many values and letters a reading holds, each counted each time it is reached (what is shared counts as often as it is met; a slice's spare places count too). A statement '..UptoSaid' is the law's where the arguments, and the package variables that the reading takes, are together of bulk at most 1048576: NARROWER than '..Said'. Prove '..Said' where nothing that the law and all that it calls make is longer than what came in: it says more and counts as full. Else prove '..UptoSaid'. A law counts once. -/
mutual
def uptoBulk {H : Type} : DataW H → Nat
  | .lit (.string bytes) => bytes.length + 1
  | .lit _ => 1
  | .nil => 1
  | .ptr d => uptoBulk d + 1
  | .slice elems spare => uptoBulkAll elems + uptoBulkAll spare + 1
  | .agg parts => uptoBulkAll parts + 1
  | .iface _ d => uptoBulk d + 1
  | .map entries => uptoBulkEntries entries + 1
  | .held _ => 1
def uptoBulkAll {H : Type} : List (DataW H) → Nat
  | [] => 0
  | d :: r => uptoBulk d + uptoBulkAll r
def uptoBulkEntries {H : Type} : List (Lit × DataW H) → Nat
  | [] => 0
  | x :: r => uptoBulkEntry x + uptoBulkEntries r
def uptoBulkEntry {H : Type} : Lit × DataW H → Nat
  | (.string bytes, d) => bytes.length + uptoBulk d + 1
  | (_, d) => uptoBulk d + 1
 end
def uptoSmall : (H : Type) → List (DataW H) → Bool := fun _ ds => decide (uptoBulkAll ds ≤ 1048576)
def OpenSpec.upto (s : _root_.Go.ChangeSpec) : _root_.Go.OpenSpec := { _root_.Go.OpenSpec.ofChange s with cond := some uptoSmall }

/-- 'icehalllaw07.ScoreValues', WHERE WHAT IT READS IS OF BULK AT MOST 1048576: true; the input reads as it did. -/
def scoreValuesUptoRow : OpenClaim := { program := "ytmclchaalmonnaa", sum := "fa06d47d896c359ba072c209e63960465f3eb1a3196a694aee113e20fa13d2dd", func := "icehall/icehalllaw07.ScoreValues", spec := "scoreValues", unfollowed := true, recurses := true, apart := false, narrowed := true }
def ScoreValuesUptoSaid : Prop := scoreValuesUptoRow.holds Try.pinned (OpenSpec.upto scoreValuesSpec)

/-- 'icehalllaw07.ScoreRanks', WHERE WHAT IT READS IS OF BULK AT MOST 1048576: true; the input reads as it did. -/
def scoreRanksUptoRow : OpenClaim := { program := "ytmclchaalmonnaa", sum := "fa06d47d896c359ba072c209e63960465f3eb1a3196a694aee113e20fa13d2dd", func := "icehall/icehalllaw07.ScoreRanks", spec := "scoreRanks", unfollowed := true, recurses := true, apart := false, narrowed := true }
def ScoreRanksUptoSaid : Prop := scoreRanksUptoRow.holds Try.pinned (OpenSpec.upto scoreRanksSpec)

/-- 'icehalllaw07.ScoreNames', WHERE WHAT IT READS IS OF BULK AT MOST 1048576: true; the input reads as it did. -/
def scoreNamesUptoRow : OpenClaim := { program := "ytmclchaalmonnaa", sum := "fa06d47d896c359ba072c209e63960465f3eb1a3196a694aee113e20fa13d2dd", func := "icehall/icehalllaw07.ScoreNames", spec := "scoreNames", unfollowed := true, recurses := true, apart := false, narrowed := true }
def ScoreNamesUptoSaid : Prop := scoreNamesUptoRow.holds Try.pinned (OpenSpec.upto scoreNamesSpec)

/-- 'icehalllaw07.ScoreOrder', WHERE WHAT IT READS IS OF BULK AT MOST 1048576: true; the input reads as it did. -/
def scoreOrderUptoRow : OpenClaim := { program := "ytmclchaalmonnaa", sum := "fa06d47d896c359ba072c209e63960465f3eb1a3196a694aee113e20fa13d2dd", func := "icehall/icehalllaw07.ScoreOrder", spec := "scoreOrder", unfollowed := true, recurses := true, apart := false, narrowed := true }
def ScoreOrderUptoSaid : Prop := scoreOrderUptoRow.holds Try.pinned (OpenSpec.upto scoreOrderSpec)

/-- 'icehalllaw07.ScoreSwing', WHERE WHAT IT READS IS OF BULK AT MOST 1048576: true; the input reads as it did. -/
def scoreSwingUptoRow : OpenClaim := { program := "ytmclchaalmonnaa", sum := "fa06d47d896c359ba072c209e63960465f3eb1a3196a694aee113e20fa13d2dd", func := "icehall/icehalllaw07.ScoreSwing", spec := "scoreSwing", unfollowed := true, recurses := true, apart := false, narrowed := true }
def ScoreSwingUptoSaid : Prop := scoreSwingUptoRow.holds Try.pinned (OpenSpec.upto scoreSwingSpec)

/-- 'icehalllaw07.ScoreEnds', WHERE WHAT IT READS IS OF BULK AT MOST 1048576: true; the input reads as it did. -/
def scoreEndsUptoRow : OpenClaim := { program := "ytmclchaalmonnaa", sum := "fa06d47d896c359ba072c209e63960465f3eb1a3196a694aee113e20fa13d2dd", func := "icehall/icehalllaw07.ScoreEnds", spec := "scoreEnds", unfollowed := true, recurses := true, apart := false, narrowed := true }
def ScoreEndsUptoSaid : Prop := scoreEndsUptoRow.holds Try.pinned (OpenSpec.upto scoreEndsSpec)

/-- 'icehalllaw07.ScoreOutlier', WHERE WHAT IT READS IS OF BULK AT MOST 1048576: true; the input reads as it did. -/
def scoreOutlierUptoRow : OpenClaim := { program := "ytmclchaalmonnaa", sum := "fa06d47d896c359ba072c209e63960465f3eb1a3196a694aee113e20fa13d2dd", func := "icehall/icehalllaw07.ScoreOutlier", spec := "scoreOutlier", unfollowed := true, recurses := true, apart := false, narrowed := true }
def ScoreOutlierUptoSaid : Prop := scoreOutlierUptoRow.holds Try.pinned (OpenSpec.upto scoreOutlierSpec)

/-- 'icehalllaw07.ScoreMore', WHERE WHAT IT READS IS OF BULK AT MOST 1048576: true; the input reads as it did. -/
def scoreMoreUptoRow : OpenClaim := { program := "ytmclchaalmonnaa", sum := "fa06d47d896c359ba072c209e63960465f3eb1a3196a694aee113e20fa13d2dd", func := "icehall/icehalllaw07.ScoreMore", spec := "scoreMore", unfollowed := true, recurses := true, apart := false, narrowed := true }
def ScoreMoreUptoSaid : Prop := scoreMoreUptoRow.holds Try.pinned (OpenSpec.upto scoreMoreSpec)

/-- 'icehalllaw07.ScoreOwns', WHERE WHAT IT READS IS OF BULK AT MOST 1048576: true; the input reads as it did. -/
def scoreOwnsUptoRow : OpenClaim := { program := "ytmclchaalmonnaa", sum := "fa06d47d896c359ba072c209e63960465f3eb1a3196a694aee113e20fa13d2dd", func := "icehall/icehalllaw07.ScoreOwns", spec := "scoreOwns", unfollowed := true, recurses := true, apart := false, narrowed := true }
def ScoreOwnsUptoSaid : Prop := scoreOwnsUptoRow.holds Try.pinned (OpenSpec.upto scoreOwnsSpec)

end Rows
end Go.Proofs.Ytmclchaalmonnaa

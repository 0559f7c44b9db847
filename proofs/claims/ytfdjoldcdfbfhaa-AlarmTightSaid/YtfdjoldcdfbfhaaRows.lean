/-
  No cell of these rows narrows 'for every input' (looked for: loops, veiled, ifaces, maps, wideKeys, modest, calm, conditions, laid).
  DERIVED. THE GIVEN ROWS OF THIS SEAT. 10 by the template 'for every input the law returns true; each argument reads behind the call as it read before'; 0 by the template 'total and deterministic' (their statements: YtfdjoldcdfbfhaaTotals.lean).
  GIVEN WITH THE SEED: the statements are not yours to turn. If you find one false, say at which input.
  Laid BY PROGRAM, IN A SANDBOX (cutbox-rows.mjs): the forced cells as the released guide's own fill.sh prints them over the translation 4ee93e4740e97e80… (all of the seat's roots in one cut). By AI agents, Wed Nov 11 2026. No macro, syntax, notation, axiom, sorry.
-/
import Derived.Test.YtfdjoldcdfbfhaaChecked
import GoSem.Claim
import GoSem.ClaimJoined
import GoSem.ClaimMapViews
import Derived.JoinedTies
import Derived.KernelRfl
namespace Go.Proofs.Ytfdjoldcdfbfhaa
/- THE CELL 'sum', in the pinned program and in every row, IS THE sha256 OF THE DUMP (.gsa) THAT YtfdjoldcdfbfhaaProg.lean LOADS. Nothing in Lean hashes anything: it is a label: what it is worth is what the hold of that sum in a sandbox is worth. -/
noncomputable def Try.pinned : Pinned := { name := "ytfdjoldcdfbfhaa", sum := "4ee93e4740e97e8010a94c83ab4a55e2d1492055635b128452fad081e19f7cd0", checked := Try.checked }
namespace Rows
def none {H : Type} : Left H := { results := [], args := [] }

/-- 'icehalllaw04.AlarmVotes': WHATEVER THE INPUT: true; the input reads as it did. -/
def alarmVotesSpec : ChangeSpec := { name := "alarmVotes", fn := fun _ => fun
  | [d1, d2, d3, d4] => { results := [.lit (.bool true)], args := [d1, d2, d3, d4] }
  | _ => none }
def alarmVotesRow : OpenClaim := { program := "ytfdjoldcdfbfhaa", sum := "4ee93e4740e97e8010a94c83ab4a55e2d1492055635b128452fad081e19f7cd0", func := "icehall/icehalllaw04.AlarmVotes", spec := "alarmVotes", unfollowed := true, recurses := true, apart := false }
def AlarmVotesSaid : Prop := alarmVotesRow.holds Try.pinned (OpenSpec.ofChange alarmVotesSpec)

/-- ITS FALSE NEIGHBOUR: 'it returns false'. Refute it at one input. -/
def alarmVotesWrong : ChangeSpec := { name := "alarmVotes", fn := fun _ => fun
  | [d1, d2, d3, d4] => { results := [.lit (.bool false)], args := [d1, d2, d3, d4] }
  | _ => none }
def AlarmVotesWrongFalsely : Prop := alarmVotesRow.holds Try.pinned (OpenSpec.ofChange alarmVotesWrong)

/-- 'icehalllaw04.AlarmWorst': WHATEVER THE INPUT: true; the input reads as it did. -/
def alarmWorstSpec : ChangeSpec := { name := "alarmWorst", fn := fun _ => fun
  | [d1, d2, d3, d4, d5] => { results := [.lit (.bool true)], args := [d1, d2, d3, d4, d5] }
  | _ => none }
def alarmWorstRow : OpenClaim := { program := "ytfdjoldcdfbfhaa", sum := "4ee93e4740e97e8010a94c83ab4a55e2d1492055635b128452fad081e19f7cd0", func := "icehall/icehalllaw04.AlarmWorst", spec := "alarmWorst", unfollowed := true, recurses := true, apart := false }
def AlarmWorstSaid : Prop := alarmWorstRow.holds Try.pinned (OpenSpec.ofChange alarmWorstSpec)

/-- ITS FALSE NEIGHBOUR: 'it returns false'. Refute it at one input. -/
def alarmWorstWrong : ChangeSpec := { name := "alarmWorst", fn := fun _ => fun
  | [d1, d2, d3, d4, d5] => { results := [.lit (.bool false)], args := [d1, d2, d3, d4, d5] }
  | _ => none }
def AlarmWorstWrongFalsely : Prop := alarmWorstRow.holds Try.pinned (OpenSpec.ofChange alarmWorstWrong)

/-- 'icehalllaw04.AlarmBests': WHATEVER THE INPUT: true; the input reads as it did. -/
def alarmBestsSpec : ChangeSpec := { name := "alarmBests", fn := fun _ => fun
  | [d1, d2, d3, d4, d5, d6] => { results := [.lit (.bool true)], args := [d1, d2, d3, d4, d5, d6] }
  | _ => none }
def alarmBestsRow : OpenClaim := { program := "ytfdjoldcdfbfhaa", sum := "4ee93e4740e97e8010a94c83ab4a55e2d1492055635b128452fad081e19f7cd0", func := "icehall/icehalllaw04.AlarmBests", spec := "alarmBests", unfollowed := true, recurses := true, apart := false }
def AlarmBestsSaid : Prop := alarmBestsRow.holds Try.pinned (OpenSpec.ofChange alarmBestsSpec)

/-- ITS FALSE NEIGHBOUR: 'it returns false'. Refute it at one input. -/
def alarmBestsWrong : ChangeSpec := { name := "alarmBests", fn := fun _ => fun
  | [d1, d2, d3, d4, d5, d6] => { results := [.lit (.bool false)], args := [d1, d2, d3, d4, d5, d6] }
  | _ => none }
def AlarmBestsWrongFalsely : Prop := alarmBestsRow.holds Try.pinned (OpenSpec.ofChange alarmBestsWrong)

/-- 'icehalllaw04.AlarmNames': WHATEVER THE INPUT: true; the input reads as it did. -/
def alarmNamesSpec : ChangeSpec := { name := "alarmNames", fn := fun _ => fun
  | [] => { results := [.lit (.bool true)], args := [] }
  | _ => none }
def alarmNamesRow : OpenClaim := { program := "ytfdjoldcdfbfhaa", sum := "4ee93e4740e97e8010a94c83ab4a55e2d1492055635b128452fad081e19f7cd0", func := "icehall/icehalllaw04.AlarmNames", spec := "alarmNames", unfollowed := true, recurses := true, apart := false }
def AlarmNamesSaid : Prop := alarmNamesRow.holds Try.pinned (OpenSpec.ofChange alarmNamesSpec)

/-- ITS FALSE NEIGHBOUR: 'it returns false'. Refute it at one input. -/
def alarmNamesWrong : ChangeSpec := { name := "alarmNames", fn := fun _ => fun
  | [] => { results := [.lit (.bool false)], args := [] }
  | _ => none }
def AlarmNamesWrongFalsely : Prop := alarmNamesRow.holds Try.pinned (OpenSpec.ofChange alarmNamesWrong)

/-- 'icehalllaw04.AlarmSure': WHATEVER THE INPUT: true; the input reads as it did. -/
def alarmSureSpec : ChangeSpec := { name := "alarmSure", fn := fun _ => fun
  | [d1, d2, d3, d4, d5, d6, d7] => { results := [.lit (.bool true)], args := [d1, d2, d3, d4, d5, d6, d7] }
  | _ => none }
def alarmSureRow : OpenClaim := { program := "ytfdjoldcdfbfhaa", sum := "4ee93e4740e97e8010a94c83ab4a55e2d1492055635b128452fad081e19f7cd0", func := "icehall/icehalllaw04.AlarmSure", spec := "alarmSure", unfollowed := true, recurses := true, apart := false }
def AlarmSureSaid : Prop := alarmSureRow.holds Try.pinned (OpenSpec.ofChange alarmSureSpec)

/-- ITS FALSE NEIGHBOUR: 'it returns false'. Refute it at one input. -/
def alarmSureWrong : ChangeSpec := { name := "alarmSure", fn := fun _ => fun
  | [d1, d2, d3, d4, d5, d6, d7] => { results := [.lit (.bool false)], args := [d1, d2, d3, d4, d5, d6, d7] }
  | _ => none }
def AlarmSureWrongFalsely : Prop := alarmSureRow.holds Try.pinned (OpenSpec.ofChange alarmSureWrong)

/-- 'icehalllaw04.AlarmTight': WHATEVER THE INPUT: true; the input reads as it did. -/
def alarmTightSpec : ChangeSpec := { name := "alarmTight", fn := fun _ => fun
  | [d1, d2, d3, d4, d5] => { results := [.lit (.bool true)], args := [d1, d2, d3, d4, d5] }
  | _ => none }
def alarmTightRow : OpenClaim := { program := "ytfdjoldcdfbfhaa", sum := "4ee93e4740e97e8010a94c83ab4a55e2d1492055635b128452fad081e19f7cd0", func := "icehall/icehalllaw04.AlarmTight", spec := "alarmTight", unfollowed := true, recurses := true, apart := false }
def AlarmTightSaid : Prop := alarmTightRow.holds Try.pinned (OpenSpec.ofChange alarmTightSpec)

/-- ITS FALSE NEIGHBOUR: 'it returns false'. Refute it at one input. -/
def alarmTightWrong : ChangeSpec := { name := "alarmTight", fn := fun _ => fun
  | [d1, d2, d3, d4, d5] => { results := [.lit (.bool false)], args := [d1, d2, d3, d4, d5] }
  | _ => none }
def AlarmTightWrongFalsely : Prop := alarmTightRow.holds Try.pinned (OpenSpec.ofChange alarmTightWrong)

/-- 'icehalllaw04.AlarmQuiet': WHATEVER THE INPUT: true; the input reads as it did. -/
def alarmQuietSpec : ChangeSpec := { name := "alarmQuiet", fn := fun _ => fun
  | [d1, d2, d3, d4, d5] => { results := [.lit (.bool true)], args := [d1, d2, d3, d4, d5] }
  | _ => none }
def alarmQuietRow : OpenClaim := { program := "ytfdjoldcdfbfhaa", sum := "4ee93e4740e97e8010a94c83ab4a55e2d1492055635b128452fad081e19f7cd0", func := "icehall/icehalllaw04.AlarmQuiet", spec := "alarmQuiet", unfollowed := true, recurses := true, apart := false }
def AlarmQuietSaid : Prop := alarmQuietRow.holds Try.pinned (OpenSpec.ofChange alarmQuietSpec)

/-- ITS FALSE NEIGHBOUR: 'it returns false'. Refute it at one input. -/
def alarmQuietWrong : ChangeSpec := { name := "alarmQuiet", fn := fun _ => fun
  | [d1, d2, d3, d4, d5] => { results := [.lit (.bool false)], args := [d1, d2, d3, d4, d5] }
  | _ => none }
def AlarmQuietWrongFalsely : Prop := alarmQuietRow.holds Try.pinned (OpenSpec.ofChange alarmQuietWrong)

/-- 'icehalllaw04.AlarmSpan': WHATEVER THE INPUT: true; the input reads as it did. -/
def alarmSpanSpec : ChangeSpec := { name := "alarmSpan", fn := fun _ => fun
  | [d1, d2, d3, d4, d5, d6, d7] => { results := [.lit (.bool true)], args := [d1, d2, d3, d4, d5, d6, d7] }
  | _ => none }
def alarmSpanRow : OpenClaim := { program := "ytfdjoldcdfbfhaa", sum := "4ee93e4740e97e8010a94c83ab4a55e2d1492055635b128452fad081e19f7cd0", func := "icehall/icehalllaw04.AlarmSpan", spec := "alarmSpan", unfollowed := true, recurses := true, apart := false }
def AlarmSpanSaid : Prop := alarmSpanRow.holds Try.pinned (OpenSpec.ofChange alarmSpanSpec)

/-- ITS FALSE NEIGHBOUR: 'it returns false'. Refute it at one input. -/
def alarmSpanWrong : ChangeSpec := { name := "alarmSpan", fn := fun _ => fun
  | [d1, d2, d3, d4, d5, d6, d7] => { results := [.lit (.bool false)], args := [d1, d2, d3, d4, d5, d6, d7] }
  | _ => none }
def AlarmSpanWrongFalsely : Prop := alarmSpanRow.holds Try.pinned (OpenSpec.ofChange alarmSpanWrong)

/-- 'icehalllaw04.AlarmLess': WHATEVER THE INPUT: true; the input reads as it did. -/
def alarmLessSpec : ChangeSpec := { name := "alarmLess", fn := fun _ => fun
  | [d1, d2, d3, d4, d5, d6, d7, d8, d9] => { results := [.lit (.bool true)], args := [d1, d2, d3, d4, d5, d6, d7, d8, d9] }
  | _ => none }
def alarmLessRow : OpenClaim := { program := "ytfdjoldcdfbfhaa", sum := "4ee93e4740e97e8010a94c83ab4a55e2d1492055635b128452fad081e19f7cd0", func := "icehall/icehalllaw04.AlarmLess", spec := "alarmLess", unfollowed := true, recurses := true, apart := false }
def AlarmLessSaid : Prop := alarmLessRow.holds Try.pinned (OpenSpec.ofChange alarmLessSpec)

/-- ITS FALSE NEIGHBOUR: 'it returns false'. Refute it at one input. -/
def alarmLessWrong : ChangeSpec := { name := "alarmLess", fn := fun _ => fun
  | [d1, d2, d3, d4, d5, d6, d7, d8, d9] => { results := [.lit (.bool false)], args := [d1, d2, d3, d4, d5, d6, d7, d8, d9] }
  | _ => none }
def AlarmLessWrongFalsely : Prop := alarmLessRow.holds Try.pinned (OpenSpec.ofChange alarmLessWrong)

/-- 'icehalllaw04.AlarmOwns': WHATEVER THE INPUT: true; the input reads as it did. -/
def alarmOwnsSpec : ChangeSpec := { name := "alarmOwns", fn := fun _ => fun
  | [d1, d2, d3, d4, d5, d6, d7, d8] => { results := [.lit (.bool true)], args := [d1, d2, d3, d4, d5, d6, d7, d8] }
  | _ => none }
def alarmOwnsRow : OpenClaim := { program := "ytfdjoldcdfbfhaa", sum := "4ee93e4740e97e8010a94c83ab4a55e2d1492055635b128452fad081e19f7cd0", func := "icehall/icehalllaw04.AlarmOwns", spec := "alarmOwns", unfollowed := true, recurses := true, apart := false }
def AlarmOwnsSaid : Prop := alarmOwnsRow.holds Try.pinned (OpenSpec.ofChange alarmOwnsSpec)

/-- ITS FALSE NEIGHBOUR: 'it returns false'. Refute it at one input. -/
def alarmOwnsWrong : ChangeSpec := { name := "alarmOwns", fn := fun _ => fun
  | [d1, d2, d3, d4, d5, d6, d7, d8] => { results := [.lit (.bool false)], args := [d1, d2, d3, d4, d5, d6, d7, d8] }
  | _ => none }
def AlarmOwnsWrongFalsely : Prop := alarmOwnsRow.holds Try.pinned (OpenSpec.ofChange alarmOwnsWrong)

/- THE SECOND FORM. 'bulk': how many values and letters a reading holds, each counted each time it is reached (what is shared counts as often as it is met; a slice's spare places count too). A statement '..UptoSaid' is the law's where the arguments, and the package variables that the reading takes, are together of bulk at most 1048576: NARROWER than '..Said'. Prove '..Said' where nothing that the law and all that it calls make is longer than what came in: it says more and counts as full. Else prove '..UptoSaid'. A law counts once. -/
mutual
def uptoBulk {H : Type} : DataW H → Nat
  | .lit (.string bytes) => bytes.length + 1
  | .lit _ => 1
  | .nil => 1
  | .ptr d => uptoBulk d + 1
  | .slice elems spare => uptoBulkAll elems + uptoBulkAll spare + 1
  | .agg parts => uptoBulkAll parts + 1
  | .iface _ d => uptoBulk d + 1
  | .map entries => uptoBulkEntries entries + 1
  | .held _ => 1
def uptoBulkAll {H : Type} : List (DataW H) → Nat
  | [] => 0
  | d :: r => uptoBulk d + uptoBulkAll r
def uptoBulkEntries {H : Type} : List (Lit × DataW H) → Nat
  | [] => 0
  | x :: r => uptoBulkEntry x + uptoBulkEntries r
def uptoBulkEntry {H : Type} : Lit × DataW H → Nat
  | (.string bytes, d) => bytes.length + uptoBulk d + 1
  | (_, d) => uptoBulk d + 1
 end
def uptoSmall : (H : Type) → List (DataW H) → Bool := fun _ ds => decide (uptoBulkAll ds ≤ 1048576)
def OpenSpec.upto (s : _root_.Go.ChangeSpec) : _root_.Go.OpenSpec := { _root_.Go.OpenSpec.ofChange s with cond := some uptoSmall }

/-- 'icehalllaw04.AlarmVotes', WHERE WHAT IT READS IS OF BULK AT MOST 1048576: true; the input reads as it did. -/
def alarmVotesUptoRow : OpenClaim := { program := "ytfdjoldcdfbfhaa", sum := "4ee93e4740e97e8010a94c83ab4a55e2d1492055635b128452fad081e19f7cd0", func := "icehall/icehalllaw04.AlarmVotes", spec := "alarmVotes", unfollowed := true, recurses := true, apart := false, narrowed := true }
def AlarmVotesUptoSaid : Prop := alarmVotesUptoRow.holds Try.pinned (OpenSpec.upto alarmVotesSpec)

/-- 'icehalllaw04.AlarmWorst', WHERE WHAT IT READS IS OF BULK AT MOST 1048576: true; the input reads as it did. -/
def alarmWorstUptoRow : OpenClaim := { program := "ytfdjoldcdfbfhaa", sum := "4ee93e4740e97e8010a94c83ab4a55e2d1492055635b128452fad081e19f7cd0", func := "icehall/icehalllaw04.AlarmWorst", spec := "alarmWorst", unfollowed := true, recurses := true, apart := false, narrowed := true }
def AlarmWorstUptoSaid : Prop := alarmWorstUptoRow.holds Try.pinned (OpenSpec.upto alarmWorstSpec)

/-- 'icehalllaw04.AlarmBests', WHERE WHAT IT READS IS OF BULK AT MOST 1048576: true; the input reads as it did. -/
def alarmBestsUptoRow : OpenClaim := { program := "ytfdjoldcdfbfhaa", sum := "4ee93e4740e97e8010a94c83ab4a55e2d1492055635b128452fad081e19f7cd0", func := "icehall/icehalllaw04.AlarmBests", spec := "alarmBests", unfollowed := true, recurses := true, apart := false, narrowed := true }
def AlarmBestsUptoSaid : Prop := alarmBestsUptoRow.holds Try.pinned (OpenSpec.upto alarmBestsSpec)

/-- 'icehalllaw04.AlarmNames', WHERE WHAT IT READS IS OF BULK AT MOST 1048576: true; the input reads as it did. -/
def alarmNamesUptoRow : OpenClaim := { program := "ytfdjoldcdfbfhaa", sum := "4ee93e4740e97e8010a94c83ab4a55e2d1492055635b128452fad081e19f7cd0", func := "icehall/icehalllaw04.AlarmNames", spec := "alarmNames", unfollowed := true, recurses := true, apart := false, narrowed := true }
def AlarmNamesUptoSaid : Prop := alarmNamesUptoRow.holds Try.pinned (OpenSpec.upto alarmNamesSpec)

/-- 'icehalllaw04.AlarmSure', WHERE WHAT IT READS IS OF BULK AT MOST 1048576: true; the input reads as it did. -/
def alarmSureUptoRow : OpenClaim := { program := "ytfdjoldcdfbfhaa", sum := "4ee93e4740e97e8010a94c83ab4a55e2d1492055635b128452fad081e19f7cd0", func := "icehall/icehalllaw04.AlarmSure", spec := "alarmSure", unfollowed := true, recurses := true, apart := false, narrowed := true }
def AlarmSureUptoSaid : Prop := alarmSureUptoRow.holds Try.pinned (OpenSpec.upto alarmSureSpec)

/-- 'icehalllaw04.AlarmTight', WHERE WHAT IT READS IS OF BULK AT MOST 1048576: true; the input reads as it did. -/
def alarmTightUptoRow : OpenClaim := { program := "ytfdjoldcdfbfhaa", sum := "4ee93e4740e97e8010a94c83ab4a55e2d1492055635b128452fad081e19f7cd0", func := "icehall/icehalllaw04.AlarmTight", spec := "alarmTight", unfollowed := true, recurses := true, apart := false, narrowed := true }
def AlarmTightUptoSaid : Prop := alarmTightUptoRow.holds Try.pinned (OpenSpec.upto alarmTightSpec)

/-- 'icehalllaw04.AlarmQuiet', WHERE WHAT IT READS IS OF BULK AT MOST 1048576: true; the input reads as it did. -/
def alarmQuietUptoRow : OpenClaim := { program := "ytfdjoldcdfbfhaa", sum := "4ee93e4740e97e8010a94c83ab4a55e2d1492055635b128452fad081e19f7cd0", func := "icehall/icehalllaw04.AlarmQuiet", spec := "alarmQuiet", unfollowed := true, recurses := true, apart := false, narrowed := true }
def AlarmQuietUptoSaid : Prop := alarmQuietUptoRow.holds Try.pinned (OpenSpec.upto alarmQuietSpec)

/-- 'icehalllaw04.AlarmSpan', WHERE WHAT IT READS IS OF BULK AT MOST 1048576: true; the input reads as it did. -/
def alarmSpanUptoRow : OpenClaim := { program := "ytfdjoldcdfbfhaa", sum := "4ee93e4740e97e8010a94c83ab4a55e2d1492055635b128452fad081e19f7cd0", func := "icehall/icehalllaw04.AlarmSpan", spec := "alarmSpan", unfollowed := true, recurses := true, apart := false, narrowed := true }
def AlarmSpanUptoSaid : Prop := alarmSpanUptoRow.holds Try.pinned (OpenSpec.upto alarmSpanSpec)

/-- 'icehalllaw04.AlarmLess', WHERE WHAT IT READS IS OF BULK AT MOST 1048576: true; the input reads as it did. -/
def alarmLessUptoRow : OpenClaim := { program := "ytfdjoldcdfbfhaa", sum := "4ee93e4740e97e8010a94c83ab4a55e2d1492055635b128452fad081e19f7cd0", func := "icehall/icehalllaw04.AlarmLess", spec := "alarmLess", unfollowed := true, recurses := true, apart := false, narrowed := true }
def AlarmLessUptoSaid : Prop := alarmLessUptoRow.holds Try.pinned (OpenSpec.upto alarmLessSpec)

/-- 'icehalllaw04.AlarmOwns', WHERE WHAT IT READS IS OF BULK AT MOST 1048576: true; the input reads as it did. -/
def alarmOwnsUptoRow : OpenClaim := { program := "ytfdjoldcdfbfhaa", sum := "4ee93e4740e97e8010a94c83ab4a55e2d1492055635b128452fad081e19f7cd0", func := "icehall/icehalllaw04.AlarmOwns", spec := "alarmOwns", unfollowed := true, recurses := true, apart := false, narrowed := true }
def AlarmOwnsUptoSaid : Prop := alarmOwnsUptoRow.holds Try.pinned (OpenSpec.upto alarmOwnsSpec)

end Rows
end Go.Proofs.Ytfdjoldcdfbfhaa

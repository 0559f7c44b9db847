/-
  No cell of these rows narrows 'for every input' (looked for: loops, veiled, ifaces, maps, wideKeys, modest, calm, conditions, laid).
  DERIVED. THE GIVEN ROWS OF THIS SEAT. 7 by the template 'for every input the law returns true; each argument reads behind the call as it read before'; 0 by the template 'total and deterministic' (their statements: YtipejhfgfciabaaTotals.lean).
  GIVEN WITH THE SEED: the statements are not yours to turn. If you find one false, say at which input.
  Laid BY PROGRAM, IN A SANDBOX (cutbox-rows.mjs): the forced cells as the released guide's own fill.sh prints them over the translation 40ed8e234f81d642… (all of the seat's roots in one cut). By AI agents, Wed Nov 11 2026. No macro, syntax, notation, axiom, sorry.
-/
import Derived.Test.YtipejhfgfciabaaChecked
import GoSem.Claim
import GoSem.ClaimJoined
import GoSem.ClaimMapViews
import Derived.JoinedTies
import Derived.KernelRfl
namespace Go.Proofs.Ytipejhfgfciabaa
/- THE CELL 'sum', in the pinned program and in every row, IS THE sha256 OF THE DUMP (.gsa) THAT YtipejhfgfciabaaProg.lean LOADS. Nothing in Lean hashes anything: it is a label: what it is worth is what the hold of that sum in a sandbox is worth. -/
noncomputable def Try.pinned : Pinned := { name := "ytipejhfgfciabaa", sum := "40ed8e234f81d64232852a5ec1793d651e0ae2872f7e70decd719230b2533db1", checked := Try.checked }
namespace Rows
def none {H : Type} : Left H := { results := [], args := [] }

/-- 'icehalllaw06.HoursChecks': WHATEVER THE INPUT: true; the input reads as it did. -/
def hoursChecksSpec : ChangeSpec := { name := "hoursChecks", fn := fun _ => fun
  | [d1, d2, d3] => { results := [.lit (.bool true)], args := [d1, d2, d3] }
  | _ => none }
def hoursChecksRow : OpenClaim := { program := "ytipejhfgfciabaa", sum := "40ed8e234f81d64232852a5ec1793d651e0ae2872f7e70decd719230b2533db1", func := "icehall/icehalllaw06.HoursChecks", spec := "hoursChecks", unfollowed := true, recurses := true, plainKeys := false, apart := false }
def HoursChecksSaid : Prop := hoursChecksRow.holds Try.pinned (OpenSpec.ofChange hoursChecksSpec)

/-- ITS FALSE NEIGHBOUR: 'it returns false'. Refute it at one input. -/
def hoursChecksWrong : ChangeSpec := { name := "hoursChecks", fn := fun _ => fun
  | [d1, d2, d3] => { results := [.lit (.bool false)], args := [d1, d2, d3] }
  | _ => none }
def HoursChecksWrongFalsely : Prop := hoursChecksRow.holds Try.pinned (OpenSpec.ofChange hoursChecksWrong)

/-- 'icehalllaw06.HoursFairest': WHATEVER THE INPUT: true; the input reads as it did. -/
def hoursFairestSpec : ChangeSpec := { name := "hoursFairest", fn := fun _ => fun
  | [d1, d2] => { results := [.lit (.bool true)], args := [d1, d2] }
  | _ => none }
def hoursFairestRow : OpenClaim := { program := "ytipejhfgfciabaa", sum := "40ed8e234f81d64232852a5ec1793d651e0ae2872f7e70decd719230b2533db1", func := "icehall/icehalllaw06.HoursFairest", spec := "hoursFairest", unfollowed := true, recurses := true, plainKeys := false, apart := false }
def HoursFairestSaid : Prop := hoursFairestRow.holds Try.pinned (OpenSpec.ofChange hoursFairestSpec)

/-- ITS FALSE NEIGHBOUR: 'it returns false'. Refute it at one input. -/
def hoursFairestWrong : ChangeSpec := { name := "hoursFairest", fn := fun _ => fun
  | [d1, d2] => { results := [.lit (.bool false)], args := [d1, d2] }
  | _ => none }
def HoursFairestWrongFalsely : Prop := hoursFairestRow.holds Try.pinned (OpenSpec.ofChange hoursFairestWrong)

/-- 'icehalllaw06.HoursNone': WHATEVER THE INPUT: true; the input reads as it did. -/
def hoursNoneSpec : ChangeSpec := { name := "hoursNone", fn := fun _ => fun
  | [d1, d2] => { results := [.lit (.bool true)], args := [d1, d2] }
  | _ => none }
def hoursNoneRow : OpenClaim := { program := "ytipejhfgfciabaa", sum := "40ed8e234f81d64232852a5ec1793d651e0ae2872f7e70decd719230b2533db1", func := "icehall/icehalllaw06.HoursNone", spec := "hoursNone", unfollowed := true, recurses := true, plainKeys := false, apart := false }
def HoursNoneSaid : Prop := hoursNoneRow.holds Try.pinned (OpenSpec.ofChange hoursNoneSpec)

/-- ITS FALSE NEIGHBOUR: 'it returns false'. Refute it at one input. -/
def hoursNoneWrong : ChangeSpec := { name := "hoursNone", fn := fun _ => fun
  | [d1, d2] => { results := [.lit (.bool false)], args := [d1, d2] }
  | _ => none }
def HoursNoneWrongFalsely : Prop := hoursNoneRow.holds Try.pinned (OpenSpec.ofChange hoursNoneWrong)

/-- 'icehalllaw06.HoursGood': WHATEVER THE INPUT: true; the input reads as it did. -/
def hoursGoodSpec : ChangeSpec := { name := "hoursGood", fn := fun _ => fun
  | [d1, d2] => { results := [.lit (.bool true)], args := [d1, d2] }
  | _ => none }
def hoursGoodRow : OpenClaim := { program := "ytipejhfgfciabaa", sum := "40ed8e234f81d64232852a5ec1793d651e0ae2872f7e70decd719230b2533db1", func := "icehall/icehalllaw06.HoursGood", spec := "hoursGood", unfollowed := true, recurses := true, plainKeys := false, apart := false }
def HoursGoodSaid : Prop := hoursGoodRow.holds Try.pinned (OpenSpec.ofChange hoursGoodSpec)

/-- ITS FALSE NEIGHBOUR: 'it returns false'. Refute it at one input. -/
def hoursGoodWrong : ChangeSpec := { name := "hoursGood", fn := fun _ => fun
  | [d1, d2] => { results := [.lit (.bool false)], args := [d1, d2] }
  | _ => none }
def HoursGoodWrongFalsely : Prop := hoursGoodRow.holds Try.pinned (OpenSpec.ofChange hoursGoodWrong)

/-- 'icehalllaw06.HoursMore': WHATEVER THE INPUT: true; the input reads as it did. -/
def hoursMoreSpec : ChangeSpec := { name := "hoursMore", fn := fun _ => fun
  | [d1, d2, d3] => { results := [.lit (.bool true)], args := [d1, d2, d3] }
  | _ => none }
def hoursMoreRow : OpenClaim := { program := "ytipejhfgfciabaa", sum := "40ed8e234f81d64232852a5ec1793d651e0ae2872f7e70decd719230b2533db1", func := "icehall/icehalllaw06.HoursMore", spec := "hoursMore", unfollowed := true, recurses := true, plainKeys := false, apart := false }
def HoursMoreSaid : Prop := hoursMoreRow.holds Try.pinned (OpenSpec.ofChange hoursMoreSpec)

/-- ITS FALSE NEIGHBOUR: 'it returns false'. Refute it at one input. -/
def hoursMoreWrong : ChangeSpec := { name := "hoursMore", fn := fun _ => fun
  | [d1, d2, d3] => { results := [.lit (.bool false)], args := [d1, d2, d3] }
  | _ => none }
def HoursMoreWrongFalsely : Prop := hoursMoreRow.holds Try.pinned (OpenSpec.ofChange hoursMoreWrong)

/-- 'icehalllaw06.HoursHinder': WHATEVER THE INPUT: true; the input reads as it did. -/
def hoursHinderSpec : ChangeSpec := { name := "hoursHinder", fn := fun _ => fun
  | [d1, d2, d3] => { results := [.lit (.bool true)], args := [d1, d2, d3] }
  | _ => none }
def hoursHinderRow : OpenClaim := { program := "ytipejhfgfciabaa", sum := "40ed8e234f81d64232852a5ec1793d651e0ae2872f7e70decd719230b2533db1", func := "icehall/icehalllaw06.HoursHinder", spec := "hoursHinder", unfollowed := true, recurses := true, plainKeys := false, apart := false }
def HoursHinderSaid : Prop := hoursHinderRow.holds Try.pinned (OpenSpec.ofChange hoursHinderSpec)

/-- ITS FALSE NEIGHBOUR: 'it returns false'. Refute it at one input. -/
def hoursHinderWrong : ChangeSpec := { name := "hoursHinder", fn := fun _ => fun
  | [d1, d2, d3] => { results := [.lit (.bool false)], args := [d1, d2, d3] }
  | _ => none }
def HoursHinderWrongFalsely : Prop := hoursHinderRow.holds Try.pinned (OpenSpec.ofChange hoursHinderWrong)

/-- 'icehalltop.TopIce': WHATEVER THE INPUT: true; the input reads as it did. -/
def topIceSpec : ChangeSpec := { name := "topIce", fn := fun _ => fun
  | [d1, d2, d3, d4, d5, d6] => { results := [.lit (.bool true)], args := [d1, d2, d3, d4, d5, d6] }
  | _ => none }
def topIceRow : OpenClaim := { program := "ytipejhfgfciabaa", sum := "40ed8e234f81d64232852a5ec1793d651e0ae2872f7e70decd719230b2533db1", func := "icehall/icehalltop.TopIce", spec := "topIce", unfollowed := true, recurses := true, plainKeys := false, apart := false }
def TopIceSaid : Prop := topIceRow.holds Try.pinned (OpenSpec.ofChange topIceSpec)

/-- ITS FALSE NEIGHBOUR: 'it returns false'. Refute it at one input. -/
def topIceWrong : ChangeSpec := { name := "topIce", fn := fun _ => fun
  | [d1, d2, d3, d4, d5, d6] => { results := [.lit (.bool false)], args := [d1, d2, d3, d4, d5, d6] }
  | _ => none }
def TopIceWrongFalsely : Prop := topIceRow.holds Try.pinned (OpenSpec.ofChange topIceWrong)

/- THE SECOND FORM. 'bulk': how many values and letters a reading holds, each counted each time it is reached (what is shared counts as often as it is met; a slice's spare places count too). A statement '..UptoSaid' is the law's where the arguments, and the package variables that the reading takes, are together of bulk at most 1048576: NARROWER than '..Said'. Prove '..Said' where nothing that the law and all that it calls make is longer than what came in: it says more and counts as full. Else prove '..UptoSaid'. A law counts once. -/
mutual
def uptoBulk {H : Type} : DataW H → Nat
  | .lit (.string bytes) => bytes.length + 1
  | .lit _ => 1
  | .nil => 1
  | .ptr d => uptoBulk d + 1
  | .slice elems spare => uptoBulkAll elems + uptoBulkAll spare + 1
  | .agg parts => uptoBulkAll parts + 1
  | .iface _ d => uptoBulk d + 1
  | .map entries => uptoBulkEntries entries + 1
  | .held _ => 1
def uptoBulkAll {H : Type} : List (DataW H) → Nat
  | [] => 0
  | d :: r => uptoBulk d + uptoBulkAll r
def uptoBulkEntries {H : Type} : List (Lit × DataW H) → Nat
  | [] => 0
  | x :: r => uptoBulkEntry x + uptoBulkEntries r
def uptoBulkEntry {H : Type} : Lit × DataW H → Nat
  | (.string bytes, d) => bytes.length + uptoBulk d + 1
  | (_, d) => uptoBulk d + 1
 end
def uptoSmall : (H : Type) → List (DataW H) → Bool := fun _ ds => decide (uptoBulkAll ds ≤ 1048576)
def OpenSpec.upto (s : _root_.Go.ChangeSpec) : _root_.Go.OpenSpec := { _root_.Go.OpenSpec.ofChange s with cond := some uptoSmall }

/-- 'icehalllaw06.HoursChecks', WHERE WHAT IT READS IS OF BULK AT MOST 1048576: true; the input reads as it did. -/
def hoursChecksUptoRow : OpenClaim := { program := "ytipejhfgfciabaa", sum := "40ed8e234f81d64232852a5ec1793d651e0ae2872f7e70decd719230b2533db1", func := "icehall/icehalllaw06.HoursChecks", spec := "hoursChecks", unfollowed := true, recurses := true, plainKeys := false, apart := false, narrowed := true }
def HoursChecksUptoSaid : Prop := hoursChecksUptoRow.holds Try.pinned (OpenSpec.upto hoursChecksSpec)

/-- 'icehalllaw06.HoursFairest', WHERE WHAT IT READS IS OF BULK AT MOST 1048576: true; the input reads as it did. -/
def hoursFairestUptoRow : OpenClaim := { program := "ytipejhfgfciabaa", sum := "40ed8e234f81d64232852a5ec1793d651e0ae2872f7e70decd719230b2533db1", func := "icehall/icehalllaw06.HoursFairest", spec := "hoursFairest", unfollowed := true, recurses := true, plainKeys := false, apart := false, narrowed := true }
def HoursFairestUptoSaid : Prop := hoursFairestUptoRow.holds Try.pinned (OpenSpec.upto hoursFairestSpec)

/-- 'icehalllaw06.HoursNone', WHERE WHAT IT READS IS OF BULK AT MOST 1048576: true; the input reads as it did. -/
def hoursNoneUptoRow : OpenClaim := { program := "ytipejhfgfciabaa", sum := "40ed8e234f81d64232852a5ec1793d651e0ae2872f7e70decd719230b2533db1", func := "icehall/icehalllaw06.HoursNone", spec := "hoursNone", unfollowed := true, recurses := true, plainKeys := false, apart := false, narrowed := true }
def HoursNoneUptoSaid : Prop := hoursNoneUptoRow.holds Try.pinned (OpenSpec.upto hoursNoneSpec)

/-- 'icehalllaw06.HoursGood', WHERE WHAT IT READS IS OF BULK AT MOST 1048576: true; the input reads as it did. -/
def hoursGoodUptoRow : OpenClaim := { program := "ytipejhfgfciabaa", sum := "40ed8e234f81d64232852a5ec1793d651e0ae2872f7e70decd719230b2533db1", func := "icehall/icehalllaw06.HoursGood", spec := "hoursGood", unfollowed := true, recurses := true, plainKeys := false, apart := false, narrowed := true }
def HoursGoodUptoSaid : Prop := hoursGoodUptoRow.holds Try.pinned (OpenSpec.upto hoursGoodSpec)

/-- 'icehalllaw06.HoursMore', WHERE WHAT IT READS IS OF BULK AT MOST 1048576: true; the input reads as it did. -/
def hoursMoreUptoRow : OpenClaim := { program := "ytipejhfgfciabaa", sum := "40ed8e234f81d64232852a5ec1793d651e0ae2872f7e70decd719230b2533db1", func := "icehall/icehalllaw06.HoursMore", spec := "hoursMore", unfollowed := true, recurses := true, plainKeys := false, apart := false, narrowed := true }
def HoursMoreUptoSaid : Prop := hoursMoreUptoRow.holds Try.pinned (OpenSpec.upto hoursMoreSpec)

/-- 'icehalllaw06.HoursHinder', WHERE WHAT IT READS IS OF BULK AT MOST 1048576: true; the input reads as it did. -/
def hoursHinderUptoRow : OpenClaim := { program := "ytipejhfgfciabaa", sum := "40ed8e234f81d64232852a5ec1793d651e0ae2872f7e70decd719230b2533db1", func := "icehall/icehalllaw06.HoursHinder", spec := "hoursHinder", unfollowed := true, recurses := true, plainKeys := false, apart := false, narrowed := true }
def HoursHinderUptoSaid : Prop := hoursHinderUptoRow.holds Try.pinned (OpenSpec.upto hoursHinderSpec)

/-- 'icehalltop.TopIce', WHERE WHAT IT READS IS OF BULK AT MOST 1048576: true; the input reads as it did. -/
def topIceUptoRow : OpenClaim := { program := "ytipejhfgfciabaa", sum := "40ed8e234f81d64232852a5ec1793d651e0ae2872f7e70decd719230b2533db1", func := "icehall/icehalltop.TopIce", spec := "topIce", unfollowed := true, recurses := true, plainKeys := false, apart := false, narrowed := true }
def TopIceUptoSaid : Prop := topIceUptoRow.holds Try.pinned (OpenSpec.upto topIceSpec)

end Rows
end Go.Proofs.Ytipejhfgfciabaa

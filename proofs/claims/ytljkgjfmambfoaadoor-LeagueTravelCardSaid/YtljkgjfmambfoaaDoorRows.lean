/-
  NARROWER THAN 'FOR EVERY INPUT', by the rows' own cells (each row's printed sentence says how): LeagueTables: laid · LeagueClinches: laid · LeagueCertain: laid · LeagueGames: laid · LeagueWins: laid · LeagueTravel: laid.
  DERIVED. THE GIVEN ROWS OF THIS SEAT. 6 by the template 'for every input the law returns true; each argument reads behind the call as it read before'; 0 by the template 'total and deterministic' (their statements: YtljkgjfmambfoaaDoorTotals.lean).
  GIVEN WITH THE SEED: the statements are not yours to turn. If you find one false, say at which input.
  Laid BY PROGRAM, IN A SANDBOX (cutbox-rows.mjs): the forced cells as the released guide's own fill.sh prints them over the translation 3cf0a4b1570a325b… (all of the seat's roots in one cut). By AI agents, Wed Nov 11 2026. No macro, syntax, notation, axiom, sorry.
-/
import Derived.Test.YtljkgjfmambfoaaDoorChecked
import GoSem.Claim
import GoSem.ClaimJoined
import GoSem.ClaimMapViews
import Derived.JoinedTies
import Derived.KernelRfl
namespace Go.Proofs.YtljkgjfmambfoaaDoor
/- THE CELL 'sum', in the pinned program and in every row, IS THE sha256 OF THE DUMP (.gsa) THAT YtljkgjfmambfoaaDoorProg.lean LOADS. Nothing in Lean hashes anything: it is a label: what it is worth is what the hold of that sum in a sandbox is worth. -/
noncomputable def Tryd.pinned : Pinned := { name := "ytljkgjfmambfoaadoor", sum := "3cf0a4b1570a325bf72c50558a441b8dbefc7dd6747c30e035ca1dcf0fa42420", checked := Tryd.checked }
namespace Rows
def none {H : Type} : Left H := { results := [], args := [] }

/- WHAT THE LISTED PACKAGE-LEVEL VARIABLES READ AS WHEN THE CALL BEGINS. Each datum BY PROGRAM (the guide's laid-datum.mjs) off the statement by which the dump's own 'gosem.cut.vars' lays the variable. In a bare row this is a premise. The card (YtljkgjfmambfoaaDoorCards.lean) ties it to the program's text. -/
def laid_icehall_league_worth {H : Type} : DataW H := .agg [.agg [.lit (.int .i64 3), .lit (.int .i64 0)], .agg [.lit (.int .i64 2), .lit (.int .i64 1)], .agg [.lit (.int .i64 1), .lit (.int .i64 2)], .agg [.lit (.int .i64 0), .lit (.int .i64 3)]]

/-- 'icehalllaw10.LeagueTables': WHATEVER THE INPUT: true; the input reads as it did. -/
def leagueTablesSpec : ChangeSpec := { name := "leagueTables", fn := fun _ => fun
  | [d1, d2] => { results := [.lit (.bool true)], args := [d1, d2] }
  | _ => none }
def leagueTablesRow : OpenClaim := { program := "ytljkgjfmambfoaadoor", sum := "3cf0a4b1570a325bf72c50558a441b8dbefc7dd6747c30e035ca1dcf0fa42420", func := "icehall/icehalllaw10.LeagueTables", spec := "leagueTables", unfollowed := true, recurses := true, named := ["icehall/league.worth"], plainKeys := false, apart := false, laid := [("icehall/league.worth", laid_icehall_league_worth)] }
def LeagueTablesSaid : Prop := leagueTablesRow.holds Tryd.pinned (OpenSpec.ofChange leagueTablesSpec)

/-- ITS FALSE NEIGHBOUR: 'it returns false'. Refute it at one input. -/
def leagueTablesWrong : ChangeSpec := { name := "leagueTables", fn := fun _ => fun
  | [d1, d2] => { results := [.lit (.bool false)], args := [d1, d2] }
  | _ => none }
def LeagueTablesWrongFalsely : Prop := leagueTablesRow.holds Tryd.pinned (OpenSpec.ofChange leagueTablesWrong)

/-- 'icehalllaw10.LeagueClinches': WHATEVER THE INPUT: true; the input reads as it did. -/
def leagueClinchesSpec : ChangeSpec := { name := "leagueClinches", fn := fun _ => fun
  | [d1, d2, d3] => { results := [.lit (.bool true)], args := [d1, d2, d3] }
  | _ => none }
def leagueClinchesRow : OpenClaim := { program := "ytljkgjfmambfoaadoor", sum := "3cf0a4b1570a325bf72c50558a441b8dbefc7dd6747c30e035ca1dcf0fa42420", func := "icehall/icehalllaw10.LeagueClinches", spec := "leagueClinches", unfollowed := true, recurses := true, named := ["icehall/league.worth"], plainKeys := false, apart := false, laid := [("icehall/league.worth", laid_icehall_league_worth)] }
def LeagueClinchesSaid : Prop := leagueClinchesRow.holds Tryd.pinned (OpenSpec.ofChange leagueClinchesSpec)

/-- ITS FALSE NEIGHBOUR: 'it returns false'. Refute it at one input. -/
def leagueClinchesWrong : ChangeSpec := { name := "leagueClinches", fn := fun _ => fun
  | [d1, d2, d3] => { results := [.lit (.bool false)], args := [d1, d2, d3] }
  | _ => none }
def LeagueClinchesWrongFalsely : Prop := leagueClinchesRow.holds Tryd.pinned (OpenSpec.ofChange leagueClinchesWrong)

/-- 'icehalllaw10.LeagueCertain': WHATEVER THE INPUT: true; the input reads as it did. -/
def leagueCertainSpec : ChangeSpec := { name := "leagueCertain", fn := fun _ => fun
  | [d1, d2, d3, d4] => { results := [.lit (.bool true)], args := [d1, d2, d3, d4] }
  | _ => none }
def leagueCertainRow : OpenClaim := { program := "ytljkgjfmambfoaadoor", sum := "3cf0a4b1570a325bf72c50558a441b8dbefc7dd6747c30e035ca1dcf0fa42420", func := "icehall/icehalllaw10.LeagueCertain", spec := "leagueCertain", unfollowed := true, recurses := true, named := ["icehall/league.worth"], plainKeys := false, apart := false, laid := [("icehall/league.worth", laid_icehall_league_worth)] }
def LeagueCertainSaid : Prop := leagueCertainRow.holds Tryd.pinned (OpenSpec.ofChange leagueCertainSpec)

/-- ITS FALSE NEIGHBOUR: 'it returns false'. Refute it at one input. -/
def leagueCertainWrong : ChangeSpec := { name := "leagueCertain", fn := fun _ => fun
  | [d1, d2, d3, d4] => { results := [.lit (.bool false)], args := [d1, d2, d3, d4] }
  | _ => none }
def LeagueCertainWrongFalsely : Prop := leagueCertainRow.holds Tryd.pinned (OpenSpec.ofChange leagueCertainWrong)

/-- 'icehalllaw10.LeagueGames': WHATEVER THE INPUT: true; the input reads as it did. -/
def leagueGamesSpec : ChangeSpec := { name := "leagueGames", fn := fun _ => fun
  | [d1, d2] => { results := [.lit (.bool true)], args := [d1, d2] }
  | _ => none }
def leagueGamesRow : OpenClaim := { program := "ytljkgjfmambfoaadoor", sum := "3cf0a4b1570a325bf72c50558a441b8dbefc7dd6747c30e035ca1dcf0fa42420", func := "icehall/icehalllaw10.LeagueGames", spec := "leagueGames", unfollowed := true, recurses := true, named := ["icehall/league.worth"], plainKeys := false, apart := false, laid := [("icehall/league.worth", laid_icehall_league_worth)] }
def LeagueGamesSaid : Prop := leagueGamesRow.holds Tryd.pinned (OpenSpec.ofChange leagueGamesSpec)

/-- ITS FALSE NEIGHBOUR: 'it returns false'. Refute it at one input. -/
def leagueGamesWrong : ChangeSpec := { name := "leagueGames", fn := fun _ => fun
  | [d1, d2] => { results := [.lit (.bool false)], args := [d1, d2] }
  | _ => none }
def LeagueGamesWrongFalsely : Prop := leagueGamesRow.holds Tryd.pinned (OpenSpec.ofChange leagueGamesWrong)

/-- 'icehalllaw10.LeagueWins': WHATEVER THE INPUT: true; the input reads as it did. -/
def leagueWinsSpec : ChangeSpec := { name := "leagueWins", fn := fun _ => fun
  | [d1, d2, d3, d4] => { results := [.lit (.bool true)], args := [d1, d2, d3, d4] }
  | _ => none }
def leagueWinsRow : OpenClaim := { program := "ytljkgjfmambfoaadoor", sum := "3cf0a4b1570a325bf72c50558a441b8dbefc7dd6747c30e035ca1dcf0fa42420", func := "icehall/icehalllaw10.LeagueWins", spec := "leagueWins", unfollowed := true, recurses := true, named := ["icehall/league.worth"], plainKeys := false, apart := false, laid := [("icehall/league.worth", laid_icehall_league_worth)] }
def LeagueWinsSaid : Prop := leagueWinsRow.holds Tryd.pinned (OpenSpec.ofChange leagueWinsSpec)

/-- ITS FALSE NEIGHBOUR: 'it returns false'. Refute it at one input. -/
def leagueWinsWrong : ChangeSpec := { name := "leagueWins", fn := fun _ => fun
  | [d1, d2, d3, d4] => { results := [.lit (.bool false)], args := [d1, d2, d3, d4] }
  | _ => none }
def LeagueWinsWrongFalsely : Prop := leagueWinsRow.holds Tryd.pinned (OpenSpec.ofChange leagueWinsWrong)

/-- 'icehalllaw10.LeagueTravel': WHATEVER THE INPUT: true; the input reads as it did. -/
def leagueTravelSpec : ChangeSpec := { name := "leagueTravel", fn := fun _ => fun
  | [d1, d2] => { results := [.lit (.bool true)], args := [d1, d2] }
  | _ => none }
def leagueTravelRow : OpenClaim := { program := "ytljkgjfmambfoaadoor", sum := "3cf0a4b1570a325bf72c50558a441b8dbefc7dd6747c30e035ca1dcf0fa42420", func := "icehall/icehalllaw10.LeagueTravel", spec := "leagueTravel", unfollowed := true, recurses := true, named := ["icehall/league.worth"], plainKeys := false, apart := false, laid := [("icehall/league.worth", laid_icehall_league_worth)] }
def LeagueTravelSaid : Prop := leagueTravelRow.holds Tryd.pinned (OpenSpec.ofChange leagueTravelSpec)

/-- ITS FALSE NEIGHBOUR: 'it returns false'. Refute it at one input. -/
def leagueTravelWrong : ChangeSpec := { name := "leagueTravel", fn := fun _ => fun
  | [d1, d2] => { results := [.lit (.bool false)], args := [d1, d2] }
  | _ => none }
def LeagueTravelWrongFalsely : Prop := leagueTravelRow.holds Tryd.pinned (OpenSpec.ofChange leagueTravelWrong)

/- THE SECOND FORM. 'bulk': how many values and letters a reading holds, each counted each time it is reached (what is shared counts as often as it is met; a slice's spare places count too). A statement '..UptoSaid' is the law's where the arguments, and the package variables that the reading takes, are together of bulk at most 1048576: NARROWER than '..Said'. Prove '..Said' where nothing that the law and all that it calls make is longer than what came in: it says more and counts as full. Else prove '..UptoSaid'. A law counts once. -/
mutual
def uptoBulk {H : Type} : DataW H → Nat
  | .lit (.string bytes) => bytes.length + 1
  | .lit _ => 1
  | .nil => 1
  | .ptr d => uptoBulk d + 1
  | .slice elems spare => uptoBulkAll elems + uptoBulkAll spare + 1
  | .agg parts => uptoBulkAll parts + 1
  | .iface _ d => uptoBulk d + 1
  | .map entries => uptoBulkEntries entries + 1
  | .held _ => 1
def uptoBulkAll {H : Type} : List (DataW H) → Nat
  | [] => 0
  | d :: r => uptoBulk d + uptoBulkAll r
def uptoBulkEntries {H : Type} : List (Lit × DataW H) → Nat
  | [] => 0
  | x :: r => uptoBulkEntry x + uptoBulkEntries r
def uptoBulkEntry {H : Type} : Lit × DataW H → Nat
  | (.string bytes, d) => bytes.length + uptoBulk d + 1
  | (_, d) => uptoBulk d + 1
 end
def uptoSmall : (H : Type) → List (DataW H) → Bool := fun _ ds => decide (uptoBulkAll ds ≤ 1048576)
def OpenSpec.upto (s : _root_.Go.ChangeSpec) : _root_.Go.OpenSpec := { _root_.Go.OpenSpec.ofChange s with cond := some uptoSmall }

/-- 'icehalllaw10.LeagueTables', WHERE WHAT IT READS IS OF BULK AT MOST 1048576: true; the input reads as it did. -/
def leagueTablesUptoRow : OpenClaim := { program := "ytljkgjfmambfoaadoor", sum := "3cf0a4b1570a325bf72c50558a441b8dbefc7dd6747c30e035ca1dcf0fa42420", func := "icehall/icehalllaw10.LeagueTables", spec := "leagueTables", unfollowed := true, recurses := true, named := ["icehall/league.worth"], plainKeys := false, apart := false, laid := [("icehall/league.worth", laid_icehall_league_worth)], narrowed := true }
def LeagueTablesUptoSaid : Prop := leagueTablesUptoRow.holds Tryd.pinned (OpenSpec.upto leagueTablesSpec)

/-- 'icehalllaw10.LeagueClinches', WHERE WHAT IT READS IS OF BULK AT MOST 1048576: true; the input reads as it did. -/
def leagueClinchesUptoRow : OpenClaim := { program := "ytljkgjfmambfoaadoor", sum := "3cf0a4b1570a325bf72c50558a441b8dbefc7dd6747c30e035ca1dcf0fa42420", func := "icehall/icehalllaw10.LeagueClinches", spec := "leagueClinches", unfollowed := true, recurses := true, named := ["icehall/league.worth"], plainKeys := false, apart := false, laid := [("icehall/league.worth", laid_icehall_league_worth)], narrowed := true }
def LeagueClinchesUptoSaid : Prop := leagueClinchesUptoRow.holds Tryd.pinned (OpenSpec.upto leagueClinchesSpec)

/-- 'icehalllaw10.LeagueCertain', WHERE WHAT IT READS IS OF BULK AT MOST 1048576: true; the input reads as it did. -/
def leagueCertainUptoRow : OpenClaim := { program := "ytljkgjfmambfoaadoor", sum := "3cf0a4b1570a325bf72c50558a441b8dbefc7dd6747c30e035ca1dcf0fa42420", func := "icehall/icehalllaw10.LeagueCertain", spec := "leagueCertain", unfollowed := true, recurses := true, named := ["icehall/league.worth"], plainKeys := false, apart := false, laid := [("icehall/league.worth", laid_icehall_league_worth)], narrowed := true }
def LeagueCertainUptoSaid : Prop := leagueCertainUptoRow.holds Tryd.pinned (OpenSpec.upto leagueCertainSpec)

/-- 'icehalllaw10.LeagueGames', WHERE WHAT IT READS IS OF BULK AT MOST 1048576: true; the input reads as it did. -/
def leagueGamesUptoRow : OpenClaim := { program := "ytljkgjfmambfoaadoor", sum := "3cf0a4b1570a325bf72c50558a441b8dbefc7dd6747c30e035ca1dcf0fa42420", func := "icehall/icehalllaw10.LeagueGames", spec := "leagueGames", unfollowed := true, recurses := true, named := ["icehall/league.worth"], plainKeys := false, apart := false, laid := [("icehall/league.worth", laid_icehall_league_worth)], narrowed := true }
def LeagueGamesUptoSaid : Prop := leagueGamesUptoRow.holds Tryd.pinned (OpenSpec.upto leagueGamesSpec)

/-- 'icehalllaw10.LeagueWins', WHERE WHAT IT READS IS OF BULK AT MOST 1048576: true; the input reads as it did. -/
def leagueWinsUptoRow : OpenClaim := { program := "ytljkgjfmambfoaadoor", sum := "3cf0a4b1570a325bf72c50558a441b8dbefc7dd6747c30e035ca1dcf0fa42420", func := "icehall/icehalllaw10.LeagueWins", spec := "leagueWins", unfollowed := true, recurses := true, named := ["icehall/league.worth"], plainKeys := false, apart := false, laid := [("icehall/league.worth", laid_icehall_league_worth)], narrowed := true }
def LeagueWinsUptoSaid : Prop := leagueWinsUptoRow.holds Tryd.pinned (OpenSpec.upto leagueWinsSpec)

/-- 'icehalllaw10.LeagueTravel', WHERE WHAT IT READS IS OF BULK AT MOST 1048576: true; the input reads as it did. -/
def leagueTravelUptoRow : OpenClaim := { program := "ytljkgjfmambfoaadoor", sum := "3cf0a4b1570a325bf72c50558a441b8dbefc7dd6747c30e035ca1dcf0fa42420", func := "icehall/icehalllaw10.LeagueTravel", spec := "leagueTravel", unfollowed := true, recurses := true, named := ["icehall/league.worth"], plainKeys := false, apart := false, laid := [("icehall/league.worth", laid_icehall_league_worth)], narrowed := true }
def LeagueTravelUptoSaid : Prop := leagueTravelUptoRow.holds Tryd.pinned (OpenSpec.upto leagueTravelSpec)

end Rows
end Go.Proofs.YtljkgjfmambfoaaDoor

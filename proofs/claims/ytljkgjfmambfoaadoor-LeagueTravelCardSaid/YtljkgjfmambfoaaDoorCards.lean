/-
  DERIVED. GIVEN WITH THE SEED: THE CARDS: each row of YtljkgjfmambfoaaDoorRows.lean that lists a variable, with what it lists TIED to the program's text (the seventh form; the later family's looks); each row that meets fmt, with fmt's text TOLD by the authors' own Lean function (tested against real Go, not proved from fmt's source: count such statements apart). THE CARD IS WHAT COUNTS. Prove the row's statement (the work); the ties are given (YtljkgjfmambfoaaDoorTie.lean); close each card by the builder's one call (the guide's Derived/Test/ToyasCard.lean, 'card_holds'). Laid BY PROGRAM, IN A SANDBOX (cutbox-door.mjs). By AI agents, Wed Nov 11 2026. No macro, syntax, notation, axiom, sorry.
-/
import Derived.Test.YtljkgjfmambfoaaDoorRows
import GoSem.ClaimSeven
namespace Go.Proofs.YtljkgjfmambfoaaDoor
namespace Rows

/-- THE TIED CARD OF 'icehalllaw10.LeagueTables'. -/
def leagueTablesCard : Claim7 := { stood := { row := leagueTablesRow, standIns := [], harness := (true, "6548ec1aa50caddc48e953508f6ae83a668ec612e44a0dc6c22df9db90ffe6f1"), looks := false }, kinds := [], alts := [], laidByText := true, laidKinds := [.data], laidTests := true, laidLooks := .later }
def LeagueTablesCardSaid : Prop := Claim7.holds Tryd.pinned (.plain (OpenSpec.ofChange leagueTablesSpec)) leagueTablesCard

/-- THE TIED CARD OF 'icehalllaw10.LeagueClinches'. -/
def leagueClinchesCard : Claim7 := { stood := { row := leagueClinchesRow, standIns := [], harness := (true, "6548ec1aa50caddc48e953508f6ae83a668ec612e44a0dc6c22df9db90ffe6f1"), looks := false }, kinds := [], alts := [], laidByText := true, laidKinds := [.data], laidTests := true, laidLooks := .later }
def LeagueClinchesCardSaid : Prop := Claim7.holds Tryd.pinned (.plain (OpenSpec.ofChange leagueClinchesSpec)) leagueClinchesCard

/-- THE TIED CARD OF 'icehalllaw10.LeagueCertain'. -/
def leagueCertainCard : Claim7 := { stood := { row := leagueCertainRow, standIns := [], harness := (true, "6548ec1aa50caddc48e953508f6ae83a668ec612e44a0dc6c22df9db90ffe6f1"), looks := false }, kinds := [], alts := [], laidByText := true, laidKinds := [.data], laidTests := true, laidLooks := .later }
def LeagueCertainCardSaid : Prop := Claim7.holds Tryd.pinned (.plain (OpenSpec.ofChange leagueCertainSpec)) leagueCertainCard

/-- THE TIED CARD OF 'icehalllaw10.LeagueGames'. -/
def leagueGamesCard : Claim7 := { stood := { row := leagueGamesRow, standIns := [], harness := (true, "6548ec1aa50caddc48e953508f6ae83a668ec612e44a0dc6c22df9db90ffe6f1"), looks := false }, kinds := [], alts := [], laidByText := true, laidKinds := [.data], laidTests := true, laidLooks := .later }
def LeagueGamesCardSaid : Prop := Claim7.holds Tryd.pinned (.plain (OpenSpec.ofChange leagueGamesSpec)) leagueGamesCard

/-- THE TIED CARD OF 'icehalllaw10.LeagueWins'. -/
def leagueWinsCard : Claim7 := { stood := { row := leagueWinsRow, standIns := [], harness := (true, "6548ec1aa50caddc48e953508f6ae83a668ec612e44a0dc6c22df9db90ffe6f1"), looks := false }, kinds := [], alts := [], laidByText := true, laidKinds := [.data], laidTests := true, laidLooks := .later }
def LeagueWinsCardSaid : Prop := Claim7.holds Tryd.pinned (.plain (OpenSpec.ofChange leagueWinsSpec)) leagueWinsCard

/-- THE TIED CARD OF 'icehalllaw10.LeagueTravel'. -/
def leagueTravelCard : Claim7 := { stood := { row := leagueTravelRow, standIns := [], harness := (true, "6548ec1aa50caddc48e953508f6ae83a668ec612e44a0dc6c22df9db90ffe6f1"), looks := false }, kinds := [], alts := [], laidByText := true, laidKinds := [.data], laidTests := true, laidLooks := .later }
def LeagueTravelCardSaid : Prop := Claim7.holds Tryd.pinned (.plain (OpenSpec.ofChange leagueTravelSpec)) leagueTravelCard

/-- THE SECOND FORM's CARD OF 'icehalllaw10.LeagueTables'. -/
def leagueTablesUptoCard : Claim7 := { stood := { row := leagueTablesUptoRow, standIns := [], harness := (true, "6548ec1aa50caddc48e953508f6ae83a668ec612e44a0dc6c22df9db90ffe6f1"), looks := false }, kinds := [], alts := [], laidByText := true, laidKinds := [.data], laidTests := true, laidLooks := .later }
def LeagueTablesUptoCardSaid : Prop := Claim7.holds Tryd.pinned (.plain (OpenSpec.upto leagueTablesSpec)) leagueTablesUptoCard

/-- THE SECOND FORM's CARD OF 'icehalllaw10.LeagueClinches'. -/
def leagueClinchesUptoCard : Claim7 := { stood := { row := leagueClinchesUptoRow, standIns := [], harness := (true, "6548ec1aa50caddc48e953508f6ae83a668ec612e44a0dc6c22df9db90ffe6f1"), looks := false }, kinds := [], alts := [], laidByText := true, laidKinds := [.data], laidTests := true, laidLooks := .later }
def LeagueClinchesUptoCardSaid : Prop := Claim7.holds Tryd.pinned (.plain (OpenSpec.upto leagueClinchesSpec)) leagueClinchesUptoCard

/-- THE SECOND FORM's CARD OF 'icehalllaw10.LeagueCertain'. -/
def leagueCertainUptoCard : Claim7 := { stood := { row := leagueCertainUptoRow, standIns := [], harness := (true, "6548ec1aa50caddc48e953508f6ae83a668ec612e44a0dc6c22df9db90ffe6f1"), looks := false }, kinds := [], alts := [], laidByText := true, laidKinds := [.data], laidTests := true, laidLooks := .later }
def LeagueCertainUptoCardSaid : Prop := Claim7.holds Tryd.pinned (.plain (OpenSpec.upto leagueCertainSpec)) leagueCertainUptoCard

/-- THE SECOND FORM's CARD OF 'icehalllaw10.LeagueGames'. -/
def leagueGamesUptoCard : Claim7 := { stood := { row := leagueGamesUptoRow, standIns := [], harness := (true, "6548ec1aa50caddc48e953508f6ae83a668ec612e44a0dc6c22df9db90ffe6f1"), looks := false }, kinds := [], alts := [], laidByText := true, laidKinds := [.data], laidTests := true, laidLooks := .later }
def LeagueGamesUptoCardSaid : Prop := Claim7.holds Tryd.pinned (.plain (OpenSpec.upto leagueGamesSpec)) leagueGamesUptoCard

/-- THE SECOND FORM's CARD OF 'icehalllaw10.LeagueWins'. -/
def leagueWinsUptoCard : Claim7 := { stood := { row := leagueWinsUptoRow, standIns := [], harness := (true, "6548ec1aa50caddc48e953508f6ae83a668ec612e44a0dc6c22df9db90ffe6f1"), looks := false }, kinds := [], alts := [], laidByText := true, laidKinds := [.data], laidTests := true, laidLooks := .later }
def LeagueWinsUptoCardSaid : Prop := Claim7.holds Tryd.pinned (.plain (OpenSpec.upto leagueWinsSpec)) leagueWinsUptoCard

/-- THE SECOND FORM's CARD OF 'icehalllaw10.LeagueTravel'. -/
def leagueTravelUptoCard : Claim7 := { stood := { row := leagueTravelUptoRow, standIns := [], harness := (true, "6548ec1aa50caddc48e953508f6ae83a668ec612e44a0dc6c22df9db90ffe6f1"), looks := false }, kinds := [], alts := [], laidByText := true, laidKinds := [.data], laidTests := true, laidLooks := .later }
def LeagueTravelUptoCardSaid : Prop := Claim7.holds Tryd.pinned (.plain (OpenSpec.upto leagueTravelSpec)) leagueTravelUptoCard
end Rows
end Go.Proofs.YtljkgjfmambfoaaDoor

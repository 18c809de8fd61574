/-
  DERIVED. GIVEN WITH THE SEED: THE CARDS: each row of YtkmgjpeoognpjaaDoorRows.lean that lists a variable, with what it lists TIED to the program's text (the seventh form; the later family's looks); each row that meets fmt, with fmt's text TOLD by the authors' own Lean function (tested against real Go, not proved from fmt's source: count such statements apart). THE CARD IS WHAT COUNTS. Prove the row's statement (the work); the ties are given (YtkmgjpeoognpjaaDoorTie.lean); close each card by the builder's one call (the guide's Derived/Test/ToyasCard.lean, 'card_holds'). Laid BY PROGRAM, IN A SANDBOX (cutbox-door.mjs). By AI agents, Wed Nov 11 2026. No macro, syntax, notation, axiom, sorry.
-/
import Derived.Test.YtkmgjpeoognpjaaDoorRows
import GoSem.ClaimSeven
namespace Go.Proofs.YtkmgjpeoognpjaaDoor
namespace Rows

/-- THE TIED CARD OF 'exchequerlaw04.HeaderSeals'. -/
def headerSealsCard : Claim7 := { stood := { row := headerSealsRow, standIns := [], harness := (true, "cc3ed1c7d1dbcebd47f7302bbe530830782934dc8c687881450630bfe9d439d2"), looks := false }, kinds := [], alts := [], laidByText := true, laidKinds := [.data], laidTests := true, laidLooks := .later }
def HeaderSealsCardSaid : Prop := Claim7.holds Tryd.pinned (.plain (OpenSpec.ofChange headerSealsSpec)) headerSealsCard

/-- THE TIED CARD OF 'exchequerlaw04.HeaderOpens'. -/
def headerOpensCard : Claim7 := { stood := { row := headerOpensRow, standIns := [], harness := (true, "cc3ed1c7d1dbcebd47f7302bbe530830782934dc8c687881450630bfe9d439d2"), looks := false }, kinds := [], alts := [], laidByText := true, laidKinds := [.data], laidTests := true, laidLooks := .later }
def HeaderOpensCardSaid : Prop := Claim7.holds Tryd.pinned (.plain (OpenSpec.ofChange headerOpensSpec)) headerOpensCard

/-- THE TIED CARD OF 'exchequerlaw04.HeaderKnown'. -/
def headerKnownCard : Claim7 := { stood := { row := headerKnownRow, standIns := [], harness := (true, "cc3ed1c7d1dbcebd47f7302bbe530830782934dc8c687881450630bfe9d439d2"), looks := false }, kinds := [], alts := [], laidByText := true, laidKinds := [.data], laidTests := true, laidLooks := .later }
def HeaderKnownCardSaid : Prop := Claim7.holds Tryd.pinned (.plain (OpenSpec.ofChange headerKnownSpec)) headerKnownCard

/-- THE TIED CARD OF 'exchequerlaw04.HeaderBack'. -/
def headerBackCard : Claim7 := { stood := { row := headerBackRow, standIns := [], harness := (true, "cc3ed1c7d1dbcebd47f7302bbe530830782934dc8c687881450630bfe9d439d2"), looks := false }, kinds := [], alts := [], laidByText := true, laidKinds := [.data], laidTests := true, laidLooks := .later }
def HeaderBackCardSaid : Prop := Claim7.holds Tryd.pinned (.plain (OpenSpec.ofChange headerBackSpec)) headerBackCard

/-- THE TIED CARD OF 'exchequerlaw04.HeaderTurned'. -/
def headerTurnedCard : Claim7 := { stood := { row := headerTurnedRow, standIns := [], harness := (true, "cc3ed1c7d1dbcebd47f7302bbe530830782934dc8c687881450630bfe9d439d2"), looks := false }, kinds := [], alts := [], laidByText := true, laidKinds := [.data], laidTests := true, laidLooks := .later }
def HeaderTurnedCardSaid : Prop := Claim7.holds Tryd.pinned (.plain (OpenSpec.ofChange headerTurnedSpec)) headerTurnedCard

/-- THE SECOND FORM's CARD OF 'exchequerlaw04.HeaderSeals'. -/
def headerSealsUptoCard : Claim7 := { stood := { row := headerSealsUptoRow, standIns := [], harness := (true, "cc3ed1c7d1dbcebd47f7302bbe530830782934dc8c687881450630bfe9d439d2"), looks := false }, kinds := [], alts := [], laidByText := true, laidKinds := [.data], laidTests := true, laidLooks := .later }
def HeaderSealsUptoCardSaid : Prop := Claim7.holds Tryd.pinned (.plain (OpenSpec.upto headerSealsSpec)) headerSealsUptoCard

/-- THE SECOND FORM's CARD OF 'exchequerlaw04.HeaderOpens'. -/
def headerOpensUptoCard : Claim7 := { stood := { row := headerOpensUptoRow, standIns := [], harness := (true, "cc3ed1c7d1dbcebd47f7302bbe530830782934dc8c687881450630bfe9d439d2"), looks := false }, kinds := [], alts := [], laidByText := true, laidKinds := [.data], laidTests := true, laidLooks := .later }
def HeaderOpensUptoCardSaid : Prop := Claim7.holds Tryd.pinned (.plain (OpenSpec.upto headerOpensSpec)) headerOpensUptoCard

/-- THE SECOND FORM's CARD OF 'exchequerlaw04.HeaderKnown'. -/
def headerKnownUptoCard : Claim7 := { stood := { row := headerKnownUptoRow, standIns := [], harness := (true, "cc3ed1c7d1dbcebd47f7302bbe530830782934dc8c687881450630bfe9d439d2"), looks := false }, kinds := [], alts := [], laidByText := true, laidKinds := [.data], laidTests := true, laidLooks := .later }
def HeaderKnownUptoCardSaid : Prop := Claim7.holds Tryd.pinned (.plain (OpenSpec.upto headerKnownSpec)) headerKnownUptoCard

/-- THE SECOND FORM's CARD OF 'exchequerlaw04.HeaderBack'. -/
def headerBackUptoCard : Claim7 := { stood := { row := headerBackUptoRow, standIns := [], harness := (true, "cc3ed1c7d1dbcebd47f7302bbe530830782934dc8c687881450630bfe9d439d2"), looks := false }, kinds := [], alts := [], laidByText := true, laidKinds := [.data], laidTests := true, laidLooks := .later }
def HeaderBackUptoCardSaid : Prop := Claim7.holds Tryd.pinned (.plain (OpenSpec.upto headerBackSpec)) headerBackUptoCard

/-- THE SECOND FORM's CARD OF 'exchequerlaw04.HeaderTurned'. -/
def headerTurnedUptoCard : Claim7 := { stood := { row := headerTurnedUptoRow, standIns := [], harness := (true, "cc3ed1c7d1dbcebd47f7302bbe530830782934dc8c687881450630bfe9d439d2"), looks := false }, kinds := [], alts := [], laidByText := true, laidKinds := [.data], laidTests := true, laidLooks := .later }
def HeaderTurnedUptoCardSaid : Prop := Claim7.holds Tryd.pinned (.plain (OpenSpec.upto headerTurnedSpec)) headerTurnedUptoCard
end Rows
end Go.Proofs.YtkmgjpeoognpjaaDoor

/-
  DERIVED. GIVEN WITH THE SEED: THE CARDS: each row of YtelcijfcgflagaaDoorRows.lean that lists a variable, with what it lists TIED to the program's text (the seventh form; the later family's looks); each row that meets fmt, with fmt's text TOLD by the authors' own Lean function (tested against real Go, not proved from fmt's source: count such statements apart). THE CARD IS WHAT COUNTS. Prove the row's statement (the work); the ties are given (YtelcijfcgflagaaDoorTie.lean); close each card by the builder's one call (the guide's Derived/Test/ToyasCard.lean, 'card_holds'). Laid BY PROGRAM, IN A SANDBOX (cutbox-door.mjs). By AI agents, Wed Nov 11 2026. No macro, syntax, notation, axiom, sorry.
-/
import Derived.Test.YtelcijfcgflagaaDoorRows
import GoSem.ClaimSeven
namespace Go.Proofs.YtelcijfcgflagaaDoor
namespace Rows

/-- THE TIED CARD OF 'exchequerlaw15.LevelTells'. -/
def levelTellsCard : Claim7 := { stood := { row := levelTellsRow, standIns := [], harness := (true, "eef40a6bcdf71fc3c94c0f78d7a078071b0ffa80f01849bb1a6d833281dbfd2f"), looks := false }, kinds := [], alts := [], laidByText := true, laidKinds := [.data], laidTests := true, laidLooks := .later }
def LevelTellsCardSaid : Prop := Claim7.holds Tryd.pinned (.plain (OpenSpec.ofChange levelTellsSpec)) levelTellsCard

/-- THE TIED CARD OF 'exchequerlaw15.LevelKnown'. -/
def levelKnownCard : Claim7 := { stood := { row := levelKnownRow, standIns := [], harness := (true, "eef40a6bcdf71fc3c94c0f78d7a078071b0ffa80f01849bb1a6d833281dbfd2f"), looks := false }, kinds := [], alts := [], laidByText := true, laidKinds := [.data], laidTests := true, laidLooks := .later }
def LevelKnownCardSaid : Prop := Claim7.holds Tryd.pinned (.plain (OpenSpec.ofChange levelKnownSpec)) levelKnownCard

/-- THE SECOND FORM's CARD OF 'exchequerlaw15.LevelTells'. -/
def levelTellsUptoCard : Claim7 := { stood := { row := levelTellsUptoRow, standIns := [], harness := (true, "eef40a6bcdf71fc3c94c0f78d7a078071b0ffa80f01849bb1a6d833281dbfd2f"), looks := false }, kinds := [], alts := [], laidByText := true, laidKinds := [.data], laidTests := true, laidLooks := .later }
def LevelTellsUptoCardSaid : Prop := Claim7.holds Tryd.pinned (.plain (OpenSpec.upto levelTellsSpec)) levelTellsUptoCard

/-- THE SECOND FORM's CARD OF 'exchequerlaw15.LevelKnown'. -/
def levelKnownUptoCard : Claim7 := { stood := { row := levelKnownUptoRow, standIns := [], harness := (true, "eef40a6bcdf71fc3c94c0f78d7a078071b0ffa80f01849bb1a6d833281dbfd2f"), looks := false }, kinds := [], alts := [], laidByText := true, laidKinds := [.data], laidTests := true, laidLooks := .later }
def LevelKnownUptoCardSaid : Prop := Claim7.holds Tryd.pinned (.plain (OpenSpec.upto levelKnownSpec)) levelKnownUptoCard
end Rows
end Go.Proofs.YtelcijfcgflagaaDoor

/-
  DERIVED. GIVEN WITH THE SEED: THE CARDS: each row of YtgilodcgcoedeaaGreatDoorRows.lean that lists a variable, with what it lists TIED to the program's text (the seventh form; the later family's looks); each row that meets fmt, with fmt's text TOLD by the authors' own Lean function (tested against real Go, not proved from fmt's source: count such statements apart). THE CARD IS WHAT COUNTS. Prove the row's statement (the work); the ties are given (YtgilodcgcoedeaaGreatDoorTie.lean); close each card by the builder's one call (the guide's Derived/Test/ToyasCard.lean, 'card_holds'). Laid BY PROGRAM, IN A SANDBOX (cutbox-door.mjs). By AI agents, Wed Nov 11 2026. No macro, syntax, notation, axiom, sorry.
-/
import Derived.Test.YtgilodcgcoedeaaGreatDoorRows
import GoSem.ClaimSeven
namespace Go.Proofs.YtgilodcgcoedeaaGreatDoor
namespace Rows

/-- THE TIED CARD OF 'exchequerlaw11.GridScript'. -/
def gridScriptCard : Claim7 := { stood := { row := gridScriptRow, standIns := [], harness := (true, "3636c8b331e9ea4c8ce25ac15230fc23dc7b7116b1b9692d9257176669c20da4"), looks := false }, kinds := [], alts := [], laidByText := true, laidKinds := [.data], laidTests := true, laidLooks := .later }
def GridScriptCardSaid : Prop := Claim7.holds Tryz.pinned (.plain (OpenSpec.ofChange gridScriptSpec)) gridScriptCard

/-- THE TIED CARD OF 'exchequerlaw11.GridNone'. -/
def gridNoneCard : Claim7 := { stood := { row := gridNoneRow, standIns := [], harness := (true, "3636c8b331e9ea4c8ce25ac15230fc23dc7b7116b1b9692d9257176669c20da4"), looks := false }, kinds := [], alts := [], laidByText := true, laidKinds := [.data], laidTests := true, laidLooks := .later }
def GridNoneCardSaid : Prop := Claim7.holds Tryz.pinned (.plain (OpenSpec.ofChange gridNoneSpec)) gridNoneCard

/-- THE TIED CARD OF 'exchequerlaw11.GridKnown'. -/
def gridKnownCard : Claim7 := { stood := { row := gridKnownRow, standIns := [], harness := (true, "3636c8b331e9ea4c8ce25ac15230fc23dc7b7116b1b9692d9257176669c20da4"), looks := false }, kinds := [], alts := [], laidByText := true, laidKinds := [.data], laidTests := true, laidLooks := .later }
def GridKnownCardSaid : Prop := Claim7.holds Tryz.pinned (.plain (OpenSpec.ofChange gridKnownSpec)) gridKnownCard

/-- THE TIED CARD OF 'exchequerlaw11.GridKeeps'. -/
def gridKeepsCard : Claim7 := { stood := { row := gridKeepsRow, standIns := [], harness := (true, "3636c8b331e9ea4c8ce25ac15230fc23dc7b7116b1b9692d9257176669c20da4"), looks := false }, kinds := [], alts := [], laidByText := true, laidKinds := [.data], laidTests := true, laidLooks := .later }
def GridKeepsCardSaid : Prop := Claim7.holds Tryz.pinned (.plain (OpenSpec.ofChange gridKeepsSpec)) gridKeepsCard

/-- THE TIED CARD OF 'exchequerlaw11.GridReaches'. -/
def gridReachesCard : Claim7 := { stood := { row := gridReachesRow, standIns := [], harness := (true, "3636c8b331e9ea4c8ce25ac15230fc23dc7b7116b1b9692d9257176669c20da4"), looks := false }, kinds := [], alts := [], laidByText := true, laidKinds := [.data], laidTests := true, laidLooks := .later }
def GridReachesCardSaid : Prop := Claim7.holds Tryz.pinned (.plain (OpenSpec.ofChange gridReachesSpec)) gridReachesCard

/-- THE SECOND FORM's CARD OF 'exchequerlaw11.GridScript'. -/
def gridScriptUptoCard : Claim7 := { stood := { row := gridScriptUptoRow, standIns := [], harness := (true, "3636c8b331e9ea4c8ce25ac15230fc23dc7b7116b1b9692d9257176669c20da4"), looks := false }, kinds := [], alts := [], laidByText := true, laidKinds := [.data], laidTests := true, laidLooks := .later }
def GridScriptUptoCardSaid : Prop := Claim7.holds Tryz.pinned (.plain (OpenSpec.upto gridScriptSpec)) gridScriptUptoCard

/-- THE SECOND FORM's CARD OF 'exchequerlaw11.GridNone'. -/
def gridNoneUptoCard : Claim7 := { stood := { row := gridNoneUptoRow, standIns := [], harness := (true, "3636c8b331e9ea4c8ce25ac15230fc23dc7b7116b1b9692d9257176669c20da4"), looks := false }, kinds := [], alts := [], laidByText := true, laidKinds := [.data], laidTests := true, laidLooks := .later }
def GridNoneUptoCardSaid : Prop := Claim7.holds Tryz.pinned (.plain (OpenSpec.upto gridNoneSpec)) gridNoneUptoCard

/-- THE SECOND FORM's CARD OF 'exchequerlaw11.GridKnown'. -/
def gridKnownUptoCard : Claim7 := { stood := { row := gridKnownUptoRow, standIns := [], harness := (true, "3636c8b331e9ea4c8ce25ac15230fc23dc7b7116b1b9692d9257176669c20da4"), looks := false }, kinds := [], alts := [], laidByText := true, laidKinds := [.data], laidTests := true, laidLooks := .later }
def GridKnownUptoCardSaid : Prop := Claim7.holds Tryz.pinned (.plain (OpenSpec.upto gridKnownSpec)) gridKnownUptoCard

/-- THE SECOND FORM's CARD OF 'exchequerlaw11.GridKeeps'. -/
def gridKeepsUptoCard : Claim7 := { stood := { row := gridKeepsUptoRow, standIns := [], harness := (true, "3636c8b331e9ea4c8ce25ac15230fc23dc7b7116b1b9692d9257176669c20da4"), looks := false }, kinds := [], alts := [], laidByText := true, laidKinds := [.data], laidTests := true, laidLooks := .later }
def GridKeepsUptoCardSaid : Prop := Claim7.holds Tryz.pinned (.plain (OpenSpec.upto gridKeepsSpec)) gridKeepsUptoCard

/-- THE SECOND FORM's CARD OF 'exchequerlaw11.GridReaches'. -/
def gridReachesUptoCard : Claim7 := { stood := { row := gridReachesUptoRow, standIns := [], harness := (true, "3636c8b331e9ea4c8ce25ac15230fc23dc7b7116b1b9692d9257176669c20da4"), looks := false }, kinds := [], alts := [], laidByText := true, laidKinds := [.data], laidTests := true, laidLooks := .later }
def GridReachesUptoCardSaid : Prop := Claim7.holds Tryz.pinned (.plain (OpenSpec.upto gridReachesSpec)) gridReachesUptoCard
end Rows
end Go.Proofs.YtgilodcgcoedeaaGreatDoor

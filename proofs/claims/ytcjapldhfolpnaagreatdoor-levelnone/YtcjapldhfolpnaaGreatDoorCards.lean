/-
  DERIVED. GIVEN WITH THE SEED: THE CARDS: each row of YtcjapldhfolpnaaGreatDoorRows.lean that lists a variable, with what it lists TIED to the program's text (the seventh form; the later family's looks); each row that meets fmt, with fmt's text TOLD by the authors' own Lean function (tested against real Go, not proved from fmt's source: count such statements apart). THE CARD IS WHAT COUNTS. Prove the row's statement (the work); the ties are given (YtcjapldhfolpnaaGreatDoorTie.lean); close each card by the builder's one call (the guide's Derived/Test/ToyasCard.lean, 'card_holds'). Laid BY PROGRAM, IN A SANDBOX (cutbox-door.mjs). By AI agents, Wed Nov 11 2026. No macro, syntax, notation, axiom, sorry.
-/
import Derived.Test.YtcjapldhfolpnaaGreatDoorRows
import GoSem.ClaimSeven
namespace Go.Proofs.YtcjapldhfolpnaaGreatDoor
namespace Rows

/-- THE TIED CARD OF 'exchequerlaw15.LevelScript'. -/
def levelScriptCard : Claim7 := { stood := { row := levelScriptRow, standIns := [], harness := (true, "98cc5354789a2d6050f6fd0c64734a2ea13f62dc8e74e1584428f8d430139fc5"), looks := false }, kinds := [], alts := [], laidByText := true, laidKinds := [.data, .data], laidTests := true, laidLooks := .later }
def LevelScriptCardSaid : Prop := Claim7.holds Tryz.pinned (.plain (OpenSpec.ofChange levelScriptSpec)) levelScriptCard

/-- THE TIED CARD OF 'exchequerlaw15.LevelNone'. -/
def levelNoneCard : Claim7 := { stood := { row := levelNoneRow, standIns := [], harness := (true, "98cc5354789a2d6050f6fd0c64734a2ea13f62dc8e74e1584428f8d430139fc5"), looks := false }, kinds := [], alts := [], laidByText := true, laidKinds := [.data, .data], laidTests := true, laidLooks := .later }
def LevelNoneCardSaid : Prop := Claim7.holds Tryz.pinned (.plain (OpenSpec.ofChange levelNoneSpec)) levelNoneCard

/-- THE TIED CARD OF 'exchequerlaw15.LevelMap'. -/
def levelMapCard : Claim7 := { stood := { row := levelMapRow, standIns := [], harness := (true, "98cc5354789a2d6050f6fd0c64734a2ea13f62dc8e74e1584428f8d430139fc5"), looks := false }, kinds := [], alts := [], laidByText := true, laidKinds := [.data, .data], laidTests := true, laidLooks := .later }
def LevelMapCardSaid : Prop := Claim7.holds Tryz.pinned (.plain (OpenSpec.ofChange levelMapSpec)) levelMapCard

/-- THE SECOND FORM's CARD OF 'exchequerlaw15.LevelScript'. -/
def levelScriptUptoCard : Claim7 := { stood := { row := levelScriptUptoRow, standIns := [], harness := (true, "98cc5354789a2d6050f6fd0c64734a2ea13f62dc8e74e1584428f8d430139fc5"), looks := false }, kinds := [], alts := [], laidByText := true, laidKinds := [.data, .data], laidTests := true, laidLooks := .later }
def LevelScriptUptoCardSaid : Prop := Claim7.holds Tryz.pinned (.plain (OpenSpec.upto levelScriptSpec)) levelScriptUptoCard

/-- THE SECOND FORM's CARD OF 'exchequerlaw15.LevelNone'. -/
def levelNoneUptoCard : Claim7 := { stood := { row := levelNoneUptoRow, standIns := [], harness := (true, "98cc5354789a2d6050f6fd0c64734a2ea13f62dc8e74e1584428f8d430139fc5"), looks := false }, kinds := [], alts := [], laidByText := true, laidKinds := [.data, .data], laidTests := true, laidLooks := .later }
def LevelNoneUptoCardSaid : Prop := Claim7.holds Tryz.pinned (.plain (OpenSpec.upto levelNoneSpec)) levelNoneUptoCard

/-- THE SECOND FORM's CARD OF 'exchequerlaw15.LevelMap'. -/
def levelMapUptoCard : Claim7 := { stood := { row := levelMapUptoRow, standIns := [], harness := (true, "98cc5354789a2d6050f6fd0c64734a2ea13f62dc8e74e1584428f8d430139fc5"), looks := false }, kinds := [], alts := [], laidByText := true, laidKinds := [.data, .data], laidTests := true, laidLooks := .later }
def LevelMapUptoCardSaid : Prop := Claim7.holds Tryz.pinned (.plain (OpenSpec.upto levelMapSpec)) levelMapUptoCard
end Rows
end Go.Proofs.YtcjapldhfolpnaaGreatDoor

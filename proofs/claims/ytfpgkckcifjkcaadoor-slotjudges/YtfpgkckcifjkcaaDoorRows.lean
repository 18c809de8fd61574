/-
  NARROWER THAN 'FOR EVERY INPUT', by the rows' own cells (each row's printed sentence says how): SlotWrites: laid · SlotJudges: laid · SlotKnown: laid · SlotCrash: laid · SlotTurned: laid.
  DERIVED. THE GIVEN ROWS OF THIS SEAT. 5 by the template 'for every input the law returns true; each argument reads behind the call as it read before'; 0 by the template 'total and deterministic' (their statements: YtfpgkckcifjkcaaDoorTotals.lean).
  GIVEN WITH THE SEED: the statements are not yours to turn. If you find one false, say at which input.
  Laid BY PROGRAM, IN A SANDBOX (cutbox-rows.mjs): the forced cells as the released guide's own fill.sh prints them over the translation f0e5c18bc47a8824… (all of the seat's roots in one cut). By AI agents, Wed Nov 11 2026. No macro, syntax, notation, axiom, sorry.
-/
import Derived.Test.YtfpgkckcifjkcaaDoorChecked
import GoSem.Claim
import GoSem.ClaimJoined
import GoSem.ClaimMapViews
import Derived.JoinedTies
import Derived.KernelRfl
namespace Go.Proofs.YtfpgkckcifjkcaaDoor
/- THE CELL 'sum', in the pinned program and in every row, IS THE sha256 OF THE DUMP (.gsa) THAT YtfpgkckcifjkcaaDoorProg.lean LOADS. Nothing in Lean hashes anything: it is a label: what it is worth is what the hold of that sum in a sandbox is worth. -/
noncomputable def Tryd.pinned : Pinned := { name := "ytfpgkckcifjkcaadoor", sum := "f0e5c18bc47a882481a9400ab393f27d05382692c2bff99313148e9fb110e18e", checked := Tryd.checked }
namespace Rows
def none {H : Type} : Left H := { results := [], args := [] }

/- WHAT THE LISTED PACKAGE-LEVEL VARIABLES READ AS WHEN THE CALL BEGINS. Each datum BY PROGRAM (the guide's laid-datum.mjs) off the statement by which the dump's own 'gosem.cut.vars' lays the variable. In a bare row this is a premise. The card (YtfpgkckcifjkcaaDoorCards.lean) ties it to the program's text. -/
def laid_exchequer_header_fields {H : Type} : DataW H := .agg [.agg [.lit (.int .i64 32), .lit (.int .i64 1), .lit (.int .i64 31)], .agg [.lit (.int .i64 36), .lit (.int .i64 0), .lit (.int .i64 6)], .agg [.lit (.int .i64 40), .lit (.int .i64 0), .lit (.int .i64 1024)], .agg [.lit (.int .i64 44), .lit (.int .i64 0), .lit (.int .i64 1073741824)], .agg [.lit (.int .i64 48), .lit (.int .i64 0), .lit (.int .i64 1073741824)], .agg [.lit (.int .i64 52), .lit (.int .i64 0), .lit (.int .i64 1073741824)], .agg [.lit (.int .i64 56), .lit (.int .i64 0), .lit (.int .i64 1073741824)], .agg [.lit (.int .i64 60), .lit (.int .i64 0), .lit (.int .i64 1073741824)], .agg [.lit (.int .i64 64), .lit (.int .i64 0), .lit (.int .i64 1073741824)], .agg [.lit (.int .i64 84), .lit (.int .i64 0), .lit (.int .i64 1073741824)], .agg [.lit (.int .i64 88), .lit (.int .i64 0), .lit (.int .i64 1073741824)], .agg [.lit (.int .i64 100), .lit (.int .i64 0), .lit (.int .i64 1073741824)], .agg [.lit (.int .i64 104), .lit (.int .i64 0), .lit (.int .i64 1073741824)]]

/-- 'exchequerlaw07.SlotWrites': WHATEVER THE INPUT: true; the input reads as it did. -/
def slotWritesSpec : ChangeSpec := { name := "slotWrites", fn := fun _ => fun
  | [d1, d2, d3] => { results := [.lit (.bool true)], args := [d1, d2, d3] }
  | _ => none }
def slotWritesRow : OpenClaim := { program := "ytfpgkckcifjkcaadoor", sum := "f0e5c18bc47a882481a9400ab393f27d05382692c2bff99313148e9fb110e18e", func := "exchequer/exchequerlaw07.SlotWrites", spec := "slotWrites", unfollowed := true, recurses := true, named := ["exchequer/header.fields"], apart := false, laid := [("exchequer/header.fields", laid_exchequer_header_fields)] }
def SlotWritesSaid : Prop := slotWritesRow.holds Tryd.pinned (OpenSpec.ofChange slotWritesSpec)

/-- ITS FALSE NEIGHBOUR: 'it returns false'. Refute it at one input. -/
def slotWritesWrong : ChangeSpec := { name := "slotWrites", fn := fun _ => fun
  | [d1, d2, d3] => { results := [.lit (.bool false)], args := [d1, d2, d3] }
  | _ => none }
def SlotWritesWrongFalsely : Prop := slotWritesRow.holds Tryd.pinned (OpenSpec.ofChange slotWritesWrong)

/-- 'exchequerlaw07.SlotJudges': WHATEVER THE INPUT: true; the input reads as it did. -/
def slotJudgesSpec : ChangeSpec := { name := "slotJudges", fn := fun _ => fun
  | [d1, d2, d3] => { results := [.lit (.bool true)], args := [d1, d2, d3] }
  | _ => none }
def slotJudgesRow : OpenClaim := { program := "ytfpgkckcifjkcaadoor", sum := "f0e5c18bc47a882481a9400ab393f27d05382692c2bff99313148e9fb110e18e", func := "exchequer/exchequerlaw07.SlotJudges", spec := "slotJudges", unfollowed := true, recurses := true, named := ["exchequer/header.fields"], apart := false, laid := [("exchequer/header.fields", laid_exchequer_header_fields)] }
def SlotJudgesSaid : Prop := slotJudgesRow.holds Tryd.pinned (OpenSpec.ofChange slotJudgesSpec)

/-- ITS FALSE NEIGHBOUR: 'it returns false'. Refute it at one input. -/
def slotJudgesWrong : ChangeSpec := { name := "slotJudges", fn := fun _ => fun
  | [d1, d2, d3] => { results := [.lit (.bool false)], args := [d1, d2, d3] }
  | _ => none }
def SlotJudgesWrongFalsely : Prop := slotJudgesRow.holds Tryd.pinned (OpenSpec.ofChange slotJudgesWrong)

/-- 'exchequerlaw07.SlotKnown': WHATEVER THE INPUT: true; the input reads as it did. -/
def slotKnownSpec : ChangeSpec := { name := "slotKnown", fn := fun _ => fun
  | [] => { results := [.lit (.bool true)], args := [] }
  | _ => none }
def slotKnownRow : OpenClaim := { program := "ytfpgkckcifjkcaadoor", sum := "f0e5c18bc47a882481a9400ab393f27d05382692c2bff99313148e9fb110e18e", func := "exchequer/exchequerlaw07.SlotKnown", spec := "slotKnown", unfollowed := true, recurses := true, named := ["exchequer/header.fields"], apart := false, laid := [("exchequer/header.fields", laid_exchequer_header_fields)] }
def SlotKnownSaid : Prop := slotKnownRow.holds Tryd.pinned (OpenSpec.ofChange slotKnownSpec)

/-- ITS FALSE NEIGHBOUR: 'it returns false'. Refute it at one input. -/
def slotKnownWrong : ChangeSpec := { name := "slotKnown", fn := fun _ => fun
  | [] => { results := [.lit (.bool false)], args := [] }
  | _ => none }
def SlotKnownWrongFalsely : Prop := slotKnownRow.holds Tryd.pinned (OpenSpec.ofChange slotKnownWrong)

/-- 'exchequerlaw07.SlotCrash': WHATEVER THE INPUT: true; the input reads as it did. -/
def slotCrashSpec : ChangeSpec := { name := "slotCrash", fn := fun _ => fun
  | [d1, d2, d3] => { results := [.lit (.bool true)], args := [d1, d2, d3] }
  | _ => none }
def slotCrashRow : OpenClaim := { program := "ytfpgkckcifjkcaadoor", sum := "f0e5c18bc47a882481a9400ab393f27d05382692c2bff99313148e9fb110e18e", func := "exchequer/exchequerlaw07.SlotCrash", spec := "slotCrash", unfollowed := true, recurses := true, named := ["exchequer/header.fields"], apart := false, laid := [("exchequer/header.fields", laid_exchequer_header_fields)] }
def SlotCrashSaid : Prop := slotCrashRow.holds Tryd.pinned (OpenSpec.ofChange slotCrashSpec)

/-- ITS FALSE NEIGHBOUR: 'it returns false'. Refute it at one input. -/
def slotCrashWrong : ChangeSpec := { name := "slotCrash", fn := fun _ => fun
  | [d1, d2, d3] => { results := [.lit (.bool false)], args := [d1, d2, d3] }
  | _ => none }
def SlotCrashWrongFalsely : Prop := slotCrashRow.holds Tryd.pinned (OpenSpec.ofChange slotCrashWrong)

/-- 'exchequerlaw07.SlotTurned': WHATEVER THE INPUT: true; the input reads as it did. -/
def slotTurnedSpec : ChangeSpec := { name := "slotTurned", fn := fun _ => fun
  | [d1, d2] => { results := [.lit (.bool true)], args := [d1, d2] }
  | _ => none }
def slotTurnedRow : OpenClaim := { program := "ytfpgkckcifjkcaadoor", sum := "f0e5c18bc47a882481a9400ab393f27d05382692c2bff99313148e9fb110e18e", func := "exchequer/exchequerlaw07.SlotTurned", spec := "slotTurned", unfollowed := true, recurses := true, named := ["exchequer/header.fields"], apart := false, laid := [("exchequer/header.fields", laid_exchequer_header_fields)] }
def SlotTurnedSaid : Prop := slotTurnedRow.holds Tryd.pinned (OpenSpec.ofChange slotTurnedSpec)

/-- ITS FALSE NEIGHBOUR: 'it returns false'. Refute it at one input. -/
def slotTurnedWrong : ChangeSpec := { name := "slotTurned", fn := fun _ => fun
  | [d1, d2] => { results := [.lit (.bool false)], args := [d1, d2] }
  | _ => none }
def SlotTurnedWrongFalsely : Prop := slotTurnedRow.holds Tryd.pinned (OpenSpec.ofChange slotTurnedWrong)

/- THE SECOND FORM. 'bulk': how many values and letters a reading holds, each counted each time it is reached (what is shared counts as often as it is met; a slice's spare places count too). A statement '..UptoSaid' is the law's where the arguments, and the package variables that the reading takes, are together of bulk at most 1048576: NARROWER than '..Said'. Prove '..Said' where nothing that the law and all that it calls make is longer than what came in: it says more and counts as full. Else prove '..UptoSaid'. A law counts once. -/
mutual
def uptoBulk {H : Type} : DataW H → Nat
  | .lit (.string bytes) => bytes.length + 1
  | .lit _ => 1
  | .nil => 1
  | .ptr d => uptoBulk d + 1
  | .slice elems spare => uptoBulkAll elems + uptoBulkAll spare + 1
  | .agg parts => uptoBulkAll parts + 1
  | .iface _ d => uptoBulk d + 1
  | .map entries => uptoBulkEntries entries + 1
  | .held _ => 1
def uptoBulkAll {H : Type} : List (DataW H) → Nat
  | [] => 0
  | d :: r => uptoBulk d + uptoBulkAll r
def uptoBulkEntries {H : Type} : List (Lit × DataW H) → Nat
  | [] => 0
  | x :: r => uptoBulkEntry x + uptoBulkEntries r
def uptoBulkEntry {H : Type} : Lit × DataW H → Nat
  | (.string bytes, d) => bytes.length + uptoBulk d + 1
  | (_, d) => uptoBulk d + 1
 end
def uptoSmall : (H : Type) → List (DataW H) → Bool := fun _ ds => decide (uptoBulkAll ds ≤ 1048576)
def OpenSpec.upto (s : _root_.Go.ChangeSpec) : _root_.Go.OpenSpec := { _root_.Go.OpenSpec.ofChange s with cond := some uptoSmall }

/-- 'exchequerlaw07.SlotWrites', WHERE WHAT IT READS IS OF BULK AT MOST 1048576: true; the input reads as it did. -/
def slotWritesUptoRow : OpenClaim := { program := "ytfpgkckcifjkcaadoor", sum := "f0e5c18bc47a882481a9400ab393f27d05382692c2bff99313148e9fb110e18e", func := "exchequer/exchequerlaw07.SlotWrites", spec := "slotWrites", unfollowed := true, recurses := true, named := ["exchequer/header.fields"], apart := false, laid := [("exchequer/header.fields", laid_exchequer_header_fields)], narrowed := true }
def SlotWritesUptoSaid : Prop := slotWritesUptoRow.holds Tryd.pinned (OpenSpec.upto slotWritesSpec)

/-- 'exchequerlaw07.SlotJudges', WHERE WHAT IT READS IS OF BULK AT MOST 1048576: true; the input reads as it did. -/
def slotJudgesUptoRow : OpenClaim := { program := "ytfpgkckcifjkcaadoor", sum := "f0e5c18bc47a882481a9400ab393f27d05382692c2bff99313148e9fb110e18e", func := "exchequer/exchequerlaw07.SlotJudges", spec := "slotJudges", unfollowed := true, recurses := true, named := ["exchequer/header.fields"], apart := false, laid := [("exchequer/header.fields", laid_exchequer_header_fields)], narrowed := true }
def SlotJudgesUptoSaid : Prop := slotJudgesUptoRow.holds Tryd.pinned (OpenSpec.upto slotJudgesSpec)

/-- 'exchequerlaw07.SlotKnown', WHERE WHAT IT READS IS OF BULK AT MOST 1048576: true; the input reads as it did. -/
def slotKnownUptoRow : OpenClaim := { program := "ytfpgkckcifjkcaadoor", sum := "f0e5c18bc47a882481a9400ab393f27d05382692c2bff99313148e9fb110e18e", func := "exchequer/exchequerlaw07.SlotKnown", spec := "slotKnown", unfollowed := true, recurses := true, named := ["exchequer/header.fields"], apart := false, laid := [("exchequer/header.fields", laid_exchequer_header_fields)], narrowed := true }
def SlotKnownUptoSaid : Prop := slotKnownUptoRow.holds Tryd.pinned (OpenSpec.upto slotKnownSpec)

/-- 'exchequerlaw07.SlotCrash', WHERE WHAT IT READS IS OF BULK AT MOST 1048576: true; the input reads as it did. -/
def slotCrashUptoRow : OpenClaim := { program := "ytfpgkckcifjkcaadoor", sum := "f0e5c18bc47a882481a9400ab393f27d05382692c2bff99313148e9fb110e18e", func := "exchequer/exchequerlaw07.SlotCrash", spec := "slotCrash", unfollowed := true, recurses := true, named := ["exchequer/header.fields"], apart := false, laid := [("exchequer/header.fields", laid_exchequer_header_fields)], narrowed := true }
def SlotCrashUptoSaid : Prop := slotCrashUptoRow.holds Tryd.pinned (OpenSpec.upto slotCrashSpec)

/-- 'exchequerlaw07.SlotTurned', WHERE WHAT IT READS IS OF BULK AT MOST 1048576: true; the input reads as it did. -/
def slotTurnedUptoRow : OpenClaim := { program := "ytfpgkckcifjkcaadoor", sum := "f0e5c18bc47a882481a9400ab393f27d05382692c2bff99313148e9fb110e18e", func := "exchequer/exchequerlaw07.SlotTurned", spec := "slotTurned", unfollowed := true, recurses := true, named := ["exchequer/header.fields"], apart := false, laid := [("exchequer/header.fields", laid_exchequer_header_fields)], narrowed := true }
def SlotTurnedUptoSaid : Prop := slotTurnedUptoRow.holds Tryd.pinned (OpenSpec.upto slotTurnedSpec)

end Rows
end Go.Proofs.YtfpgkckcifjkcaaDoor

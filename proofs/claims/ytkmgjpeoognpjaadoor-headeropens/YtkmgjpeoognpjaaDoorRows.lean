/-
  NARROWER THAN 'FOR EVERY INPUT', by the rows' own cells (each row's printed sentence says how): HeaderSeals: laid · HeaderOpens: laid · HeaderKnown: laid · HeaderBack: laid · HeaderTurned: laid.
  DERIVED. THE GIVEN ROWS OF THIS SEAT. 5 by the template 'for every input the law returns true; each argument reads behind the call as it read before'; 0 by the template 'total and deterministic' (their statements: YtkmgjpeoognpjaaDoorTotals.lean).
  GIVEN WITH THE SEED: the statements are not yours to turn. If you find one false, say at which input.
  Laid BY PROGRAM, IN A SANDBOX (cutbox-rows.mjs): the forced cells as the released guide's own fill.sh prints them over the translation 833e853b037606b3… (all of the seat's roots in one cut). By AI agents, Wed Nov 11 2026. No macro, syntax, notation, axiom, sorry.
-/
import Derived.Test.YtkmgjpeoognpjaaDoorChecked
import GoSem.Claim
import GoSem.ClaimJoined
import GoSem.ClaimMapViews
import Derived.JoinedTies
import Derived.KernelRfl
namespace Go.Proofs.YtkmgjpeoognpjaaDoor
/- THE CELL 'sum', in the pinned program and in every row, IS THE sha256 OF THE DUMP (.gsa) THAT YtkmgjpeoognpjaaDoorProg.lean LOADS. Nothing in Lean hashes anything: it is a label: what it is worth is what the hold of that sum in a sandbox is worth. -/
noncomputable def Tryd.pinned : Pinned := { name := "ytkmgjpeoognpjaadoor", sum := "833e853b037606b33baa98e20716a9ef52c4ec0b1f46af7f08cb1b8cb1952047", checked := Tryd.checked }
namespace Rows
def none {H : Type} : Left H := { results := [], args := [] }

/- WHAT THE LISTED PACKAGE-LEVEL VARIABLES READ AS WHEN THE CALL BEGINS. Each datum BY PROGRAM (the guide's laid-datum.mjs) off the statement by which the dump's own 'gosem.cut.vars' lays the variable. In a bare row this is a premise. The card (YtkmgjpeoognpjaaDoorCards.lean) ties it to the program's text. -/
def laid_exchequer_header_fields {H : Type} : DataW H := .agg [.agg [.lit (.int .i64 32), .lit (.int .i64 1), .lit (.int .i64 31)], .agg [.lit (.int .i64 36), .lit (.int .i64 0), .lit (.int .i64 6)], .agg [.lit (.int .i64 40), .lit (.int .i64 0), .lit (.int .i64 1024)], .agg [.lit (.int .i64 44), .lit (.int .i64 0), .lit (.int .i64 1073741824)], .agg [.lit (.int .i64 48), .lit (.int .i64 0), .lit (.int .i64 1073741824)], .agg [.lit (.int .i64 52), .lit (.int .i64 0), .lit (.int .i64 1073741824)], .agg [.lit (.int .i64 56), .lit (.int .i64 0), .lit (.int .i64 1073741824)], .agg [.lit (.int .i64 60), .lit (.int .i64 0), .lit (.int .i64 1073741824)], .agg [.lit (.int .i64 64), .lit (.int .i64 0), .lit (.int .i64 1073741824)], .agg [.lit (.int .i64 84), .lit (.int .i64 0), .lit (.int .i64 1073741824)], .agg [.lit (.int .i64 88), .lit (.int .i64 0), .lit (.int .i64 1073741824)], .agg [.lit (.int .i64 100), .lit (.int .i64 0), .lit (.int .i64 1073741824)], .agg [.lit (.int .i64 104), .lit (.int .i64 0), .lit (.int .i64 1073741824)]]

/-- 'exchequerlaw04.HeaderSeals': WHATEVER THE INPUT: true; the input reads as it did. -/
def headerSealsSpec : ChangeSpec := { name := "headerSeals", fn := fun _ => fun
  | [d] => { results := [.lit (.bool true)], args := [d] }
  | _ => none }
def headerSealsRow : OpenClaim := { program := "ytkmgjpeoognpjaadoor", sum := "833e853b037606b33baa98e20716a9ef52c4ec0b1f46af7f08cb1b8cb1952047", func := "exchequer/exchequerlaw04.HeaderSeals", spec := "headerSeals", named := ["exchequer/header.fields"], apart := false, laid := [("exchequer/header.fields", laid_exchequer_header_fields)] }
def HeaderSealsSaid : Prop := headerSealsRow.holds Tryd.pinned (OpenSpec.ofChange headerSealsSpec)

/-- ITS FALSE NEIGHBOUR: 'it returns false'. Refute it at one input. -/
def headerSealsWrong : ChangeSpec := { name := "headerSeals", fn := fun _ => fun
  | [d] => { results := [.lit (.bool false)], args := [d] }
  | _ => none }
def HeaderSealsWrongFalsely : Prop := headerSealsRow.holds Tryd.pinned (OpenSpec.ofChange headerSealsWrong)

/-- 'exchequerlaw04.HeaderOpens': WHATEVER THE INPUT: true; the input reads as it did. -/
def headerOpensSpec : ChangeSpec := { name := "headerOpens", fn := fun _ => fun
  | [d] => { results := [.lit (.bool true)], args := [d] }
  | _ => none }
def headerOpensRow : OpenClaim := { program := "ytkmgjpeoognpjaadoor", sum := "833e853b037606b33baa98e20716a9ef52c4ec0b1f46af7f08cb1b8cb1952047", func := "exchequer/exchequerlaw04.HeaderOpens", spec := "headerOpens", named := ["exchequer/header.fields"], apart := false, laid := [("exchequer/header.fields", laid_exchequer_header_fields)] }
def HeaderOpensSaid : Prop := headerOpensRow.holds Tryd.pinned (OpenSpec.ofChange headerOpensSpec)

/-- ITS FALSE NEIGHBOUR: 'it returns false'. Refute it at one input. -/
def headerOpensWrong : ChangeSpec := { name := "headerOpens", fn := fun _ => fun
  | [d] => { results := [.lit (.bool false)], args := [d] }
  | _ => none }
def HeaderOpensWrongFalsely : Prop := headerOpensRow.holds Tryd.pinned (OpenSpec.ofChange headerOpensWrong)

/-- 'exchequerlaw04.HeaderKnown': WHATEVER THE INPUT: true; the input reads as it did. -/
def headerKnownSpec : ChangeSpec := { name := "headerKnown", fn := fun _ => fun
  | [] => { results := [.lit (.bool true)], args := [] }
  | _ => none }
def headerKnownRow : OpenClaim := { program := "ytkmgjpeoognpjaadoor", sum := "833e853b037606b33baa98e20716a9ef52c4ec0b1f46af7f08cb1b8cb1952047", func := "exchequer/exchequerlaw04.HeaderKnown", spec := "headerKnown", named := ["exchequer/header.fields"], apart := false, laid := [("exchequer/header.fields", laid_exchequer_header_fields)] }
def HeaderKnownSaid : Prop := headerKnownRow.holds Tryd.pinned (OpenSpec.ofChange headerKnownSpec)

/-- ITS FALSE NEIGHBOUR: 'it returns false'. Refute it at one input. -/
def headerKnownWrong : ChangeSpec := { name := "headerKnown", fn := fun _ => fun
  | [] => { results := [.lit (.bool false)], args := [] }
  | _ => none }
def HeaderKnownWrongFalsely : Prop := headerKnownRow.holds Tryd.pinned (OpenSpec.ofChange headerKnownWrong)

/-- 'exchequerlaw04.HeaderBack': WHATEVER THE INPUT: true; the input reads as it did. -/
def headerBackSpec : ChangeSpec := { name := "headerBack", fn := fun _ => fun
  | [d1, d2] => { results := [.lit (.bool true)], args := [d1, d2] }
  | _ => none }
def headerBackRow : OpenClaim := { program := "ytkmgjpeoognpjaadoor", sum := "833e853b037606b33baa98e20716a9ef52c4ec0b1f46af7f08cb1b8cb1952047", func := "exchequer/exchequerlaw04.HeaderBack", spec := "headerBack", named := ["exchequer/header.fields"], apart := false, laid := [("exchequer/header.fields", laid_exchequer_header_fields)] }
def HeaderBackSaid : Prop := headerBackRow.holds Tryd.pinned (OpenSpec.ofChange headerBackSpec)

/-- ITS FALSE NEIGHBOUR: 'it returns false'. Refute it at one input. -/
def headerBackWrong : ChangeSpec := { name := "headerBack", fn := fun _ => fun
  | [d1, d2] => { results := [.lit (.bool false)], args := [d1, d2] }
  | _ => none }
def HeaderBackWrongFalsely : Prop := headerBackRow.holds Tryd.pinned (OpenSpec.ofChange headerBackWrong)

/-- 'exchequerlaw04.HeaderTurned': WHATEVER THE INPUT: true; the input reads as it did. -/
def headerTurnedSpec : ChangeSpec := { name := "headerTurned", fn := fun _ => fun
  | [d1, d2] => { results := [.lit (.bool true)], args := [d1, d2] }
  | _ => none }
def headerTurnedRow : OpenClaim := { program := "ytkmgjpeoognpjaadoor", sum := "833e853b037606b33baa98e20716a9ef52c4ec0b1f46af7f08cb1b8cb1952047", func := "exchequer/exchequerlaw04.HeaderTurned", spec := "headerTurned", named := ["exchequer/header.fields"], apart := false, laid := [("exchequer/header.fields", laid_exchequer_header_fields)] }
def HeaderTurnedSaid : Prop := headerTurnedRow.holds Tryd.pinned (OpenSpec.ofChange headerTurnedSpec)

/-- ITS FALSE NEIGHBOUR: 'it returns false'. Refute it at one input. -/
def headerTurnedWrong : ChangeSpec := { name := "headerTurned", fn := fun _ => fun
  | [d1, d2] => { results := [.lit (.bool false)], args := [d1, d2] }
  | _ => none }
def HeaderTurnedWrongFalsely : Prop := headerTurnedRow.holds Tryd.pinned (OpenSpec.ofChange headerTurnedWrong)

/- THE SECOND FORM. 'bulk': how many values and letters a reading holds, each counted each time it is reached (what is shared counts as often as it is met; a slice's spare places count too). A statement '..UptoSaid' is the law's where the arguments, and the package variables that the reading takes, are together of bulk at most 1048576: NARROWER than '..Said'. Prove '..Said' where nothing that the law and all that it calls make is longer than what came in: it says more and counts as full. Else prove '..UptoSaid'. A law counts once. -/
mutual
def uptoBulk {H : Type} : DataW H → Nat
  | .lit (.string bytes) => bytes.length + 1
  | .lit _ => 1
  | .nil => 1
  | .ptr d => uptoBulk d + 1
  | .slice elems spare => uptoBulkAll elems + uptoBulkAll spare + 1
  | .agg parts => uptoBulkAll parts + 1
  | .iface _ d => uptoBulk d + 1
  | .map entries => uptoBulkEntries entries + 1
  | .held _ => 1
def uptoBulkAll {H : Type} : List (DataW H) → Nat
  | [] => 0
  | d :: r => uptoBulk d + uptoBulkAll r
def uptoBulkEntries {H : Type} : List (Lit × DataW H) → Nat
  | [] => 0
  | x :: r => uptoBulkEntry x + uptoBulkEntries r
def uptoBulkEntry {H : Type} : Lit × DataW H → Nat
  | (.string bytes, d) => bytes.length + uptoBulk d + 1
  | (_, d) => uptoBulk d + 1
 end
def uptoSmall : (H : Type) → List (DataW H) → Bool := fun _ ds => decide (uptoBulkAll ds ≤ 1048576)
def OpenSpec.upto (s : _root_.Go.ChangeSpec) : _root_.Go.OpenSpec := { _root_.Go.OpenSpec.ofChange s with cond := some uptoSmall }

/-- 'exchequerlaw04.HeaderSeals', WHERE WHAT IT READS IS OF BULK AT MOST 1048576: true; the input reads as it did. -/
def headerSealsUptoRow : OpenClaim := { program := "ytkmgjpeoognpjaadoor", sum := "833e853b037606b33baa98e20716a9ef52c4ec0b1f46af7f08cb1b8cb1952047", func := "exchequer/exchequerlaw04.HeaderSeals", spec := "headerSeals", named := ["exchequer/header.fields"], apart := false, laid := [("exchequer/header.fields", laid_exchequer_header_fields)], narrowed := true }
def HeaderSealsUptoSaid : Prop := headerSealsUptoRow.holds Tryd.pinned (OpenSpec.upto headerSealsSpec)

/-- 'exchequerlaw04.HeaderOpens', WHERE WHAT IT READS IS OF BULK AT MOST 1048576: true; the input reads as it did. -/
def headerOpensUptoRow : OpenClaim := { program := "ytkmgjpeoognpjaadoor", sum := "833e853b037606b33baa98e20716a9ef52c4ec0b1f46af7f08cb1b8cb1952047", func := "exchequer/exchequerlaw04.HeaderOpens", spec := "headerOpens", named := ["exchequer/header.fields"], apart := false, laid := [("exchequer/header.fields", laid_exchequer_header_fields)], narrowed := true }
def HeaderOpensUptoSaid : Prop := headerOpensUptoRow.holds Tryd.pinned (OpenSpec.upto headerOpensSpec)

/-- 'exchequerlaw04.HeaderKnown', WHERE WHAT IT READS IS OF BULK AT MOST 1048576: true; the input reads as it did. -/
def headerKnownUptoRow : OpenClaim := { program := "ytkmgjpeoognpjaadoor", sum := "833e853b037606b33baa98e20716a9ef52c4ec0b1f46af7f08cb1b8cb1952047", func := "exchequer/exchequerlaw04.HeaderKnown", spec := "headerKnown", named := ["exchequer/header.fields"], apart := false, laid := [("exchequer/header.fields", laid_exchequer_header_fields)], narrowed := true }
def HeaderKnownUptoSaid : Prop := headerKnownUptoRow.holds Tryd.pinned (OpenSpec.upto headerKnownSpec)

/-- 'exchequerlaw04.HeaderBack', WHERE WHAT IT READS IS OF BULK AT MOST 1048576: true; the input reads as it did. -/
def headerBackUptoRow : OpenClaim := { program := "ytkmgjpeoognpjaadoor", sum := "833e853b037606b33baa98e20716a9ef52c4ec0b1f46af7f08cb1b8cb1952047", func := "exchequer/exchequerlaw04.HeaderBack", spec := "headerBack", named := ["exchequer/header.fields"], apart := false, laid := [("exchequer/header.fields", laid_exchequer_header_fields)], narrowed := true }
def HeaderBackUptoSaid : Prop := headerBackUptoRow.holds Tryd.pinned (OpenSpec.upto headerBackSpec)

/-- 'exchequerlaw04.HeaderTurned', WHERE WHAT IT READS IS OF BULK AT MOST 1048576: true; the input reads as it did. -/
def headerTurnedUptoRow : OpenClaim := { program := "ytkmgjpeoognpjaadoor", sum := "833e853b037606b33baa98e20716a9ef52c4ec0b1f46af7f08cb1b8cb1952047", func := "exchequer/exchequerlaw04.HeaderTurned", spec := "headerTurned", named := ["exchequer/header.fields"], apart := false, laid := [("exchequer/header.fields", laid_exchequer_header_fields)], narrowed := true }
def HeaderTurnedUptoSaid : Prop := headerTurnedUptoRow.holds Tryd.pinned (OpenSpec.upto headerTurnedSpec)

end Rows
end Go.Proofs.YtkmgjpeoognpjaaDoor

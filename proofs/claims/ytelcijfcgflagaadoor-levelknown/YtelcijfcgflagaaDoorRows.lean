/-
  NARROWER THAN 'FOR EVERY INPUT', by the rows' own cells (each row's printed sentence says how): LevelTells: laid · LevelKnown: laid.
  DERIVED. THE GIVEN ROWS OF THIS SEAT. 2 by the template 'for every input the law returns true; each argument reads behind the call as it read before'; 0 by the template 'total and deterministic' (their statements: YtelcijfcgflagaaDoorTotals.lean).
  GIVEN WITH THE SEED: the statements are not yours to turn. If you find one false, say at which input.
  Laid BY PROGRAM, IN A SANDBOX (cutbox-rows.mjs): the forced cells as the released guide's own fill.sh prints them over the translation 9d7f43447d085640… (all of the seat's roots in one cut). By AI agents, Wed Nov 11 2026. No macro, syntax, notation, axiom, sorry.
-/
import Derived.Test.YtelcijfcgflagaaDoorChecked
import GoSem.Claim
import GoSem.ClaimJoined
import GoSem.ClaimMapViews
import Derived.JoinedTies
import Derived.KernelRfl
namespace Go.Proofs.YtelcijfcgflagaaDoor
/- THE CELL 'sum', in the pinned program and in every row, IS THE sha256 OF THE DUMP (.gsa) THAT YtelcijfcgflagaaDoorProg.lean LOADS. Nothing in Lean hashes anything: it is a label: what it is worth is what the hold of that sum in a sandbox is worth. -/
noncomputable def Tryd.pinned : Pinned := { name := "ytelcijfcgflagaadoor", sum := "9d7f43447d085640749bab0556a270bfdfcf094465170cf71f0e08185308a78e", checked := Tryd.checked }
namespace Rows
def none {H : Type} : Left H := { results := [], args := [] }

/- WHAT THE LISTED PACKAGE-LEVEL VARIABLES READ AS WHEN THE CALL BEGINS. Each datum BY PROGRAM (the guide's laid-datum.mjs) off the statement by which the dump's own 'gosem.cut.vars' lays the variable. In a bare row this is a premise. The card (YtelcijfcgflagaaDoorCards.lean) ties it to the program's text. -/
def laid_exchequer_level_room {H : Type} : DataW H := .agg [.lit (.int .i64 4), .lit (.int .i64 8), .lit (.int .i64 16)]

/-- 'exchequerlaw15.LevelTells': WHATEVER THE INPUT: true; the input reads as it did. -/
def levelTellsSpec : ChangeSpec := { name := "levelTells", fn := fun _ => fun
  | [d1, d2, d3, d4] => { results := [.lit (.bool true)], args := [d1, d2, d3, d4] }
  | _ => none }
def levelTellsRow : OpenClaim := { program := "ytelcijfcgflagaadoor", sum := "9d7f43447d085640749bab0556a270bfdfcf094465170cf71f0e08185308a78e", func := "exchequer/exchequerlaw15.LevelTells", spec := "levelTells", inPlace := ["internal/bytealg.Compare", "slices.overlaps[exchequer/api.Run]"], unfollowed := true, recurses := true, named := ["exchequer/level.room"], plainKeys := false, apart := false, laid := [("exchequer/level.room", laid_exchequer_level_room)] }
def LevelTellsSaid : Prop := levelTellsRow.holds Tryd.pinned (OpenSpec.ofChange levelTellsSpec)

/-- ITS FALSE NEIGHBOUR: 'it returns false'. Refute it at one input. -/
def levelTellsWrong : ChangeSpec := { name := "levelTells", fn := fun _ => fun
  | [d1, d2, d3, d4] => { results := [.lit (.bool false)], args := [d1, d2, d3, d4] }
  | _ => none }
def LevelTellsWrongFalsely : Prop := levelTellsRow.holds Tryd.pinned (OpenSpec.ofChange levelTellsWrong)

/-- 'exchequerlaw15.LevelKnown': WHATEVER THE INPUT: true; the input reads as it did. -/
def levelKnownSpec : ChangeSpec := { name := "levelKnown", fn := fun _ => fun
  | [] => { results := [.lit (.bool true)], args := [] }
  | _ => none }
def levelKnownRow : OpenClaim := { program := "ytelcijfcgflagaadoor", sum := "9d7f43447d085640749bab0556a270bfdfcf094465170cf71f0e08185308a78e", func := "exchequer/exchequerlaw15.LevelKnown", spec := "levelKnown", inPlace := ["internal/bytealg.Compare", "slices.overlaps[exchequer/api.Run]"], unfollowed := true, recurses := true, named := ["exchequer/level.room"], plainKeys := false, apart := false, laid := [("exchequer/level.room", laid_exchequer_level_room)] }
def LevelKnownSaid : Prop := levelKnownRow.holds Tryd.pinned (OpenSpec.ofChange levelKnownSpec)

/-- ITS FALSE NEIGHBOUR: 'it returns false'. Refute it at one input. -/
def levelKnownWrong : ChangeSpec := { name := "levelKnown", fn := fun _ => fun
  | [] => { results := [.lit (.bool false)], args := [] }
  | _ => none }
def LevelKnownWrongFalsely : Prop := levelKnownRow.holds Tryd.pinned (OpenSpec.ofChange levelKnownWrong)

/- THE SECOND FORM. 'bulk': how many values and letters a reading holds, each counted each time it is reached (what is shared counts as often as it is met; a slice's spare places count too). A statement '..UptoSaid' is the law's where the arguments, and the package variables that the reading takes, are together of bulk at most 1048576: NARROWER than '..Said'. Prove '..Said' where nothing that the law and all that it calls make is longer than what came in: it says more and counts as full. Else prove '..UptoSaid'. A law counts once. -/
mutual
def uptoBulk {H : Type} : DataW H → Nat
  | .lit (.string bytes) => bytes.length + 1
  | .lit _ => 1
  | .nil => 1
  | .ptr d => uptoBulk d + 1
  | .slice elems spare => uptoBulkAll elems + uptoBulkAll spare + 1
  | .agg parts => uptoBulkAll parts + 1
  | .iface _ d => uptoBulk d + 1
  | .map entries => uptoBulkEntries entries + 1
  | .held _ => 1
def uptoBulkAll {H : Type} : List (DataW H) → Nat
  | [] => 0
  | d :: r => uptoBulk d + uptoBulkAll r
def uptoBulkEntries {H : Type} : List (Lit × DataW H) → Nat
  | [] => 0
  | x :: r => uptoBulkEntry x + uptoBulkEntries r
def uptoBulkEntry {H : Type} : Lit × DataW H → Nat
  | (.string bytes, d) => bytes.length + uptoBulk d + 1
  | (_, d) => uptoBulk d + 1
 end
def uptoSmall : (H : Type) → List (DataW H) → Bool := fun _ ds => decide (uptoBulkAll ds ≤ 1048576)
def OpenSpec.upto (s : _root_.Go.ChangeSpec) : _root_.Go.OpenSpec := { _root_.Go.OpenSpec.ofChange s with cond := some uptoSmall }

/-- 'exchequerlaw15.LevelTells', WHERE WHAT IT READS IS OF BULK AT MOST 1048576: true; the input reads as it did. -/
def levelTellsUptoRow : OpenClaim := { program := "ytelcijfcgflagaadoor", sum := "9d7f43447d085640749bab0556a270bfdfcf094465170cf71f0e08185308a78e", func := "exchequer/exchequerlaw15.LevelTells", spec := "levelTells", inPlace := ["internal/bytealg.Compare", "slices.overlaps[exchequer/api.Run]"], unfollowed := true, recurses := true, named := ["exchequer/level.room"], plainKeys := false, apart := false, laid := [("exchequer/level.room", laid_exchequer_level_room)], narrowed := true }
def LevelTellsUptoSaid : Prop := levelTellsUptoRow.holds Tryd.pinned (OpenSpec.upto levelTellsSpec)

/-- 'exchequerlaw15.LevelKnown', WHERE WHAT IT READS IS OF BULK AT MOST 1048576: true; the input reads as it did. -/
def levelKnownUptoRow : OpenClaim := { program := "ytelcijfcgflagaadoor", sum := "9d7f43447d085640749bab0556a270bfdfcf094465170cf71f0e08185308a78e", func := "exchequer/exchequerlaw15.LevelKnown", spec := "levelKnown", inPlace := ["internal/bytealg.Compare", "slices.overlaps[exchequer/api.Run]"], unfollowed := true, recurses := true, named := ["exchequer/level.room"], plainKeys := false, apart := false, laid := [("exchequer/level.room", laid_exchequer_level_room)], narrowed := true }
def LevelKnownUptoSaid : Prop := levelKnownUptoRow.holds Tryd.pinned (OpenSpec.upto levelKnownSpec)

end Rows
end Go.Proofs.YtelcijfcgflagaaDoor

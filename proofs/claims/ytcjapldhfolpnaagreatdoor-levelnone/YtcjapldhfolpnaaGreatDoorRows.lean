/-
  NARROWER THAN 'FOR EVERY INPUT', by the rows' own cells (each row's printed sentence says how): LevelScript: laid · LevelNone: laid · LevelMap: laid.
  DERIVED. THE GIVEN ROWS OF THIS SEAT. 3 by the template 'for every input the law returns true; each argument reads behind the call as it read before'; 0 by the template 'total and deterministic' (their statements: YtcjapldhfolpnaaGreatDoorTotals.lean).
  GIVEN WITH THE SEED: the statements are not yours to turn. If you find one false, say at which input.
  Laid BY PROGRAM, IN A SANDBOX (cutbox-rows.mjs): the forced cells as the released guide's own fill.sh prints them over the translation f9547431ecf7ca5f… (all of the seat's roots in one cut). By AI agents, Wed Nov 11 2026. No macro, syntax, notation, axiom, sorry.
-/
import Derived.Test.YtcjapldhfolpnaaGreatDoorChecked
import GoSem.Claim
import GoSem.ClaimJoined
import GoSem.ClaimMapViews
import Derived.JoinedTies
import Derived.KernelRfl
namespace Go.Proofs.YtcjapldhfolpnaaGreatDoor
/- THE CELL 'sum', in the pinned program and in every row, IS THE sha256 OF THE DUMP (.gsa) THAT YtcjapldhfolpnaaGreatDoorProg.lean LOADS. Nothing in Lean hashes anything: it is a label: what it is worth is what the hold of that sum in a sandbox is worth. -/
noncomputable def Tryz.pinned : Pinned := { name := "ytcjapldhfolpnaagreatdoor", sum := "f9547431ecf7ca5fd7e7048307a08bb67cf861a67a4934b86bd108f5ad1849b6", checked := Tryz.checked }
namespace Rows
def none {H : Type} : Left H := { results := [], args := [] }

/- WHAT THE LISTED PACKAGE-LEVEL VARIABLES READ AS WHEN THE CALL BEGINS. Each datum BY PROGRAM (the guide's laid-datum.mjs) off the statement by which the dump's own 'gosem.cut.vars' lays the variable. In a bare row this is a premise. The card (YtcjapldhfolpnaaGreatDoorCards.lean) ties it to the program's text. -/
def laid_math_bits_deBruijn64tab {H : Type} : DataW H := .agg [.lit (.int .u8 0), .lit (.int .u8 1), .lit (.int .u8 56), .lit (.int .u8 2), .lit (.int .u8 57), .lit (.int .u8 49), .lit (.int .u8 28), .lit (.int .u8 3), .lit (.int .u8 61), .lit (.int .u8 58), .lit (.int .u8 42), .lit (.int .u8 50), .lit (.int .u8 38), .lit (.int .u8 29), .lit (.int .u8 17), .lit (.int .u8 4), .lit (.int .u8 62), .lit (.int .u8 47), .lit (.int .u8 59), .lit (.int .u8 36), .lit (.int .u8 45), .lit (.int .u8 43), .lit (.int .u8 51), .lit (.int .u8 22), .lit (.int .u8 53), .lit (.int .u8 39), .lit (.int .u8 33), .lit (.int .u8 30), .lit (.int .u8 24), .lit (.int .u8 18), .lit (.int .u8 12), .lit (.int .u8 5), .lit (.int .u8 63), .lit (.int .u8 55), .lit (.int .u8 48), .lit (.int .u8 27), .lit (.int .u8 60), .lit (.int .u8 41), .lit (.int .u8 37), .lit (.int .u8 16), .lit (.int .u8 46), .lit (.int .u8 35), .lit (.int .u8 44), .lit (.int .u8 21), .lit (.int .u8 52), .lit (.int .u8 32), .lit (.int .u8 23), .lit (.int .u8 11), .lit (.int .u8 54), .lit (.int .u8 26), .lit (.int .u8 40), .lit (.int .u8 15), .lit (.int .u8 34), .lit (.int .u8 20), .lit (.int .u8 31), .lit (.int .u8 10), .lit (.int .u8 25), .lit (.int .u8 14), .lit (.int .u8 19), .lit (.int .u8 9), .lit (.int .u8 13), .lit (.int .u8 8), .lit (.int .u8 7), .lit (.int .u8 6)]
def laid_exchequer_level_room {H : Type} : DataW H := .agg [.lit (.int .i64 4), .lit (.int .i64 8), .lit (.int .i64 16)]

/-- 'exchequerlaw15.LevelScript': WHATEVER THE INPUT: true; the input reads as it did. -/
def levelScriptSpec : ChangeSpec := { name := "levelScript", fn := fun _ => fun
  | [d1, d2] => { results := [.lit (.bool true)], args := [d1, d2] }
  | _ => none }
def levelScriptRow : OpenClaim := { program := "ytcjapldhfolpnaagreatdoor", sum := "f9547431ecf7ca5fd7e7048307a08bb67cf861a67a4934b86bd108f5ad1849b6", func := "exchequer/exchequerlaw15.LevelScript", spec := "levelScript", inPlace := ["internal/bytealg.Compare", "slices.overlaps[exchequer/api.Run]"], unfollowed := true, recurses := true, named := ["math/bits.deBruijn64tab", "exchequer/level.room"], plainKeys := false, apart := false, laid := [("math/bits.deBruijn64tab", laid_math_bits_deBruijn64tab), ("exchequer/level.room", laid_exchequer_level_room)] }
def LevelScriptSaid : Prop := levelScriptRow.holds Tryz.pinned (OpenSpec.ofChange levelScriptSpec)

/-- ITS FALSE NEIGHBOUR: 'it returns false'. Refute it at one input. -/
def levelScriptWrong : ChangeSpec := { name := "levelScript", fn := fun _ => fun
  | [d1, d2] => { results := [.lit (.bool false)], args := [d1, d2] }
  | _ => none }
def LevelScriptWrongFalsely : Prop := levelScriptRow.holds Tryz.pinned (OpenSpec.ofChange levelScriptWrong)

/-- 'exchequerlaw15.LevelNone': WHATEVER THE INPUT: true; the input reads as it did. -/
def levelNoneSpec : ChangeSpec := { name := "levelNone", fn := fun _ => fun
  | [d] => { results := [.lit (.bool true)], args := [d] }
  | _ => none }
def levelNoneRow : OpenClaim := { program := "ytcjapldhfolpnaagreatdoor", sum := "f9547431ecf7ca5fd7e7048307a08bb67cf861a67a4934b86bd108f5ad1849b6", func := "exchequer/exchequerlaw15.LevelNone", spec := "levelNone", inPlace := ["internal/bytealg.Compare", "slices.overlaps[exchequer/api.Run]"], unfollowed := true, recurses := true, named := ["exchequer/level.room", "math/bits.deBruijn64tab"], plainKeys := false, apart := false, laid := [("math/bits.deBruijn64tab", laid_math_bits_deBruijn64tab), ("exchequer/level.room", laid_exchequer_level_room)] }
def LevelNoneSaid : Prop := levelNoneRow.holds Tryz.pinned (OpenSpec.ofChange levelNoneSpec)

/-- ITS FALSE NEIGHBOUR: 'it returns false'. Refute it at one input. -/
def levelNoneWrong : ChangeSpec := { name := "levelNone", fn := fun _ => fun
  | [d] => { results := [.lit (.bool false)], args := [d] }
  | _ => none }
def LevelNoneWrongFalsely : Prop := levelNoneRow.holds Tryz.pinned (OpenSpec.ofChange levelNoneWrong)

/-- 'exchequerlaw15.LevelMap': WHATEVER THE INPUT: true; the input reads as it did. -/
def levelMapSpec : ChangeSpec := { name := "levelMap", fn := fun _ => fun
  | [d1, d2] => { results := [.lit (.bool true)], args := [d1, d2] }
  | _ => none }
def levelMapRow : OpenClaim := { program := "ytcjapldhfolpnaagreatdoor", sum := "f9547431ecf7ca5fd7e7048307a08bb67cf861a67a4934b86bd108f5ad1849b6", func := "exchequer/exchequerlaw15.LevelMap", spec := "levelMap", inPlace := ["internal/bytealg.Compare", "slices.overlaps[exchequer/api.Run]"], unfollowed := true, recurses := true, named := ["exchequer/level.room", "math/bits.deBruijn64tab"], plainKeys := false, apart := false, laid := [("math/bits.deBruijn64tab", laid_math_bits_deBruijn64tab), ("exchequer/level.room", laid_exchequer_level_room)] }
def LevelMapSaid : Prop := levelMapRow.holds Tryz.pinned (OpenSpec.ofChange levelMapSpec)

/-- ITS FALSE NEIGHBOUR: 'it returns false'. Refute it at one input. -/
def levelMapWrong : ChangeSpec := { name := "levelMap", fn := fun _ => fun
  | [d1, d2] => { results := [.lit (.bool false)], args := [d1, d2] }
  | _ => none }
def LevelMapWrongFalsely : Prop := levelMapRow.holds Tryz.pinned (OpenSpec.ofChange levelMapWrong)

/- THE SECOND FORM. 'bulk': how many values and letters a reading holds, each counted each time it is reached (what is shared counts as often as it is met; a slice's spare places count too). A statement '..UptoSaid' is the law's where the arguments, and the package variables that the reading takes, are together of bulk at most 1048576: NARROWER than '..Said'. Prove '..Said' where nothing that the law and all that it calls make is longer than what came in: it says more and counts as full. Else prove '..UptoSaid'. A law counts once. -/
mutual
def uptoBulk {H : Type} : DataW H → Nat
  | .lit (.string bytes) => bytes.length + 1
  | .lit _ => 1
  | .nil => 1
  | .ptr d => uptoBulk d + 1
  | .slice elems spare => uptoBulkAll elems + uptoBulkAll spare + 1
  | .agg parts => uptoBulkAll parts + 1
  | .iface _ d => uptoBulk d + 1
  | .map entries => uptoBulkEntries entries + 1
  | .held _ => 1
def uptoBulkAll {H : Type} : List (DataW H) → Nat
  | [] => 0
  | d :: r => uptoBulk d + uptoBulkAll r
def uptoBulkEntries {H : Type} : List (Lit × DataW H) → Nat
  | [] => 0
  | x :: r => uptoBulkEntry x + uptoBulkEntries r
def uptoBulkEntry {H : Type} : Lit × DataW H → Nat
  | (.string bytes, d) => bytes.length + uptoBulk d + 1
  | (_, d) => uptoBulk d + 1
 end
def uptoSmall : (H : Type) → List (DataW H) → Bool := fun _ ds => decide (uptoBulkAll ds ≤ 1048576)
def OpenSpec.upto (s : _root_.Go.ChangeSpec) : _root_.Go.OpenSpec := { _root_.Go.OpenSpec.ofChange s with cond := some uptoSmall }

/-- 'exchequerlaw15.LevelScript', WHERE WHAT IT READS IS OF BULK AT MOST 1048576: true; the input reads as it did. -/
def levelScriptUptoRow : OpenClaim := { program := "ytcjapldhfolpnaagreatdoor", sum := "f9547431ecf7ca5fd7e7048307a08bb67cf861a67a4934b86bd108f5ad1849b6", func := "exchequer/exchequerlaw15.LevelScript", spec := "levelScript", inPlace := ["internal/bytealg.Compare", "slices.overlaps[exchequer/api.Run]"], unfollowed := true, recurses := true, named := ["math/bits.deBruijn64tab", "exchequer/level.room"], plainKeys := false, apart := false, laid := [("math/bits.deBruijn64tab", laid_math_bits_deBruijn64tab), ("exchequer/level.room", laid_exchequer_level_room)], narrowed := true }
def LevelScriptUptoSaid : Prop := levelScriptUptoRow.holds Tryz.pinned (OpenSpec.upto levelScriptSpec)

/-- 'exchequerlaw15.LevelNone', WHERE WHAT IT READS IS OF BULK AT MOST 1048576: true; the input reads as it did. -/
def levelNoneUptoRow : OpenClaim := { program := "ytcjapldhfolpnaagreatdoor", sum := "f9547431ecf7ca5fd7e7048307a08bb67cf861a67a4934b86bd108f5ad1849b6", func := "exchequer/exchequerlaw15.LevelNone", spec := "levelNone", inPlace := ["internal/bytealg.Compare", "slices.overlaps[exchequer/api.Run]"], unfollowed := true, recurses := true, named := ["exchequer/level.room", "math/bits.deBruijn64tab"], plainKeys := false, apart := false, laid := [("math/bits.deBruijn64tab", laid_math_bits_deBruijn64tab), ("exchequer/level.room", laid_exchequer_level_room)], narrowed := true }
def LevelNoneUptoSaid : Prop := levelNoneUptoRow.holds Tryz.pinned (OpenSpec.upto levelNoneSpec)

/-- 'exchequerlaw15.LevelMap', WHERE WHAT IT READS IS OF BULK AT MOST 1048576: true; the input reads as it did. -/
def levelMapUptoRow : OpenClaim := { program := "ytcjapldhfolpnaagreatdoor", sum := "f9547431ecf7ca5fd7e7048307a08bb67cf861a67a4934b86bd108f5ad1849b6", func := "exchequer/exchequerlaw15.LevelMap", spec := "levelMap", inPlace := ["internal/bytealg.Compare", "slices.overlaps[exchequer/api.Run]"], unfollowed := true, recurses := true, named := ["exchequer/level.room", "math/bits.deBruijn64tab"], plainKeys := false, apart := false, laid := [("math/bits.deBruijn64tab", laid_math_bits_deBruijn64tab), ("exchequer/level.room", laid_exchequer_level_room)], narrowed := true }
def LevelMapUptoSaid : Prop := levelMapUptoRow.holds Tryz.pinned (OpenSpec.upto levelMapSpec)

end Rows
end Go.Proofs.YtcjapldhfolpnaaGreatDoor

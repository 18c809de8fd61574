/-
  NARROWER THAN 'FOR EVERY INPUT', by the rows' own cells (each row's printed sentence says how): JournalNone: laid · JournalKnown: laid.
  DERIVED. THE GIVEN ROWS OF THIS SEAT. 2 by the template 'for every input the law returns true; each argument reads behind the call as it read before'; 0 by the template 'total and deterministic' (their statements: YtijpoipcadhchaaDoorTotals.lean).
  GIVEN WITH THE SEED: the statements are not yours to turn. If you find one false, say at which input.
  Laid BY PROGRAM, IN A SANDBOX (cutbox-rows.mjs): the forced cells as the released guide's own fill.sh prints them over the translation fe2ddeb9868ea1d1… (all of the seat's roots in one cut). By AI agents, Wed Nov 11 2026. No macro, syntax, notation, axiom, sorry.
-/
import Derived.Test.YtijpoipcadhchaaDoorChecked
import GoSem.Claim
import GoSem.ClaimJoined
import GoSem.ClaimMapViews
import Derived.JoinedTies
import Derived.KernelRfl
namespace Go.Proofs.YtijpoipcadhchaaDoor
/- THE CELL 'sum', in the pinned program and in every row, IS THE sha256 OF THE DUMP (.gsa) THAT YtijpoipcadhchaaDoorProg.lean LOADS. Nothing in Lean hashes anything: it is a label: what it is worth is what the hold of that sum in a sandbox is worth. -/
noncomputable def Tryd.pinned : Pinned := { name := "ytijpoipcadhchaadoor", sum := "fe2ddeb9868ea1d194fb61b598e79955e800d6c25275da328c32a6e6414ea2b9", checked := Tryd.checked }
namespace Rows
def none {H : Type} : Left H := { results := [], args := [] }

/- WHAT THE LISTED PACKAGE-LEVEL VARIABLES READ AS WHEN THE CALL BEGINS. Each datum BY PROGRAM (the guide's laid-datum.mjs) off the statement by which the dump's own 'gosem.cut.vars' lays the variable. In a bare row this is a premise. The card (YtijpoipcadhchaaDoorCards.lean) ties it to the program's text. -/
def laid_exchequer_header_fields {H : Type} : DataW H := .agg [.agg [.lit (.int .i64 32), .lit (.int .i64 1), .lit (.int .i64 31)], .agg [.lit (.int .i64 36), .lit (.int .i64 0), .lit (.int .i64 6)], .agg [.lit (.int .i64 40), .lit (.int .i64 0), .lit (.int .i64 1024)], .agg [.lit (.int .i64 44), .lit (.int .i64 0), .lit (.int .i64 1073741824)], .agg [.lit (.int .i64 48), .lit (.int .i64 0), .lit (.int .i64 1073741824)], .agg [.lit (.int .i64 52), .lit (.int .i64 0), .lit (.int .i64 1073741824)], .agg [.lit (.int .i64 56), .lit (.int .i64 0), .lit (.int .i64 1073741824)], .agg [.lit (.int .i64 60), .lit (.int .i64 0), .lit (.int .i64 1073741824)], .agg [.lit (.int .i64 64), .lit (.int .i64 0), .lit (.int .i64 1073741824)], .agg [.lit (.int .i64 84), .lit (.int .i64 0), .lit (.int .i64 1073741824)], .agg [.lit (.int .i64 88), .lit (.int .i64 0), .lit (.int .i64 1073741824)], .agg [.lit (.int .i64 100), .lit (.int .i64 0), .lit (.int .i64 1073741824)], .agg [.lit (.int .i64 104), .lit (.int .i64 0), .lit (.int .i64 1073741824)]]

/-- 'exchequerlaw08.JournalNone': WHATEVER THE INPUT: true; the input reads as it did. -/
def journalNoneSpec : ChangeSpec := { name := "journalNone", fn := fun _ => fun
  | [d1, d2] => { results := [.lit (.bool true)], args := [d1, d2] }
  | _ => none }
def journalNoneRow : OpenClaim := { program := "ytijpoipcadhchaadoor", sum := "fe2ddeb9868ea1d194fb61b598e79955e800d6c25275da328c32a6e6414ea2b9", func := "exchequer/exchequerlaw08.JournalNone", spec := "journalNone", unfollowed := true, recurses := true, named := ["exchequer/header.fields"], apart := false, laid := [("exchequer/header.fields", laid_exchequer_header_fields)] }
def JournalNoneSaid : Prop := journalNoneRow.holds Tryd.pinned (OpenSpec.ofChange journalNoneSpec)

/-- ITS FALSE NEIGHBOUR: 'it returns false'. Refute it at one input. -/
def journalNoneWrong : ChangeSpec := { name := "journalNone", fn := fun _ => fun
  | [d1, d2] => { results := [.lit (.bool false)], args := [d1, d2] }
  | _ => none }
def JournalNoneWrongFalsely : Prop := journalNoneRow.holds Tryd.pinned (OpenSpec.ofChange journalNoneWrong)

/-- 'exchequerlaw08.JournalKnown': WHATEVER THE INPUT: true; the input reads as it did. -/
def journalKnownSpec : ChangeSpec := { name := "journalKnown", fn := fun _ => fun
  | [] => { results := [.lit (.bool true)], args := [] }
  | _ => none }
def journalKnownRow : OpenClaim := { program := "ytijpoipcadhchaadoor", sum := "fe2ddeb9868ea1d194fb61b598e79955e800d6c25275da328c32a6e6414ea2b9", func := "exchequer/exchequerlaw08.JournalKnown", spec := "journalKnown", unfollowed := true, recurses := true, named := ["exchequer/header.fields"], apart := false, laid := [("exchequer/header.fields", laid_exchequer_header_fields)] }
def JournalKnownSaid : Prop := journalKnownRow.holds Tryd.pinned (OpenSpec.ofChange journalKnownSpec)

/-- ITS FALSE NEIGHBOUR: 'it returns false'. Refute it at one input. -/
def journalKnownWrong : ChangeSpec := { name := "journalKnown", fn := fun _ => fun
  | [] => { results := [.lit (.bool false)], args := [] }
  | _ => none }
def JournalKnownWrongFalsely : Prop := journalKnownRow.holds Tryd.pinned (OpenSpec.ofChange journalKnownWrong)

/- THE SECOND FORM. 'bulk': how many values and letters a reading holds, each counted each time it is reached (what is shared counts as often as it is met; a slice's spare places count too). A statement '..UptoSaid' is the law's where the arguments, and the package variables that the reading takes, are together of bulk at most 1048576: NARROWER than '..Said'. Prove '..Said' where nothing that the law and all that it calls make is longer than what came in: it says more and counts as full. Else prove '..UptoSaid'. A law counts once. -/
mutual
def uptoBulk {H : Type} : DataW H → Nat
  | .lit (.string bytes) => bytes.length + 1
  | .lit _ => 1
  | .nil => 1
  | .ptr d => uptoBulk d + 1
  | .slice elems spare => uptoBulkAll elems + uptoBulkAll spare + 1
  | .agg parts => uptoBulkAll parts + 1
  | .iface _ d => uptoBulk d + 1
  | .map entries => uptoBulkEntries entries + 1
  | .held _ => 1
def uptoBulkAll {H : Type} : List (DataW H) → Nat
  | [] => 0
  | d :: r => uptoBulk d + uptoBulkAll r
def uptoBulkEntries {H : Type} : List (Lit × DataW H) → Nat
  | [] => 0
  | x :: r => uptoBulkEntry x + uptoBulkEntries r
def uptoBulkEntry {H : Type} : Lit × DataW H → Nat
  | (.string bytes, d) => bytes.length + uptoBulk d + 1
  | (_, d) => uptoBulk d + 1
 end
def uptoSmall : (H : Type) → List (DataW H) → Bool := fun _ ds => decide (uptoBulkAll ds ≤ 1048576)
def OpenSpec.upto (s : _root_.Go.ChangeSpec) : _root_.Go.OpenSpec := { _root_.Go.OpenSpec.ofChange s with cond := some uptoSmall }

/-- 'exchequerlaw08.JournalNone', WHERE WHAT IT READS IS OF BULK AT MOST 1048576: true; the input reads as it did. -/
def journalNoneUptoRow : OpenClaim := { program := "ytijpoipcadhchaadoor", sum := "fe2ddeb9868ea1d194fb61b598e79955e800d6c25275da328c32a6e6414ea2b9", func := "exchequer/exchequerlaw08.JournalNone", spec := "journalNone", unfollowed := true, recurses := true, named := ["exchequer/header.fields"], apart := false, laid := [("exchequer/header.fields", laid_exchequer_header_fields)], narrowed := true }
def JournalNoneUptoSaid : Prop := journalNoneUptoRow.holds Tryd.pinned (OpenSpec.upto journalNoneSpec)

/-- 'exchequerlaw08.JournalKnown', WHERE WHAT IT READS IS OF BULK AT MOST 1048576: true; the input reads as it did. -/
def journalKnownUptoRow : OpenClaim := { program := "ytijpoipcadhchaadoor", sum := "fe2ddeb9868ea1d194fb61b598e79955e800d6c25275da328c32a6e6414ea2b9", func := "exchequer/exchequerlaw08.JournalKnown", spec := "journalKnown", unfollowed := true, recurses := true, named := ["exchequer/header.fields"], apart := false, laid := [("exchequer/header.fields", laid_exchequer_header_fields)], narrowed := true }
def JournalKnownUptoSaid : Prop := journalKnownUptoRow.holds Tryd.pinned (OpenSpec.upto journalKnownSpec)

end Rows
end Go.Proofs.YtijpoipcadhchaaDoor

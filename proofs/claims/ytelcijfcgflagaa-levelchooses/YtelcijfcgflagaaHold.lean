/-
  A law for the walk, not a claim by itself: a goal that the walk does not look into. By the verifier.
-/
import Derived.Test.YtelcijfcgflagaaReg
namespace Go.Proofs.Ytelcijfcgflagaa
/-- A goal that is held. -/
structure Held (p : Prop) : Prop where
  out : p
end Go.Proofs.Ytelcijfcgflagaa

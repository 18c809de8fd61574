/-
  Walks, not a claim by itself: a record of 19 cells, loaded and stored whole. By the verifier.
-/
import Derived.Test.YtlcnhmlcmedonaaBase
import Derived.Test.YtlcnhmlcmedonaaRec
import Derived.Deep.MidRow
namespace Go.Proofs.Ytlcnhmlcmedonaa
open Go.RowKit
/-- No record's cells. -/
def zero19 : List Value := [.int .u64 0, .int .u64 0, .int .u64 0, .int .u64 0, .int .u64 0, .int .u64 0, .int .u64 0, .int .u64 0, .int .u64 0, .int .u64 0, .int .u64 0, .int .u64 0, .int .u64 0, .int .u32 0, .int .u32 0, .int .u32 0, .int .u16 0, .int .u16 0, .int .u64 0]
theorem zero19_one : ∀ v ∈ zero19, v.oneCell' = true := by decide
end Go.Proofs.Ytlcnhmlcmedonaa

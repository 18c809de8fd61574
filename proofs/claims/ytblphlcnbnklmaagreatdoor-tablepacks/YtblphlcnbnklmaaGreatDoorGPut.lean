/-
  Not a claim by itself: laws on parts of records lie in Recs. By the verifier.
-/
import Derived.Test.YtblphlcnbnklmaaGreatDoorRecs
import Derived.Test.YtblphlcnbnklmaaGreatDoorGVal

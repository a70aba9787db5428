/-
  Kept here: the imports of what is known of a slice of bytes that comes in, beside the table of sizes.
-/
import Derived.Test.YtmklcghoeapfbaaDoorVCard
import Derived.Test.YtmklcghoeapfbaaDoorVGet
import Derived.Test.YtmklcghoeapfbaaDoorOp

/-
  A region that draws its order, whose operations read what was there and whose callees add memory alone: walked once, in the order of the text (the class of worlds: all that were added to).
-/
import Derived.Test.YtmifhlkcceafkaaGreatHPlain
import Derived.Deep.QuietTactic

namespace Go.Proofs.YtmifhlkcceafkaaGreat
open Go.RowKit
def Gr (W w : World) : Prop := Below W.heap.size W w
end Go.Proofs.YtmifhlkcceafkaaGreat

/-
  What draws: l71Bent draws a program in which something is not as it was.
-/
import Derived.Test.YtlbkgnmalhidmaaDoorDraw11
namespace Go.Proofs.YtlbkgnmalhidmaaDoor
open Go.RowKit

end Go.Proofs.YtlbkgnmalhidmaaDoor

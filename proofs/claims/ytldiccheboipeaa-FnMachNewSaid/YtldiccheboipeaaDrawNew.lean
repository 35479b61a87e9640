/-
  What draws: DrawHeapNew draws a program, some spoilt.
-/
import Derived.Test.YtldiccheboipeaaDrawAny
namespace Go.Proofs.Ytldiccheboipeaa
open Go.RowKit

end Go.Proofs.Ytldiccheboipeaa

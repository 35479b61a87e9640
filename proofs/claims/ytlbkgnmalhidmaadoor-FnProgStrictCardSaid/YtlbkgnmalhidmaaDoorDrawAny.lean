/-
  What draws: l71Any draws a program, some spoilt; DrawOpTakes a program and an operation.
-/
import Derived.Test.YtlbkgnmalhidmaaDoorDraw13
namespace Go.Proofs.YtlbkgnmalhidmaaDoor
open Go.RowKit

theorem obox_new (w : World) (k q : Int) : (w.alloc (.cells #[.int .i64 k, .int .i64 q] 47)).rowIs w.heap.size 47 2 (fun i => if i = 0 then .int .i64 k else .int .i64 q) :=
  ⟨_, Go.Deep.blk_alloc_new _ _, rfl, fun i hi => by match i, hi with | 0, _ => rfl | 1, _ => rfl⟩

end Go.Proofs.YtlbkgnmalhidmaaDoor

/-
  The comparisons that the exact laws make of values, calls and heaps: eqVal, eqValS, eqCall, eqCallS, eqHeap answer true where both hold the same; they write to nothing that was there.
-/
import Derived.Test.YtjbgpcileapogaaGreatProg
import Derived.Test.YtjbgpcileapogaaGreatRF
import Derived.Deep.RegionWith
namespace Go.Proofs.YtjbgpcileapogaaGreat
open Go.RowKit
def clCells (vt vs:Value) (c:Cl):Array Value:=#[.int .i64 c.m,.int .i64 c.pc,vt,vs,.int .i64 c.sender,.bool c.dead]
end Go.Proofs.YtjbgpcileapogaaGreat

/-
  The program's HeapOk answers the plain heapOk; it writes to nothing that was there.
-/
import Derived.Test.YtldiccheboipeaaHImpl5
import Derived.Test.YtldiccheboipeaaImplOk3
namespace Go.Proofs.Ytldiccheboipeaa
open Go.RowKit

theorem ops_few {ms : List (Int × Int × List (Int × Int))} (h : progOk ms = true) : ∀ i, (hi : i < ms.length) → ms[i].2.2.length ≤ 1000000 := fun i hi => by
  simp only [progOk, Bool.and_eq_true] at h
  have := List.all_eq_true.1 h.2 ms[i] (List.getElem_mem hi)
  simp only [methOk, Bool.and_eq_true, inR_true, decide_eq_true_iff] at this
  omega

end Go.Proofs.Ytldiccheboipeaa

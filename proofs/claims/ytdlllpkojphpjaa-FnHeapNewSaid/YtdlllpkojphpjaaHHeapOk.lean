/-
  The document's model of HeapOk, walked: it answers the plain function heapOk, and writes to nothing that was there.
-/
import Derived.Test.YtdlllpkojphpjaaHWait
import Derived.Deep.RegionWith
namespace Go.Proofs.Ytdlllpkojphpjaa
open Go.RowKit

/-- what is asked of a heap but for its calls -/
def headOk (ms : List (Int × Int × List (Int × Int))) (h : Hp) : Bool :=
  progOk ms && inR h.now (-1) ((h.calls.length : Int) - 1) && inR h.born 1 30 && decide ((h.calls.length : Int) ≤ h.born) && inR h.code 0 3 && valsOk ms.length h.said && ((h.code == 1) == decide (h.now < 0))

def liveN (cs : List Cl) : Nat := (cs.filter fun c => !c.dead).length

/-- the end of it: those that wait for one another are just those that have not returned; who waits has room -/
def endOk (h : Hp) : Bool := (decide (h.now < 0) || !(h.calls.getD h.now.toNat Cl.none).dead) && ((chainOf h.calls h.now).length == liveN h.calls) && roomP h.calls (chainOf h.calls h.now)

def heapOk (ms : List (Int × Int × List (Int × Int))) (h : Hp) : Bool := headOk ms h && h.calls.all (clOk ms h.calls.length) && endOk h

theorem heapOk_head {ms : List (Int × Int × List (Int × Int))} {h : Hp} (e : headOk ms h = false) : heapOk ms h = false := by simp [heapOk, e]
theorem heapOk_call {ms : List (Int × Int × List (Int × Int))} {h : Hp} {i : Nat} (hi : i < h.calls.length) (e : clOk ms h.calls.length h.calls[i] = false) : heapOk ms h = false := by
  simp only [heapOk, all_not hi e, Bool.and_false, Bool.false_and]
theorem heapOk_end {ms : List (Int × Int × List (Int × Int))} {h : Hp} (e : headOk ms h = true) (hc : ∀ i, (hi : i < h.calls.length) → clOk ms h.calls.length h.calls[i] = true) : heapOk ms h = endOk h := by
  simp only [heapOk, e, all_of hc, Bool.true_and]

theorem liveN_step {cs : List Cl} {k : Nat} (hk : k < cs.length) : liveN (cs.take (k + 1)) = liveN (cs.take k) + (if cs[k].dead then 0 else 1) := by
  unfold liveN
  rw [List.take_succ_eq_append_getElem hk, List.filter_append, List.length_append]
  congr 1
  by_cases e : cs[k].dead = true <;> simp [e]

end Go.Proofs.Ytdlllpkojphpjaa

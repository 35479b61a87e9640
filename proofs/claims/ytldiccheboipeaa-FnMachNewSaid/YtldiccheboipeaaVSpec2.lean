/-
  What is seen of a heap, by the model: l11Found answers the calls that can be come to.
-/
import Derived.Test.YtldiccheboipeaaVSpec
import Derived.Deep.QuietTactic
namespace Go.Proofs.Ytldiccheboipeaa
open Go.RowKit

/-- lists of calls that are not long -/
def Hp.short (h : Hp) : Prop := h.calls.length ≤ 1000 ∧ ∀ i, (hi : i < h.calls.length) → h.calls[i].temps.length ≤ 1000 ∧ h.calls[i].stack.length ≤ 1000

theorem fold_take {n : Nat} {ps : List Nat} {rs : List Int} {k : Nat} (h : k < rs.length) : (rs.take (k + 1)).foldl (comeP n) ps = comeP n ((rs.take k).foldl (comeP n) ps) rs[k] := by
  rw [List.take_add_one, List.getElem?_eq_getElem h, List.foldl_append]
  rfl

theorem PsOk.fold {n : Nat} : ∀ (rs : List Int) {ps : List Nat}, PsOk n ps → PsOk n (rs.foldl (comeP n) ps)
  | [], _, h => h
  | r :: t, _, h => PsOk.fold t (h.come r)

theorem PsOk.nil (n : Nat) : PsOk n [] := ⟨by simp, fun p hp => by cases hp⟩

end Go.Proofs.Ytldiccheboipeaa

/-
  What is seen of a heap, by the model: HeapView.
-/
import Derived.Test.YtldiccheboipeaaVSpec2
import Derived.Test.YtldiccheboipeaaVSpec3
import Derived.Test.YtldiccheboipeaaCallRow
import Derived.Deep.RegionHeld3
namespace Go.Proofs.Ytldiccheboipeaa
open Go.RowKit

theorem CallsAt.cl {w : World} {a : Option Addr} {n c : Nat} {cs : List Cl} (h : CallsAt w (.slice a n c) cs) {p : Nat} (hp : p < cs.length) : ∃ b o vt vs, a = some ⟨b, o, none⟩ ∧ ClAt w b (o + p * 6) vt vs cs[p] := by
  obtain ⟨a', c', e, _, hc⟩ := h
  obtain ⟨b, o, vt, vs, rfl, hx⟩ := hc p hp
  injection e with e1 e2 e3
  exact ⟨b, o, vt, vs, e1, hx⟩

/-- calls in memory from block B on: they stay where those blocks do -/
def CallsFrom (B : Nat) (w : World) (v : Value) (cs : List Cl) : Prop := ∀ w' : World, w.heap.size ≤ w'.heap.size → (∀ k, B ≤ k → k < w.heap.size → w'.heap[k]? = w.heap[k]?) → CallsAt w' v cs

theorem CallsFrom.at {B : Nat} {w : World} {v : Value} {cs : List Cl} (h : CallsFrom B w v cs) : CallsAt w v cs := h w (Nat.le_refl _) (fun _ _ _ => rfl)

theorem found_ok (h : Hp) : PsOk h.calls.length (found h) := by
  have key : ∀ (f j : Nat) (ps : List Nat), PsOk h.calls.length ps → PsOk h.calls.length (foundF h.calls f j ps) := by
    intro f
    induction f with
    | zero => intro j ps hp; exact hp
    | succ f ih =>
      intro j ps hp
      show PsOk _ (if hj : j < ps.length then foundF h.calls f (j + 1) (comeC h.calls.length ps (h.calls.getD ps[j] Cl.none)) else ps)
      split
      · exact ih _ _ (hp.comeC _)
      · exact hp
  exact key _ _ _ ((PsOk.nil _).come _)

end Go.Proofs.Ytldiccheboipeaa

/-
  What draws: the reader l6Rd and its pick. pick answers a number from 0 to n-1 and moves the reader on by one; nothing else that was there turns.
-/
import Derived.Test.YtnffknlgaiehdaaGreatDoorProg
import Derived.Test.YtnffknlgaiehdaaGreatDoorCopy2
import Derived.BigQuiet
import Derived.Deep.QuietTactic
import Derived.Laws.AppendOwn

namespace Go.Proofs.YtnffknlgaiehdaaGreatDoor
open Go.RowKit
structure Rd (w : World) (b : Nat) (a : Option Addr) (len cap p : Nat) : Prop where
  s : w.cell? ⟨b, 0, none⟩ = some (.slice a len cap)
  p : w.cell? ⟨b, 1, none⟩ = some (.int .i64 p)
  f : w.frozen? ⟨b, 1, none⟩ = false
  l : len ≤ 2000
  c : ∀ i, i < len → ∃ b' o x, a = some ⟨b', o, none⟩ ∧ b' ≠ b ∧ w.cell? ⟨b', o + i, none⟩ = some (.int .u8 x) ∧ 0 ≤ x ∧ x ≤ 255
theorem Rd.next {w : World} {b : Nat} {a : Option Addr} {len cap p q : Nat} (h : Rd w b a len cap p) : Rd (w.setCell ⟨b, 1, none⟩ (.int .i64 q)) b a len cap q := by
  have h1 := h.p
  refine ⟨?_, ?_, ?_, h.l, fun i hi => ?_⟩
  · rw [World.cell?_setCell_other _ _ _ _ (fun e => by have := congrArg Addr.off e; simp at this)]; exact h.s
  · exact World.cell?_setCell_same _ _ _ h1
  · rw [World.frozen?_setCell]; exact h.f
  · obtain ⟨b', o, x, ha, hb, hc, hx⟩ := h.c i hi
    exact ⟨b', o, x, ha, hb, by rw [World.cell?_setCell_other _ _ _ _ (fun e => by have := congrArg Addr.block e; simp at this; exact hb this.symm)]; exact hc, hx⟩
theorem Rd.drewN {w : World} {b : Nat} {a : Option Addr} {len cap p : Nat} (h : Rd w b a len cap p) (n : Nat) : Rd (w.drewN n) b a len cap p := ⟨h.s, h.p, h.f, h.l, h.c⟩
theorem grown_trans {w w1 w2 : World} {b : Nat} (h : w.grownBy w1 (some b)) (k : w1.grownBy w2 (some b)) : w.grownBy w2 (some b) :=
  ⟨k.os.trans h.os, k.tape.trans h.tape, k.output.trans h.output, Nat.le_trans h.size k.size, fun i hi hn => (k.block i (Nat.lt_of_lt_of_le hi h.size) hn).trans (h.block i hi hn)⟩
end Go.Proofs.YtnffknlgaiehdaaGreatDoor

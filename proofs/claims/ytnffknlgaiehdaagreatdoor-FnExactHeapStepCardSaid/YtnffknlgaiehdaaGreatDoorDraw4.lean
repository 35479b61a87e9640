/-
  What draws, the small pieces: operations are gathered in rows of their own; l71Args, l71End, l71Look, l71Ops answer some operations (we need not know which), and but for the reader's place nothing that was there turns.
-/
import Derived.Test.YtnffknlgaiehdaaGreatDoorDraw1
import Derived.Test.YtnffknlgaiehdaaGreatDoorHSize
import Derived.Deep.AppendLies
import Derived.Deep.RegionHeld3

namespace Go.Proofs.YtnffknlgaiehdaaGreatDoor
open Go.RowKit
theorem Rd.kept {w0 w w' : World} {b : Nat} {a : Option Addr} {len cap p0 p : Nat} {row : Option Nat} (h0 : Rd w0 b a len cap p0) (h : Rd w b a len cap p) (hsz : w0.heap.size ≤ w.heap.size) (k : w.grownBy w' row) (hrow : ∀ g, row = some g → w0.heap.size ≤ g) : Rd w' b a len cap p := by
  have hb : b < w0.heap.size := World.block_lt_of_cell? _ _ h0.s
  have ne : ∀ q, q < w0.heap.size → some q ≠ row := fun q hq e => by have := hrow q e.symm; omega
  refine ⟨k.cell h.s (ne b hb), k.cell h.p (ne b hb), ?_, h.l, fun i hi => ?_⟩
  · rw [World.frozen?_of_block (k.block b (by omega) (ne b hb))]; exact h.f
  · obtain ⟨b0, o0, x0, e0, _, hc0, _⟩ := h0.c i hi
    have hlt := World.block_lt_of_cell? _ _ hc0
    obtain ⟨b', o, x, e1, hb', hc, hx⟩ := h.c i hi
    have hbb : b' = b0 := by
      rw [e0] at e1
      injection e1 with e1
      injection e1 with e1 _
      exact e1.symm
    subst hbb
    exact ⟨b', o, x, e1, hb', k.cell hc (ne b' hlt), hx⟩
theorem grown_own {w0 w w' : World} {b : Nat} {row : Option Nat} (h : w0.grownBy w (some b)) (k : w.grownBy w' row) (hrow : ∀ g, row = some g → w0.heap.size ≤ g) : w0.grownBy w' (some b) :=
  ⟨k.os.trans h.os, k.tape.trans h.tape, k.output.trans h.output, Nat.le_trans h.size k.size, fun i hi hn => (k.block i (Nat.lt_of_lt_of_le hi h.size) (fun e => by have := hrow i e.symm; omega)).trans (h.block i hi hn)⟩
theorem grown_set (w : World) (g o : Nat) (v : Value) : w.grownBy (w.setCell ⟨g, o, none⟩ v) (some g) :=
  ⟨rfl, rfl, rfl, by simp [World.setCell], fun k _ hk => Below.heap_setCell _ _ _ _ (fun e => hk (by rw [e]))⟩
def Fit (nm : Nat) (t : Int) (o : Int × Int) : Prop := o.1 ≠ 7 ∧ o.1 ≠ 8 ∧ opOk nm 0 t o.1 o.2 = true
def Fits (nm : Nat) (t : Int) (l : List (Int × Int)) : Prop := ∀ o ∈ l, Fit nm t o
theorem Fits.nil {nm : Nat} {t : Int} : Fits nm t [] := fun _ h => by cases h
theorem Fits.append {nm : Nat} {t : Int} {l m : List (Int × Int)} (h : Fits nm t l) (k : Fits nm t m) : Fits nm t (l ++ m) := fun o e => by
  rcases List.mem_append.1 e with e | e
  · exact h o e
  · exact k o e
theorem Fits.one {nm : Nat} {t : Int} {o : Int × Int} (h : Fit nm t o) : Fits nm t [o] := fun q e => by
  have := List.mem_singleton.1 e
  rw [this]
  exact h
theorem fit_temp {nm : Nat} {t a : Int} (h0 : 0 ≤ a) (h1 : a < t) : Fit nm t (2, a) := ⟨by simp, by simp, by rw [opOk_2]; exact inR_true.2 ⟨h0, by omega⟩⟩
end Go.Proofs.YtnffknlgaiehdaaGreatDoor

/-
  What draws: l71Ops makes operations of numbers, two by two; what a pick is in the middle of a draw.
-/
namespace Go.Proofs.YtnffknlgaiehdaaGreatDoor
open Go.RowKit
end Go.Proofs.YtnffknlgaiehdaaGreatDoor

/-
  What draws: l71Look draws operations that look at a call.
-/
namespace Go.Proofs.YtnffknlgaiehdaaGreatDoor
open Go.RowKit
end Go.Proofs.YtnffknlgaiehdaaGreatDoor

/-
  What draws: l71Part draws operations that leave as many values as there were.
-/
namespace Go.Proofs.YtnffknlgaiehdaaGreatDoor
open Go.RowKit
end Go.Proofs.YtnffknlgaiehdaaGreatDoor

/-
  What draws: words for a method that is being drawn (its box, its operations, the box of the answer), and what each statement of l71Method does to them.
-/
namespace Go.Proofs.YtnffknlgaiehdaaGreatDoor
open Go.RowKit
theorem row_kept {w w' : World} {g : Nat} {t : TypeId} {n : Nat} {f : Nat → Value} {row : Option Nat} (hr : w.rowIs g t n f) (k : w.grownBy w' row) (hne : some g ≠ row) : w'.rowIs g t n f := hr.of_block (k.block g hr.lt hne)
theorem Rd.heap {w w' : World} {b : Nat} {a : Option Addr} {len cap p : Nat} (h : Rd w b a len cap p) (e : w'.heap = w.heap) : Rd w' b a len cap p := by
  have hc : ∀ q, w'.cell? q = w.cell? q := fun q => by simp [World.cell?, e]
  have hf : ∀ q, w'.frozen? q = w.frozen? q := fun q => by simp [World.frozen?, e]
  exact ⟨by rw [hc]; exact h.s, by rw [hc]; exact h.p, by rw [hf]; exact h.f, h.l, fun i hi => by
    obtain ⟨b', o, x, h1, h2, h3, h4⟩ := h.c i hi
    exact ⟨b', o, x, h1, h2, by rw [hc]; exact h3, h4⟩⟩
theorem Rd.alloc {w : World} {b : Nat} {a : Option Addr} {len cap p : Nat} (h : Rd w b a len cap p) (o : Obj) : Rd (w.alloc o) b a len cap p := Rd.kept h h (Nat.le_refl _) (World.grownBy_alloc w o none) (fun g e => by cases e)
end Go.Proofs.YtnffknlgaiehdaaGreatDoor

/-
  What draws: the bytes that come in, and the reader that is opened on them.
-/
import Derived.Test.YtldiccheboipeaaDraw10
namespace Go.Proofs.Ytldiccheboipeaa
open Go.RowKit

/-- bytes that came in -/
def BytesAt (w : World) (a : Option Addr) (len cap : Nat) : Prop :=
  len ≤ cap ∧ cap ≤ maxLen ∧ ∀ i, i < len → ∃ b o x, a = some ⟨b, o, none⟩ ∧ w.cell? ⟨b, o + i, none⟩ = some (.int .u8 x) ∧ 0 ≤ x ∧ x ≤ 255

theorem BytesAt.below {w w' : World} {a : Option Addr} {len cap : Nat} (h : BytesAt w a len cap) (hb : Below w.heap.size w w') : BytesAt w' a len cap := by
  refine ⟨h.1, h.2.1, fun i hi => ?_⟩
  obtain ⟨b, o, x, ha, hc, hx⟩ := h.2.2 i hi
  exact ⟨b, o, x, ha, cell_below hb hc, hx⟩

theorem rd_new {w : World} {a : Option Addr} {len cap n : Nat} (h : BytesAt w a len cap) (hn : n ≤ len) (hn2 : n ≤ 2000) : Rd (w.alloc (.cells #[.slice a n cap, .int .i64 0] 124)) w.heap.size a n cap 0 := by
  refine ⟨by simp [go_sem], by simp [go_sem], by simp [go_sem], hn2, fun i hi => ?_⟩
  obtain ⟨b, o, x, ha, hc, hx⟩ := h.2.2 i (by omega)
  have := World.block_lt_of_cell? _ _ hc
  exact ⟨b, o, x, ha, by simp at this; omega, cell_below ((Below.refl _ _).alloc (Nat.le_refl _) _) hc, hx⟩

set_option maxRecDepth 100000 in
theorem l6Open_any (w : World) (a : Option Addr) (len cap : Nat) (h : BytesAt w a len cap) :
    Calls Try.prog 29 #[.slice a len cap] w fun e w' => ∃ n, e = .returned (.pointer (some ⟨w.heap.size, 0, none⟩)) ∧ Rd w' w.heap.size a n cap 0 ∧ w'.heap.size = w.heap.size + 1 ∧ Below w.heap.size w w' := by
  have hc := h.1
  have hm := h.2.1
  unfold maxLen at hm
  by_cases hl : 2000 < len
  · have hlz : (2000 : Int) < (len : Int) := by omega
    have h20 : 2000 ≤ cap := by omega
    obtain ⟨b, o, x, ha, _⟩ := h.2.2 0 (by omega)
    subst ha
    have HB : Hid (BytesAt w (some ⟨b, o, none⟩) len cap) := h
    clear h
    go_enter Try.func29, Try.ntmps29
    go_wp2
    go_ret
    exact ⟨2000, rfl, rd_new HB.out (by omega) (by omega), by simp, (Below.refl _ _).alloc (Nat.le_refl _) _⟩
  · have hlz : (len : Int) ≤ 2000 := by omega
    have HB : Hid (BytesAt w a len cap) := h
    clear h
    go_enter Try.func29, Try.ntmps29
    go_wp2
    go_ret
    exact ⟨len, rfl, rd_new HB.out (Nat.le_refl _) (by omega), by simp, (Below.refl _ _).alloc (Nat.le_refl _) _⟩

/-- a drawn program, as a caller sees it: memory of its own, from block B on -/
structure Drawn (B : Nat) (w : World) (v : Value) (ms : List MM) : Prop where
  row : PRow B w v ms
  few : ms.length ≤ 7
  ops : ∀ m ∈ ms, m.2.2.2.length ≤ 14

theorem Drawn.kept {B : Nat} {w w' : World} {v : Value} {ms : List MM} (h : Drawn B w v ms) {b : Nat} (hg : w.grownBy w' (some b)) (hb : b < B) : Drawn B w' v ms := ⟨h.row.low hg hb, h.few, h.ops⟩
theorem Drawn.below {B : Nat} {w w' : World} {v : Value} {ms : List MM} (h : Drawn B w v ms) (hb : Below w.heap.size w w') : Drawn B w' v ms := ⟨h.row.kept (below_grown hb none) (fun g e => by cases e), h.few, h.ops⟩
theorem Drawn.mono {B B' : Nat} {w : World} {v : Value} {ms : List MM} (h : Drawn B w v ms) (hB : B' ≤ B) : Drawn B' w v ms := ⟨h.row.mono hB, h.few, h.ops⟩
theorem Drawn.meths {B : Nat} {w : World} {v : Value} {ms : List MM} (h : Drawn B w v ms) : MethsAt w v (plainOf ms) :=
  h.row.meths (by have := h.few; unfold maxLen; omega) (fun m hm => by have := h.ops m hm; unfold maxLen; omega)

end Go.Proofs.Ytldiccheboipeaa

/-
  Rows of pairs, the reader and its bytes, for what draws turns.
-/
import Derived.Test.YtpmgniabbbgmoaaTurns
import Derived.Test.YtpmgniabbbgmoaaCRow
import Derived.Test.YtpmgniabbbgmoaaDraw1
import Derived.Test.YtpmgniabbbgmoaaOpen
import Derived.Deep.AppendLies
import Derived.Deep.RegionHeld3

namespace Go.Proofs.Ytpmgniabbbgmoaa
open Go.RowKit

def pcells (ops : List (Int × Int)) : List Value := ops.flatMap fun o => [.int .i64 o.1, .int .i64 o.2]

theorem pcells_append (a b : List (Int × Int)) : pcells (a ++ b) = pcells a ++ pcells b := by simp [pcells]
theorem pcells_length (a : List (Int × Int)) : (pcells a).length = a.length * 2 := by
  induction a with
  | nil => rfl
  | cons x l ih => simp [pcells] at ih ⊢; omega
theorem pcells_at (a : List (Int × Int)) : ∀ (i : Nat) (h : i < a.length), (pcells a)[i * 2]? = some (.int .i64 a[i].1) ∧ (pcells a)[i * 2 + 1]? = some (.int .i64 a[i].2) := by
  induction a with
  | nil => intro i h; exact absurd h (Nat.not_lt_zero _)
  | cons x l ih =>
    intro i h
    cases i with
    | zero => exact ⟨rfl, rfl⟩
    | succ i =>
      have := ih i (by simpa using h)
      rw [show (i + 1) * 2 = i * 2 + 2 by omega]
      exact this
theorem pcells_one (M : List (Int × Int)) : ∀ u ∈ pcells M, u.oneCell' = true := by
  intro u hu
  simp only [pcells, List.mem_flatMap] at hu
  obtain ⟨x, _, hx⟩ := hu
  simp at hx
  rcases hx with rfl | rfl <;> rfl

theorem PairRow.crow {B : Nat} {w : World} {v : Value} {ops : List (Int × Int)} (h : PairRow B w v ops) : CRow B 2 w v ops.length (pcells ops) := by
  refine ⟨pcells_length ops, ?_⟩
  rcases h with ⟨rfl, rfl⟩ | ⟨g, off, cap, rfl, hB, hg, hl, hc, hsp, hx⟩
  · exact .inl ⟨rfl, rfl⟩
  · refine .inr ⟨g, off, cap, rfl, hB, hg, hl, hc, hsp, fun i hi => ?_⟩
    rw [pcells_length] at hi
    have h2 := pcells_at ops (i / 2) (by omega)
    have h3 := hx (i / 2) (by omega)
    rcases Nat.mod_two_eq_zero_or_one i with hm | hm
    · rw [show i / 2 * 2 = i by omega] at h2
      rw [show off + i / 2 * 2 = off + i by omega] at h3
      rw [h3.1, ← h2.1, List.getElem?_eq_getElem]
    · rw [show i / 2 * 2 + 1 = i by omega] at h2
      rw [show off + i / 2 * 2 + 1 = off + i by omega] at h3
      rw [h3.2, ← h2.2, List.getElem?_eq_getElem]

theorem CRow.pair {B : Nat} {w : World} {v : Value} {n : Nat} {ops : List (Int × Int)} (hn : n = ops.length) (h : CRow B 2 w v n (pcells ops)) : PairRow B w v ops := by
  subst hn
  rcases h.2 with ⟨rfl, e⟩ | ⟨g, off, cap, rfl, hB, hg, hl, hc, hsp, hx⟩
  · exact .inl ⟨rfl, List.eq_nil_of_length_eq_zero e⟩
  · refine .inr ⟨g, off, cap, rfl, hB, hg, hl, hc, hsp, fun i hi => ?_⟩
    have h2 := pcells_at ops i hi
    have hp := pcells_length ops
    have h3 := hx (i * 2) (by omega)
    have h4 := hx (i * 2 + 1) (by omega)
    rw [← Nat.add_assoc] at h4
    rw [h3, h4, ← List.getElem?_eq_getElem, ← List.getElem?_eq_getElem, h2.1, h2.2]
    exact ⟨rfl, rfl⟩

/-- what values in memory yield to an append -/
theorem src_vals {P : Program} {tx e' : TypeId} (hk : P.underlying tx = some (.slice e')) {w : World} {v : Value} {ops : List (Int × Int)} (h : OpsAt w v ops) : Src P 2 tx v ops.length (pcells ops) w := by
  obtain ⟨a, cap, rfl, hl, hc⟩ := h
  cases a with
  | none =>
    cases ops with
    | nil => exact Src.ofNil w hk cap
    | cons x l =>
      obtain ⟨b, o, e, _⟩ := hc 0 (by simp)
      cases e
  | some ad =>
    refine Src.ofSlice w hk ad _ cap _ (pcells_length _) (fun j u hu => ?_) (pcells_one _)
    have hj : j < (pcells ops).length := by
      by_cases h : j < (pcells ops).length
      · exact h
      · rw [List.getElem?_eq_none (by omega)] at hu; cases hu
    rw [pcells_length] at hj
    obtain ⟨b, o, e, h0, h1⟩ := hc (j / 2) (by omega)
    obtain rfl : ad = ⟨b, o, none⟩ := by injection e
    rw [Addr.add_lit]
    have h2 := pcells_at ops (j / 2) (by omega)
    rcases Nat.mod_two_eq_zero_or_one j with hm | hm
    · rw [show o + j / 2 * 2 = o + j by omega] at h0
      rw [show j / 2 * 2 = j by omega] at h2
      rw [h0, ← h2.1]; exact hu
    · rw [show o + j / 2 * 2 + 1 = o + j by omega] at h1
      rw [show j / 2 * 2 + 1 = j by omega] at h2
      rw [h1, ← h2.2]; exact hu

theorem PairRow.made {B : Nat} {w : World} {e : TypeId} (hB : B ≤ w.heap.size) : PairRow B (w.alloc (.cells #[] e)) (.slice (some ⟨w.heap.size, 0, none⟩) 0 0) [] := (CRow.made hB).pair rfl

/-- two cells in a row -/
def two (x0 x1 : Value) : Nat → Value := fun i => if i = 0 then x0 else x1

theorem two_new (w : World) (t : TypeId) (x0 x1 : Value) : (w.alloc (.cells #[x0, x1] t)).rowIs w.heap.size t 2 (two x0 x1) :=
  ⟨_, Go.Deep.blk_alloc_new _ _, rfl, fun i hi => by match i, hi with | 0, _ => rfl | 1, _ => rfl⟩

theorem two_cells {w : World} {g : Nat} {t : TypeId} {x0 x1 : Value} (h : w.rowIs g t 2 (two x0 x1)) : (w.cell? ⟨g, 0, none⟩ = some x0 ∧ w.cell? ⟨g, 1, none⟩ = some x1) ∧ (w.frozen? ⟨g, 0, none⟩ = false ∧ w.frozen? ⟨g, 1, none⟩ = false) :=
  ⟨⟨h.cell (i := 0) (by decide), h.cell (i := 1) (by decide)⟩, h.frozen 0, h.frozen 1⟩

theorem Rd.kept {w0 w w' : World} {b : Nat} {a : Option Addr} {len cap p0 p : Nat} {row : Option Nat} (h0 : Rd w0 b a len cap p0) (h : Rd w b a len cap p) (hsz : w0.heap.size ≤ w.heap.size) (k : w.grownBy w' row) (hrow : ∀ g, row = some g → w0.heap.size ≤ g) : Rd w' b a len cap p := by
  have hb : b < w0.heap.size := World.block_lt_of_cell? _ _ h0.s
  have ne : ∀ q, q < w0.heap.size → some q ≠ row := fun q hq e => by have := hrow q e.symm; omega
  refine ⟨k.cell h.s (ne b hb), k.cell h.p (ne b hb), ?_, h.l, fun i hi => ?_⟩
  · rw [World.frozen?_of_block (k.block b (by omega) (ne b hb))]; exact h.f
  · obtain ⟨b0, o0, x0, e0, _, hc0, _⟩ := h0.c i hi
    have hlt := World.block_lt_of_cell? _ _ hc0
    obtain ⟨b', o, x, e1, hb', hc, hx⟩ := h.c i hi
    have hbb : b' = b0 := by
      rw [e0] at e1
      injection e1 with e1
      injection e1 with e1 _
      exact e1.symm
    subst hbb
    exact ⟨b', o, x, e1, hb', k.cell hc (ne b' hlt), hx⟩

theorem below_grown {w w' : World} (h : Below w.heap.size w w') (b : Option Nat) : w.grownBy w' b := ⟨h.os, h.tape, h.output, h.size, fun k hk _ => h.block k hk⟩

theorem row_kept {w w' : World} {g : Nat} {t : TypeId} {n : Nat} {f : Nat → Value} {row : Option Nat} (hr : w.rowIs g t n f) (k : w.grownBy w' row) (hne : some g ≠ row) : w'.rowIs g t n f := hr.of_block (k.block g hr.lt hne)

theorem Rd.alloc {w : World} {b : Nat} {a : Option Addr} {len cap p : Nat} (h : Rd w b a len cap p) (o : Obj) : Rd (w.alloc o) b a len cap p := Rd.kept h h (Nat.le_refl _) (World.grownBy_alloc w o none) (fun g e => by cases e)

theorem PairRow.piece {B : Nat} {w : World} {a : Option Addr} {n cap : Nat} {xs : List (Int × Int)} (h : PairRow B w (.slice a n cap) xs) {l k : Nat} (hl : l ≤ k) (hk : k ≤ xs.length) : OpsAt w (sliced a l k cap 2) ((xs.take k).drop l) ∧ k ≤ cap := by
  rcases h with ⟨h0, rfl⟩ | ⟨g, off, cp, hv, hB, hg, hlc, hc, hsp, hx⟩
  · injection h0 with e1 e2 e3
    subst e1 e2 e3
    obtain rfl : k = 0 := by simpa using hk
    obtain rfl : l = 0 := by omega
    exact ⟨⟨_, _, rfl, by simp, fun i hi => absurd hi (by simp)⟩, Nat.le_refl _⟩
  · injection hv with e1 e2 e3
    subst e1 e2 e3
    refine ⟨?_, by omega⟩
    have hlen : ((xs.take k).drop l).length = k - l := by simp; omega
    by_cases e : l = cap
    · have hkl : k - l = 0 := by omega
      have hn : (xs.take k).drop l = [] := List.eq_nil_of_length_eq_zero (by omega)
      rw [hn]
      unfold sliced
      exact ⟨_, _, by rw [List.length_nil, ← hkl], by simp, fun i hi => absurd hi (by simp)⟩
    · unfold sliced
      refine ⟨_, _, by rw [hlen], by rw [hlen]; unfold maxLen at *; omega, fun i hi => ?_⟩
      rw [hlen] at hi
      have hi2 : l + i < xs.length := by omega
      obtain ⟨y0, y1⟩ := hx (l + i) hi2
      refine ⟨g, off + l * 2, ?_, ?_, ?_⟩
      · rw [if_neg (by omega)]
        simp [Addr.add]
      · rw [show off + l * 2 + i * 2 = off + (l + i) * 2 by omega, y0]
        simp
      · rw [show off + l * 2 + i * 2 + 1 = off + (l + i) * 2 + 1 by omega, y1]
        simp

theorem turn_from (w : World) (a : Option Addr) (n cap k : Nat) (hk : k ≤ n) : (Instr.slice 23 (.slice a n cap) (some (.int .i64 (k : Int))) none none).run Try.prog w = .ok (sliced a k n cap 2) w := by
  have hs : ∀ w, (sizeOf (Try.prog.elem 23)).run Try.prog w = .ok 2 w := fun w => by kernel_rfl
  rw [run_slice_l w 23 a n cap (by kernel_rfl) .i64 k (by omega) (by omega)]
  simp [hs, Result.andThen]

theorem turn_to (w : World) (a : Option Addr) (n cap k : Nat) (hk : k ≤ cap) : (Instr.slice 23 (.slice a n cap) none (some (.int .i64 (k : Int))) none).run Try.prog w = .ok (sliced a 0 k cap 2) w := by
  have hs : ∀ w, (sizeOf (Try.prog.elem 23)).run Try.prog w = .ok 2 w := fun w => by kernel_rfl
  rw [run_slice_h w 23 a n cap (by kernel_rfl) .i64 k (by omega) (by omega)]
  simp [hs, Result.andThen]

/-- bytes that came in -/
def BytesAt (w : World) (a : Option Addr) (len cap : Nat) : Prop :=
  len ≤ cap ∧ cap ≤ maxLen ∧ ∀ i, i < len → ∃ b o x, a = some ⟨b, o, none⟩ ∧ w.cell? ⟨b, o + i, none⟩ = some (.int .u8 x) ∧ 0 ≤ x ∧ x ≤ 255

theorem BytesAt.below {w w' : World} {a : Option Addr} {len cap : Nat} (h : BytesAt w a len cap) (hb : Below w.heap.size w w') : BytesAt w' a len cap := by
  refine ⟨h.1, h.2.1, fun i hi => ?_⟩
  obtain ⟨b, o, x, ha, hc, hx⟩ := h.2.2 i hi
  exact ⟨b, o, x, ha, cell_below hb hc, hx⟩

theorem rd_new {w : World} {a : Option Addr} {len cap n : Nat} (h : BytesAt w a len cap) (hn : n ≤ len) (hn2 : n ≤ 2000) : Rd (w.alloc (.cells #[.slice a n cap, .int .i64 0] 46)) w.heap.size a n cap 0 := by
  refine ⟨by simp [go_sem], by simp [go_sem], by simp [go_sem], hn2, fun i hi => ?_⟩
  obtain ⟨b, o, x, ha, hc, hx⟩ := h.2.2 i (by omega)
  have := World.block_lt_of_cell? _ _ hc
  exact ⟨b, o, x, ha, by simp at this; omega, cell_below ((Below.refl _ _).alloc (Nat.le_refl _) _) hc, hx⟩

set_option maxRecDepth 100000 in
theorem l6Open_any (w : World) (a : Option Addr) (len cap : Nat) (h : BytesAt w a len cap) :
    Calls Try.prog 11 #[.slice a len cap] w fun e w' => ∃ n, e = .returned (.pointer (some ⟨w.heap.size, 0, none⟩)) ∧ Rd w' w.heap.size a n cap 0 ∧ w'.heap.size = w.heap.size + 1 ∧ Below w.heap.size w w' := by
  have hc := h.1
  have hm := h.2.1
  unfold maxLen at hm
  by_cases hl : 2000 < len
  · have hlz : (2000 : Int) < (len : Int) := by omega
    have h20 : 2000 ≤ cap := by omega
    obtain ⟨b, o, x, ha, _⟩ := h.2.2 0 (by omega)
    subst ha
    have HB : Hid (BytesAt w (some ⟨b, o, none⟩) len cap) := h
    clear h
    go_enter Try.func11, Try.ntmps11
    go_wp2
    go_ret
    exact ⟨2000, rfl, rd_new HB.out (by omega) (by omega), by simp, (Below.refl _ _).alloc (Nat.le_refl _) _⟩
  · have hlz : (len : Int) ≤ 2000 := by omega
    have HB : Hid (BytesAt w a len cap) := h
    clear h
    go_enter Try.func11, Try.ntmps11
    go_wp2
    go_ret
    exact ⟨len, rfl, rd_new HB.out (Nat.le_refl _) (by omega), by simp, (Below.refl _ _).alloc (Nat.le_refl _) _⟩

open Go.ChangeShapes Go.WideShapes Go.Deep

section
variable {H : Type} {enc : TypeId × Value → H} {P : Program} {w : World} {base : Nat} {spare : Nat → Bool} {held : Bool}

theorem bytesAt_of {t e : TypeId} {fuel : Nat} {v : Value} {x : DataW H × List MemPlace} (ht : P.underlying t = some (.slice e)) (he : P.underlying e = some (.int .u8)) (ce : P.cellsOf e = 1)
    (h : DataW.trod enc P w base spare held fuel t [v] = some x) : ∃ a len cap, v = .slice a len cap ∧ BytesAt w a len cap := by
  rcases open_slice ht h with ⟨hcs, _⟩ | ⟨a, len, cap, m, n, D, Pl, hcs, _, hl, hm, hmm, _, hx⟩
  · exact ⟨none, 0, 0, by simpa using hcs, Nat.le_refl _, Nat.zero_le _, fun i hi => absurd hi (Nat.not_lt_zero _)⟩
  · have hlm : len ≤ m := by rw [hmm]; split <;> omega
    refine ⟨some a, len, cap, by simpa using hcs, hl, hm, ?_⟩
    have each : ∀ i, i < len → ∃ y : Int, w.cell? (a.add i) = some (.int .u8 y) ∧ 0 ≤ y ∧ y ≤ 255 := by
      intro i hi
      obtain ⟨cs', h1, h2⟩ := hx i (by omega)
      rw [ce] at h1
      obtain ⟨_, hlen, hcell⟩ := World.cells?_some h1
      obtain ⟨y, rfl, _, hwf⟩ := DataW.trod_int he h2
      have q0 := hcell 0 (by omega)
      rw [add_add] at q0
      have hr : 0 ≤ y ∧ y ≤ 255 := by
        have h2 : (decide (IntKind.u8.min ≤ y) && decide (y ≤ IntKind.u8.max)) = true := hwf
        rw [Bool.and_eq_true] at h2
        exact ⟨of_decide_eq_true h2.1, of_decide_eq_true h2.2⟩
      exact ⟨y, by simpa using q0, hr.1, hr.2⟩
    intro i hi
    obtain ⟨y, hy, hy0, hy1⟩ := each i hi
    obtain ⟨y', hy', _⟩ := each 0 (by omega)
    obtain ⟨b, o, rfl⟩ := plain_of hy'
    rw [add_plain] at hy
    exact ⟨b, o, y, rfl, hy, hy0, hy1⟩

end

end Go.Proofs.Ytpmgniabbbgmoaa

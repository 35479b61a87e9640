/-
  What draws: the bytes that come in, and the reader that is opened on them.
-/
import Derived.Test.YtldiccheboipeaaDraw10
import Derived.Test.YtldiccheboipeaaDraw12
import Derived.Deep.RegionLaw
import Derived.Deep.DeepCutAuto
import Derived.Test.YtldiccheboipeaaIntsM

namespace Go.Proofs.Ytldiccheboipeaa
open Go.RowKit
def BytesAt (w : World) (a : Option Addr) (len cap : Nat) : Prop :=
  len ≤ cap ∧ cap ≤ maxLen ∧ ∀ i, i < len → ∃ b o x, a = some ⟨b, o, none⟩ ∧ w.cell? ⟨b, o + i, none⟩ = some (.int .u8 x) ∧ 0 ≤ x ∧ x ≤ 255
theorem BytesAt.below {w w' : World} {a : Option Addr} {len cap : Nat} (h : BytesAt w a len cap) (hb : Below w.heap.size w w') : BytesAt w' a len cap := by
  refine ⟨h.1, h.2.1, fun i hi => ?_⟩
  obtain ⟨b, o, x, ha, hc, hx⟩ := h.2.2 i hi
  exact ⟨b, o, x, ha, cell_below hb hc, hx⟩
theorem rd_new {w : World} {a : Option Addr} {len cap n : Nat} (h : BytesAt w a len cap) (hn : n ≤ len) (hn2 : n ≤ 2000) : Rd (w.alloc (.cells #[.slice a n cap, .int .i64 0] 124)) w.heap.size a n cap 0 := by
  refine ⟨by simp [go_sem], by simp [go_sem], by simp [go_sem], hn2, fun i hi => ?_⟩
  obtain ⟨b, o, x, ha, hc, hx⟩ := h.2.2 i (by omega)
  have := World.block_lt_of_cell? _ _ hc
  exact ⟨b, o, x, ha, by simp at this; omega, cell_below ((Below.refl _ _).alloc (Nat.le_refl _) _) hc, hx⟩
set_option maxRecDepth 100000 in
theorem l6Open_any (w : World) (a : Option Addr) (len cap : Nat) (h : BytesAt w a len cap) :
    Calls Try.prog 29 #[.slice a len cap] w fun e w' => ∃ n, e = .returned (.pointer (some ⟨w.heap.size, 0, none⟩)) ∧ Rd w' w.heap.size a n cap 0 ∧ w'.heap.size = w.heap.size + 1 ∧ Below w.heap.size w w' := by
  have hc := h.1
  have hm := h.2.1
  unfold maxLen at hm
  by_cases hl : 2000 < len
  · have hlz : (2000 : Int) < (len : Int) := by omega
    have h20 : 2000 ≤ cap := by omega
    obtain ⟨b, o, x, ha, _⟩ := h.2.2 0 (by omega)
    subst ha
    have HB : Hid (BytesAt w (some ⟨b, o, none⟩) len cap) := h
    clear h
    go_enter Try.func29, Try.ntmps29
    go_wp2
    go_ret
    exact ⟨2000, rfl, rd_new HB.out (by omega) (by omega), by simp, (Below.refl _ _).alloc (Nat.le_refl _) _⟩
  · have hlz : (len : Int) ≤ 2000 := by omega
    have HB : Hid (BytesAt w a len cap) := h
    clear h
    go_enter Try.func29, Try.ntmps29
    go_wp2
    go_ret
    exact ⟨len, rfl, rd_new HB.out (Nat.le_refl _) (by omega), by simp, (Below.refl _ _).alloc (Nat.le_refl _) _⟩
structure Drawn (B : Nat) (w : World) (v : Value) (ms : List MM) : Prop where
  row : PRow B w v ms
  few : ms.length ≤ 7
  ops : ∀ m ∈ ms, m.2.2.2.length ≤ 14
theorem Drawn.kept {B : Nat} {w w' : World} {v : Value} {ms : List MM} (h : Drawn B w v ms) {b : Nat} (hg : w.grownBy w' (some b)) (hb : b < B) : Drawn B w' v ms := ⟨h.row.low hg hb, h.few, h.ops⟩
theorem Drawn.below {B : Nat} {w w' : World} {v : Value} {ms : List MM} (h : Drawn B w v ms) (hb : Below w.heap.size w w') : Drawn B w' v ms := ⟨h.row.kept (below_grown hb none) (fun g e => by cases e), h.few, h.ops⟩
theorem Drawn.mono {B B' : Nat} {w : World} {v : Value} {ms : List MM} (h : Drawn B w v ms) (hB : B' ≤ B) : Drawn B' w v ms := ⟨h.row.mono hB, h.few, h.ops⟩
theorem Drawn.meths {B : Nat} {w : World} {v : Value} {ms : List MM} (h : Drawn B w v ms) : MethsAt w v (plainOf ms) :=
  h.row.meths (by have := h.few; unfold maxLen; omega) (fun m hm => by have := h.ops m hm; unfold maxLen; omega)
end Go.Proofs.Ytldiccheboipeaa

/-
  What draws: l71Any draws a program, some spoilt; DrawOpTakes a program and an operation.
-/
namespace Go.Proofs.Ytldiccheboipeaa
open Go.RowKit
set_option maxRecDepth 100000 in
set_option maxHeartbeats 2000000 in
theorem l71Any_any (w : World) (b : Nat) (a : Option Addr) (len cap p : Nat) (hr : Rd w b a len cap p) (hp : p + 500 ≤ 1000000) :
    Calls Try.prog 30 #[.pointer (some ⟨b, 0, none⟩)] w fun e w' => ∃ (v : Value) (ms : List MM) (p' : Nat), e = .returned (.agg #[v]) ∧ Drawn w.heap.size w' v ms ∧ p ≤ p' ∧ p' ≤ p + 500 ∧ Rd w' b a len cap p' ∧ w.grownBy w' (some b) := by
  have hbw : b < w.heap.size := World.block_lt_of_cell? _ _ hr.s
  have hr2 := hr.alloc (.cells #[.slice none 0 0] 25)
  have g2 := grown_alloc (grown_refl w (some b)) (.cells #[.slice none 0 0] 25)
  have r2 := pbox_new w (.slice none 0 0)
  have z2 : (w.alloc (.cells #[.slice none 0 0] 25)).heap.size = w.heap.size + 1 := by simp
  go_enter Try.func30, Try.ntmps30
  go_wp2_with fail
  generalize w.alloc (.cells #[.slice none 0 0] 25) = w2 at *
  refine (l71Prog_any _ _ _ _ _ _ hr2 (by omega)).mono ?_
  rintro e w3 ⟨v3, ms3, p3, rfl, hp3, hl2, hl4, hmo, hq3, hq3', hr3, hg3⟩
  have r3 := row_kept r2 hg3 (by simp; omega)
  have g3 := grown_trans g2 hg3
  have z3 := hg3.size
  obtain ⟨aV, cV, hvV⟩ := hp3.shape
  subst hvV
  clear hr2 hg3 r2 g2
  go_wp2_with fail
  have hA4 := World.grownBy_alloc w3 (.cells #[.slice aV ms3.length cV] 25) none
  have r4 := r3.alloc (.cells #[.slice aV ms3.length cV] 25)
  have hr4 := hr3.alloc (.cells #[.slice aV ms3.length cV] 25)
  have hp4 := hp3.kept hA4 (fun g e => by cases e)
  have g4 := grown_alloc g3 (.cells #[.slice aV ms3.length cV] 25)
  have x4 := pbox_new w3 (.slice aV ms3.length cV)
  have z4 : (w3.alloc (.cells #[.slice aV ms3.length cV] 25)).heap.size = w3.heap.size + 1 := by simp
  generalize w3.alloc (.cells #[.slice aV ms3.length cV] 25) = w4 at *
  refine (pick_any _ _ _ _ _ _ 12 hr4 (by omega) (by omega) (by omega)).mono ?_
  rintro e w5 ⟨x, rfl, hx0, hx1, hr5, hg5⟩
  have r5 := row_kept r4 hg5 (by simp; omega)
  have hp5 := hp4.low hg5 (by omega)
  have g5 := grown_trans g4 hg5
  have z5 := hg5.size
  have x5 := (row_kept x4 hg5 (by simp; omega)).cell (i := 0) (by decide)
  clear hA4 r3 r4 hr3 hr4 hp3 hp4 g3 g4 hg5 x4
  by_cases hx : x = 0
  · subst hx
    go_wp2_with fail
    refine (l71Bent_any _ _ _ _ _ _ hr5 (by omega) w2.heap.size (by omega) _ ms3 hp5 hl2 hl4 hmo).mono ?_
    rintro e w6 ⟨v6, ms6, p6, rfl, hp6, hf6, ho6, hq6, hq6', hr6, hg6⟩
    have r6 := row_kept r5 hg6 (by simp; omega)
    have g6 := grown_trans g5 hg6
    have z6 := hg6.size
    have rc := r6.cell (i := 0) (by decide)
    have rf := r6.frozen 0
    obtain ⟨aW, cW, hvW⟩ := hp6.shape
    subst hvW
    have k7 := grown_set w6 w.heap.size 0 (.slice aW ms6.length cW)
    have D6 : Drawn w.heap.size (w6.setCell ⟨w.heap.size, 0, none⟩ (.slice aW ms6.length cW)) (.slice aW ms6.length cW) ms6 := (Drawn.kept ⟨hp6, hf6, ho6⟩ k7 (by omega)).mono (by omega)
    have hr7 := Rd.kept hr hr6 (by omega) k7 (fun g e => by cases e; exact Nat.le_refl _)
    have g7 := grown_own g6 k7 (fun g e => by cases e; exact Nat.le_refl _)
    have d7 := World.cell?_setCell_same w6 ⟨w.heap.size, 0, none⟩ (.slice aW ms6.length cW) rc
    clear hr5 hp5 r5 hr6 hg6 hp6 g5 g6 x5 r6 k7
    go_wp2
    generalize w6.setCell ⟨w.heap.size, 0, none⟩ (.slice aW ms6.length cW) = W3 at *
    exact bodyPost_ret (v := .agg #[.slice aW ms6.length cW]) (by simp [results, Try.results30, go_sem, d7]) rfl ⟨_, _, _, rfl, D6, by omega, by omega, hr7, g7⟩
  · have ex : (x == 0) = false := beq_eq_false_iff_ne.2 hx
    have rc := r5.cell (i := 0) (by decide)
    have rf := r5.frozen 0
    have k7 := grown_set w5 w.heap.size 0 (.slice aV ms3.length cV)
    have D6 : Drawn w.heap.size (w5.setCell ⟨w.heap.size, 0, none⟩ (.slice aV ms3.length cV)) (.slice aV ms3.length cV) ms3 := (Drawn.kept ⟨hp5, by omega, fun m hm => (hmo m hm).2⟩ k7 (by omega)).mono (by omega)
    have hr7 := Rd.kept hr hr5 (by omega) k7 (fun g e => by cases e; exact Nat.le_refl _)
    have g7 := grown_own g5 k7 (fun g e => by cases e; exact Nat.le_refl _)
    have d7 := World.cell?_setCell_same w5 ⟨w.heap.size, 0, none⟩ (.slice aV ms3.length cV) rc
    clear hr5 hp5 r5 g5 k7
    go_wp2
    generalize w5.setCell ⟨w.heap.size, 0, none⟩ (.slice aV ms3.length cV) = W3 at *
    exact bodyPost_ret (v := .agg #[.slice aV ms3.length cV]) (by simp [results, Try.results30, go_sem, d7]) rfl ⟨_, _, _, rfl, D6, by omega, by omega, hr7, g7⟩
end Go.Proofs.Ytldiccheboipeaa

/-
  What draws: DrawHeapNew draws a program, some spoilt.
-/
namespace Go.Proofs.Ytldiccheboipeaa
open Go.RowKit
end Go.Proofs.Ytldiccheboipeaa

/-
  What draws how many pages there are, and of how many cells: l71Rooms. (Written by mkdr.py.)
-/
namespace Go.Proofs.Ytldiccheboipeaa
open Go.RowKit
set_option maxRecDepth 100000 in
set_option maxHeartbeats 4000000 in
theorem l71Rooms_any (w : World) (b : Nat) (a : Option Addr) (len cap p : Nat) (hr : Rd w b a len cap p) (hp : p + 100 ≤ 1000000) :
    Calls Try.prog 31 #[.pointer (some ⟨b, 0, none⟩)] w fun e w' => ∃ r c : Int, e = .returned (.tuple #[.int .i64 r, .int .i64 c]) ∧ (-1 ≤ r ∧ r ≤ 6) ∧ (0 ≤ c ∧ c ≤ 61) ∧ Rd w' b a len cap (p + 3) ∧ w.grownBy w' (some b) := by
  have hbl : b < w.heap.size := World.block_lt_of_cell? _ _ hr.s
  go_enter Try.func31, Try.ntmps31
  go_wp2_with fail
  refine (pick_any _ _ _ _ _ _ 20 hr (by omega) (by omega) (by omega)).mono ?_
  rintro e W ⟨x, rfl, hx0, hx1, hrW, hgW⟩
  have hbW : b < W.heap.size := Nat.lt_of_lt_of_le hbl hgW.size
  have HGW : Hid (w.grownBy W (some b)) := hgW
  have HR : Hid (Rd W b a len cap (p + 1)) := hrW
  clear hgW hrW hr
  by_cases hx : x = 0
  · subst hx
    have HA2 : Hid (∀ i, i < 3 → ∃ y : Int, 0 ≤ y ∧ y ≤ 61 ∧ ∀ V : World, (V.alloc (.cells #[.int .i64 13, .int .i64 61, .int .i64 20] 3)).cell? ⟨V.heap.size, i, none⟩ = some (.int .i64 y) ∧ (V.alloc (.cells #[.int .i64 13, .int .i64 61, .int .i64 20] 3)).drew.cell? ⟨V.heap.size, i, none⟩ = some (.int .i64 y)) := fun i hi => by
      rcases (by omega : i = 0 ∨ i = 1 ∨ i = 2) with rfl | rfl | rfl
      · exact ⟨13, by decide, by decide, fun V => ⟨by simp [go_sem], by simp [go_sem]⟩⟩
      · exact ⟨61, by decide, by decide, fun V => ⟨by simp [go_sem], by simp [go_sem]⟩⟩
      · exact ⟨20, by decide, by decide, fun V => ⟨by simp [go_sem], by simp [go_sem]⟩⟩
    
    have HRd : Rd W.drew b a len cap (p + 1) := Rd.heap HR.out rfl
    have HRa : ∀ o, Rd (W.alloc o).drew b a len cap (p + 1) := fun o => Rd.heap (HR.out.alloc o) rfl
    have HNE : Hid (∀ V : World, W.heap.size ≤ V.heap.size → some V.heap.size ≠ some b) := fun V hV e => by injection e with e; omega
    have HGA1 : Hid (∀ o, W.grownBy (W.alloc o).drew (some b)) := fun o => grown_drewN (World.grownBy_alloc W o (some b)) 1
    have HGD : Hid (W.grownBy W.drew (some b)) := grown_drewN (World.grownBy.refl W (some b)) 1
    go_wp2_with fail
    go_region_law (first
      | (have hh := hrd2; clear hh; fail)
      | (go_simp; go_at_call 83; have hh := hrd1; clear hh; refine (pick_any _ _ _ _ _ _ 3 (by first | with_reducible exact hrd1 | with_reducible exact hrd1.alloc _) (by omega) (by omega) (by omega)).mono ?_; rintro e w2 ⟨x2, rfl, hx20, hx21, hrd2, hg2⟩; obtain ⟨i2, rfl⟩ := Int.eq_ofNat_of_zero_le hx20; obtain ⟨y, hy0, hy1, HV⟩ := HA2.out i2 (by omega); have HV1 := fun V => (HV V).1; have HV2 := fun V => (HV V).2; have hGA := fun V : World => World.grownBy_alloc V (.cells #[.int .i64 13, .int .i64 61, .int .i64 20] 3) (some b); first
           | (with_reducible have q2 := hg2.cell (hg1.cell (HV2 W) (HNE.out W (Nat.le_refl _))) (HNE.out W (Nat.le_refl _)); with_reducible have HG := grown_trans (HGA1.out _) (grown_trans hg1 hg2))
           | (with_reducible have q2 := hg2.cell (HV1 w1) (HNE.out w1 (by omega)); with_reducible have HG := grown_trans HGD.out (grown_trans hg1 (grown_trans (hGA w1) hg2)))
           | (with_reducible have HG := grown_trans HGD.out (grown_trans hg1 hg2); have HV3 := HV1))
      | (go_simp; go_at_call 83; refine (pick_any _ _ _ _ _ _ 7 (by first | with_reducible exact HRd | with_reducible exact HRa _) (by omega) (by omega) (by omega)).mono ?_; rintro e w1 ⟨x1, rfl, hx10, hx11, hrd1, hg1⟩; have hz1 : W.heap.size ≤ w1.heap.size := (by have := hg1.size; simp at this; omega)))
    all_goals
      have hw : IntKind.i64.wrap (x1 - 1) = x1 - 1 := by rw [IntKind.wrap_i64]; omega
      go_wp2
      first
        | exact bodyPost_ret (v := .tuple #[.int .i64 (IntKind.i64.wrap (x1 - 1)), .int .i64 y]) (by simp [results, Try.results31, go_sem]) rfl ⟨_, y, by rw [hw], by omega, by omega, hrd2, grown_trans HGW.out HG⟩
        | exact bodyPost_ret (v := .tuple #[.int .i64 (IntKind.i64.wrap (x1 - 1)), .int .i64 y]) (by simp [results, Try.results31, go_sem]) rfl ⟨_, y, by rw [hw], by omega, by omega, hrd2.alloc _, grown_trans HGW.out (grown_trans HG (hGA _))⟩
  · have hxb : (x == 0) = false := beq_eq_false_iff_ne.2 hx
    have HA2 : Hid (∀ i, i < 6 → ∃ y : Int, 0 ≤ y ∧ y ≤ 61 ∧ ∀ V : World, (V.alloc (.cells #[.int .i64 14, .int .i64 14, .int .i64 20, .int .i64 28, .int .i64 30, .int .i64 60] 3)).cell? ⟨V.heap.size, i, none⟩ = some (.int .i64 y) ∧ (V.alloc (.cells #[.int .i64 14, .int .i64 14, .int .i64 20, .int .i64 28, .int .i64 30, .int .i64 60] 3)).drew.cell? ⟨V.heap.size, i, none⟩ = some (.int .i64 y)) := fun i hi => by
      rcases (by omega : i = 0 ∨ i = 1 ∨ i = 2 ∨ i = 3 ∨ i = 4 ∨ i = 5) with rfl | rfl | rfl | rfl | rfl | rfl
      · exact ⟨14, by decide, by decide, fun V => ⟨by simp [go_sem], by simp [go_sem]⟩⟩
      · exact ⟨14, by decide, by decide, fun V => ⟨by simp [go_sem], by simp [go_sem]⟩⟩
      · exact ⟨20, by decide, by decide, fun V => ⟨by simp [go_sem], by simp [go_sem]⟩⟩
      · exact ⟨28, by decide, by decide, fun V => ⟨by simp [go_sem], by simp [go_sem]⟩⟩
      · exact ⟨30, by decide, by decide, fun V => ⟨by simp [go_sem], by simp [go_sem]⟩⟩
      · exact ⟨60, by decide, by decide, fun V => ⟨by simp [go_sem], by simp [go_sem]⟩⟩
    
    have HRd : Rd W.drew b a len cap (p + 1) := Rd.heap HR.out rfl
    have HRa : ∀ o, Rd (W.alloc o).drew b a len cap (p + 1) := fun o => Rd.heap (HR.out.alloc o) rfl
    have HNE : Hid (∀ V : World, W.heap.size ≤ V.heap.size → some V.heap.size ≠ some b) := fun V hV e => by injection e with e; omega
    have HGA1 : Hid (∀ o, W.grownBy (W.alloc o).drew (some b)) := fun o => grown_drewN (World.grownBy_alloc W o (some b)) 1
    have HGD : Hid (W.grownBy W.drew (some b)) := grown_drewN (World.grownBy.refl W (some b)) 1
    go_wp2_with fail
    go_region_law (first
      | (have hh := hrd2; clear hh; fail)
      | (go_simp; go_at_call 83; have hh := hrd1; clear hh; refine (pick_any _ _ _ _ _ _ 6 (by first | with_reducible exact hrd1 | with_reducible exact hrd1.alloc _) (by omega) (by omega) (by omega)).mono ?_; rintro e w2 ⟨x2, rfl, hx20, hx21, hrd2, hg2⟩; obtain ⟨i2, rfl⟩ := Int.eq_ofNat_of_zero_le hx20; obtain ⟨y, hy0, hy1, HV⟩ := HA2.out i2 (by omega); have HV1 := fun V => (HV V).1; have HV2 := fun V => (HV V).2; have hGA := fun V : World => World.grownBy_alloc V (.cells #[.int .i64 14, .int .i64 14, .int .i64 20, .int .i64 28, .int .i64 30, .int .i64 60] 3) (some b); first
           | (with_reducible have q2 := hg2.cell (hg1.cell (HV2 W) (HNE.out W (Nat.le_refl _))) (HNE.out W (Nat.le_refl _)); with_reducible have HG := grown_trans (HGA1.out _) (grown_trans hg1 hg2))
           | (with_reducible have q2 := hg2.cell (HV1 w1) (HNE.out w1 (by omega)); with_reducible have HG := grown_trans HGD.out (grown_trans hg1 (grown_trans (hGA w1) hg2)))
           | (with_reducible have HG := grown_trans HGD.out (grown_trans hg1 hg2); have HV3 := HV1))
      | (go_simp; go_at_call 83; refine (pick_any _ _ _ _ _ _ 4 (by first | with_reducible exact HRd | with_reducible exact HRa _) (by omega) (by omega) (by omega)).mono ?_; rintro e w1 ⟨x1, rfl, hx10, hx11, hrd1, hg1⟩; have hz1 : W.heap.size ≤ w1.heap.size := (by have := hg1.size; simp at this; omega)))
    all_goals
      have hw : IntKind.i64.wrap (1 + x1) = 1 + x1 := by rw [IntKind.wrap_i64]; omega
      go_wp2
      first
        | exact bodyPost_ret (v := .tuple #[.int .i64 (IntKind.i64.wrap (1 + x1)), .int .i64 y]) (by simp [results, Try.results31, go_sem]) rfl ⟨_, y, by rw [hw], by omega, by omega, hrd2, grown_trans HGW.out HG⟩
        | exact bodyPost_ret (v := .tuple #[.int .i64 (IntKind.i64.wrap (1 + x1)), .int .i64 y]) (by simp [results, Try.results31, go_sem]) rfl ⟨_, y, by rw [hw], by omega, by omega, hrd2.alloc _, grown_trans HGW.out (grown_trans HG (hGA _))⟩
end Go.Proofs.Ytldiccheboipeaa

/-
  What draws: DrawMachNew draws a program, some spoilt, how many pages there are, and of how many cells.
-/
namespace Go.Proofs.Ytldiccheboipeaa
open Go.RowKit
theorem box_grown {w w' : World} {g b : Nat} {t : TypeId} {l : List Value} (h : Bx w g t l) (hg : w.grownBy w' (some b)) (hne : b ≠ g) : Bx w' g t l := h.grown hg fun e => hne (by injection e)
set_option maxRecDepth 100000 in
set_option maxHeartbeats 4000000 in
theorem drawMachNew_any (w : World) (a : Option Addr) (len cap : Nat) (h : BytesAt w a len cap) :
    Calls Try.prog 7 #[.slice a len cap] w fun e w' => ∃ (v : Value) (ms : List MM) (r c : Int), e = .returned (.tuple #[.agg #[v], .int .i64 r, .int .i64 c]) ∧ (-1 ≤ r ∧ r ≤ 6) ∧ (0 ≤ c ∧ c ≤ 61) ∧ Drawn w.heap.size w' v ms ∧ Below w.heap.size w w' := by
  go_enter Try.func7, Try.ntmps7
  go_upto_region 1 with fail
  refine wp_gen (fun W => Below w.heap.size w W ∧ Bx W w.heap.size 25 [.slice none 0 0] ∧ W.heap.size = w.heap.size + 1) ⟨(Below.refl _ _).alloc (Nat.le_refl _) _, Bx.new w _ _, by simp⟩ ?_
  rintro W1 ⟨B1, x1, z1⟩
  go_wp2_with fail
  refine (l6Open_any _ a len cap (h.below B1)).mono ?_
  rintro e w2 ⟨n, rfl, hr2, z2, hb2⟩
  have B2 : Below w.heap.size w w2 := B1.trans (hb2.mono (by omega))
  have x2 := x1.below hb2
  rw [z1] at hr2 ⊢
  clear B1 x1 hb2
  go_wp2_with fail
  refine (l71Any_any _ _ _ _ _ _ hr2 (by omega)).mono ?_
  rintro e w3 ⟨v, ms, p3, rfl, D3, hq3, hq3', hr3, hg3⟩
  have x3 := box_grown x2 hg3 (by omega)
  have B3 : Below w.heap.size w w3 := B2.grown hg3 (by omega) (fun k e => by cases e; omega)
  have z3 := hg3.size
  obtain ⟨aX, cX, hvX⟩ := D3.row.shape
  subst hvX
  clear hr2 x2 B2 hg3
  go_upto_region 3 with fail
  refine wp_gen (fun W => Below w.heap.size w W ∧ Bx W w.heap.size 25 [.slice none 0 0] ∧ Bx W w3.heap.size 25 [.slice aX ms.length cX] ∧ Drawn w2.heap.size W (.slice aX ms.length cX) ms ∧ Rd W (w.heap.size + 1) a n cap p3 ∧ W.heap.size = w3.heap.size + 1)
    ⟨B3.alloc (by have := B3.size; omega) _, x3.alloc _, Bx.new _ _ _, D3.below ((Below.refl _ _).alloc (Nat.le_refl _) _), hr3.alloc _, by simp⟩ ?_
  rintro W4 ⟨B4, x4, y4, D4, hr4, z4⟩
  clear B3 x3 D3 hr3
  go_wp2_with fail
  refine (l71Rooms_any _ _ _ _ _ _ hr4 (by omega)).mono ?_
  rintro e w5 ⟨r, c, rfl, hR, hC, hr5, hg5⟩
  have x5 := box_grown x4 hg5 (by omega)
  have y5 := box_grown y4 hg5 (by omega)
  have B5 : Below w.heap.size w w5 := B4.grown hg5 (by omega) (fun k e => by cases e; omega)
  have D5 := D4.kept hg5 (by omega)
  have z5 := hg5.size
  have c0 := y5.cell 0 rfl
  have xc := x5.cell 0 rfl
  have xf := x5.frozen 0
  clear hr4 hr5 hg5 D4 B4 x4 y4
  go_upto_region 4 with fail
  go_wp2_with fail
  refine bp_gen (fun W => Below w.heap.size w W ∧ Bx W w.heap.size 25 [.slice aX ms.length cX] ∧ Drawn w.heap.size W (.slice aX ms.length cX) ms)
    ⟨B5.setCell (p := ⟨w.heap.size, 0, none⟩) (Nat.le_refl _) _, x5.set 0 _, ?_⟩ ?_
  · exact (D5.kept (grown_set w5 w.heap.size 0 _) (by omega)).mono (by omega)
  rintro W6 ⟨B6, x6, D6⟩
  have d6 := x6.cell 0 rfl
  exact bodyPost_ret (v := .tuple #[.agg #[.slice aX ms.length cX], .int .i64 r, .int .i64 c]) (by simp [results, Try.results7, go_sem, d6]) rfl ⟨_, _, r, c, rfl, hR, hC, D6, B6⟩
end Go.Proofs.Ytldiccheboipeaa

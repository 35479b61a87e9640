/-
  What draws: the bytes that come in, and the reader that is opened on them.
-/
import Derived.Test.YtfpodljalccpnaaGreatDoorDraw10
import Derived.Test.YtfpodljalccpnaaGreatDoorDraw12

namespace Go.Proofs.YtfpodljalccpnaaGreatDoor
open Go.RowKit
def BytesAt (w : World) (a : Option Addr) (len cap : Nat) : Prop :=
  len ≤ cap ∧ cap ≤ maxLen ∧ ∀ i, i < len → ∃ b o x, a = some ⟨b, o, none⟩ ∧ w.cell? ⟨b, o + i, none⟩ = some (.int .u8 x) ∧ 0 ≤ x ∧ x ≤ 255
theorem BytesAt.below {w w' : World} {a : Option Addr} {len cap : Nat} (h : BytesAt w a len cap) (hb : Below w.heap.size w w') : BytesAt w' a len cap := by
  refine ⟨h.1, h.2.1, fun i hi => ?_⟩
  obtain ⟨b, o, x, ha, hc, hx⟩ := h.2.2 i hi
  exact ⟨b, o, x, ha, cell_below hb hc, hx⟩
theorem rd_new {w : World} {a : Option Addr} {len cap n : Nat} (h : BytesAt w a len cap) (hn : n ≤ len) (hn2 : n ≤ 2000) : Rd (w.alloc (.cells #[.slice a n cap, .int .i64 0] 108)) w.heap.size a n cap 0 := by
  refine ⟨by simp [go_sem], by simp [go_sem], by simp [go_sem], hn2, fun i hi => ?_⟩
  obtain ⟨b, o, x, ha, hc, hx⟩ := h.2.2 i (by omega)
  have := World.block_lt_of_cell? _ _ hc
  exact ⟨b, o, x, ha, by simp at this; omega, cell_below ((Below.refl _ _).alloc (Nat.le_refl _) _) hc, hx⟩
set_option maxRecDepth 100000 in
theorem l6Open_any (w : World) (a : Option Addr) (len cap : Nat) (h : BytesAt w a len cap) :
    Calls Tryz.prog 37 #[.slice a len cap] w fun e w' => ∃ n, e = .returned (.pointer (some ⟨w.heap.size, 0, none⟩)) ∧ Rd w' w.heap.size a n cap 0 ∧ w'.heap.size = w.heap.size + 1 ∧ Below w.heap.size w w' := by
  have hc := h.1
  have hm := h.2.1
  unfold maxLen at hm
  by_cases hl : 2000 < len
  · have hlz : (2000 : Int) < (len : Int) := by omega
    have h20 : 2000 ≤ cap := by omega
    obtain ⟨b, o, x, ha, _⟩ := h.2.2 0 (by omega)
    subst ha
    have HB : Hid (BytesAt w (some ⟨b, o, none⟩) len cap) := h
    clear h
    go_enter Tryz.func37, Tryz.ntmps37
    go_wp2
    go_ret
    exact ⟨2000, rfl, rd_new HB.out (by omega) (by omega), by simp, (Below.refl _ _).alloc (Nat.le_refl _) _⟩
  · have hlz : (len : Int) ≤ 2000 := by omega
    have HB : Hid (BytesAt w a len cap) := h
    clear h
    go_enter Tryz.func37, Tryz.ntmps37
    go_wp2
    go_ret
    exact ⟨len, rfl, rd_new HB.out (Nat.le_refl _) (by omega), by simp, (Below.refl _ _).alloc (Nat.le_refl _) _⟩
structure Drawn (B : Nat) (w : World) (v : Value) (ms : List MM) : Prop where
  row : PRow B w v ms
  few : ms.length ≤ 7
  ops : ∀ m ∈ ms, m.2.2.2.length ≤ 14
theorem Drawn.kept {B : Nat} {w w' : World} {v : Value} {ms : List MM} (h : Drawn B w v ms) {b : Nat} (hg : w.grownBy w' (some b)) (hb : b < B) : Drawn B w' v ms := ⟨h.row.low hg hb, h.few, h.ops⟩
theorem Drawn.below {B : Nat} {w w' : World} {v : Value} {ms : List MM} (h : Drawn B w v ms) (hb : Below w.heap.size w w') : Drawn B w' v ms := ⟨h.row.kept (below_grown hb none) (fun g e => by cases e), h.few, h.ops⟩
theorem Drawn.mono {B B' : Nat} {w : World} {v : Value} {ms : List MM} (h : Drawn B w v ms) (hB : B' ≤ B) : Drawn B' w v ms := ⟨h.row.mono hB, h.few, h.ops⟩
theorem Drawn.meths {B : Nat} {w : World} {v : Value} {ms : List MM} (h : Drawn B w v ms) : MethsAt w v (plainOf ms) :=
  h.row.meths (by have := h.few; unfold maxLen; omega) (fun m hm => by have := h.ops m hm; unfold maxLen; omega)
end Go.Proofs.YtfpodljalccpnaaGreatDoor

/-
  What draws: DrawDeepAt draws a program and a method; DrawDeepMost the same, DrawDeepOk a program.
-/
namespace Go.Proofs.YtfpodljalccpnaaGreatDoor
open Go.RowKit
set_option maxRecDepth 100000 in
set_option maxHeartbeats 4000000 in
theorem drawDeepAt_any (w : World) (a : Option Addr) (len cap : Nat) (h : BytesAt w a len cap) :
    Calls Tryz.prog 68 #[.slice a len cap] w fun e w' => ∃ (v : Value) (ms : List MM) (m : Int), e = .returned (.tuple #[.agg #[v], .int .i64 m]) ∧ Drawn w.heap.size w' v ms ∧ Below w.heap.size w w' := by
  have hA : Below w.heap.size w (w.alloc (.cells #[.slice none 0 0] 25)) := (Below.refl _ _).alloc (Nat.le_refl _) _
  have rA := pbox_new w (.slice none 0 0)
  have zA : (w.alloc (.cells #[.slice none 0 0] 25)).heap.size = w.heap.size + 1 := by simp
  go_enter Tryz.func68, Tryz.ntmps68
  go_wp2_with fail
  generalize w.alloc (.cells #[.slice none 0 0] 25) = W1 at *
  refine (l6Open_any _ a len cap (h.below hA)).mono ?_
  rintro e w2 ⟨n, rfl, hr2, z2, hb2⟩
  have r2 := row_kept rA (below_grown hb2 none) (by simp)
  have B2 : Below w.heap.size w w2 := hA.trans (hb2.mono (by omega))
  clear hA rA hb2
  rw [zA] at hr2 ⊢
  have HR : Hid (Rd w2 (w.heap.size + 1) a n cap 0) := hr2
  go_wp2_with fail
  refine (l71Prog_any _ _ _ _ _ _ hr2 (by omega)).mono ?_
  rintro e w3 ⟨v3, ms3, p3, rfl, hp3, hl2, hl4, hmo, hq3, hq3', hr3, hg3⟩
  have r3 := row_kept r2 hg3 (by simp)
  have B3 : Below w.heap.size w w3 := B2.grown hg3 (by omega) (fun k e => by cases e; omega)
  have z3 := hg3.size
  obtain ⟨aV, cV, hvV⟩ := hp3.shape
  subst hvV
  clear hr2 hg3 r2 B2
  go_wp2_with fail
  have hA4 := World.grownBy_alloc w3 (.cells #[.slice aV ms3.length cV] 25) none
  have r4 := r3.alloc (.cells #[.slice aV ms3.length cV] 25)
  have hr4 := hr3.alloc (.cells #[.slice aV ms3.length cV] 25)
  have hp4 := hp3.kept hA4 (fun g e => by cases e)
  have B4 := B3.alloc (by omega) (.cells #[.slice aV ms3.length cV] 25)
  have x4 := pbox_new w3 (.slice aV ms3.length cV)
  have z4 : (w3.alloc (.cells #[.slice aV ms3.length cV] 25)).heap.size = w3.heap.size + 1 := by simp
  generalize w3.alloc (.cells #[.slice aV ms3.length cV] 25) = w4 at *
  refine (pick_any _ _ _ _ _ _ 4 hr4 (by omega) (by omega) (by omega)).mono ?_
  rintro e w5 ⟨x, rfl, hx0, hx1, hr5, hg5⟩
  have r5 := row_kept r4 hg5 (by simp)
  have hp5 := hp4.low hg5 (by omega)
  have B5 : Below w.heap.size w w5 := B4.grown hg5 (by omega) (fun k e => by cases e; omega)
  have z5 := hg5.size
  have x5 := row_kept x4 hg5 (by simp; omega)
  clear hA4 r3 r4 hr3 hr4 hp3 hp4 B3 B4 hg5 x4
  by_cases hx : x = 0
  · subst hx
    have xc5 := x5.cell (i := 0) (by decide)
    go_wp2_with fail
    refine (l71Bent_any _ _ _ _ _ _ hr5 (by omega) w2.heap.size (by omega) _ ms3 hp5 hl2 hl4 hmo).mono ?_
    rintro e w6 ⟨v6, ms6, p6, rfl, hp6, hf6, ho6, hq6, hq6', hr6, hg6⟩
    have r6 := row_kept r5 hg6 (by simp)
    have x6 := row_kept x5 hg6 (by simp; omega)
    have B6 : Below w.heap.size w w6 := B5.grown hg6 (by omega) (fun k e => by cases e; omega)
    have z6 := hg6.size
    obtain ⟨aX, cX, hvX⟩ := hp6.shape
    subst hvX
    have k7 := grown_set w6 w3.heap.size 0 (.slice aX ms6.length cX)
    have hDX : Drawn w2.heap.size (w6.setCell ⟨w3.heap.size, 0, none⟩ (.slice aX ms6.length cX)) (.slice aX ms6.length cX) ms6 := (Drawn.kept ⟨hp6, hf6, ho6⟩ k7 (by omega)).mono (by omega)
    have hrX := Rd.kept HR.out hr6 (by omega) k7 (fun g e => by cases e; omega)
    have rX := row_kept r6 k7 (by simp; omega)
    have BX := B6.setCell (p := ⟨w3.heap.size, 0, none⟩) (show w.heap.size ≤ w3.heap.size by omega) (.slice aX ms6.length cX)
    have xX : (w6.setCell ⟨w3.heap.size, 0, none⟩ (.slice aX ms6.length cX)).rowIs w3.heap.size 25 1 (fun _ => .slice aX ms6.length cX) := (x6.set 0 (.slice aX ms6.length cX)).congr (fun i hi => by match i, hi with | 0, _ => simp)
    have xc6 := x6.cell (i := 0) (by decide)
    have xf6 := x6.frozen 0
    have hzX : w2.heap.size ≤ (w6.setCell ⟨w3.heap.size, 0, none⟩ (.slice aX ms6.length cX)).heap.size := by simp [World.setCell]; omega
    have hpX' : p6 ≤ 1000 := by omega
    clear hr5 hp5 r5 hr6 hg6 hp6 B5 B6 x5 xc5 r6 x6 k7
    go_upto_region 5 with fail
    generalize w6.setCell ⟨w3.heap.size, 0, none⟩ (.slice aX ms6.length cX) = wX at *
    clear xc6 xf6
    have xc := xX.cell (i := 0) (by decide)
    have hrXd : Rd wX.drew (w.heap.size + 1) a n cap p6 := Rd.heap hrX rfl
    have xXd : wX.drew.rowIs w3.heap.size 25 1 (fun _ => .slice aX ms6.length cX) := xX
    have rXd : wX.drew.rowIs w.heap.size 25 1 (fun _ => .slice none 0 0) := rX
    have hlX := hDX.few
    clear hrX
    have hwX : IntKind.i64.wrap ((ms6.length : Int) + 1) = (ms6.length : Int) + 1 := by rw [IntKind.wrap_i64]; omega
    go_wp2_with fail
    go_region_law (first
      | (have hh := hrY; clear hh; go_simp; go_at_call 39; refine (pick_any _ _ _ _ _ _ 9 hrY (by omega) (by omega) (by omega)).mono ?_; rintro e wZ ⟨z, rfl, hz0, hz1, hrZ, hgZ⟩; have xcZ := (row_kept xY hgZ (by simp; omega)).cell (i := 0) (by decide); have rZ := row_kept rY hgZ (by simp); have rcZ := rZ.cell (i := 0) (by decide); have rfZ := rZ.frozen 0)
      | (go_simp; go_at_call 39; refine (pick_any _ _ _ _ _ _ ((ms6.length : Int) + 1) hrXd (by omega) (by omega) (by omega)).mono ?_; rintro e wY ⟨y, rfl, hy0, hy1, hrY, hgY⟩; have xY := row_kept xXd hgY (by simp; omega); have rY := row_kept rXd hgY (by simp); have xcY := xY.cell (i := 0) (by decide)))
    all_goals
      have sY := hgY.size
      have sZ := hgZ.size
      simp only [World.size_drew] at sY
      have DY : Drawn w2.heap.size wY _ ms6 := Drawn.kept (w := wX.drew) ⟨⟨hDX.row.row, hDX.row.ops, hDX.row.dis⟩, hDX.few, hDX.ops⟩ hgY (by omega)
      have DZ := DY.kept hgZ (by omega)
      have BY : Below w.heap.size w wY := BX.drew.grown hgY (by simp; omega) (fun k e => by cases e; omega)
      have BZ : Below w.heap.size w wZ := BY.grown hgZ (by omega) (fun k e => by cases e; omega)
      have k9 := grown_set wZ w.heap.size 0 (.slice aX ms6.length cX)
      have D9 := (DZ.kept k9 (by omega)).mono (show w.heap.size ≤ w2.heap.size by omega)
      have B9 := BZ.setCell (p := ⟨w.heap.size, 0, none⟩) (Nat.le_refl _) (.slice aX ms6.length cX)
      have d9 := World.cell?_setCell_same wZ ⟨w.heap.size, 0, none⟩ (.slice aX ms6.length cX) rcZ
      clear hrY hrZ hgY hgZ xY rY xcY xcZ rZ rcZ rfZ hrXd xXd rXd hDX BX DY DZ BY BZ k9 xX rX xc
      go_wp2
      generalize wZ.setCell ⟨w.heap.size, 0, none⟩ (.slice aX ms6.length cX) = W3 at *
      refine bodyPost_ret (v := .tuple #[.agg #[.slice aX ms6.length cX], .int .i64 _]) (by simp [results, Tryz.results68, go_sem, d9]; rfl) rfl ⟨_, _, _, rfl, D9, B9⟩
  · have ex : (x == 0) = false := beq_eq_false_iff_ne.2 hx
    go_upto_region 5 with fail
    have hDX : Drawn w2.heap.size w5 (.slice aV ms3.length cV) ms3 := ⟨hp5, by omega, fun m hm => (hmo m hm).2⟩
    have hrX := hr5
    have rX := r5
    have BX := B5
    have xX := x5
    have hzX : w2.heap.size ≤ w5.heap.size := by omega
    obtain ⟨pX, hpX, hpX'⟩ : ∃ pX, p3 + 1 = pX ∧ pX ≤ 1000 := ⟨_, rfl, by omega⟩
    rw [hpX] at hrX
    clear hr5 hp5 r5 B5 x5 hpX
    have xc := xX.cell (i := 0) (by decide)
    have hrXd : Rd w5.drew (w.heap.size + 1) a n cap pX := Rd.heap hrX rfl
    have xXd : w5.drew.rowIs w3.heap.size 25 1 (fun _ => .slice aV ms3.length cV) := xX
    have rXd : w5.drew.rowIs w.heap.size 25 1 (fun _ => .slice none 0 0) := rX
    have hlX := hDX.few
    clear hrX
    have hwX : IntKind.i64.wrap ((ms3.length : Int) + 1) = (ms3.length : Int) + 1 := by rw [IntKind.wrap_i64]; omega
    go_wp2_with fail
    go_region_law (first
      | (have hh := hrY; clear hh; go_simp; go_at_call 39; refine (pick_any _ _ _ _ _ _ 9 hrY (by omega) (by omega) (by omega)).mono ?_; rintro e wZ ⟨z, rfl, hz0, hz1, hrZ, hgZ⟩; have xcZ := (row_kept xY hgZ (by simp; omega)).cell (i := 0) (by decide); have rZ := row_kept rY hgZ (by simp); have rcZ := rZ.cell (i := 0) (by decide); have rfZ := rZ.frozen 0)
      | (go_simp; go_at_call 39; refine (pick_any _ _ _ _ _ _ ((ms3.length : Int) + 1) hrXd (by omega) (by omega) (by omega)).mono ?_; rintro e wY ⟨y, rfl, hy0, hy1, hrY, hgY⟩; have xY := row_kept xXd hgY (by simp; omega); have rY := row_kept rXd hgY (by simp); have xcY := xY.cell (i := 0) (by decide)))
    all_goals
      have sY := hgY.size
      have sZ := hgZ.size
      simp only [World.size_drew] at sY
      have DY : Drawn w2.heap.size wY _ ms3 := Drawn.kept (w := w5.drew) ⟨⟨hDX.row.row, hDX.row.ops, hDX.row.dis⟩, hDX.few, hDX.ops⟩ hgY (by omega)
      have DZ := DY.kept hgZ (by omega)
      have BY : Below w.heap.size w wY := BX.drew.grown hgY (by simp; omega) (fun k e => by cases e; omega)
      have BZ : Below w.heap.size w wZ := BY.grown hgZ (by omega) (fun k e => by cases e; omega)
      have k9 := grown_set wZ w.heap.size 0 (.slice aV ms3.length cV)
      have D9 := (DZ.kept k9 (by omega)).mono (show w.heap.size ≤ w2.heap.size by omega)
      have B9 := BZ.setCell (p := ⟨w.heap.size, 0, none⟩) (Nat.le_refl _) (.slice aV ms3.length cV)
      have d9 := World.cell?_setCell_same wZ ⟨w.heap.size, 0, none⟩ (.slice aV ms3.length cV) rcZ
      clear hrY hrZ hgY hgZ xY rY xcY xcZ rZ rcZ rfZ hrXd xXd rXd hDX BX DY DZ BY BZ k9 xX rX xc
      go_wp2
      generalize wZ.setCell ⟨w.heap.size, 0, none⟩ (.slice aV ms3.length cV) = W3 at *
      refine bodyPost_ret (v := .tuple #[.agg #[.slice aV ms3.length cV], .int .i64 _]) (by simp [results, Tryz.results68, go_sem, d9]; rfl) rfl ⟨_, _, _, rfl, D9, B9⟩
set_option maxRecDepth 100000 in
set_option maxHeartbeats 2000000 in
theorem drawDeepOk_any (w : World) (a : Option Addr) (len cap : Nat) (h : BytesAt w a len cap) :
    Calls Tryz.prog 33 #[.slice a len cap] w fun e w' => ∃ (v : Value) (ms : List MM), e = .returned (.agg #[v]) ∧ Drawn w.heap.size w' v ms ∧ Below w.heap.size w w' := by
  have hA : Below w.heap.size w (w.alloc (.cells #[.slice none 0 0] 25)) := (Below.refl _ _).alloc (Nat.le_refl _) _
  have rA := pbox_new w (.slice none 0 0)
  have zA : (w.alloc (.cells #[.slice none 0 0] 25)).heap.size = w.heap.size + 1 := by simp
  go_enter Tryz.func33, Tryz.ntmps33
  go_wp2_with fail
  generalize w.alloc (.cells #[.slice none 0 0] 25) = W1 at *
  refine (drawDeepAt_any _ a len cap (h.below hA)).mono ?_
  rintro e w2 ⟨v, ms, m, rfl, hD2, hb2⟩
  have r2 := row_kept rA (below_grown hb2 none) (by simp)
  have B2 : Below w.heap.size w w2 := hA.trans (hb2.mono (by omega))
  obtain ⟨aX, cX, hvX⟩ := hD2.row.shape
  subst hvX
  have z2 := B2.size
  have hN := (Below.refl w2.heap.size w2).alloc (Nat.le_refl _) (.cells #[.slice aX ms.length cX] 25)
  have hD3 := hD2.below hN
  have B3 := B2.trans (hN.mono z2)
  have r3 := r2.alloc (.cells #[.slice aX ms.length cX] 25)
  have x3 := pbox_new w2 (.slice aX ms.length cX)
  have hw2 : w.heap.size < w2.heap.size := r2.lt
  clear hA rA hb2 hD2 r2 B2 hN
  go_upto_region 2 with fail
  generalize w2.alloc (.cells #[.slice aX ms.length cX] 25) = w3 at *
  have xc := x3.cell (i := 0) (by decide)
  have rc := r3.cell (i := 0) (by decide)
  have rf := r3.frozen 0
  have k9 := grown_set w3 w.heap.size 0 (.slice aX ms.length cX)
  have D9 := (hD3.kept k9 (by omega)).mono (show w.heap.size ≤ W1.heap.size by omega)
  have B9 := B3.setCell (p := ⟨w.heap.size, 0, none⟩) (Nat.le_refl _) (.slice aX ms.length cX)
  have d9 := World.cell?_setCell_same w3 ⟨w.heap.size, 0, none⟩ (.slice aX ms.length cX) rc
  clear hD3 B3 r3 x3 k9
  go_wp2
  generalize w3.setCell ⟨w.heap.size, 0, none⟩ (.slice aX ms.length cX) = W3 at *
  exact bodyPost_ret (v := .agg #[.slice aX ms.length cX]) (by simp [results, Tryz.results33, go_sem, d9]) rfl ⟨_, _, rfl, D9, B9⟩
end Go.Proofs.YtfpodljalccpnaaGreatDoor

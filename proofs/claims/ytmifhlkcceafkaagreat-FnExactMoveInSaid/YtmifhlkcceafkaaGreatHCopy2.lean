/-
  The copies that the exact laws make of rows of calls and of heaps: toCallS, toHeap answer the same in new memory, and write to nothing that was there.
-/
import Derived.Test.YtmifhlkcceafkaaGreatHCopy

namespace Go.Proofs.YtmifhlkcceafkaaGreat
open Go.RowKit
theorem Tryz.infoCall : (Tryz.prog.info? 63).map (fun i => (i.zero, i.size, i.bytes)) = some (some (.agg #[.int .i64 0, .int .i64 0, .slice none 0 0, .slice none 0 0, .int .i64 0, .bool false]), 6, 80) := by kernel_rfl
abbrev full (g n : Nat) : Value := .slice (some ⟨g, 0, none⟩) n n
def Cl.none : Cl := ⟨0, 0, [], [], 0, false⟩
def clCell (cs : List Cl) (G : Nat → Nat × Nat) (j : Nat) : Value :=
  if j % 6 = 0 then .int .i64 (cs.getD (j / 6) Cl.none).m else if j % 6 = 1 then .int .i64 (cs.getD (j / 6) Cl.none).pc else if j % 6 = 2 then full (G (j / 6)).1 (cs.getD (j / 6) Cl.none).temps.length
  else if j % 6 = 3 then full (G (j / 6)).2 (cs.getD (j / 6) Cl.none).stack.length else if j % 6 = 4 then .int .i64 (cs.getD (j / 6) Cl.none).sender else .bool (cs.getD (j / 6) Cl.none).dead
def clZero (j : Nat) : Value := if j % 6 = 2 ∨ j % 6 = 3 then .slice none 0 0 else if j % 6 = 5 then .bool false else .int .i64 0
theorem clCell_at {cs : List Cl} {G : Nat → Nat × Nat} {k : Nat} (h : k < cs.length) :
    clCell cs G (k * 6) = .int .i64 cs[k].m ∧ clCell cs G (k * 6 + 1) = .int .i64 cs[k].pc ∧ clCell cs G (k * 6 + 2) = full (G k).1 cs[k].temps.length ∧ clCell cs G (k * 6 + 3) = full (G k).2 cs[k].stack.length ∧ clCell cs G (k * 6 + 4) = .int .i64 cs[k].sender ∧ clCell cs G (k * 6 + 5) = .bool cs[k].dead := by
  have e : cs.getD k Cl.none = cs[k] := by simp [h]
  unfold clCell
  refine ⟨?_, ?_, ?_, ?_, ?_, ?_⟩
  · rw [if_pos (by omega), show k * 6 / 6 = k by omega, e]
  · rw [if_neg (by omega), if_pos (by omega), show (k * 6 + 1) / 6 = k by omega, e]
  · rw [if_neg (by omega), if_neg (by omega), if_pos (by omega), show (k * 6 + 2) / 6 = k by omega, e]
  · rw [if_neg (by omega), if_neg (by omega), if_neg (by omega), if_pos (by omega), show (k * 6 + 3) / 6 = k by omega, e]
  · rw [if_neg (by omega), if_neg (by omega), if_neg (by omega), if_neg (by omega), if_pos (by omega), show (k * 6 + 4) / 6 = k by omega, e]
  · rw [if_neg (by omega), if_neg (by omega), if_neg (by omega), if_neg (by omega), if_neg (by omega), show (k * 6 + 5) / 6 = k by omega, e]
theorem clCell_other {cs : List Cl} {G G' : Nat → Nat × Nat} {j : Nat} (h : G (j / 6) = G' (j / 6)) : clCell cs G j = clCell cs G' j := by
  unfold clCell
  rw [h]
theorem cl_row_start (w : World) (n : Nat) (t : TypeId) (f : Nat → Value) : (w.alloc (.cells (madeCells #[.int .i64 0, .int .i64 0, .slice none 0 0, .slice none 0 0, .int .i64 0, .bool false] n) t)).rowIs w.heap.size t n (fun j => if j < 0 * 6 then f j else clZero j) := by
  refine ⟨_, Go.Deep.blk_alloc_new _ _, size_madeCells _ _, fun i hi => ?_⟩
  have h : (i % 6 = 0) ∨ (i % 6 = 1) ∨ (i % 6 = 2) ∨ (i % 6 = 3) ∨ (i % 6 = 4) ∨ (i % 6 = 5) := by omega
  rcases h with h | h | h | h | h | h <;> simp [madeCells, hi, h, clZero]
theorem cl_row_step {w : World} {b n k : Nat} {t : TypeId} {cs : List Cl} {G : Nat → Nat × Nat} (hk : k < cs.length) (gt gs : Nat) (h : w.rowIs b t n (fun j => if j < k * 6 then clCell cs G j else clZero j)) :
    ((((((w.setCell ⟨b, k * 6, none⟩ (.int .i64 cs[k].m)).setCell ⟨b, k * 6 + 1, none⟩ (.int .i64 cs[k].pc)).setCell ⟨b, k * 6 + 2, none⟩ (full gt cs[k].temps.length)).setCell ⟨b, k * 6 + 3, none⟩ (full gs cs[k].stack.length)).setCell ⟨b, k * 6 + 4, none⟩ (.int .i64 cs[k].sender)).setCell ⟨b, k * 6 + 5, none⟩ (.bool cs[k].dead)).rowIs b t n
      (fun j => if j < (k + 1) * 6 then clCell cs (fun i => if i = k then (gt, gs) else G i) j else clZero j) := by
  refine ((((((h.set (k * 6) _).set (k * 6 + 1) _).set (k * 6 + 2) _).set (k * 6 + 3) _).set (k * 6 + 4) _).set (k * 6 + 5) _).congr fun j _ => ?_
  obtain ⟨e0, e1, e2, e3, e4, e5⟩ := clCell_at (G := fun i => if i = k then (gt, gs) else G i) hk
  simp only [if_true] at e2 e3
  by_cases h5 : j = k * 6 + 5
  · subst h5; rw [if_pos rfl, if_pos (by omega), e5]
  rw [if_neg h5]
  by_cases h4 : j = k * 6 + 4
  · subst h4; rw [if_pos rfl, if_pos (by omega), e4]
  rw [if_neg h4]
  by_cases h3 : j = k * 6 + 3
  · subst h3; rw [if_pos rfl, if_pos (by omega), e3]
  rw [if_neg h3]
  by_cases h2 : j = k * 6 + 2
  · subst h2; rw [if_pos rfl, if_pos (by omega), e2]
  rw [if_neg h2]
  by_cases h1 : j = k * 6 + 1
  · subst h1; rw [if_pos rfl, if_pos (by omega), e1]
  rw [if_neg h1]
  by_cases h0 : j = k * 6
  · subst h0; rw [if_pos rfl, if_pos (by omega), e0]
  rw [if_neg h0]
  by_cases hj : j < k * 6
  · rw [if_pos hj, if_pos (by omega)]
    exact clCell_other (by show G (j / 6) = if j / 6 = k then (gt, gs) else G (j / 6); rw [if_neg (by omega)])
  · rw [if_neg hj, if_neg (by omega)]
def Lists (B : Nat) (w : World) (cs : List Cl) (G : Nat → Nat × Nat) (k : Nat) : Prop :=
  ∀ i, (hi : i < cs.length) → i < k → B < (G i).1 ∧ (G i).1 < (G i).2 ∧ (G i).2 < w.heap.size ∧ OpsAt w (full (G i).1 cs[i].temps.length) cs[i].temps ∧ OpsAt w (full (G i).2 cs[i].stack.length) cs[i].stack ∧ ∀ j, j < i → (G j).2 < (G i).1
def CopiedC (w wr : World) (cs : List Cl) (k : Nat) : Prop :=
  ∃ G, Below w.heap.size w wr ∧ NF w.heap.size wr ∧ wr.rowIs w.heap.size 63 (cs.length * 6) (fun j => if j < k * 6 then clCell cs G j else clZero j) ∧ Lists w.heap.size wr cs G k
theorem OpsAt.setAt {w : World} {g n b o : Nat} {ops : List (Int × Int)} (h : OpsAt w (full g n) ops) (hb : b < g) (u : Value) : OpsAt (w.setCell ⟨b, o, none⟩ u) (full g n) ops :=
  h.set (B := g) ⟨g, n, n, rfl, Nat.le_refl _⟩ hb u
theorem copiedC_step {w wr w1 : World} {cs : List Cl} {k : Nat} (hk : k < cs.length) (h : CopiedC w wr cs k) (hb : Below wr.heap.size wr w1) {gt gs : Nat} (hgt : wr.heap.size ≤ gt) (hgs : gt < gs) (hgw : gs < w1.heap.size)
    (ht : OpsAt w1 (full gt cs[k].temps.length) cs[k].temps) (hs : OpsAt w1 (full gs cs[k].stack.length) cs[k].stack) (hnf1 : NF wr.heap.size w1) :
    CopiedC w ((((((w1.setCell ⟨w.heap.size, k * 6, none⟩ (.int .i64 cs[k].m)).setCell ⟨w.heap.size, k * 6 + 1, none⟩ (.int .i64 cs[k].pc)).setCell ⟨w.heap.size, k * 6 + 2, none⟩ (full gt cs[k].temps.length)).setCell ⟨w.heap.size, k * 6 + 3, none⟩ (full gs cs[k].stack.length)).setCell ⟨w.heap.size, k * 6 + 4, none⟩ (.int .i64 cs[k].sender)).setCell ⟨w.heap.size, k * 6 + 5, none⟩ (.bool cs[k].dead)) cs (k + 1) := by
  obtain ⟨G, hB, hnf, hrow, hL⟩ := h
  have hlt := hrow.lt
  have hrow1 := row_below hb hrow
  have hB1 := hB.trans (hb.mono (Nat.le_of_lt hlt))
  refine ⟨fun i => if i = k then (gt, gs) else G i, (((((hB1.setCell (Nat.le_refl _) _).setCell (Nat.le_refl _) _).setCell (Nat.le_refl _) _).setCell (Nat.le_refl _) _).setCell (Nat.le_refl _) _).setCell (Nat.le_refl _) _, ((((((hnf.go hnf1 hb).set _ _).set _ _).set _ _).set _ _).set _ _).set _ _, cl_row_step hk gt gs hrow1, fun i hi hik => ?_⟩
  have hz : ((((((w1.setCell ⟨w.heap.size, k * 6, none⟩ (.int .i64 cs[k].m)).setCell ⟨w.heap.size, k * 6 + 1, none⟩ (.int .i64 cs[k].pc)).setCell ⟨w.heap.size, k * 6 + 2, none⟩ (full gt cs[k].temps.length)).setCell ⟨w.heap.size, k * 6 + 3, none⟩ (full gs cs[k].stack.length)).setCell ⟨w.heap.size, k * 6 + 4, none⟩ (.int .i64 cs[k].sender)).setCell ⟨w.heap.size, k * 6 + 5, none⟩ (.bool cs[k].dead)).heap.size = w1.heap.size := by simp [World.setCell]
  rw [hz]
  by_cases e : i = k
  · subst e
    simp only [if_true]
    refine ⟨by omega, hgs, hgw, (((((ht.setAt (by omega) _).setAt (by omega) _).setAt (by omega) _).setAt (by omega) _).setAt (by omega) _).setAt (by omega) _, (((((hs.setAt (by omega) _).setAt (by omega) _).setAt (by omega) _).setAt (by omega) _).setAt (by omega) _).setAt (by omega) _, fun j hj => ?_⟩
    rw [if_neg (by omega)]
    have := (hL j (by omega) hj).2.2.1
    omega
  · simp only [if_neg e]
    obtain ⟨h1, h2, h3, h4, h5, h6⟩ := hL i hi (by omega)
    have hb' := hb.size
    refine ⟨h1, h2, by omega, ((((((h4.below hb).setAt (by omega) _).setAt (by omega) _).setAt (by omega) _).setAt (by omega) _).setAt (by omega) _).setAt (by omega) _, ((((((h5.below hb).setAt (by omega) _).setAt (by omega) _).setAt (by omega) _).setAt (by omega) _).setAt (by omega) _).setAt (by omega) _, fun j hj => ?_⟩
    rw [if_neg (by omega)]
    exact h6 j hj
structure NewCalls (g : Nat) (w : World) (cs : List Cl) (G : Nat → Nat × Nat) : Prop where
  row : w.rowIs g 63 (cs.length * 6) (clCell cs G)
  lists : Lists g w cs G cs.length
theorem NewCalls.below {g : Nat} {w w' : World} {cs : List Cl} {G : Nat → Nat × Nat} (h : NewCalls g w cs G) (hb : Below w.heap.size w w') : NewCalls g w' cs G :=
  ⟨row_below hb h.row, fun i hi hik => by
    obtain ⟨h1, h2, h3, h4, h5, h6⟩ := h.lists i hi hik
    exact ⟨h1, h2, Nat.lt_of_lt_of_le h3 hb.size, h4.below hb, h5.below hb, h6⟩⟩
theorem NewCalls.setAt {g b o : Nat} {w : World} {cs : List Cl} {G : Nat → Nat × Nat} (h : NewCalls g w cs G) (hb : b < g) (u : Value) : NewCalls g (w.setCell ⟨b, o, none⟩ u) cs G :=
  ⟨row_set h.row (by omega) u, fun i hi hik => by
    obtain ⟨h1, h2, h3, h4, h5, h6⟩ := h.lists i hi hik
    exact ⟨h1, h2, by simpa [World.setCell] using h3, h4.setAt (by omega) u, h5.setAt (by omega) u, h6⟩⟩
theorem NewCalls.at {g : Nat} {w : World} {cs : List Cl} {G : Nat → Nat × Nat} (h : NewCalls g w cs G) (hl : cs.length ≤ maxLen) : CallsAt w (full g cs.length) cs := by
  refine ⟨some ⟨g, 0, none⟩, cs.length, rfl, hl, fun i hi => ?_⟩
  obtain ⟨_, _, _, h4, h5, _⟩ := h.lists i hi hi
  obtain ⟨e0, e1, e2, e3, e4, e5⟩ := clCell_at (G := G) hi
  have c0 := h.row.cell (i := i * 6) (by omega)
  have c1 := h.row.cell (i := i * 6 + 1) (by omega)
  have c2 := h.row.cell (i := i * 6 + 2) (by omega)
  have c3 := h.row.cell (i := i * 6 + 3) (by omega)
  have c4 := h.row.cell (i := i * 6 + 4) (by omega)
  have c5 := h.row.cell (i := i * 6 + 5) (by omega)
  rw [e0] at c0
  rw [e1] at c1
  rw [e2] at c2
  rw [e3] at c3
  rw [e4] at c4
  rw [e5] at c5
  refine ⟨g, 0, _, _, rfl, ?_, ?_, ?_, ?_, ?_, ?_, h4, h5⟩
  all_goals rw [Nat.zero_add]; assumption
set_option maxHeartbeats 2000000 in
theorem toCallS_any (v : Value) (cs : List Cl) (w : World) (h : CallsAt w v cs) (hn : cs.length ≤ 1048576) (ho : ∀ i, (hi : i < cs.length) → cs[i].small) :
    Calls Tryz.prog 25 #[v] w fun e w' => ∃ G, e = .returned (full w.heap.size cs.length) ∧ NewCalls w.heap.size w' cs G ∧ Below w.heap.size w w' ∧ NF w.heap.size w' := by
  obtain ⟨a, cap, rfl, hl, hc⟩ := h
  unfold maxLen at hl
  obtain ⟨i0, hi, hz0, hz1, hz2⟩ := info_parts Tryz.infoCall
  have hmk : ∀ w : World, (Instr.makeSlice 43 (.int .i64 (cs.length : Int)) (.int .i64 (cs.length : Int))).run Tryz.prog w = .ok (.slice (some ⟨w.heap.size, 0, none⟩) cs.length cs.length) (w.alloc (.cells (madeCells #[.int .i64 0, .int .i64 0, .slice none 0 0, .slice none 0 0, .int .i64 0, .bool false] (cs.length * 6)) 63)) := by
    intro w
    have := run_make (P := Tryz.prog) w 43 63 i0 _ Tryz.underlying43 hi hz0 .i64 .i64 cs.length cs.length (by omega) (Int.le_refl _) (by rw [hz2]; omega) (by omega)
    simpa [hz1, Value.cells] using this
  go_enter Tryz.func25, Tryz.ntmps25
  go_wp2
  clear hmk hi hz0 hz1 hz2
  go_loopg [4] cs.length (fun g i wr => ∃ k : Nat, k ≤ cs.length ∧ g = cs.length - k ∧ i = .int .i64 k ∧ CopiedC w wr cs k)
  case atStart => exact ⟨0, Nat.zero_le _, rfl, rfl, fun _ => (0, 0), (Below.refl _ _).alloc (Nat.le_refl _) _, (NF.start w).alloc _ _, cl_row_start _ _ _ _, fun i _ h0 => absurd h0 (Nat.not_lt_zero _)⟩
  case round =>
    obtain ⟨k, hk, rfl, rfl, hC⟩ := hrel
    by_cases hlt : k < cs.length
    · obtain ⟨b, o, vt, vs, rfl, hcl⟩ := hc k hlt
      have hok := ho k hlt
      obtain ⟨G, hB, _, hrow, hV⟩ := id hC
      obtain ⟨d0, d1, d2, d3, d4, d5, dt, ds⟩ := hcl.below hB
      obtain ⟨a1, k1, h1⟩ := dt.shape
      obtain ⟨a2, k2, h2⟩ := ds.shape
      rw [h1] at d2 dt
      rw [h2] at d3 ds
      have HOK : Hid cs[k].small := hok
      clear hcl hc ho hV h1 h2 hok
      have hkz : (k : Int) < (cs.length : Int) := by omega
      have HC : Hid (CopiedC w wr cs k) := hC
      clear hC
      go_wp2_with fail
      refine (toCall_any cs[k] _ _ _ dt ds HOK.out).mono ?_
      rintro e w1 ⟨gt, gs, rfl, hgt, hgs, hgw, ot, os, hb1, hnf1⟩
      have hrow1 := row_below hb1 hrow
      have f0 := hrow1.frozen (k * 6)
      have f1 := hrow1.frozen (k * 6 + 1)
      have f2 := hrow1.frozen (k * 6 + 2)
      have f3 := hrow1.frozen (k * 6 + 3)
      have f4 := hrow1.frozen (k * 6 + 4)
      have f5 := hrow1.frozen (k * 6 + 5)
      have g0 := hrow1.cell (i := k * 6) (by omega)
      have g1 := hrow1.cell (i := k * 6 + 1) (by omega)
      have g2 := hrow1.cell (i := k * 6 + 2) (by omega)
      have g3 := hrow1.cell (i := k * 6 + 3) (by omega)
      have g4 := hrow1.cell (i := k * 6 + 4) (by omega)
      have g5 := hrow1.cell (i := k * 6 + 5) (by omega)
      have R := copiedC_step hlt HC.out hb1 hgt hgs hgw ot os hnf1
      have HR : Hid (CopiedC w _ cs (k + 1)) := R
      unfold clCells
      clear R hnf1 hrow hrow1 HC hB d0 d1 d2 d3 d4 d5 dt ds hb1 ot os
      go_wp2
      go_roundg (cs.length - (k + 1))
      case measure => omega
      case rel => exact ⟨k + 1, by omega, rfl, by go_num, HR.out⟩
    · obtain rfl : k = cs.length := by omega
      obtain ⟨G, hB, hnf, hrow, hV⟩ := hC
      have HNF : Hid (NF w.heap.size wr) := hnf
      have HV : Hid (Lists w.heap.size wr cs G cs.length) := hV
      clear hnf hV
      have hrow' := hrow.congr (g := clCell cs G) (fun j hj => by rw [if_pos (by omega)])
      clear hrow
      go_wp2
      go_ret
      exact ⟨G, rfl, ⟨hrow', HV.out⟩, hB, HNF.out⟩
def five (x0 x1 x2 x3 x4 : Value) : Nat → Value := fun i => if i = 0 then x0 else if i = 1 then x1 else if i = 2 then x2 else if i = 3 then x3 else x4
theorem five_new (w : World) (t : TypeId) (x0 x1 x2 x3 x4 : Value) : (w.alloc (.cells #[x0, x1, x2, x3, x4] t)).rowIs w.heap.size t 5 (five x0 x1 x2 x3 x4) :=
  ⟨_, Go.Deep.blk_alloc_new _ _, rfl, fun i hi => by match i, hi with | 0, _ => rfl | 1, _ => rfl | 2, _ => rfl | 3, _ => rfl | 4, _ => rfl⟩
theorem five_cells {w : World} {g : Nat} {t : TypeId} {x0 x1 x2 x3 x4 : Value} (h : w.rowIs g t 5 (five x0 x1 x2 x3 x4)) :
    (w.cell? ⟨g, 0, none⟩ = some x0 ∧ w.cell? ⟨g, 1, none⟩ = some x1 ∧ w.cell? ⟨g, 2, none⟩ = some x2 ∧ w.cell? ⟨g, 3, none⟩ = some x3 ∧ w.cell? ⟨g, 4, none⟩ = some x4) ∧
    (w.frozen? ⟨g, 0, none⟩ = false ∧ w.frozen? ⟨g, 1, none⟩ = false ∧ w.frozen? ⟨g, 2, none⟩ = false ∧ w.frozen? ⟨g, 3, none⟩ = false ∧ w.frozen? ⟨g, 4, none⟩ = false) :=
  ⟨⟨h.cell (i := 0) (by decide), h.cell (i := 1) (by decide), h.cell (i := 2) (by decide), h.cell (i := 3) (by decide), h.cell (i := 4) (by decide)⟩, h.frozen 0, h.frozen 1, h.frozen 2, h.frozen 3, h.frozen 4⟩
theorem five_set0 {w : World} {g : Nat} {t : TypeId} {x0 x1 x2 x3 x4 : Value} (h : w.rowIs g t 5 (five x0 x1 x2 x3 x4)) (v : Value) : (w.setCell ⟨g, 0, none⟩ v).rowIs g t 5 (five v x1 x2 x3 x4) :=
  (h.set 0 v).congr fun i hi => by match i, hi with | 0, _ => rfl | 1, _ => rfl | 2, _ => rfl | 3, _ => rfl | 4, _ => rfl
theorem five_set1 {w : World} {g : Nat} {t : TypeId} {x0 x1 x2 x3 x4 : Value} (h : w.rowIs g t 5 (five x0 x1 x2 x3 x4)) (v : Value) : (w.setCell ⟨g, 1, none⟩ v).rowIs g t 5 (five x0 v x2 x3 x4) :=
  (h.set 1 v).congr fun i hi => by match i, hi with | 0, _ => rfl | 1, _ => rfl | 2, _ => rfl | 3, _ => rfl | 4, _ => rfl
theorem five_set2 {w : World} {g : Nat} {t : TypeId} {x0 x1 x2 x3 x4 : Value} (h : w.rowIs g t 5 (five x0 x1 x2 x3 x4)) (v : Value) : (w.setCell ⟨g, 2, none⟩ v).rowIs g t 5 (five x0 x1 v x3 x4) :=
  (h.set 2 v).congr fun i hi => by match i, hi with | 0, _ => rfl | 1, _ => rfl | 2, _ => rfl | 3, _ => rfl | 4, _ => rfl
theorem five_set3 {w : World} {g : Nat} {t : TypeId} {x0 x1 x2 x3 x4 : Value} (h : w.rowIs g t 5 (five x0 x1 x2 x3 x4)) (v : Value) : (w.setCell ⟨g, 3, none⟩ v).rowIs g t 5 (five x0 x1 x2 v x4) :=
  (h.set 3 v).congr fun i hi => by match i, hi with | 0, _ => rfl | 1, _ => rfl | 2, _ => rfl | 3, _ => rfl | 4, _ => rfl
theorem five_set4 {w : World} {g : Nat} {t : TypeId} {x0 x1 x2 x3 x4 : Value} (h : w.rowIs g t 5 (five x0 x1 x2 x3 x4)) (v : Value) : (w.setCell ⟨g, 4, none⟩ v).rowIs g t 5 (five x0 x1 x2 x3 v) :=
  (h.set 4 v).congr fun i hi => by match i, hi with | 0, _ => rfl | 1, _ => rfl | 2, _ => rfl | 3, _ => rfl | 4, _ => rfl
structure NewHeap (g sb : Nat) (w : World) (h : Hp) (G : Nat → Nat × Nat) : Prop where
  c : NewCalls g w h.calls G
  sd : OpsAt w (full sb h.said.length) h.said
  gs : g < sb
  ls : ∀ i, i < h.calls.length → (G i).2 < sb
  sz : sb < w.heap.size
theorem NewHeap.below {g sb : Nat} {w w' : World} {h : Hp} {G : Nat → Nat × Nat} (k : NewHeap g sb w h G) (hb : Below w.heap.size w w') : NewHeap g sb w' h G := ⟨k.c.below hb, k.sd.below hb, k.gs, k.ls, Nat.lt_of_lt_of_le k.sz hb.size⟩
theorem NewHeap.setAt {g sb b o : Nat} {w : World} {h : Hp} {G : Nat → Nat × Nat} (k : NewHeap g sb w h G) (hb : b < g) (u : Value) : NewHeap g sb (w.setCell ⟨b, o, none⟩ u) h G :=
  ⟨k.c.setAt hb u, k.sd.setAt (by have := k.gs; omega) u, k.gs, k.ls, by simpa [World.setCell] using k.sz⟩
theorem NewHeap.at {g sb : Nat} {w : World} {h : Hp} {G : Nat → Nat × Nat} (k : NewHeap g sb w h G) (hl : h.calls.length ≤ maxLen) : HeapAt w (full g h.calls.length) (full sb h.said.length) h := ⟨k.c.at hl, k.sd⟩
set_option maxHeartbeats 2000000 in
theorem toHeap_any (h : Hp) (vc vs : Value) (w : World) (hh : HeapAt w vc vs h) (hsm : h.small) :
    Calls Tryz.prog 8 #[.agg (hpCells vc vs h)] w fun e w' => ∃ g s G, e = .returned (.agg (hpCells (full g h.calls.length) (full s h.said.length) h)) ∧ w.heap.size ≤ g ∧ NewHeap g s w' h G ∧ Below w.heap.size w w' ∧ NF w.heap.size w' := by
  unfold hpCells
  obtain ⟨ac, kc, hvc⟩ := hh.c.shape
  obtain ⟨aD, kD, hvs⟩ := hh.s.shape
  subst hvc hvs
  have hA : Below w.heap.size w (((w.alloc (.cells #[.slice ac h.calls.length kc, .int .i64 h.now, .int .i64 h.born, .slice aD h.said.length kD, .int .i64 h.code] 28)).alloc (.cells #[.slice none 0 0, .int .i64 0, .int .i64 0, .slice none 0 0, .int .i64 0] 45)).alloc (.cells #[.slice none 0 0, .int .i64 0, .int .i64 0, .slice none 0 0, .int .i64 0] 45)) := (((Below.refl _ _).alloc (Nat.le_refl _) _).alloc (by simp) _).alloc (by simp; omega) _
  have nA : NF w.heap.size (((w.alloc (.cells #[.slice ac h.calls.length kc, .int .i64 h.now, .int .i64 h.born, .slice aD h.said.length kD, .int .i64 h.code] 28)).alloc (.cells #[.slice none 0 0, .int .i64 0, .int .i64 0, .slice none 0 0, .int .i64 0] 45)).alloc (.cells #[.slice none 0 0, .int .i64 0, .int .i64 0, .slice none 0 0, .int .i64 0] 45)) := (((NF.start w).alloc _ _).alloc _ _).alloc _ _
  have pA := ((five_new w 28 (.slice ac h.calls.length kc) (.int .i64 h.now) (.int .i64 h.born) (.slice aD h.said.length kD) (.int .i64 h.code)).alloc (.cells #[.slice none 0 0, .int .i64 0, .int .i64 0, .slice none 0 0, .int .i64 0] 45)).alloc (.cells #[.slice none 0 0, .int .i64 0, .int .i64 0, .slice none 0 0, .int .i64 0] 45)
  have rB := (five_new (w.alloc (.cells #[.slice ac h.calls.length kc, .int .i64 h.now, .int .i64 h.born, .slice aD h.said.length kD, .int .i64 h.code] 28)) 45 (.slice none 0 0) (.int .i64 0) (.int .i64 0) (.slice none 0 0) (.int .i64 0)).alloc (.cells #[.slice none 0 0, .int .i64 0, .int .i64 0, .slice none 0 0, .int .i64 0] 45)
  have oC := five_new ((w.alloc (.cells #[.slice ac h.calls.length kc, .int .i64 h.now, .int .i64 h.born, .slice aD h.said.length kD, .int .i64 h.code] 28)).alloc (.cells #[.slice none 0 0, .int .i64 0, .int .i64 0, .slice none 0 0, .int .i64 0] 45)) 45 (.slice none 0 0) (.int .i64 0) (.int .i64 0) (.slice none 0 0) (.int .i64 0)
  have zA : (((w.alloc (.cells #[.slice ac h.calls.length kc, .int .i64 h.now, .int .i64 h.born, .slice aD h.said.length kD, .int .i64 h.code] 28)).alloc (.cells #[.slice none 0 0, .int .i64 0, .int .i64 0, .slice none 0 0, .int .i64 0] 45)).alloc (.cells #[.slice none 0 0, .int .i64 0, .int .i64 0, .slice none 0 0, .int .i64 0] 45)).heap.size ≥ w.heap.size + 1 + 1 + 1 := by simp
  simp only [World.size_alloc] at rB oC
  go_enter Tryz.func8, Tryz.ntmps8
  go_upto_region 2 with fail
  generalize ((w.alloc (.cells #[.slice ac h.calls.length kc, .int .i64 h.now, .int .i64 h.born, .slice aD h.said.length kD, .int .i64 h.code] 28)).alloc (.cells #[.slice none 0 0, .int .i64 0, .int .i64 0, .slice none 0 0, .int .i64 0] 45)).alloc (.cells #[.slice none 0 0, .int .i64 0, .int .i64 0, .slice none 0 0, .int .i64 0] 45) = W0 at *
  have NA : Hid (NF w.heap.size W0) := nA
  clear nA
  obtain ⟨⟨u0, _, _, _, _⟩, _⟩ := five_cells pA
  go_wp2_with fail
  refine (toCallS_any _ h.calls _ (hh.below hA).c hsm.1 hsm.2.1).mono ?_
  rintro e w1 ⟨G, rfl, hn1, hb1, n1⟩
  have N1 : Hid (NF w.heap.size w1) := NA.out.go n1 hb1
  have B1 : Below w.heap.size w w1 := hA.trans (hb1.mono (by omega))
  have p1 := row_below hb1 pA
  have r1 := row_below hb1 rB
  have q1 := row_below hb1 oC
  clear n1 NA hA hb1 pA rB oC u0
  have hn2 := hn1.setAt (b := w.heap.size + 1 + 1) (o := 0) (by omega) (full W0.heap.size h.calls.length)
  have q2 := five_set0 q1 (full W0.heap.size h.calls.length)
  have p2 := row_set (k := w.heap.size + 1 + 1) (o := 0) p1 (by omega) (full W0.heap.size h.calls.length)
  have r2 := row_set (k := w.heap.size + 1 + 1) (o := 0) r1 (by omega) (full W0.heap.size h.calls.length)
  have B2 := B1.setCell (p := ⟨w.heap.size + 1 + 1, 0, none⟩) (show w.heap.size ≤ w.heap.size + 1 + 1 by omega) (full W0.heap.size h.calls.length)
  have N2 : Hid (NF w.heap.size (w1.setCell ⟨w.heap.size + 1 + 1, 0, none⟩ (full W0.heap.size h.calls.length))) := N1.out.set _ _
  obtain ⟨⟨t0, _, _, _, _⟩, f0, _, _, _, _⟩ := five_cells q1
  clear N1 B1 p1 r1 q1 hn1
  go_upto_region 3 with fail
  generalize w1.setCell ⟨w.heap.size + 1 + 1, 0, none⟩ (.slice (some ⟨W0.heap.size, 0, none⟩) h.calls.length h.calls.length) = w2 at *
  clear t0 f0
  obtain ⟨⟨_, u1, u2, u3, u4⟩, _⟩ := five_cells p2
  obtain ⟨⟨_, t1, t2, _, _⟩, _, f1, f2, _, _⟩ := five_cells q2
  have hn3 := (hn2.setAt (b := w.heap.size + 1 + 1) (o := 1) (by omega) (.int .i64 h.now)).setAt (b := w.heap.size + 1 + 1) (o := 2) (by omega) (.int .i64 h.born)
  have q3 := five_set2 (five_set1 q2 (.int .i64 h.now)) (.int .i64 h.born)
  have p3 := row_set (k := w.heap.size + 1 + 1) (o := 2) (row_set (k := w.heap.size + 1 + 1) (o := 1) p2 (by omega) (.int .i64 h.now)) (by omega) (.int .i64 h.born)
  have r3 := row_set (k := w.heap.size + 1 + 1) (o := 2) (row_set (k := w.heap.size + 1 + 1) (o := 1) r2 (by omega) (.int .i64 h.now)) (by omega) (.int .i64 h.born)
  have B3 := (B2.setCell (p := ⟨w.heap.size + 1 + 1, 1, none⟩) (show w.heap.size ≤ w.heap.size + 1 + 1 by omega) (.int .i64 h.now)).setCell (p := ⟨w.heap.size + 1 + 1, 2, none⟩) (show w.heap.size ≤ w.heap.size + 1 + 1 by omega) (.int .i64 h.born)
  have N3 : Hid (NF w.heap.size ((w2.setCell ⟨w.heap.size + 1 + 1, 1, none⟩ (.int .i64 h.now)).setCell ⟨w.heap.size + 1 + 1, 2, none⟩ (.int .i64 h.born))) := (N2.out.set _ _).set _ _
  clear N2 B2 p2 r2 q2 hn2
  go_upto_region 5 with fail
  generalize (w2.setCell ⟨w.heap.size + 1 + 1, 1, none⟩ (.int .i64 h.now)).setCell ⟨w.heap.size + 1 + 1, 2, none⟩ (.int .i64 h.born) = w3 at *
  clear u1 u2 u3 u4 t1 t2 f1 f2
  obtain ⟨⟨_, _, _, u3, _⟩, _⟩ := five_cells p3
  go_wp2_with fail
  refine (toValS_any _ h.said _ (hh.below B3).s hsm.2.2).mono ?_
  rintro e w4 ⟨v4, rfl, o4, hv4, hb4, n4, s4⟩
  subst hv4
  have N4 : Hid (NF w.heap.size w4) := N3.out.go n4 hb4
  have B4 : Below w.heap.size w w4 := B3.trans (hb4.mono B3.size)
  have p4 := row_below hb4 p3
  have r4 := row_below hb4 r3
  have q4 := row_below hb4 q3
  have hn4 := hn3.below hb4
  have hz3 : W0.heap.size < w3.heap.size := hn3.row.lt
  have hls : ∀ i, i < h.calls.length → (G i).2 < w3.heap.size := fun i hi => (hn3.lists i hi hi).2.2.1
  have K4 : NewHeap W0.heap.size w3.heap.size w4 h G := ⟨hn4, o4, hz3, hls, s4⟩
  have HK : Hid (NewHeap W0.heap.size w3.heap.size w4 h G) := K4
  clear n4 N3 B3 hb4 p3 r3 q3 hn3 hn4 hls K4 o4 u3
  obtain ⟨⟨_, _, _, _, u4⟩, _⟩ := five_cells p4
  obtain ⟨⟨t0, t1, t2, t3, t4⟩, f0, f1, f2, f3, f4⟩ := five_cells q4
  obtain ⟨⟨i0, i1, i2, i3, i4⟩, j0, j1, j2, j3, j4⟩ := five_cells r4
  obtain ⟨W9, hW9⟩ : ∃ W9, W9 = ((((((w4.setCell ⟨w.heap.size + 1 + 1, 3, none⟩ (.slice (some ⟨w3.heap.size, 0, none⟩) h.said.length h.said.length)).setCell ⟨w.heap.size + 1 + 1, 4, none⟩ (.int .i64 h.code)).setCell ⟨w.heap.size + 1, 0, none⟩ (.slice (some ⟨W0.heap.size, 0, none⟩) h.calls.length h.calls.length)).setCell ⟨w.heap.size + 1, 1, none⟩ (.int .i64 h.now)).setCell ⟨w.heap.size + 1, 2, none⟩ (.int .i64 h.born)).setCell ⟨w.heap.size + 1, 3, none⟩ (.slice (some ⟨w3.heap.size, 0, none⟩) h.said.length h.said.length)).setCell ⟨w.heap.size + 1, 4, none⟩ (.int .i64 h.code) := ⟨_, rfl⟩
  have B9 : Below w.heap.size w W9 := by
    rw [hW9]
    exact ((((((B4.setCell (show w.heap.size ≤ w.heap.size + 1 + 1 by omega) _).setCell (show w.heap.size ≤ w.heap.size + 1 + 1 by omega) _).setCell (Nat.le_succ _) _).setCell (Nat.le_succ _) _).setCell (Nat.le_succ _) _).setCell (Nat.le_succ _) _).setCell (Nat.le_succ _) _
  have N9 : NF w.heap.size W9 := by
    rw [hW9]
    exact ((((((N4.out.set _ _).set _ _).set _ _).set _ _).set _ _).set _ _).set _ _
  have K9 : NewHeap W0.heap.size w3.heap.size W9 h G := by
    rw [hW9]
    exact ((((((HK.out.setAt (by omega) _).setAt (by omega) _).setAt (by omega) _).setAt (by omega) _).setAt (by omega) _).setAt (by omega) _).setAt (by omega) _
  have R9 : W9.rowIs (w.heap.size + 1) 45 5 (five (.slice (some ⟨W0.heap.size, 0, none⟩) h.calls.length h.calls.length) (.int .i64 h.now) (.int .i64 h.born) (.slice (some ⟨w3.heap.size, 0, none⟩) h.said.length h.said.length) (.int .i64 h.code)) := by
    rw [hW9]
    exact five_set4 (five_set3 (five_set2 (five_set1 (five_set0 (row_set (row_set r4 (by omega) _) (by omega) _) _) _) _) _) _
  have HW : Hid (W9 = _) := hW9
  clear hW9 N4 B4 p4 r4 q4 HK
  go_wp2
  rw [← HW.out]
  obtain ⟨⟨d0, d1, d2, d3, d4⟩, _⟩ := five_cells R9
  exact bodyPost_ret (v := .agg #[.slice (some ⟨W0.heap.size, 0, none⟩) h.calls.length h.calls.length, .int .i64 h.now, .int .i64 h.born, .slice (some ⟨w3.heap.size, 0, none⟩) h.said.length h.said.length, .int .i64 h.code]) (by simp [results, Tryz.results8, go_sem, d0, d1, d2, d3, d4]) rfl ⟨_, _, _, rfl, by omega, K9, B9, N9⟩
end Go.Proofs.YtmifhlkcceafkaaGreat

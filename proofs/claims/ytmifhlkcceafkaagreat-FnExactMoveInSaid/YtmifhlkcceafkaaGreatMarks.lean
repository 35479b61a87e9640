/-
  markValS, markCallS, markHeap and heldValS, heldCallS, heldHeap of the exact laws: what marks writes numbers that go up by one into the blocks of the heap that it is handed, and nowhere else; what is held answers them.
-/
import Derived.Test.YtmifhlkcceafkaaGreatProg
import Derived.Test.YtmifhlkcceafkaaGreatOwn
import Derived.Test.YtmifhlkcceafkaaGreatHCopy2
import Derived.Deep.QuietTactic

namespace Go.Proofs.YtmifhlkcceafkaaGreat
open Go.RowKit
def markV (k : Int) (n : Nat) : List (Int × Int) := (List.range n).map fun i : Nat => (k + 2 * (i : Int), k + 2 * (i : Int) + 1)
theorem markV_length (k : Int) (n : Nat) : (markV k n).length = n := by simp [markV]
theorem markV_at (k : Int) (n i : Nat) (h : i < (markV k n).length) : (markV k n)[i] = (k + 2 * (i : Int), k + 2 * (i : Int) + 1) := by simp [markV]
set_option maxRecDepth 100000 in
set_option maxHeartbeats 1000000 in
theorem markValS_any (B : Nat) (v : Value) (xs : List (Int × Int)) (k : Int) (w : World) (h : PairRow B w v xs) (hx : xs.length ≤ 1049000) (hk0 : 0 ≤ k) (hk1 : k ≤ 1125899906842624) :
    Calls Tryz.prog 43 #[v, .int .i64 k] w fun e w' => e = .returned (.int .i64 (k + 2 * (xs.length : Int))) ∧ PairRow B w' v (markV k xs.length) ∧ Wr (fun g => v.ownBlock = some g) w w' := by
  obtain ⟨a, c, rfl, hl⟩ := h.slice
  unfold maxLen at hl
  go_enter Tryz.func43, Tryz.ntmps43
  go_wp2
  go_loopg [1, 5] xs.length (fun g kv i wr => ∃ (j : Nat) (ys : List (Int × Int)), j ≤ xs.length ∧ g = xs.length - j ∧ i = .int .i64 j ∧ kv = .int .i64 (k + 2 * (j : Int)) ∧ ys.length = xs.length ∧ PairRow B wr (.slice a xs.length c) ys ∧ (∀ q, (hq : q < ys.length) → q < j → ys[q] = (k + 2 * (q : Int), k + 2 * (q : Int) + 1)) ∧ Wr (fun g => (Value.slice a xs.length c).ownBlock = some g) w wr)
  case atStart => exact ⟨0, xs, Nat.zero_le _, rfl, rfl, by simp, rfl, h, fun q _ hq => absurd hq (Nat.not_lt_zero _), Wr.refl _ _⟩
  case round =>
    obtain ⟨j, ys, hj, rfl, rfl, rfl, hyl, hrow, hys, hg⟩ := hrel
    have HY : Hid (∀ q, (hq : q < ys.length) → q < j → ys[q] = (k + 2 * (q : Int), k + 2 * (q : Int) + 1)) := hys
    clear hys
    by_cases hlt : j < xs.length
    · obtain ⟨g1, o1, c1, e1, _⟩ := hrow.form (by omega)
      obtain rfl : a = some ⟨g1, o1, none⟩ := by injection e1
      clear e1
      obtain ⟨⟨d0, d1⟩, f0, f1⟩ := hrow.cell (i := j) (by omega)
      have hset := hrow.set j (by omega) (k + 2 * (j : Int)) (k + 2 * (j : Int) + 1)
      have hjz : (j : Int) < (xs.length : Int) := by omega
      have hg2 : Wr (fun g => (Value.slice (some ⟨g1, o1, none⟩) xs.length c).ownBlock = some g) w ((wr.setCell ⟨g1, o1 + j * 2, none⟩ (.int .i64 (k + 2 * (j : Int)))).setCell ⟨g1, o1 + j * 2 + 1, none⟩ (.int .i64 (k + 2 * (j : Int) + 1))) := (hg.set (p := ⟨g1, o1 + j * 2, none⟩) rfl _).set (p := ⟨g1, o1 + j * 2 + 1, none⟩) rfl _
      have hw1 : IntKind.i64.wrap (k + 2 * (j : Int) + 1) = k + 2 * (j : Int) + 1 := by rw [IntKind.wrap_i64]; omega
      have hw2 : IntKind.i64.wrap (k + 2 * (j : Int) + 1 + 1) = k + 2 * (j : Int) + 1 + 1 := by rw [IntKind.wrap_i64]; omega
      clear hrow hg
      go_wp2
      go_roundg (xs.length - (j + 1))
      case measure => omega
      case rel => exact ⟨j + 1, ys.set j (k + 2 * (j : Int), k + 2 * (j : Int) + 1), by omega, rfl, by go_num, by rw [show k + 2 * (j : Int) + 1 + 1 = k + 2 * ((j + 1 : Nat) : Int) by omega], by rw [List.length_set]; exact hyl, hset, fun q hq hqk => by
          rw [List.length_set] at hq
          by_cases e : q = j
          · subst e; simp
          · rw [List.getElem_set_ne (fun x => e x.symm)]; exact HY.out q hq (by omega), hg2⟩
    · obtain rfl : j = xs.length := by omega
      have hE : ys = markV k xs.length := List.ext_getElem (by rw [markV_length]; exact hyl) fun q h1 h2 => by rw [markV_at, HY.out q h1 (by omega)]
      subst hE
      go_wp2
      go_ret
      exact ⟨rfl, hrow, hg⟩
set_option maxRecDepth 100000 in
set_option maxHeartbeats 1000000 in
theorem heldValS_any (v : Value) (n : Nat) (k : Int) (w : World) (h : OpsAt w v (markV k n)) (hx : n ≤ 1049000) (hk0 : 0 ≤ k) (hk1 : k ≤ 1125899906842624) :
    Calls Tryz.prog 50 #[v, .int .i64 k] w fun e w' => e = .returned (.int .i64 (k + 2 * (n : Int))) ∧ w' = w := by
  obtain ⟨a, c, rfl, hl, hc⟩ := h
  rw [markV_length] at hl ⊢
  go_enter Tryz.func50, Tryz.ntmps50
  go_wp2
  go_loopg [1, 5] n (fun g kv i wr => ∃ j : Nat, j ≤ n ∧ g = n - j ∧ i = .int .i64 j ∧ kv = .int .i64 (k + 2 * (j : Int)) ∧ wr = w)
  case atStart => exact ⟨0, Nat.zero_le _, rfl, rfl, by simp, rfl⟩
  case round =>
    obtain ⟨j, hj, rfl, rfl, rfl, hw⟩ := hrel
    subst hw
    by_cases hlt : j < n
    · obtain ⟨b, o, e1, d0, d1⟩ := hc j (by rw [markV_length]; exact hlt)
      subst e1
      rw [markV_at] at d0 d1
      dsimp only at d0 d1
      have hjz : (j : Int) < (n : Int) := by omega
      have hw1 : IntKind.i64.wrap (k + 2 * (j : Int) + 1) = k + 2 * (j : Int) + 1 := by rw [IntKind.wrap_i64]; omega
      have hw2 : IntKind.i64.wrap (k + 2 * (j : Int) + 1 + 1) = k + 2 * (j : Int) + 1 + 1 := by rw [IntKind.wrap_i64]; omega
      clear hc
      go_wp2
      go_roundg (n - (j + 1))
      case measure => omega
      case rel => exact ⟨j + 1, by omega, rfl, by go_num, by rw [show k + 2 * (j : Int) + 1 + 1 = k + 2 * ((j + 1 : Nat) : Int) by omega], rfl⟩
    · obtain rfl : j = n := by omega
      go_wp2
      go_ret
      exact ⟨rfl, rfl⟩
def spanC (c : Cl) : Int := 4 + 2 * (c.temps.length : Int) + 2 * (c.stack.length : Int)
def markC (k : Int) (c : Cl) : Cl :=
  ⟨k, k + 1, markV (k + 1 + 1) c.temps.length, markV (k + 1 + 1 + 2 * (c.temps.length : Int)) c.stack.length, k + 1 + 1 + 2 * (c.temps.length : Int) + 2 * (c.stack.length : Int), ((k + 1 + 1 + 2 * (c.temps.length : Int) + 2 * (c.stack.length : Int) + 1) % 3 == 0)⟩
def kAt (k : Int) (cs : List Cl) (j : Nat) : Int := k + ((cs.take j).map spanC).sum
theorem kAt_zero (k : Int) (cs : List Cl) : kAt k cs 0 = k := by simp [kAt]
theorem kAt_succ (k : Int) (cs : List Cl) (j : Nat) (h : j < cs.length) : kAt k cs (j + 1) = kAt k cs j + spanC cs[j] := by
  unfold kAt
  rw [List.take_add_one, List.getElem?_eq_getElem h, List.map_append, List.sum_append]
  simp only [Option.toList_some, List.map_cons, List.map_nil, List.sum_cons, List.sum_nil]
  omega
def markCs (k : Int) (cs : List Cl) : List Cl := cs.mapIdx fun i c => markC (kAt k cs i) c
theorem markCs_length (k : Int) (cs : List Cl) : (markCs k cs).length = cs.length := by simp [markCs]
theorem markCs_at (k : Int) (cs : List Cl) (i : Nat) (h : i < (markCs k cs).length) : (markCs k cs)[i] = markC (kAt k cs i) (cs[i]'(by rw [markCs_length] at h; exact h)) := by simp [markCs]
theorem kAt_le (k : Int) (cs : List Cl) (hs : ∀ i, (hi : i < cs.length) → cs[i].small) : ∀ j, j ≤ cs.length → k ≤ kAt k cs j ∧ kAt k cs j ≤ k + (j : Int) * 4194308
  | 0, _ => by rw [kAt_zero]; omega
  | j + 1, h => by
    have ih := kAt_le k cs hs j (by omega)
    rw [kAt_succ k cs j (by omega)]
    have := hs j (by omega)
    unfold Cl.small at this
    unfold spanC
    omega
theorem OwnCalls.cell {B : Nat} {w : World} {g off n cap : Nat} {cs : List Cl} {V : Nat → Value × Value} (h : OwnCalls B w (.slice (some ⟨g, off, none⟩) n cap) cs V) {i : Nat} (hi : i < cs.length) :
    (w.cell? ⟨g, off + i * 6, none⟩ = some (.int .i64 cs[i].m) ∧ w.cell? ⟨g, off + i * 6 + 1, none⟩ = some (.int .i64 cs[i].pc) ∧ w.cell? ⟨g, off + i * 6 + 2, none⟩ = some (V i).1 ∧
      w.cell? ⟨g, off + i * 6 + 3, none⟩ = some (V i).2 ∧ w.cell? ⟨g, off + i * 6 + 4, none⟩ = some (.int .i64 cs[i].sender) ∧ w.cell? ⟨g, off + i * 6 + 5, none⟩ = some (.bool cs[i].dead)) ∧ g < w.heap.size ∧ ∀ q, q < 6 → w.frozen? ⟨g, off + i * 6 + q, none⟩ = false := by
  rcases h.row with ⟨h, _⟩ | ⟨g', off', cap', hv, _, hg, hl, _, hsp, hx⟩
  · cases h
  · cases hv
    refine ⟨hx i hi, hg, fun q hq => ?_⟩
    have := (hsp (i * 6 + q) (by omega)).2
    rwa [← Nat.add_assoc] at this
theorem OwnCalls.others {B : Nat} {w : World} {v : Value} {cs : List Cl} {V : Nat → Value × Value} (h : OwnCalls B w v cs V) {i : Nat} (hi : i < cs.length) :
    (∀ q, v.ownBlock = some q → (V i).1.ownBlock ≠ some q ∧ (V i).2.ownBlock ≠ some q) ∧ (∀ q, (V i).1.ownBlock = some q → (V i).2.ownBlock ≠ some q) := by
  refine ⟨fun q hq => ⟨fun e => ?_, fun e => ?_⟩, fun q e => ?_⟩
  · exact (h.apart (i * 2) (by omega) q (by rw [lst_0]; exact e)).1 hq
  · exact (h.apart (i * 2 + 1) (by omega) q (by rw [lst_1]; exact e)).1 hq
  · have := (h.apart (i * 2) (by omega) q (by rw [lst_0]; exact e)).2 (i * 2 + 1) (by omega) (by omega)
    rwa [lst_1] at this
theorem addr_ne {g o o' : Nat} (h : o ≠ o') : (⟨g, o, none⟩ : Addr) ≠ ⟨g, o', none⟩ := fun e => h (congrArg Addr.off e)
theorem off_ne {w : World} {g o o' : Nat} {u : Value} (h : o ≠ o') : (w.setCell ⟨g, o, none⟩ u).cell? ⟨g, o', none⟩ = w.cell? ⟨g, o', none⟩ := World.cell?_setCell_other _ _ _ _ (addr_ne h)
theorem mark_step {B : Nat} {wr w3 w4 : World} {g off cap n : Nat} {ys : List Cl} {V : Nat → Value × Value} {j : Nat} (c : Cl) (hown : OwnCalls B wr (.slice (some ⟨g, off, none⟩) n cap) ys V) (hj : j < ys.length)
    (hlt : c.temps.length = ys[j].temps.length) (hls : c.stack.length = ys[j].stack.length)
    (hw3 : Wr (fun q => (V j).1.ownBlock = some q) ((wr.setCell ⟨g, off + j * 6, none⟩ (.int .i64 c.m)).setCell ⟨g, off + j * 6 + 1, none⟩ (.int .i64 c.pc)) w3) (hp3 : PairRow B w3 (V j).1 c.temps)
    (hw4 : Wr (fun q => (V j).2.ownBlock = some q) w3 w4) (hp4 : PairRow B w4 (V j).2 c.stack) :
    OwnCalls B ((w4.setCell ⟨g, off + j * 6 + 4, none⟩ (.int .i64 c.sender)).setCell ⟨g, off + j * 6 + 5, none⟩ (.bool c.dead)) (.slice (some ⟨g, off, none⟩) n cap) (ys.set j c) V ∧
    Wr (CallBlocks (.slice (some ⟨g, off, none⟩) n cap) ys.length V) wr ((w4.setCell ⟨g, off + j * 6 + 4, none⟩ (.int .i64 c.sender)).setCell ⟨g, off + j * 6 + 5, none⟩ (.bool c.dead)) := by
  obtain ⟨⟨c0, c1, c2, c3, c4, c5⟩, hg, hf⟩ := hown.cell hj
  obtain ⟨ho1, ho2⟩ := hown.others hj
  obtain ⟨n1, n2⟩ := ho1 g rfl
  have z2 : ((wr.setCell ⟨g, off + j * 6, none⟩ (.int .i64 c.m)).setCell ⟨g, off + j * 6 + 1, none⟩ (.int .i64 c.pc)).heap.size = wr.heap.size := by simp [World.setCell]
  have z3 := hw3.size
  have z4 := hw4.size
  have cw : ∀ o, w4.cell? ⟨g, o, none⟩ = ((wr.setCell ⟨g, off + j * 6, none⟩ (.int .i64 c.m)).setCell ⟨g, off + j * 6 + 1, none⟩ (.int .i64 c.pc)).cell? ⟨g, o, none⟩ := fun o =>
    (World.cell?_of_block (a := ⟨g, o, none⟩) (hw4.block g (by omega) n2)).trans (World.cell?_of_block (a := ⟨g, o, none⟩) (hw3.block g (by omega) n1))
  have W : Wr (CallBlocks (.slice (some ⟨g, off, none⟩) n cap) ys.length V) wr ((w4.setCell ⟨g, off + j * 6 + 4, none⟩ (.int .i64 c.sender)).setCell ⟨g, off + j * 6 + 5, none⟩ (.bool c.dead)) := by
    have T0 : CallBlocks (.slice (some ⟨g, off, none⟩) n cap) ys.length V g := .inl rfl
    have W2 : Wr (CallBlocks (.slice (some ⟨g, off, none⟩) n cap) ys.length V) wr ((wr.setCell ⟨g, off + j * 6, none⟩ (.int .i64 c.m)).setCell ⟨g, off + j * 6 + 1, none⟩ (.int .i64 c.pc)) := ((Wr.refl _ _).set (p := ⟨g, off + j * 6, none⟩) T0 _).set (p := ⟨g, off + j * 6 + 1, none⟩) T0 _
    have W3 := W2.trans (hw3.mono fun q hq => .inr ⟨j * 2, by omega, by rw [lst_0]; exact hq⟩)
    have W4 := W3.trans (hw4.mono fun q hq => .inr ⟨j * 2 + 1, by omega, by rw [lst_1]; exact hq⟩)
    exact (W4.set (p := ⟨g, off + j * 6 + 4, none⟩) T0 _).set (p := ⟨g, off + j * 6 + 5, none⟩) T0 _
  have e0 : ∀ o, o ≠ off + j * 6 + 4 → o ≠ off + j * 6 + 5 → ((w4.setCell ⟨g, off + j * 6 + 4, none⟩ (.int .i64 c.sender)).setCell ⟨g, off + j * 6 + 5, none⟩ (.bool c.dead)).cell? ⟨g, o, none⟩ = ((wr.setCell ⟨g, off + j * 6, none⟩ (.int .i64 c.m)).setCell ⟨g, off + j * 6 + 1, none⟩ (.int .i64 c.pc)).cell? ⟨g, o, none⟩ := fun o h1 h2 => by
    rw [off_ne (Ne.symm h2), off_ne (Ne.symm h1), cw]
  have d4 : w4.cell? ⟨g, off + j * 6 + 4, none⟩ = some (.int .i64 ys[j].sender) := by rw [cw, off_ne (by omega), off_ne (by omega)]; exact c4
  have d5 : (w4.setCell ⟨g, off + j * 6 + 4, none⟩ (.int .i64 c.sender)).cell? ⟨g, off + j * 6 + 5, none⟩ = some (.bool ys[j].dead) := by rw [off_ne (by omega), cw, off_ne (by omega), off_ne (by omega)]; exact c5
  refine ⟨hown.step hj c hlt hls W.size W.fr (fun o ho => ?_) (fun q hq hne h1 h2 => ?_) ?_ ?_ ?_ ?_ ?_ ?_ ?_ ?_, W⟩
  · rw [e0 o (by omega) (by omega), off_ne (by omega), off_ne (by omega)]
  · rw [Below.heap_setCell _ _ _ _ hne, Below.heap_setCell _ _ _ _ hne, hw4.block q (by omega) h2, hw3.block q (by omega) h1, Below.heap_setCell _ _ _ _ hne, Below.heap_setCell _ _ _ _ hne]
  · rw [e0 _ (by omega) (by omega), off_ne (by omega)]; exact World.cell?_setCell_same _ _ _ c0
  · rw [e0 _ (by omega) (by omega)]; exact World.cell?_setCell_same _ _ _ (by rw [off_ne (by omega)]; exact c1)
  · rw [e0 _ (by omega) (by omega), off_ne (by omega), off_ne (by omega)]; exact c2
  · rw [e0 _ (by omega) (by omega), off_ne (by omega), off_ne (by omega)]; exact c3
  · rw [off_ne (by omega)]; exact World.cell?_setCell_same _ _ _ d4
  · exact World.cell?_setCell_same _ _ _ d5
  · exact ((hw4.pair hp3 ho2).set_other _ n1).set_other _ n1
  · exact (hp4.set_other _ n2).set_other _ n2
set_option maxRecDepth 100000 in
set_option maxHeartbeats 2000000 in
theorem markCallS_any (B : Nat) (v : Value) (cs : List Cl) (V : Nat → Value × Value) (k : Int) (w : World) (h : OwnCalls B w v cs V) (hx : cs.length ≤ 1048576) (hsm : ∀ i, (hi : i < cs.length) → cs[i].small) (hk0 : 0 ≤ k) (hk1 : k ≤ 10995116277760) :
    Calls Tryz.prog 42 #[v, .int .i64 k] w fun e w' => e = .returned (.int .i64 (kAt k cs cs.length)) ∧ OwnCalls B w' v (markCs k cs) V ∧ Wr (CallBlocks v cs.length V) w w' := by
  obtain ⟨a, c, rfl, hl⟩ := h.shape
  unfold maxLen at hl
  go_enter Tryz.func42, Tryz.ntmps42
  go_wp2
  go_loopg [1, 5] cs.length (fun g kv i wr => ∃ (j : Nat) (ys : List Cl), j ≤ cs.length ∧ g = cs.length - j ∧ i = .int .i64 j ∧ kv = .int .i64 (kAt k cs j) ∧ ys.length = cs.length ∧ OwnCalls B wr (.slice a cs.length c) ys V ∧
      (∀ q, (hq : q < ys.length) → (hq' : q < cs.length) → (q < j → ys[q] = markC (kAt k cs q) cs[q]) ∧ (j ≤ q → ys[q] = cs[q])) ∧ Wr (CallBlocks (.slice a cs.length c) cs.length V) w wr)
  case atStart => exact ⟨0, cs, Nat.zero_le _, rfl, rfl, by rw [kAt_zero], rfl, h, fun q _ _ => ⟨fun hq => absurd hq (Nat.not_lt_zero _), fun _ => rfl⟩, Wr.refl _ _⟩
  case round =>
    obtain ⟨j, ys, hj, rfl, rfl, rfl, hyl, hown, hys, hg⟩ := hrel
    have HY : Hid (∀ q, (hq : q < ys.length) → (hq' : q < cs.length) → (q < j → ys[q] = markC (kAt k cs q) cs[q]) ∧ (j ≤ q → ys[q] = cs[q])) := hys
    clear hys
    by_cases hlt : j < cs.length
    · obtain ⟨g1, o1, c1, e1, hB1, hg1⟩ := hown.form (by omega)
      obtain rfl : a = some ⟨g1, o1, none⟩ := by injection e1
      clear e1
      have hjy : j < ys.length := by omega
      have hyj : ys[j] = cs[j] := (HY.out j hjy hlt).2 (Nat.le_refl _)
      obtain ⟨⟨d0, d1, d2, d3, d4, d5⟩, hgs, hfz⟩ := hown.cell hjy
      obtain ⟨ho1, ho2⟩ := hown.others hjy
      obtain ⟨n1, n2⟩ := ho1 g1 rfl
      obtain ⟨P1, P2⟩ := hown.lists j hjy
      have hstep := fun (c' : Cl) w3 w4 => mark_step (w3 := w3) (w4 := w4) c' hown hjy
      rw [hyj] at P1 P2 hstep
      have hcs := hsm j hlt
      unfold Cl.small at hcs
      have hK := kAt_le k cs hsm j (by omega)
      have hKs : Hid (kAt k cs (j + 1) = kAt k cs j + spanC cs[j]) := kAt_succ k cs j hlt
      have HST : Hid (_) := hstep
      clear hstep
      generalize hKe : kAt k cs j = K at *
      have HKe : Hid (kAt k cs j = K) := hKe
      have HOWN : Hid (Wr (CallBlocks (.slice (some ⟨g1, o1, none⟩) cs.length c) cs.length V) w wr) := hg
      have HV1 : Hid (∀ q, (V j).1.ownBlock = some q → (V j).2.ownBlock ≠ some q) := ho2
      have f0 : wr.frozen? ⟨g1, o1 + j * 6, none⟩ = false := hfz 0 (by omega)
      have f1 : wr.frozen? ⟨g1, o1 + j * 6 + 1, none⟩ = false := hfz 1 (by omega)
      have f4 : wr.frozen? ⟨g1, o1 + j * 6 + 4, none⟩ = false := hfz 4 (by omega)
      have f5 : wr.frozen? ⟨g1, o1 + j * 6 + 5, none⟩ = false := hfz 5 (by omega)
      have hjz : (j : Int) < (cs.length : Int) := by omega
      have hd2 : ∀ u1 u2, ((wr.setCell ⟨g1, o1 + j * 6, none⟩ u1).setCell ⟨g1, o1 + j * 6 + 1, none⟩ u2).cell? ⟨g1, o1 + j * 6 + 2, none⟩ = some (V j).1 := fun u1 u2 => by rw [off_ne (by omega), off_ne (by omega)]; exact d2
      have hd3 : ∀ u1 u2, ((wr.setCell ⟨g1, o1 + j * 6, none⟩ u1).setCell ⟨g1, o1 + j * 6 + 1, none⟩ u2).cell? ⟨g1, o1 + j * 6 + 3, none⟩ = some (V j).2 := fun u1 u2 => by rw [off_ne (by omega), off_ne (by omega)]; exact d3
      have hd4 : ∀ u1 u2, ((wr.setCell ⟨g1, o1 + j * 6, none⟩ u1).setCell ⟨g1, o1 + j * 6 + 1, none⟩ u2).cell? ⟨g1, o1 + j * 6 + 4, none⟩ = some (.int .i64 ys[j].sender) := fun u1 u2 => by rw [off_ne (by omega), off_ne (by omega)]; exact d4
      have hd5 : ∀ u1 u2, ((wr.setCell ⟨g1, o1 + j * 6, none⟩ u1).setCell ⟨g1, o1 + j * 6 + 1, none⟩ u2).cell? ⟨g1, o1 + j * 6 + 5, none⟩ = some (.bool ys[j].dead) := fun u1 u2 => by rw [off_ne (by omega), off_ne (by omega)]; exact d5
      have hp1 : ∀ u1 u2, PairRow B ((wr.setCell ⟨g1, o1 + j * 6, none⟩ u1).setCell ⟨g1, o1 + j * 6 + 1, none⟩ u2) (V j).1 cs[j].temps := fun u1 u2 => (P1.set_other _ n1).set_other _ n1
      have hp2 : ∀ u1 u2, PairRow B ((wr.setCell ⟨g1, o1 + j * 6, none⟩ u1).setCell ⟨g1, o1 + j * 6 + 1, none⟩ u2) (V j).2 cs[j].stack := fun u1 u2 => (P2.set_other _ n2).set_other _ n2
      have hff : ∀ u1 u2 p, ((wr.setCell ⟨g1, o1 + j * 6, none⟩ u1).setCell ⟨g1, o1 + j * 6 + 1, none⟩ u2).frozen? p = wr.frozen? p := fun u1 u2 p => by rw [World.frozen?_setCell, World.frozen?_setCell]
      have hzz : ∀ u1 u2, wr.heap.size ≤ ((wr.setCell ⟨g1, o1 + j * 6, none⟩ u1).setCell ⟨g1, o1 + j * 6 + 1, none⟩ u2).heap.size := fun u1 u2 => by simp [World.setCell]
      have hw1 : IntKind.i64.wrap (K + 1) = K + 1 := by rw [IntKind.wrap_i64]; omega
      have hw2 : IntKind.i64.wrap (K + 1 + 1) = K + 1 + 1 := by rw [IntKind.wrap_i64]; omega
      obtain ⟨ht1, ht2⟩ := hcs
      clear hKe hg ho1 ho2 hfz hown P1 P2
      go_wp2_with fail
      refine (markValS_any B _ cs[j].temps _ _ (hp1 _ _) (by omega) (by omega) (by omega)).mono ?_
      rintro e w3 ⟨rfl, hq3, hr3⟩
      have hz2 := hzz (.int .i64 K) (.int .i64 (K + 1))
      have hz3 := hr3.size
      have e3 : w3.cell? ⟨g1, o1 + j * 6 + 3, none⟩ = some (V j).2 := hr3.cell (hd3 _ _) n1
      have e4 : w3.cell? ⟨g1, o1 + j * 6 + 4, none⟩ = some (.int .i64 ys[j].sender) := hr3.cell (hd4 _ _) n1
      have e5 : w3.cell? ⟨g1, o1 + j * 6 + 5, none⟩ = some (.bool ys[j].dead) := hr3.cell (hd5 _ _) n1
      have q4 : w3.frozen? ⟨g1, o1 + j * 6 + 4, none⟩ = false := (hr3.fr _ (Nat.lt_of_lt_of_le hgs hz2)).trans ((hff _ _ _).trans f4)
      have q5 : w3.frozen? ⟨g1, o1 + j * 6 + 5, none⟩ = false := (hr3.fr _ (Nat.lt_of_lt_of_le hgs hz2)).trans ((hff _ _ _).trans f5)
      have hs3 : PairRow B w3 (V j).2 cs[j].stack := hr3.pair (hp2 _ _) (fun q h2 h1 => HV1.out q h1 h2)
      have HR3 : Hid (Wr (fun g => (V j).1.ownBlock = some g) ((wr.setCell ⟨g1, o1 + j * 6, none⟩ (.int .i64 K)).setCell ⟨g1, o1 + j * 6 + 1, none⟩ (.int .i64 (K + 1))) w3) := hr3
      clear hr3 hd2 hd3 hd4 hd5 hp1 hp2 hff hzz d0 d1 d2 d3 d4 d5 f0 f1 f4 f5
      go_wp2_with fail
      refine (markValS_any B _ cs[j].stack _ _ hs3 (by omega) (by omega) (by omega)).mono ?_
      rintro e w4 ⟨rfl, hq4, hr4⟩
      have hz4 := hr4.size
      have i4 : w4.cell? ⟨g1, o1 + j * 6 + 4, none⟩ = some (.int .i64 ys[j].sender) := hr4.cell e4 n2
      have i5 : w4.cell? ⟨g1, o1 + j * 6 + 5, none⟩ = some (.bool ys[j].dead) := hr4.cell e5 n2
      have k4 : w4.frozen? ⟨g1, o1 + j * 6 + 4, none⟩ = false := (hr4.fr _ (by show g1 < _; omega)).trans q4
      have k5 : w4.frozen? ⟨g1, o1 + j * 6 + 5, none⟩ = false := (hr4.fr _ (by show g1 < _; omega)).trans q5
      have hd : ∀ u, (w4.setCell ⟨g1, o1 + j * 6 + 4, none⟩ u).cell? ⟨g1, o1 + j * 6 + 5, none⟩ = some (.bool ys[j].dead) := fun u => by rw [off_ne (by omega)]; exact i5
      have hS : Hid _ := HST.out (markC K cs[j]) w3 w4 (markV_length _ _) (markV_length _ _) HR3.out hq3 hr4 hq4
      have hw3 : IntKind.i64.wrap (K + 1 + 1 + 2 * (cs[j].temps.length : Int) + 2 * (cs[j].stack.length : Int) + 1) = K + 1 + 1 + 2 * (cs[j].temps.length : Int) + 2 * (cs[j].stack.length : Int) + 1 := by rw [IntKind.wrap_i64]; omega
      have hw4 : IntKind.i64.wrap (K + 1 + 1 + 2 * (cs[j].temps.length : Int) + 2 * (cs[j].stack.length : Int) + 1 + 1) = K + 1 + 1 + 2 * (cs[j].temps.length : Int) + 2 * (cs[j].stack.length : Int) + 1 + 1 := by rw [IntKind.wrap_i64]; omega
      clear hr4 hq3 hq4 e3 e4 e5 q4 q5 hs3 HST HR3
      go_wp2_with fail
      go_roundg (cs.length - (j + 1))
      case measure => omega
      case rel => exact ⟨j + 1, ys.set j (markC K cs[j]), by omega, rfl, by go_num, by rw [hKs.out]; unfold spanC; congr 1; omega, by rw [List.length_set]; exact hyl, hS.out.1, fun q h1 h2 => by
          rw [List.length_set] at h1
          refine ⟨fun hq => ?_, fun hq => ?_⟩
          · by_cases e : q = j
            · subst e; rw [List.getElem_set_self, HKe.out]
            · rw [List.getElem_set_ne (fun x => e x.symm)]; exact (HY.out q h1 h2).1 (by omega)
          · rw [List.getElem_set_ne (by omega)]; exact (HY.out q h1 h2).2 (by omega), by
          have := hS.out.2
          rw [hyl] at this
          exact HOWN.out.trans this⟩
    · obtain rfl : j = cs.length := by omega
      have hE : ys = markCs k cs := List.ext_getElem (by rw [markCs_length]; exact hyl) fun q h1 h2 => by rw [markCs_at, (HY.out q h1 (by omega)).1 (by omega)]
      subst hE
      go_wp2
      go_ret
      exact ⟨rfl, hown, hg⟩
def markH (k : Int) (h : Hp) : Hp := ⟨markCs k h.calls, h.now, h.born, markV (kAt k h.calls h.calls.length) h.said.length, h.code⟩
def Hp.fits (h : Hp) : Prop := h.calls.length ≤ 1048576 ∧ (∀ i, (hi : i < h.calls.length) → h.calls[i].small) ∧ h.said.length ≤ 1049000
theorem Hp.small.fits {h : Hp} (k : h.small) : h.fits := ⟨k.1, k.2.1, by have := k.2.2; omega⟩
def endH (k : Int) (h : Hp) : Int := kAt k h.calls h.calls.length + 2 * (h.said.length : Int)
set_option maxRecDepth 100000 in
set_option maxHeartbeats 2000000 in
theorem markHeap_any (B : Nat) (vc vs : Value) (h : Hp) (V : Nat → Value × Value) (k : Int) (w : World) (hh : OwnHeap B w vc vs h V) (hsm : h.fits) (hk0 : 0 ≤ k) (hk1 : k ≤ 10995116277760) :
    Calls Tryz.prog 14 #[.agg (hpCells vc vs h), .int .i64 k] w fun e w' => e = .returned (.int .i64 (endH k h)) ∧ OwnHeap B w' vc vs (markH k h) V ∧ Wr (HeapBlocks vc vs h.calls.length V) w w' := by
  unfold hpCells
  obtain ⟨ac, kc, hvc, _⟩ := hh.c.shape
  obtain ⟨aD, kD, hvs, _⟩ := hh.s.slice
  subst hvc hvs
  obtain ⟨hs1, hs2, hs3⟩ := hsm
  have hA : Below w.heap.size w (w.alloc (.cells #[.slice ac h.calls.length kc, .int .i64 h.now, .int .i64 h.born, .slice aD h.said.length kD, .int .i64 h.code] 45)) := (Below.refl _ _).alloc (Nat.le_refl _) _
  have rA := five_new w 45 (.slice ac h.calls.length kc) (.int .i64 h.now) (.int .i64 h.born) (.slice aD h.said.length kD) (.int .i64 h.code)
  have zA : w.heap.size < (w.alloc (.cells #[.slice ac h.calls.length kc, .int .i64 h.now, .int .i64 h.born, .slice aD h.said.length kD, .int .i64 h.code] 45)).heap.size := by simp
  go_enter Tryz.func14, Tryz.ntmps14
  go_upto_region 1 with fail
  generalize w.alloc (.cells #[.slice ac h.calls.length kc, .int .i64 h.now, .int .i64 h.born, .slice aD h.said.length kD, .int .i64 h.code] 45) = W0 at *
  obtain ⟨⟨x0, x1, x2, x3, x4⟩, xf⟩ := five_cells rA
  clear xf
  have hb := kAt_le k h.calls hs2 h.calls.length (Nat.le_refl _)
  have HLT : Hid (∀ g, HeapBlocks (.slice ac h.calls.length kc) (.slice aD h.said.length kD) h.calls.length V g → g < w.heap.size) := fun g hg => (hh.lt hg).2
  have HAP : Hid (∀ g, (Value.slice aD h.said.length kD).ownBlock = some g → ¬ CallBlocks (.slice ac h.calls.length kc) h.calls.length V g) := hh.apart
  have hh0 := hh.below hA
  clear hh
  go_wp2_with fail
  refine (markCallS_any B _ h.calls V k _ hh0.c hs1 hs2 hk0 hk1).mono ?_
  rintro e w1 ⟨rfl, hc1, hr1⟩
  have y3 : w1.cell? ⟨w.heap.size, 3, none⟩ = some (.slice aD h.said.length kD) := hr1.cell x3 (fun t => by have := HLT.out _ (.inr t); dsimp only at this; omega)
  have hs1' : PairRow B w1 (.slice aD h.said.length kD) h.said := hr1.pair hh0.s (fun g hg => HAP.out g hg)
  have hz1 := hr1.size
  clear x0 x1 x2 x3 x4 rA hh0
  go_wp2_with fail
  refine (markValS_any B _ h.said _ _ hs1' hs3 (by omega) (by omega)).mono ?_
  rintro e w2 ⟨rfl, hq2, hr2⟩
  have hc2 : OwnCalls B w2 (.slice ac h.calls.length kc) (markCs k h.calls) V := hc1.kept hr2.size fun g hg => hr2.block g (hc1.lt hg).2 (fun t => HAP.out g t (by rw [markCs_length] at hg; exact hg))
  have hW : Wr (HeapBlocks (.slice ac h.calls.length kc) (.slice aD h.said.length kD) h.calls.length V) w w2 := ((Wr.of_below hA).trans (hr1.mono fun g hg => .inr hg)).trans (hr2.mono fun g hg => .inl hg)
  have hap : Hid (∀ g, (Value.slice aD h.said.length kD).ownBlock = some g → ¬ CallBlocks (.slice ac h.calls.length kc) (markCs k h.calls).length V g) := by rw [markCs_length]; exact HAP.out
  clear hs1' hr1 hr2 hc1
  go_wp2
  go_ret
  exact ⟨rfl, ⟨hc2, hq2, hap.out⟩, hW⟩
end Go.Proofs.YtmifhlkcceafkaaGreat

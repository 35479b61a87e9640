/-
  lmAfter, walked: a heap anew, in which the call that runs has other values, and goes on at its next operation.
-/
import Derived.Test.YtlpbklgkafjfmaaGreatDoorSWalkA
import Derived.Test.YtlpbklgkafjfmaaGreatDoorDHMem
import Derived.BigRegion
import Derived.Deep.RegionHeld3

namespace Go.Proofs.YtlpbklgkafjfmaaGreatDoor
open Go.RowKit
def afterH (h : Hp) (st : List (Int × Int)) : Hp := setH h { curC h with stack := st, pc := (curC h).pc + 1 }
theorem ocell_at {B : Nat} {w : World} {g off n cap : Nat} {cs : List Cl} {V : Nat → Value × Value} (h : OwnCalls B w (.slice (some ⟨g, off, none⟩) n cap) cs V) {j : Nat} (hj : j < cs.length) :
    (w.cell? ⟨g, off + j * 6, none⟩ = some (.int .i64 cs[j].m) ∧ w.cell? ⟨g, off + j * 6 + 1, none⟩ = some (.int .i64 cs[j].pc) ∧ w.cell? ⟨g, off + j * 6 + 2, none⟩ = some (V j).1 ∧ w.cell? ⟨g, off + j * 6 + 3, none⟩ = some (V j).2 ∧ w.cell? ⟨g, off + j * 6 + 4, none⟩ = some (.int .i64 cs[j].sender) ∧ w.cell? ⟨g, off + j * 6 + 5, none⟩ = some (.bool cs[j].dead)) ∧
    w.frozen? ⟨g, off + j * 6, none⟩ = false ∧ w.frozen? ⟨g, off + j * 6 + 1, none⟩ = false ∧ w.frozen? ⟨g, off + j * 6 + 2, none⟩ = false ∧ w.frozen? ⟨g, off + j * 6 + 3, none⟩ = false ∧ w.frozen? ⟨g, off + j * 6 + 4, none⟩ = false ∧ w.frozen? ⟨g, off + j * 6 + 5, none⟩ = false := by
  rcases h.row with ⟨h0, _⟩ | ⟨g', off', cap', hv, hB, hg, hl, hc, hsp, hx⟩
  · cases h0
  · cases hv
    have f : ∀ i, i < 6 → w.frozen? ⟨g, off + j * 6 + i, none⟩ = false := fun i hi => by have := (hsp (j * 6 + i) (by omega)).2; rwa [← Nat.add_assoc] at this
    exact ⟨hx j hj, f 0 (by omega), f 1 (by omega), f 2 (by omega), f 3 (by omega), f 4 (by omega), f 5 (by omega)⟩
set_option maxRecDepth 100000 in
set_option maxHeartbeats 8000000 in
theorem lmAfter_any (vc vs vk : Value) (h : Hp) (st : List (Int × Int)) (jn : Nat) (w : World) (hh : HeapAt w vc vs h) (hk : OpsAt w vk st) (hjn : h.now = (jn : Int)) (hjl : jn < h.calls.length) (hpc : 0 ≤ h.calls[jn].pc ∧ h.calls[jn].pc ≤ 1000) (hst : st.length ≤ 1000) (hn : h.calls.length ≤ 1000) (hsh : ∀ i, (hi : i < h.calls.length) → h.calls[i].temps.length ≤ 1000 ∧ h.calls[i].stack.length ≤ 1000) (hsd : h.said.length ≤ 2900000) :
    Calls Tryz.prog 10 #[.agg (hpCells vc vs h), vk] w fun e w' => (∃ vc' vs' V', e = .returned (.agg (hpCells vc' vs' (afterH h st))) ∧ OwnHeap w.heap.size w' vc' vs' (afterH h st) V') ∧ Below w.heap.size w w' := by
  unfold hpCells
  obtain ⟨ac, kc, hvc⟩ := hh.c.shape
  obtain ⟨aD, kD, hvs⟩ := hh.s.shape
  obtain ⟨ak, ck, hvk⟩ := hk.shape
  subst hvc hvs hvk
  have HJ : Hid (h.now = (jn : Int) ∧ (0 ≤ h.calls[jn].pc ∧ h.calls[jn].pc ≤ 1000) ∧ OpsAt w (.slice ak st.length ck) st) := ⟨hjn, hpc, hk⟩
  clear hjn hpc hk
  have hA : Below w.heap.size w ((((w.alloc (.cells #[.slice ac h.calls.length kc, .int .i64 h.now, .int .i64 h.born, .slice aD h.said.length kD, .int .i64 h.code] 29)).alloc (.cells #[.slice none 0 0, .int .i64 0, .int .i64 0, .slice none 0 0, .int .i64 0] 29)).alloc (.cells #[.slice (some ⟨w.heap.size + 1 + 1 + 1, 0, none⟩) 0 0, .int .i64 h.now, .int .i64 h.born, .slice aD h.said.length kD, .int .i64 h.code] 29)).alloc (.cells #[] 48)) := ((((Below.refl _ _).alloc (Nat.le_refl _) _).alloc (by simp) _).alloc (by simp; omega) _).alloc (by simp; omega) _
  have bh : ((((w.alloc (.cells #[.slice ac h.calls.length kc, .int .i64 h.now, .int .i64 h.born, .slice aD h.said.length kD, .int .i64 h.code] 29)).alloc (.cells #[.slice none 0 0, .int .i64 0, .int .i64 0, .slice none 0 0, .int .i64 0] 29)).alloc (.cells #[.slice (some ⟨w.heap.size + 1 + 1 + 1, 0, none⟩) 0 0, .int .i64 h.now, .int .i64 h.born, .slice aD h.said.length kD, .int .i64 h.code] 29)).alloc (.cells #[] 48)).rowIs w.heap.size 29 5 (five (.slice ac h.calls.length kc) (.int .i64 h.now) (.int .i64 h.born) (.slice aD h.said.length kD) (.int .i64 h.code)) := (((five_new w _ _ _ _ _ _).alloc _).alloc _).alloc _
  have br := ((five_new (w.alloc (.cells #[.slice ac h.calls.length kc, .int .i64 h.now, .int .i64 h.born, .slice aD h.said.length kD, .int .i64 h.code] 29)) 29 (.slice none 0 0) (.int .i64 0) (.int .i64 0) (.slice none 0 0) (.int .i64 0)).alloc (.cells #[.slice (some ⟨w.heap.size + 1 + 1 + 1, 0, none⟩) 0 0, .int .i64 h.now, .int .i64 h.born, .slice aD h.said.length kD, .int .i64 h.code] 29)).alloc (.cells #[] 48)
  have bo := (five_new ((w.alloc (.cells #[.slice ac h.calls.length kc, .int .i64 h.now, .int .i64 h.born, .slice aD h.said.length kD, .int .i64 h.code] 29)).alloc (.cells #[.slice none 0 0, .int .i64 0, .int .i64 0, .slice none 0 0, .int .i64 0] 29)) 29 (.slice (some ⟨w.heap.size + 1 + 1 + 1, 0, none⟩) 0 0) (.int .i64 h.now) (.int .i64 h.born) (.slice aD h.said.length kD) (.int .i64 h.code)).alloc (.cells #[] 48)
  have mk : CallRow (w.heap.size + 3) ((((w.alloc (.cells #[.slice ac h.calls.length kc, .int .i64 h.now, .int .i64 h.born, .slice aD h.said.length kD, .int .i64 h.code] 29)).alloc (.cells #[.slice none 0 0, .int .i64 0, .int .i64 0, .slice none 0 0, .int .i64 0] 29)).alloc (.cells #[.slice (some ⟨w.heap.size + 1 + 1 + 1, 0, none⟩) 0 0, .int .i64 h.now, .int .i64 h.born, .slice aD h.said.length kD, .int .i64 h.code] 29)).alloc (.cells #[] 48)) (.slice (some ⟨w.heap.size + 1 + 1 + 1, 0, none⟩) 0 0) [] := by
    have := CallRow.made (B := w.heap.size + 3) (w := (((w.alloc (.cells #[.slice ac h.calls.length kc, .int .i64 h.now, .int .i64 h.born, .slice aD h.said.length kD, .int .i64 h.code] 29)).alloc (.cells #[.slice none 0 0, .int .i64 0, .int .i64 0, .slice none 0 0, .int .i64 0] 29)).alloc (.cells #[.slice (some ⟨w.heap.size + 1 + 1 + 1, 0, none⟩) 0 0, .int .i64 h.now, .int .i64 h.born, .slice aD h.said.length kD, .int .i64 h.code] 29))) (e := 48) (by simp)
    simpa using this
  have hz4 : ((((w.alloc (.cells #[.slice ac h.calls.length kc, .int .i64 h.now, .int .i64 h.born, .slice aD h.said.length kD, .int .i64 h.code] 29)).alloc (.cells #[.slice none 0 0, .int .i64 0, .int .i64 0, .slice none 0 0, .int .i64 0] 29)).alloc (.cells #[.slice (some ⟨w.heap.size + 1 + 1 + 1, 0, none⟩) 0 0, .int .i64 h.now, .int .i64 h.born, .slice aD h.said.length kD, .int .i64 h.code] 29)).alloc (.cells #[] 48)).heap.size = w.heap.size + 4 := by simp
  simp only [World.size_alloc] at br bo
  go_enter Tryz.func10, Tryz.ntmps10
  go_upto_region 3 with fail
  generalize ((((w.alloc (.cells #[.slice ac h.calls.length kc, .int .i64 h.now, .int .i64 h.born, .slice aD h.said.length kD, .int .i64 h.code] 29)).alloc (.cells #[.slice none 0 0, .int .i64 0, .int .i64 0, .slice none 0 0, .int .i64 0] 29)).alloc (.cells #[.slice (some ⟨w.heap.size + 1 + 1 + 1, 0, none⟩) 0 0, .int .i64 h.now, .int .i64 h.born, .slice aD h.said.length kD, .int .i64 h.code] 29)).alloc (.cells #[] 48)) = W4 at *
  go_wp2
  go_loopg [6] h.calls.length (fun d i wr => ∃ (k : Nat) (L : List (Cl × Value × Value)) (o : Value), k ≤ h.calls.length ∧ d = h.calls.length - k ∧ i = .int .i64 k ∧ L.map (·.1) = h.calls.take k ∧ CallRow (w.heap.size + 3) wr o L ∧ (∀ j, (hj : j < L.length) → PairRow (w.heap.size + 3) wr L[j].2.1 L[j].1.temps ∧ PairRow (w.heap.size + 3) wr L[j].2.2 L[j].1.stack) ∧ ApartL L o ∧ wr.rowIs (w.heap.size + 1 + 1) 29 5 (five o (.int .i64 h.now) (.int .i64 h.born) (.slice aD h.said.length kD) (.int .i64 h.code)) ∧ wr.rowIs w.heap.size 29 5 (five (.slice ac h.calls.length kc) (.int .i64 h.now) (.int .i64 h.born) (.slice aD h.said.length kD) (.int .i64 h.code)) ∧ wr.rowIs (w.heap.size + 1) 29 5 (five (.slice none 0 0) (.int .i64 0) (.int .i64 0) (.slice none 0 0) (.int .i64 0)) ∧ Below w.heap.size w wr)
  case atStart => exact ⟨0, [], _, Nat.zero_le _, rfl, rfl, rfl, mk, fun j hj => absurd hj (Nat.not_lt_zero _), fun q hq => absurd hq (Nat.not_lt_zero _), bo, bh, br, hA⟩
  case round =>
    obtain ⟨k, L, o, hk, rfl, rfl, hmap, hrow, hls, hap, ro, rh, rr, hb⟩ := hrel
    have HMAP : Hid (L.map (·.1) = h.calls.take k) := hmap
    have HLS : Hid (∀ j, (hj : j < L.length) → PairRow (w.heap.size + 3) wr L[j].2.1 L[j].1.temps ∧ PairRow (w.heap.size + 3) wr L[j].2.2 L[j].1.stack) := hls
    have hLl : L.length = k := by have := congrArg List.length hmap; simp at this; omega
    have HLL : Hid (L.length = k) := hLl
    obtain ⟨ao, co, hvo, _⟩ := hrow.slice
    subst hvo
    have HAP : Hid (ApartL L (.slice ao L.length co)) := hap
    clear hmap hls hap hLl
    have hzw := hb.size
    have hzr := ro.lt
    obtain ⟨⟨x0, x1, x2, x3, x4⟩, _⟩ := five_cells rh
    obtain ⟨⟨o0, o1, o2, o3, o4⟩, of0, of1, of2, of3, of4⟩ := five_cells ro
    by_cases hlt : k < h.calls.length
    · have hkz : (k : Int) < (h.calls.length : Int) := by omega
      obtain ⟨b, o', vt, vs', hac, hc⟩ := hh.c.cl hlt
      subst hac
      obtain ⟨at', ct', hvt⟩ := hc.t.shape
      obtain ⟨as', cs', hvs⟩ := hc.s.shape
      subst hvt hvs
      have q0 := cell_below hb hc.c0
      have q1 := cell_below hb hc.c1
      have q2 := cell_below hb hc.c2
      have q3 := cell_below hb hc.c3
      have q4 := cell_below hb hc.c4
      have q5 := cell_below hb hc.c5
      have sT := hc.t.below hb
      have sS := hc.s.below hb
      have hshk := hsh k hlt
      have HTK : Hid (h.calls.take (k + 1) = h.calls.take k ++ [h.calls[k]]) := List.take_succ_eq_append_getElem hlt
      have HLT := lists_lt HLS.out
      have hLb : L.length ≤ 900000 := by rw [HLL.out]; omega
      generalize h.calls[k] = c at *
      clear hc
      have H5 : Hid (∀ (w5 : World) (at5 as5 : Option Addr) (kt5 ks5 : Nat), Below wr.heap.size wr w5 → PairRow wr.heap.size w5 (.slice at5 c.temps.length kt5) c.temps → PairRow wr.heap.size w5 (.slice as5 c.stack.length ks5) c.stack → (∀ q, (Value.slice at5 c.temps.length kt5).ownBlock = some q → (Value.slice as5 c.stack.length ks5).ownBlock ≠ some q) →
          (w5.cell? ⟨w.heap.size + 1 + 1, 0, none⟩ = some (.slice ao L.length co) ∧ w.heap.size + 1 + 1 < w5.heap.size) ∧ CallRow (w.heap.size + 3) (w5.alloc (.cells #[.int .i64 c.m, .int .i64 c.pc, .slice at5 c.temps.length kt5, .slice as5 c.stack.length ks5, .int .i64 c.sender, .bool c.dead] 48)) (.slice ao L.length co) L ∧
          (∀ j u, (cells6 (c, Value.slice at5 c.temps.length kt5, Value.slice as5 c.stack.length ks5))[j]? = some u → (w5.alloc (.cells #[.int .i64 c.m, .int .i64 c.pc, .slice at5 c.temps.length kt5, .slice as5 c.stack.length ks5, .int .i64 c.sender, .bool c.dead] 48)).cell? ⟨w5.heap.size, j, none⟩ = some u) ∧ w.heap.size + 3 ≤ (w5.alloc (.cells #[.int .i64 c.m, .int .i64 c.pc, .slice at5 c.temps.length kt5, .slice as5 c.stack.length ks5, .int .i64 c.sender, .bool c.dead] 48)).heap.size ∧
          (∀ v' w', CallRow (w.heap.size + 3) w' v' (L ++ [(c, Value.slice at5 c.temps.length kt5, Value.slice as5 c.stack.length ks5)]) → (w5.alloc (.cells #[.int .i64 c.m, .int .i64 c.pc, .slice at5 c.temps.length kt5, .slice as5 c.stack.length ks5, .int .i64 c.sender, .bool c.dead] 48)).grownBy w' (Value.slice ao L.length co).ownBlock → (v'.ownBlock = (Value.slice ao L.length co).ownBlock ∨ v'.ownBlock = some (w5.alloc (.cells #[.int .i64 c.m, .int .i64 c.pc, .slice at5 c.temps.length kt5, .slice as5 c.stack.length ks5, .int .i64 c.sender, .bool c.dead] 48)).heap.size) →
            (w'.cell? ⟨w.heap.size + 1 + 1, 0, none⟩ = some (.slice ao L.length co) ∧ w'.frozen? ⟨w.heap.size + 1 + 1, 0, none⟩ = false) ∧
            ((L ++ [(c, Value.slice at5 c.temps.length kt5, Value.slice as5 c.stack.length ks5)]).map (·.1) = h.calls.take (k + 1) ∧ CallRow (w.heap.size + 3) (w'.setCell ⟨w.heap.size + 1 + 1, 0, none⟩ v') v' (L ++ [(c, Value.slice at5 c.temps.length kt5, Value.slice as5 c.stack.length ks5)]) ∧ (∀ j, (hj : j < (L ++ [(c, Value.slice at5 c.temps.length kt5, Value.slice as5 c.stack.length ks5)]).length) → PairRow (w.heap.size + 3) (w'.setCell ⟨w.heap.size + 1 + 1, 0, none⟩ v') (L ++ [(c, Value.slice at5 c.temps.length kt5, Value.slice as5 c.stack.length ks5)])[j].2.1 (L ++ [(c, Value.slice at5 c.temps.length kt5, Value.slice as5 c.stack.length ks5)])[j].1.temps ∧ PairRow (w.heap.size + 3) (w'.setCell ⟨w.heap.size + 1 + 1, 0, none⟩ v') (L ++ [(c, Value.slice at5 c.temps.length kt5, Value.slice as5 c.stack.length ks5)])[j].2.2 (L ++ [(c, Value.slice at5 c.temps.length kt5, Value.slice as5 c.stack.length ks5)])[j].1.stack) ∧ ApartL (L ++ [(c, Value.slice at5 c.temps.length kt5, Value.slice as5 c.stack.length ks5)]) v' ∧ (w'.setCell ⟨w.heap.size + 1 + 1, 0, none⟩ v').rowIs (w.heap.size + 1 + 1) 29 5 (five v' (.int .i64 h.now) (.int .i64 h.born) (.slice aD h.said.length kD) (.int .i64 h.code)) ∧ (w'.setCell ⟨w.heap.size + 1 + 1, 0, none⟩ v').rowIs w.heap.size 29 5 (five (.slice (some ⟨b, o', none⟩) h.calls.length kc) (.int .i64 h.now) (.int .i64 h.born) (.slice aD h.said.length kD) (.int .i64 h.code)) ∧ (w'.setCell ⟨w.heap.size + 1 + 1, 0, none⟩ v').rowIs (w.heap.size + 1) 29 5 (five (.slice none 0 0) (.int .i64 0) (.int .i64 0) (.slice none 0 0) (.int .i64 0)) ∧ Below w.heap.size w (w'.setCell ⟨w.heap.size + 1 + 1, 0, none⟩ v')))) := fun w5 at5 as5 kt5 ks5 hb5 hp5 hq5 hap5 => by
        have hb5' : Below wr.heap.size wr w5 := hb5
        have hz5 := hb5'.size
        have N := (Below.refl w5.heap.size w5).alloc (Nat.le_refl _) (.cells #[.int .i64 c.m, .int .i64 c.pc, .slice at5 c.temps.length kt5, .slice as5 c.stack.length ks5, .int .i64 c.sender, .bool c.dead] 48)
        have hX : Below wr.heap.size wr (w5.alloc (.cells #[.int .i64 c.m, .int .i64 c.pc, .slice at5 c.temps.length kt5, .slice as5 c.stack.length ks5, .int .i64 c.sender, .bool c.dead] 48)) := hb5'.trans (N.mono hz5)
        have hzX := hX.size
        have hz1 : (w5.alloc (.cells #[.int .i64 c.m, .int .i64 c.pc, .slice at5 c.temps.length kt5, .slice as5 c.stack.length ks5, .int .i64 c.sender, .bool c.dead] 48)).heap.size = w5.heap.size + 1 := by simp
        refine ⟨⟨cell_below hb5' o0, by omega⟩, hrow.below hX, cells6_of (six_new w5 48 _ _ _ _ _ _), by omega, fun v' w' hr hg hv' => ?_⟩
        have hzg := hg.size
        have hbl : ∀ q, q < wr.heap.size → (Value.slice ao L.length co).ownBlock ≠ some q → w'.heap[q]? = wr.heap[q]? := fun q h1 h2 => (hg.block q (by omega) (fun e => h2 e.symm)).trans (hX.block q h1)
        have hno : ∀ q, q < w.heap.size + 3 → (Value.slice ao L.length co).ownBlock ≠ some q := fun q hq e => by have := (hrow.lt q e).1; omega
        have hvn : ∀ q, v'.ownBlock = some q → (Value.slice ao L.length co).ownBlock = some q ∨ w5.heap.size + 1 ≤ q := fun q e => by
          rcases hv' with x | x
          · exact .inl (by rw [← x]; exact e)
          · rw [x] at e; cases e; exact .inr (by omega)
        have hv3 : ∀ q, v'.ownBlock = some q → w.heap.size + 3 ≤ q := fun q e => (hr.lt q e).1
        have ro' := ro.of_block (hbl _ ro.lt (hno _ (by omega)))
        have rh' := rh.of_block (hbl _ rh.lt (hno _ (by omega)))
        have rr' := rr.of_block (hbl _ rr.lt (hno _ (by omega)))
        obtain ⟨⟨z0, _⟩, zf0, _⟩ := five_cells ro'
        have hsb : ∀ q, q ≠ w.heap.size + 1 + 1 → (w'.setCell ⟨w.heap.size + 1 + 1, 0, none⟩ v').heap[q]? = w'.heap[q]? := fun q hq => Below.heap_setCell _ _ _ _ hq
        have hP : ∀ {v : Value} {xs : List (Int × Int)}, PairRow (w.heap.size + 3) w' v xs → PairRow (w.heap.size + 3) (w'.setCell ⟨w.heap.size + 1 + 1, 0, none⟩ v') v xs := fun hp => hp.set_other _ (fun e => by have := (hp.lt _ e).1; simp at this; omega)
        refine ⟨⟨z0, zf0⟩, ?_, hr.kept (by simp [World.setCell]) (fun q e => hsb q (by have := (hr.lt q e).1; omega)), fun j hj => ?_, ?_, five_set0 ro' v', rh'.of_block (hsb _ (by omega)), rr'.of_block (hsb _ (by omega)), ?_⟩
        · rw [List.map_append, HMAP.out, HTK.out]
          rfl
        · by_cases e : j < L.length
          · rw [List.getElem_append_left e]
            obtain ⟨p1, p2⟩ := HLS.out j e
            have a0 := HAP.out (j * 2) (by omega)
            have a1 := HAP.out (j * 2 + 1) (by omega)
            have hget : L.getD j (Cl.none, .slice none 0 0, .slice none 0 0) = L[j] := by simp [e]
            rw [lst_0, hget] at a0
            rw [lst_1, hget] at a1
            exact ⟨hP (p1.kept (by omega) fun q h1 => hbl q (p1.lt q h1).2 (a0 q h1).1), hP (p2.kept (by omega) fun q h1 => hbl q (p2.lt q h1).2 (a1 q h1).1)⟩
          · rw [List.getElem_append_right (by omega)]
            simp only [List.getElem_singleton]
            have hnb : ∀ q, wr.heap.size ≤ q → q < w5.heap.size → w'.heap[q]? = w5.heap[q]? := fun q h1 h2 => (hg.block q (by omega) (fun e => by have := (hrow.lt q e.symm).2; omega)).trans (N.block q h2)
            exact ⟨hP ((hp5.kept (by omega) fun q e => hnb q (hp5.lt q e).1 (hp5.lt q e).2).mono (by omega)), hP ((hq5.kept (by omega) fun q e => hnb q (hq5.lt q e).1 (hq5.lt q e).2).mono (by omega))⟩
        · exact apart_snoc (S := wr.heap.size) (S' := w5.heap.size + 1) HAP.out HLT (fun q e => ⟨(hp5.lt q e).1, by have := (hp5.lt q e).2; omega⟩) (fun q e => ⟨(hq5.lt q e).1, by have := (hq5.lt q e).2; omega⟩) hap5 (fun q e => (hrow.lt q e).2) hvn (by omega)
        · have bX : Below w.heap.size w (w5.alloc (.cells #[.int .i64 c.m, .int .i64 c.pc, .slice at5 c.temps.length kt5, .slice as5 c.stack.length ks5, .int .i64 c.sender, .bool c.dead] 48)) := hb.trans (hX.mono hzw)
          exact (bX.grown hg (by omega) (fun q e => by have := (hrow.lt q e).1; omega)).setCell (p := ⟨w.heap.size + 1 + 1, 0, none⟩) (by simp; omega) v'
      clear HTK HLT
      go_upto_region 7 with fail
      have NA : Below wr.heap.size wr (wr.alloc (.cells #[.int .i64 c.m, .int .i64 c.pc, .slice at' c.temps.length ct', .slice as' c.stack.length cs', .int .i64 c.sender, .bool c.dead] 48)) := (Below.refl _ _).alloc (Nat.le_refl _) _
      have rcA := six_new wr 48 (.int .i64 c.m) (.int .i64 c.pc) (.slice at' c.temps.length ct') (.slice as' c.stack.length cs') (.int .i64 c.sender) (.bool c.dead)
      have lNA := rcA.lt
      generalize wr.alloc (.cells #[.int .i64 c.m, .int .i64 c.pc, .slice at' c.temps.length ct', .slice as' c.stack.length cs', .int .i64 c.sender, .bool c.dead] 48) = Wa at *
      have N7 : Below Wa.heap.size Wa (Wa.alloc (.cells #[] 37)) := (Below.refl _ _).alloc (Nat.le_refl _) _
      have mk7 := PairRow.made (B := Wa.heap.size) (w := Wa) (e := 37) (Nat.le_refl _)
      have sT7 := (sT.below NA).below N7
      obtain ⟨⟨e0, e1, e2, e3, e4, e5⟩, _⟩ := six_cells rcA
      go_upto_region 8 with (at_builtin; refine append_vals _ (by rfl) _ _ (by rfl) Wa.heap.size _ _ [] c.temps (by rfl) (by rfl) mk7 sT7 (by simp; omega) (by simp) ?_; intro v7 w7 hrow7 hg7 hb7; rw [List.nil_append] at hrow7; obtain ⟨at5, kt5, hv7, _⟩ := hrow7.slice; subst hv7; have b7 : Below Wa.heap.size Wa w7 := N7.grown hg7 N7.size (fun q e => (mk7.lt q e).1); obtain ⟨⟨f0, f1, f2, f3, f4, f5⟩, g0, g1, g2, g3, g4, g5⟩ := six_cells (row_below b7 rcA))
      have z7 := b7.size
      have rc7 := six_set2 (row_below b7 rcA) (.slice at5 c.temps.length kt5)
      have p7 := hrow7.set_other (p := ⟨wr.heap.size, 2, none⟩) (.slice at5 c.temps.length kt5) (fun e => by have := (hrow7.lt _ e).1; simp at this; omega)
      have bw7 : Below wr.heap.size wr (w7.setCell ⟨wr.heap.size, 2, none⟩ (.slice at5 c.temps.length kt5)) := (NA.trans (b7.mono (by omega))).setCell (p := ⟨wr.heap.size, 2, none⟩) (Nat.le_refl _) _
      clear hrow7 hg7 hb7 f0 f1 f2 f3 f4 f5 g0 g1 g2 g3 g4 g5 e0 e1 e2 e3 e4 e5 mk7 sT7 N7
      generalize w7.setCell ⟨wr.heap.size, 2, none⟩ (.slice at5 c.temps.length kt5) = W7 at *
      have hz7 := bw7.size
      have zW7 := rc7.lt
      have N8 : Below W7.heap.size W7 (W7.alloc (.cells #[] 37)) := (Below.refl _ _).alloc (Nat.le_refl _) _
      have mk8 := PairRow.made (B := W7.heap.size) (w := W7) (e := 37) (Nat.le_refl _)
      have sS8 := (sS.below bw7).below N8
      obtain ⟨⟨e0, e1, e2, e3, e4, e5⟩, _⟩ := six_cells rc7
      go_upto_region 9 with (at_builtin; refine append_vals _ (by rfl) _ _ (by rfl) W7.heap.size _ _ [] c.stack (by rfl) (by rfl) mk8 sS8 (by simp; omega) (by simp) ?_; intro v8 w8 hrow8 hg8 hb8; rw [List.nil_append] at hrow8; obtain ⟨as5, ks5, hv8, _⟩ := hrow8.slice; subst hv8; have b8 : Below W7.heap.size W7 w8 := N8.grown hg8 N8.size (fun q e => (mk8.lt q e).1); obtain ⟨⟨f0, f1, f2, f3, f4, f5⟩, g0, g1, g2, g3, g4, g5⟩ := six_cells (row_below b8 rc7))
      have rc8 := six_set3 (row_below b8 rc7) (.slice as5 c.stack.length ks5)
      have hp5 := PairRow.mono (B' := wr.heap.size) ((p7.below b8).set_other (p := ⟨wr.heap.size, 3, none⟩) (.slice as5 c.stack.length ks5) (fun e => by have := (p7.lt _ e).1; simp at this; omega)) (by omega)
      have hq5' := hrow8.set_other (p := ⟨wr.heap.size, 3, none⟩) (.slice as5 c.stack.length ks5) (fun e => by have := (hrow8.lt _ e).1; simp at this; omega)
      have hap5 : ∀ q, (Value.slice at5 c.temps.length kt5).ownBlock = some q → (Value.slice as5 c.stack.length ks5).ownBlock ≠ some q := fun q e e2 => by
        have h1 := (p7.lt q e).2
        have h2 := (hrow8.lt q e2).1
        omega
      have hq5 := PairRow.mono (B' := wr.heap.size) hq5' hz7
      have hb5 : Below wr.heap.size wr (w8.setCell ⟨wr.heap.size, 3, none⟩ (.slice as5 c.stack.length ks5)) := (bw7.trans (b8.mono hz7)).setCell (p := ⟨wr.heap.size, 3, none⟩) (Nat.le_refl _) _
      clear hrow8 hg8 hb8 f0 f1 f2 f3 f4 f5 g0 g1 g2 g3 g4 g5 e0 e1 e2 e3 e4 e5 mk8 sS8 N8 p7 hq5' bw7 rc7 NA rcA
      generalize w8.setCell ⟨wr.heap.size, 3, none⟩ (.slice as5 c.stack.length ks5) = w5 at *
      obtain ⟨⟨w50, w5b⟩, hrow5, hcell5, hB5, hE5⟩ := H5.out w5 at5 as5 kt5 ks5 hb5 hp5 hq5 hap5
      have HE : Hid _ := hE5
      obtain ⟨⟨e0, e1, e2, e3, e4, e5⟩, _⟩ := six_cells rc8
      clear hE5 hp5 hq5 hap5 hb5 H5
      go_upto_region 5 with (at_builtin; refine append_call _ (by rfl) _ _ (by rfl) (w.heap.size + 3) _ L (c, Value.slice at5 c.temps.length kt5, Value.slice as5 c.stack.length ks5) (by rfl) w5.heap.size 1 (by rfl) hrow5 rfl rfl hcell5 hLb hB5 ?_; intro v' w' hr hg hbk; obtain ⟨a', c', hv', _⟩ := hr.slice; simp only [List.length_append, List.length_cons, List.length_nil, Nat.zero_add] at hv'; subst hv'; obtain ⟨⟨z0, zf0⟩, hINV⟩ := HE.out _ w' hr hg hbk)
      all_goals
        obtain ⟨i1, i2, i3, i4, i5, i6, i7, i8⟩ := hINV
        clear z0 zf0 hr hg hbk HE
        generalize w'.setCell ⟨w.heap.size + 1 + 1, 0, none⟩ (.slice a' (L.length + 1) c') = W9 at *
        go_wp2
        go_roundg (h.calls.length - (k + 1))
        case measure => omega
        case rel => exact ⟨k + 1, _, _, by omega, rfl, by go_num, i1, i2, i3, i4, i5, i6, i7, i8⟩
    · obtain rfl : k = h.calls.length := by omega
      have hoc := hrow.own HLS.out HAP.out
      rw [HMAP.out, List.take_length] at hoc
      have hlz : L.length = h.calls.length := HLL.out
      have N6 : Below wr.heap.size wr (wr.alloc (.cells #[] 37)) := (Below.refl _ _).alloc (Nat.le_refl _) _
      have mk6 := PairRow.made (B := wr.heap.size) (w := wr) (e := 37) (Nat.le_refl _)
      have hS6 := (hh.s.below hb).below N6
      have hzh := rh.lt
      have hzq := rr.lt
      clear hlt
      go_upto_region 10 with fail
      go_upto_region 11 with (at_builtin; refine append_vals _ (by rfl) _ _ (by rfl) wr.heap.size _ _ [] h.said (by rfl) (by rfl) mk6 hS6 (by simp; omega) (by simp) ?_; intro v6 w6 hrow6 hg6 hb6; rw [List.nil_append] at hrow6; obtain ⟨a6, c6, hv6, _⟩ := hrow6.slice; subst hv6; have b6 : Below wr.heap.size wr w6 := N6.grown hg6 N6.size (fun q e => (mk6.lt q e).1); obtain ⟨⟨y0, y1, y2, y3, y4⟩, yf0, yf1, yf2, yf3, yf4⟩ := five_cells (row_below b6 ro))
      have hz6 := b6.size
      have ro7 := five_set3 (row_below b6 ro) (.slice a6 h.said.length c6)
      have rr7 := (row_below b6 rr).of_block (Below.heap_setCell w6 ⟨w.heap.size + 1 + 1, 3, none⟩ (.slice a6 h.said.length c6) _ (by simp))
      have hs7 := hrow6.set_other (p := ⟨w.heap.size + 1 + 1, 3, none⟩) (.slice a6 h.said.length c6) (fun e => by have := (hrow6.lt _ e).1; simp at this; omega)
      have b7 := (hb.trans (b6.mono hzw)).setCell (p := ⟨w.heap.size + 1 + 1, 3, none⟩) (by simp; omega) (.slice a6 h.said.length c6)
      have ho7 := (hoc.below b6).kept (w' := w6.setCell ⟨w.heap.size + 1 + 1, 3, none⟩ (.slice a6 h.said.length c6)) (by simp [World.setCell]) (fun q e => Below.heap_setCell _ _ _ _ (fun e2 => by have := (hoc.lt e).1; have e3 : q = w.heap.size + 1 + 1 := e2; omega))
      have HLTc : Hid (∀ q, CallBlocks (.slice ao L.length co) h.calls.length (fun i => (L.getD i (Cl.none, .slice none 0 0, .slice none 0 0)).2) q → w.heap.size + 3 ≤ q ∧ q < wr.heap.size) := fun q e => hoc.lt e
      clear hrow6 hg6 hb6 y0 y1 y2 y3 y4 yf0 yf1 yf2 yf3 yf4 hoc
      generalize w6.setCell ⟨w.heap.size + 1 + 1, 3, none⟩ (.slice a6 h.said.length c6) = W7 at *
      have hz1 : w.heap.size ≤ w.heap.size + 1 := Nat.le_succ _
      rw [hlz] at ho7 ro7
      have HLT2 : ∀ q, CallBlocks (.slice ao h.calls.length co) h.calls.length (fun i => (L.getD i (Cl.none, Value.slice none 0 0, Value.slice none 0 0)).2) q → q < wr.heap.size := fun q e => (HLTc.out q (by rw [hlz]; exact e)).2
      have hapF : ∀ g, (Value.slice a6 h.said.length c6).ownBlock = some g → ¬ CallBlocks (.slice ao h.calls.length co) h.calls.length (fun i => (L.getD i (Cl.none, Value.slice none 0 0, Value.slice none 0 0)).2) g := fun g e e2 => by have h1 := (hs7.lt g e).1; have h2 := HLT2 g e2; omega
      have k7 : OwnHeap (w.heap.size + 3) W7 (.slice ao h.calls.length co) (.slice a6 h.said.length c6) h (fun i => (L.getD i (Cl.none, Value.slice none 0 0, Value.slice none 0 0)).2) := ⟨ho7, PairRow.mono hs7 (by omega), hapF⟩
      clear hapF HLT2 HLTc ho7 hs7 HMAP HLL HLS HAP
      obtain ⟨g, off, co', hao, hg3, hgz⟩ := k7.c.form (by omega)
      injection hao with hao _ hco
      subst hao hco
      generalize (fun i => (L.getD i (Cl.none, Value.slice none 0 0, Value.slice none 0 0)).2) = V at *
      obtain ⟨hnow, hpcb, hst7⟩ := HJ.out
      rw [hnow] at ro7
      have HN : Hid (h.now = (jn : Int)) := hnow
      clear hnow
      have hjz : (jn : Int) < (h.calls.length : Int) := by omega
      have hno : g ≠ w.heap.size + 1 + 1 := by omega
      have SO : ∀ w' : World, w'.heap[w.heap.size + 1 + 1]? = W7.heap[w.heap.size + 1 + 1]? → (w'.cell? ⟨w.heap.size + 1 + 1, 0, none⟩ = some (.slice (some ⟨g, off, none⟩) h.calls.length co) ∧ w'.cell? ⟨w.heap.size + 1 + 1, 1, none⟩ = some (.int .i64 (jn : Int))) := fun w' e => ⟨(World.cell?_of_block (a := ⟨w.heap.size + 1 + 1, 0, none⟩) e).trans (five_cells ro7).1.1, (World.cell?_of_block (a := ⟨w.heap.size + 1 + 1, 1, none⟩) e).trans (five_cells ro7).1.2.1⟩
      have HSO : Hid (∀ w' : World, w'.heap[w.heap.size + 1 + 1]? = W7.heap[w.heap.size + 1 + 1]? → (w'.cell? ⟨w.heap.size + 1 + 1, 0, none⟩ = some (.slice (some ⟨g, off, none⟩) h.calls.length co) ∧ w'.cell? ⟨w.heap.size + 1 + 1, 1, none⟩ = some (.int .i64 (jn : Int)))) := SO
      have S0 : (W7.drew.cell? ⟨w.heap.size + 1 + 1, 0, none⟩ = some (.slice (some ⟨g, off, none⟩) h.calls.length co) ∧ W7.drew.cell? ⟨w.heap.size + 1 + 1, 1, none⟩ = some (.int .i64 (jn : Int))) := SO _ rfl
      clear SO
      have lo7 := ro7.lt
      have mkB := PairRow.made (B := W7.heap.size) (w := W7) (e := 37) (Nat.le_refl _)
      have mkD : PairRow W7.heap.size (W7.alloc (.cells #[] 37)).drew (.slice (some ⟨W7.heap.size, 0, none⟩) 0 0) [] := mkB
      have AB : Below W7.heap.size W7 (W7.alloc (.cells #[] 37)) := (Below.refl _ _).alloc (Nat.le_refl _) _
      have sB : OpsAt (W7.alloc (.cells #[] 37)).drew (.slice ak st.length ck) st := (hst7.below b7).below AB.drew
      have SA : ((W7.alloc (.cells #[] 37)).drew.cell? ⟨w.heap.size + 1 + 1, 0, none⟩ = some (.slice (some ⟨g, off, none⟩) h.calls.length co) ∧ (W7.alloc (.cells #[] 37)).drew.cell? ⟨w.heap.size + 1 + 1, 1, none⟩ = some (.int .i64 (jn : Int))) := HSO.out _ (AB.block _ lo7)
      refine wp_region_noPanic ?_
      refine wp_region_held_drew (S := (fun w' : World => w'.cell? ⟨w.heap.size + 1 + 1, 0, none⟩ = some (.slice (some ⟨g, off, none⟩) h.calls.length co) ∧ w'.cell? ⟨w.heap.size + 1 + 1, 1, none⟩ = some (.int .i64 (jn : Int)))) (by kernel_rfl) S0 (fun _ => ?_)
      refine wpAnyH_take (i := 0) (v := .pointer (some ⟨w.heap.size + 1 + 1, 0, none⟩)) rfl (by kernel_rfl) (by kernel_rfl) (by kernel_rfl) (fun _ _ _ h => h) (Or.inl ⟨by rfl, ?hz1⟩) S0 ?_
      case hz1 =>
        intro x _
        go_simp
      try simp only [Act.put, List.setIfInBounds_toArray]
      refine wpAnyH_take (i := 1) (v := .slice (some ⟨g, off, none⟩) h.calls.length co) rfl (by kernel_rfl) (by kernel_rfl) (by kernel_rfl) (fun _ _ _ h => h) (Or.inl ⟨by rfl, ?hz2⟩) S0 ?_
      case hz2 =>
        rintro x ⟨k0, k1⟩
        go_simp
      try simp only [Act.put]
      refine wpAnyH_take (i := 2) (v := .pointer (some ⟨w.heap.size + 1 + 1, 1, none⟩)) rfl (by kernel_rfl) (by kernel_rfl) (by kernel_rfl) (fun _ _ _ h => h) (Or.inl ⟨by rfl, ?hz3⟩) S0 ?_
      case hz3 =>
        intro x _
        go_simp
      try simp only [Act.put]
      refine wpAnyH_take (i := 3) (v := .int .i64 (jn : Int)) rfl (by kernel_rfl) (by kernel_rfl) (by kernel_rfl) (fun _ _ _ h => h) (Or.inl ⟨by rfl, ?hz4⟩) S0 ?_
      case hz4 =>
        rintro x ⟨k0, k1⟩
        go_simp
      try simp only [Act.put]
      refine wpAnyH_take (i := 5) (v := .slice ak st.length ck) rfl (by kernel_rfl) (by kernel_rfl) (by kernel_rfl) (fun _ _ _ h => h) (Or.inl ⟨by rfl, ?hz5⟩) S0 ?_
      case hz5 =>
        intro x _
        go_simp
      try simp only [Act.put]
      refine wpAnyH_ready (rs := [4]) (by kernel_rfl) (by simp) ?_
      refine AllReadyH.cons rfl (fun K hK => ?_) AllReadyH.nil
      go_simp
      refine hK.out _ _ SA (fun _ => ?_)
      clear hK K
      try simp only [Act.put, List.setIfInBounds_toArray, List.set_cons_zero, List.set_cons_succ]
      refine wpAnyH_ready (rs := [6]) (by kernel_rfl) (by simp) ?_
      refine AllReadyH.cons rfl (fun K hK => ?_) AllReadyH.nil
      refine step_vals _ (by rfl) _ _ (by rfl) W7.heap.size _ _ [] st (by rfl) (by rfl) mkD sB (by simp; omega) (by simp) ?_
      intro v11 w11 hrow11 hg11 hb11
      rw [List.nil_append] at hrow11
      obtain ⟨a11, k11, hv11, _⟩ := hrow11.slice
      subst hv11
      have b11 : Below W7.heap.size W7 w11 := Below.grown AB.drew hg11 AB.size (fun q e => (mkB.lt q e).1)
      have S11 : (w11.cell? ⟨w.heap.size + 1 + 1, 0, none⟩ = some (.slice (some ⟨g, off, none⟩) h.calls.length co) ∧ w11.cell? ⟨w.heap.size + 1 + 1, 1, none⟩ = some (.int .i64 (jn : Int))) := HSO.out _ (b11.block _ lo7)
      refine hK.out _ _ S11 (fun _ => ?_)
      clear hK K
      try simp only [go_sem]
      try simp only [List.setIfInBounds_toArray]
      have lgs := hrow11.lt
      have zb11 := b11.size
      have pP := put_stack k7.c hjl (.slice a11 st.length k11) st b11.size (fun q h1 _ => b11.block q h1) (PairRow.mono hrow11 (by omega)) (fun q e => .inr (lgs q e).1)
      have k11' := k7.put hjl pP
      have ocell := ocell_at (k7.c.below b11) hjl
      obtain ⟨⟨oc0, oc1, oc2, oc3, oc4, oc5⟩, of0, of1, of2, of3, of4, of5⟩ := ocell
      have S12 : ((w11.setCell ⟨g, off + jn * 6 + 3, none⟩ (.slice a11 st.length k11)).cell? ⟨w.heap.size + 1 + 1, 0, none⟩ = some (.slice (some ⟨g, off, none⟩) h.calls.length co) ∧ (w11.setCell ⟨g, off + jn * 6 + 3, none⟩ (.slice a11 st.length k11)).cell? ⟨w.heap.size + 1 + 1, 1, none⟩ = some (.int .i64 (jn : Int))) := HSO.out _ ((Below.heap_setCell _ _ _ _ (Ne.symm hno)).trans (b11.block _ lo7))
      refine wpAnyH_take (i := 7) (v := .pointer (some ⟨g, off + jn * 6, none⟩)) rfl (by kernel_rfl) (by kernel_rfl) (by kernel_rfl) (fun _ _ _ h => h) (Or.inl ⟨by rfl, ?hz6⟩) S11 ?_
      case hz6 =>
        intro x _
        go_simp
      try simp only [Act.put]
      refine wpAnyH_take (i := 8) (v := .pointer (some ⟨g, off + jn * 6 + 3, none⟩)) rfl (by kernel_rfl) (by kernel_rfl) (by kernel_rfl) (fun _ _ _ h => h) (Or.inl ⟨by rfl, ?hz7⟩) S11 ?_
      case hz7 =>
        intro x _
        go_simp
      try simp only [Act.put]
      refine wpAnyH_ready (rs := [9]) (by kernel_rfl) (by simp) ?_
      refine AllReadyH.cons rfl (fun K hK => ?_) AllReadyH.nil
      go_simp
      refine hK.out _ _ S12 (fun _ => ?_)
      clear hK K
      try simp only [Act.put, List.setIfInBounds_toArray, List.set_cons_zero, List.set_cons_succ]
      refine wpAnyH_done (by kernel_rfl) ?_ _
      refine NoPanic.normal ?_
      have ro12 := ro7.of_block ((Below.heap_setCell w11 ⟨g, off + jn * 6 + 3, none⟩ (.slice a11 st.length k11) _ (Ne.symm hno)).trans (b11.block _ lo7))
      have rr12 := rr7.of_block ((Below.heap_setCell w11 ⟨g, off + jn * 6 + 3, none⟩ (.slice a11 st.length k11) (w.heap.size + 1) (by simp; omega)).trans (b11.block _ rr7.lt))
      have bw12 : Below w.heap.size w (w11.setCell ⟨g, off + jn * 6 + 3, none⟩ (.slice a11 st.length k11)) := (b7.trans (b11.mono b7.size)).setCell (p := ⟨g, off + jn * 6 + 3, none⟩) (by simp; omega) _
      clear oc0 oc1 oc2 oc3 oc4 oc5 of0 of1 of2 of3 of4 of5 pP k7 hrow11 hg11 hb11 S0 SA S11 S12 mkB mkD AB sB HSO ro7 rr7 lgs hst7
      generalize w11.setCell ⟨g, off + jn * 6 + 3, none⟩ (.slice a11 st.length k11) = W12 at *
      have hj2 : jn < (h.calls.set jn { h.calls[jn] with stack := st }).length := by rw [List.length_set]; exact hjl
      have hc2 : (h.calls.set jn { h.calls[jn] with stack := st })[jn] = { h.calls[jn] with stack := st } := List.getElem_set_self hj2
      have pP2 := put_cell k11'.c hj2 1 (.int .i64 (h.calls[jn].pc + 1)) { h.calls[jn] with stack := st, pc := h.calls[jn].pc + 1 } (.inl rfl) (by simp only [hc2]) (by simp only [hc2]) (by simp only [hc2]) (by simp) (by simp [hc2]) (by simp [hc2])
      have k12 := k11'.put hj2 pP2
      have ocell := ocell_at k11'.c hj2
      simp only [hc2] at ocell
      obtain ⟨⟨_, oc1, _⟩, _, of1, _⟩ := ocell
      have eF : ({ h with calls := (h.calls.set jn { h.calls[jn] with stack := st }).set jn { h.calls[jn] with stack := st, pc := h.calls[jn].pc + 1 } } : Hp) = afterH h st := by
        unfold afterH setH curC
        rw [HN.out, List.set_set]
        simp [hjl]
      have hw : IntKind.i64.wrap (h.calls[jn].pc + 1) = h.calls[jn].pc + 1 := by rw [IntKind.wrap_i64]; omega
      obtain ⟨V12, k12'⟩ : ∃ V12, OwnHeap (w.heap.size + 3) (W12.setCell ⟨g, off + jn * 6 + 1, none⟩ (.int .i64 (h.calls[jn].pc + 1))) (.slice (some ⟨g, off, none⟩) h.calls.length co) (.slice a6 h.said.length c6) (afterH h st) V12 := ⟨_, by rw [← eF]; exact k12⟩
      have HNF : Hid ((afterH h st).calls.length = h.calls.length ∧ (afterH h st).now = (jn : Int) ∧ (afterH h st).born = h.born ∧ (afterH h st).said = h.said ∧ (afterH h st).code = h.code) := by
        rw [← eF]
        exact ⟨by simp, HN.out, rfl, rfl, rfl⟩
      clear pP2 k12 k11' eF hc2 hj2 hpcb
      generalize h.calls[jn].pc = pc at *
      have HSO : Hid (∀ w' : World, w'.heap[w.heap.size + 1 + 1]? = W12.heap[w.heap.size + 1 + 1]? → (w'.cell? ⟨w.heap.size + 1 + 1, 0, none⟩ = some (.slice (some ⟨g, off, none⟩) h.calls.length co) ∧ w'.cell? ⟨w.heap.size + 1 + 1, 1, none⟩ = some (.int .i64 (jn : Int)))) := fun w' e => ⟨(World.cell?_of_block (a := ⟨w.heap.size + 1 + 1, 0, none⟩) e).trans (five_cells ro12).1.1, (World.cell?_of_block (a := ⟨w.heap.size + 1 + 1, 1, none⟩) e).trans (five_cells ro12).1.2.1⟩
      have S0 : (W12.drew.cell? ⟨w.heap.size + 1 + 1, 0, none⟩ = some (.slice (some ⟨g, off, none⟩) h.calls.length co) ∧ W12.drew.cell? ⟨w.heap.size + 1 + 1, 1, none⟩ = some (.int .i64 (jn : Int))) := HSO.out _ rfl
      have S13 : ((W12.setCell ⟨g, off + jn * 6 + 1, none⟩ (.int .i64 (pc + 1))).cell? ⟨w.heap.size + 1 + 1, 0, none⟩ = some (.slice (some ⟨g, off, none⟩) h.calls.length co) ∧ (W12.setCell ⟨g, off + jn * 6 + 1, none⟩ (.int .i64 (pc + 1))).cell? ⟨w.heap.size + 1 + 1, 1, none⟩ = some (.int .i64 (jn : Int))) := HSO.out _ (Below.heap_setCell _ _ _ _ (Ne.symm hno))
      go_wp2_with fail
      refine wp_region_noPanic ?_
      refine wp_region_held_drew (S := fun w' : World => (w'.cell? ⟨w.heap.size + 1 + 1, 0, none⟩ = some (.slice (some ⟨g, off, none⟩) h.calls.length co) ∧ w'.cell? ⟨w.heap.size + 1 + 1, 1, none⟩ = some (.int .i64 (jn : Int)))) (by kernel_rfl) S0 (fun _ => ?_)
      refine wpAnyH_take (i := 0) (v := .pointer (some ⟨w.heap.size + 1 + 1, 0, none⟩)) rfl (by kernel_rfl) (by kernel_rfl) (by kernel_rfl) (fun _ _ _ h => h) (Or.inl ⟨by rfl, ?hz101⟩) S0 ?_
      case hz101 =>
        intro x _
        go_simp
      try simp only [Act.put, List.setIfInBounds_toArray]
      refine wpAnyH_take (i := 1) (v := .slice (some ⟨g, off, none⟩) h.calls.length co) rfl (by kernel_rfl) (by kernel_rfl) (by kernel_rfl) (fun _ _ _ h => h) (Or.inl ⟨by rfl, ?hz102⟩) S0 ?_
      case hz102 =>
        rintro x ⟨k0, k1⟩
        go_simp
      try simp only [Act.put]
      refine wpAnyH_take (i := 2) (v := .pointer (some ⟨w.heap.size + 1 + 1, 1, none⟩)) rfl (by kernel_rfl) (by kernel_rfl) (by kernel_rfl) (fun _ _ _ h => h) (Or.inl ⟨by rfl, ?hz103⟩) S0 ?_
      case hz103 =>
        intro x _
        go_simp
      try simp only [Act.put]
      refine wpAnyH_take (i := 3) (v := .int .i64 (jn : Int)) rfl (by kernel_rfl) (by kernel_rfl) (by kernel_rfl) (fun _ _ _ h => h) (Or.inl ⟨by rfl, ?hz104⟩) S0 ?_
      case hz104 =>
        rintro x ⟨k0, k1⟩
        go_simp
      try simp only [Act.put]
      refine wpAnyH_take (i := 4) (v := .pointer (some ⟨w.heap.size + 1 + 1, 0, none⟩)) rfl (by kernel_rfl) (by kernel_rfl) (by kernel_rfl) (fun _ _ _ h => h) (Or.inl ⟨by rfl, ?hz105⟩) S0 ?_
      case hz105 =>
        intro x _
        go_simp
      try simp only [Act.put]
      refine wpAnyH_take (i := 5) (v := .slice (some ⟨g, off, none⟩) h.calls.length co) rfl (by kernel_rfl) (by kernel_rfl) (by kernel_rfl) (fun _ _ _ h => h) (Or.inl ⟨by rfl, ?hz106⟩) S0 ?_
      case hz106 =>
        rintro x ⟨k0, k1⟩
        go_simp
      try simp only [Act.put]
      refine wpAnyH_take (i := 6) (v := .pointer (some ⟨w.heap.size + 1 + 1, 1, none⟩)) rfl (by kernel_rfl) (by kernel_rfl) (by kernel_rfl) (fun _ _ _ h => h) (Or.inl ⟨by rfl, ?hz107⟩) S0 ?_
      case hz107 =>
        intro x _
        go_simp
      try simp only [Act.put]
      refine wpAnyH_take (i := 7) (v := .int .i64 (jn : Int)) rfl (by kernel_rfl) (by kernel_rfl) (by kernel_rfl) (fun _ _ _ h => h) (Or.inl ⟨by rfl, ?hz108⟩) S0 ?_
      case hz108 =>
        rintro x ⟨k0, k1⟩
        go_simp
      try simp only [Act.put]
      refine wpAnyH_take (i := 8) (v := .pointer (some ⟨g, off + jn * 6, none⟩)) rfl (by kernel_rfl) (by kernel_rfl) (by kernel_rfl) (fun _ _ _ h => h) (Or.inl ⟨by rfl, ?hz109⟩) S0 ?_
      case hz109 =>
        intro x _
        go_simp
      try simp only [Act.put]
      refine wpAnyH_take (i := 9) (v := .pointer (some ⟨g, off + jn * 6 + 1, none⟩)) rfl (by kernel_rfl) (by kernel_rfl) (by kernel_rfl) (fun _ _ _ h => h) (Or.inl ⟨by rfl, ?hz110⟩) S0 ?_
      case hz110 =>
        intro x _
        go_simp
      try simp only [Act.put]
      refine wpAnyH_ready (rs := [10]) (by kernel_rfl) (by simp) ?_
      refine AllReadyH.cons rfl (fun K hK => ?_) AllReadyH.nil
      go_simp
      refine hK.out _ _ S0 (fun _ => ?_)
      clear hK K
      try simp only [Act.put, List.setIfInBounds_toArray, List.set_cons_zero, List.set_cons_succ]
      refine wpAnyH_take (i := 11) (v := .int .i64 (pc + 1)) rfl (by kernel_rfl) (by kernel_rfl) (by kernel_rfl) (fun _ _ _ h => h) (Or.inl ⟨by rfl, ?hz111⟩) S0 ?_
      case hz111 =>
        intro x _
        go_simp
      try simp only [Act.put, List.setIfInBounds_toArray]
      refine wpAnyH_take (i := 12) (v := .pointer (some ⟨g, off + jn * 6, none⟩)) rfl (by kernel_rfl) (by kernel_rfl) (by kernel_rfl) (fun _ _ _ h => h) (Or.inl ⟨by rfl, ?hz112⟩) S0 ?_
      case hz112 =>
        intro x _
        go_simp
      try simp only [Act.put]
      refine wpAnyH_take (i := 13) (v := .pointer (some ⟨g, off + jn * 6 + 1, none⟩)) rfl (by kernel_rfl) (by kernel_rfl) (by kernel_rfl) (fun _ _ _ h => h) (Or.inl ⟨by rfl, ?hz113⟩) S0 ?_
      case hz113 =>
        intro x _
        go_simp
      try simp only [Act.put]
      refine wpAnyH_ready (rs := [14]) (by kernel_rfl) (by simp) ?_
      refine AllReadyH.cons rfl (fun K hK => ?_) AllReadyH.nil
      go_simp
      refine hK.out _ _ S13 (fun _ => ?_)
      clear hK K
      try simp only [Act.put, List.setIfInBounds_toArray, List.set_cons_zero, List.set_cons_succ]
      refine wpAnyH_done (by kernel_rfl) ?_ _
      refine NoPanic.normal ?_
      have ro13 := ro12.of_block (Below.heap_setCell W12 ⟨g, off + jn * 6 + 1, none⟩ (.int .i64 (pc + 1)) _ (Ne.symm hno))
      have rr13 := rr12.of_block (Below.heap_setCell W12 ⟨g, off + jn * 6 + 1, none⟩ (.int .i64 (pc + 1)) (w.heap.size + 1) (by simp; omega))
      have bw13 : Below w.heap.size w (W12.setCell ⟨g, off + jn * 6 + 1, none⟩ (.int .i64 (pc + 1))) := bw12.setCell (p := ⟨g, off + jn * 6 + 1, none⟩) (by simp; omega) _
      clear S0 S13 HSO oc1 of1 ro12 rr12 bw12 hw
      generalize (W12.setCell ⟨g, off + jn * 6 + 1, none⟩ (.int .i64 (pc + 1))) = W13 at *
      obtain ⟨⟨y0, y1, y2, y3, y4⟩, _⟩ := five_cells ro13
      obtain ⟨⟨r0, r1, r2, r3, r4⟩, g0, g1, g2, g3, g4⟩ := five_cells rr13
      have hlow : w.heap.size + 1 < w.heap.size + 3 := by omega
      have RF := (five_set4 (five_set3 (five_set2 (five_set1 (five_set0 rr13 (.slice (some ⟨g, off, none⟩) h.calls.length co)) (.int .i64 (jn : Int))) (.int .i64 h.born)) (.slice a6 h.said.length c6)) (.int .i64 h.code))
      have BF := (((((bw13.setCell (p := ⟨w.heap.size + 1, 0, none⟩) hz1 (.slice (some ⟨g, off, none⟩) h.calls.length co)).setCell (p := ⟨w.heap.size + 1, 1, none⟩) hz1 (.int .i64 (jn : Int))).setCell (p := ⟨w.heap.size + 1, 2, none⟩) hz1 (.int .i64 h.born)).setCell (p := ⟨w.heap.size + 1, 3, none⟩) hz1 (.slice a6 h.said.length c6)).setCell (p := ⟨w.heap.size + 1, 4, none⟩) hz1 (.int .i64 h.code))
      have OF := (((((k12'.setLow (p := ⟨w.heap.size + 1, 0, none⟩) hlow (.slice (some ⟨g, off, none⟩) h.calls.length co)).setLow (p := ⟨w.heap.size + 1, 1, none⟩) hlow (.int .i64 (jn : Int))).setLow (p := ⟨w.heap.size + 1, 2, none⟩) hlow (.int .i64 h.born)).setLow (p := ⟨w.heap.size + 1, 3, none⟩) hlow (.slice a6 h.said.length c6)).setLow (p := ⟨w.heap.size + 1, 4, none⟩) hlow (.int .i64 h.code))
      clear k12'
      go_wp2
      generalize (((((W13.setCell ⟨w.heap.size + 1, 0, none⟩ (.slice (some ⟨g, off, none⟩) h.calls.length co)).setCell ⟨w.heap.size + 1, 1, none⟩ (.int .i64 (jn : Int))).setCell ⟨w.heap.size + 1, 2, none⟩ (.int .i64 h.born)).setCell ⟨w.heap.size + 1, 3, none⟩ (.slice a6 h.said.length c6)).setCell ⟨w.heap.size + 1, 4, none⟩ (.int .i64 h.code)) = WF at *
      obtain ⟨⟨q0, q1, q2, q3, q4⟩, _⟩ := five_cells RF
      have OF1 := OF.below (Below.refl _ _).drew
      have hl3 : w.heap.size ≤ w.heap.size + 3 := Nat.le_add_right _ _
      have OF2 : OwnHeap w.heap.size WF.drew _ _ _ _ := ⟨OF1.c.lower hl3, OF1.s.mono hl3, OF1.apart⟩
      exact bodyPost_ret (v := .agg #[.slice (some ⟨g, off, none⟩) h.calls.length co, .int .i64 (jn : Int), .int .i64 h.born, .slice a6 h.said.length c6, .int .i64 h.code]) (by simp [results, Tryz.results10, go_sem, q0, q1, q2, q3, q4]) rfl ⟨⟨_, _, _, by rw [HNF.out.2.1, HNF.out.2.2.1, HNF.out.2.2.2.2], OF2⟩, BF.drew⟩
end Go.Proofs.YtlpbklgkafjfmaaGreatDoor

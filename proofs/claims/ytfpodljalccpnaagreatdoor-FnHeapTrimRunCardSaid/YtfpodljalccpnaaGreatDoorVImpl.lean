/-
  What is seen of a heap, by the model: l11Has, l11Refs, l11Found, l11Names, l11Copy.
-/
import Derived.Test.YtfpodljalccpnaaGreatDoorStepT
import Derived.Test.YtfpodljalccpnaaGreatDoorSMem
import Derived.Deep.RegionHeld3
import Derived.Test.YtfpodljalccpnaaGreatDoorTakes2
import Derived.Test.YtfpodljalccpnaaGreatDoorImplOk3
import Derived.Deep.QuietTactic
import Derived.Lib.SliceRun

namespace Go.Proofs.YtfpodljalccpnaaGreatDoor
open Go.RowKit
theorem nums_at (l : List Nat) (i : Nat) (h : i < (nums l).length) : (nums l)[i] = ((l[i]'(by simpa [nums] using h) : Nat) : Int) := by simp [nums]
theorem append_i {ops : Array Oper} {rest : List Oper} {o : Oper} {act : Act} {Q : Exit → Act → World → Prop} (w : World) (hgd : o.guard = none) (s x : Operand)
    (ho : o.op = .call { callee := .builtin .append, args := #[s, x], argTypes := #[63, 63] }) (B : Nat) (v : Value) (L : List Int) (hs : act.eval s = v) (hown : IntRow B w v L) (k : Int) (H c : Nat) (hH : w.heap.size = H)
    (hx : act.eval x = .slice (some ⟨H, 0, none⟩) 1 c) (hL : L.length ≤ 900000) (hB : B ≤ H)
    (h : ∀ g off cap w', IntRow B w' (.slice (some ⟨g, off, none⟩) (L.length + 1) cap) (L ++ [k]) → w.grownBy w' v.ownBlock → (v.ownBlock = some g ∨ H ≤ g) → g < w'.heap.size →
      wpList Tryz.prog ops Q rest (act.put o.dst (.slice (some ⟨g, off, none⟩) (L.length + 1) cap)) w') :
    wpList Tryz.prog ops Q (o :: rest) act (w.alloc (.cells #[.int .i64 k] 3)) := by
  obtain ⟨i0, hi, hz0, hz1, hz2⟩ := info_parts Tryz.infoInt2
  exact append_int Tryz.underlying63 hi hz0 hz1 hz2 w hgd s x ho v L hs hown k H c hH hx hL hB h
end Go.Proofs.YtfpodljalccpnaaGreatDoor

/-
  A piece of a row of values; one operation of a heap, case by case.
-/
namespace Go.Proofs.YtfpodljalccpnaaGreatDoor
open Go.RowKit
theorem box_row (w : World) (t : TypeId) (x : Value) : (w.alloc (.cells #[x] t)).rowIs w.heap.size t 1 (fun _ => x) :=
  ⟨_, Go.Deep.blk_alloc_new _ _, rfl, fun i hi => by match i, hi with | 0, _ => rfl⟩
theorem setH_now {h : Hp} {j : Nat} (hn : h.now = j) (c : Cl) : setH h c = { h with calls := h.calls.set j c } := by
  unfold setH
  rw [hn, Int.toNat_natCast]
theorem val_from (w : World) (a : Option Addr) (n cap k : Nat) (hk : k ≤ n) : (Instr.slice 27 (.slice a n cap) (some (.int .i64 (k : Int))) none none).run Tryz.prog w = .ok (sliced a k n cap 2) w := by
  have hs : ∀ w, (sizeOf (Tryz.prog.elem 27)).run Tryz.prog w = .ok 2 w := fun w => by kernel_rfl
  rw [run_slice_l w 27 a n cap (by kernel_rfl) .i64 k (by omega) (by omega)]
  simp [hs, Result.andThen]
theorem val_to (w : World) (a : Option Addr) (n cap k : Nat) (hk : k ≤ cap) : (Instr.slice 27 (.slice a n cap) none (some (.int .i64 (k : Int))) none).run Tryz.prog w = .ok (sliced a 0 k cap 2) w := by
  have hs : ∀ w, (sizeOf (Tryz.prog.elem 27)).run Tryz.prog w = .ok 2 w := fun w => by kernel_rfl
  rw [run_slice_h w 27 a n cap (by kernel_rfl) .i64 k (by omega) (by omega)]
  simp [hs, Result.andThen]
theorem PairRow.piece {B : Nat} {w : World} {a : Option Addr} {n cap : Nat} {xs : List (Int × Int)} (h : PairRow B w (.slice a n cap) xs) {l k : Nat} (hl : l ≤ k) (hk : k ≤ xs.length) : OpsAt w (sliced a l k cap 2) ((xs.take k).drop l) ∧ k ≤ cap := by
  rcases h with ⟨h0, rfl⟩ | ⟨g, off, cp, hv, hB, hg, hlc, hc, hsp, hx⟩
  · injection h0 with e1 e2 e3
    subst e1 e2 e3
    obtain rfl : k = 0 := by simpa using hk
    obtain rfl : l = 0 := by omega
    exact ⟨⟨_, _, rfl, by simp, fun i hi => absurd hi (by simp)⟩, Nat.le_refl _⟩
  · injection hv with e1 e2 e3
    subst e1 e2 e3
    refine ⟨?_, by omega⟩
    have hlen : ((xs.take k).drop l).length = k - l := by simp; omega
    by_cases e : l = cap
    · have hkl : k - l = 0 := by omega
      have hn : (xs.take k).drop l = [] := List.eq_nil_of_length_eq_zero (by omega)
      rw [hn]
      unfold sliced
      exact ⟨_, _, by rw [List.length_nil, ← hkl], by simp, fun i hi => absurd hi (by simp)⟩
    · unfold sliced
      refine ⟨_, _, by rw [hlen], by rw [hlen]; unfold maxLen at *; omega, fun i hi => ?_⟩
      rw [hlen] at hi
      have hi2 : l + i < xs.length := by omega
      obtain ⟨y0, y1⟩ := hx (l + i) hi2
      refine ⟨g, off + l * 2, ?_, ?_, ?_⟩
      · rw [if_neg (by omega)]
        simp [Addr.add]
      · rw [show off + l * 2 + i * 2 = off + (l + i) * 2 by omega, y0]
        simp
      · rw [show off + l * 2 + i * 2 + 1 = off + (l + i) * 2 + 1 by omega, y1]
        simp
theorem PairRow.cutTo {B : Nat} {w : World} {a : Option Addr} {n cap : Nat} {xs : List (Int × Int)} (h : PairRow B w (.slice a n cap) xs) {k : Nat} (hk : k ≤ xs.length) : PairRow B w (.slice a k cap) (xs.take k) := by
  rcases h with ⟨h0, rfl⟩ | ⟨g, off, cp, hv, hB, hg, hlc, hc, hsp, hx⟩
  · injection h0 with e1 e2 e3
    subst e1 e2 e3
    obtain rfl : k = 0 := by simpa using hk
    exact .inl ⟨rfl, by simp⟩
  · injection hv with e1 e2 e3
    subst e1 e2 e3
    have hl : (xs.take k).length = k := by simp; omega
    refine .inr ⟨g, off, cap, by rw [hl], hB, hg, by omega, hc, hsp, fun i hi => ?_⟩
    have hi' : i < xs.length := by omega
    rw [List.getElem_take]
    exact hx i hi'
theorem takes_bound {ms : Ms} (hp : progOk ms = true) (kk a : Int) : (0 ≤ (takesOf ms kk a).1 ∧ (takesOf ms kk a).1 ≤ 2) ∧ 0 ≤ (takesOf ms kk a).2 ∧ (takesOf ms kk a).2 ≤ 1 := by
  unfold takesOf
  split
  · split
    · rename_i q
      rw [inR_true] at q
      have hq : a.toNat < ms.length := by omega
      rw [getD_at hq]
      have := (prog_meth hp hq).args
      simp only []
      omega
    · decide
  · simp only []
    unfold tk lv
    refine ⟨?_, ?_⟩
    · split
      · decide
      · split <;> decide
    · split <;> decide
theorem stepH_past {ms : Ms} {h : Hp} {j m pc : Nat} (hn : h.now = j) (hj : j < h.calls.length) (hm : h.calls[j].m = m) (hpc : h.calls[j].pc = pc) (hml : m < ms.length) (hl : ms[m].2.2.length ≤ pc) : stepH ms h = { h with code := 2 } := by
  unfold stepH
  simp only [cur_at hn hj, hm, hpc, Int.toNat_natCast, getD_at hml]
  rw [if_pos (by omega)]
  rfl
theorem opNext_at {ms : Ms} {h : Hp} {j m pc : Nat} (hj : j < h.calls.length) (hm : h.calls[j].m = m) (hpc : h.calls[j].pc = pc) (hml : m < ms.length) (hpl : pc < ms[m].2.2.length) : opNext ms h.calls[j] = ms[m].2.2[pc] := by
  unfold opNext
  rw [hm, hpc, Int.toNat_natCast, Int.toNat_natCast, getD_at hml, getD_at hpl]
theorem stepH_at {ms : Ms} {h : Hp} {j m pc : Nat} (hn : h.now = j) (hj : j < h.calls.length) (hm : h.calls[j].m = m) (hpc : h.calls[j].pc = pc) (hml : m < ms.length) (hpl : pc < ms[m].2.2.length) {kk a t l : Int} (ho : ms[m].2.2[pc] = (kk, a)) (ht : takesOf ms kk a = (t, l)) :
    stepH ms h = if (h.calls[j].stack.length : Int) - t < 0 ∨ 6 < (h.calls[j].stack.length : Int) - t + l then { h with code := 2 }
      else if kindsOk kk (h.calls[j].stack.drop ((h.calls[j].stack.length : Int) - t).toNat) = false then { h with code := 2 }
      else doH ms { h with calls := h.calls.set j { h.calls[j] with stack := h.calls[j].stack.take ((h.calls[j].stack.length : Int) - t).toNat, pc := (pc : Int) + 1 } } kk a (h.calls[j].stack.drop ((h.calls[j].stack.length : Int) - t).toNat) := by
  unfold stepH
  simp only [cur_at hn hj, opNext_at hj hm hpc hml hpl, ho, ht]
  rw [hm, Int.toNat_natCast, getD_at hml, if_neg (by rw [hpc]; omega), setH_now hn, hpc]
  rfl
theorem doing_at {ms : Ms} {h : Hp} {j m pc : Nat} (hg : Good ms h) (hc : h.code = 0) (hn : h.now = j) (hj : j < h.calls.length) (hm : h.calls[j].m = m) (hpc : h.calls[j].pc = pc) (hml : m < ms.length) (hpl : pc < ms[m].2.2.length) {kk a t l : Int} (ho : ms[m].2.2[pc] = (kk, a)) (ht : takesOf ms kk a = (t, l))
    (h2 : ¬ ((h.calls[j].stack.length : Int) - t < 0 ∨ 6 < (h.calls[j].stack.length : Int) - t + l)) (h3 : kindsOk kk (h.calls[j].stack.drop ((h.calls[j].stack.length : Int) - t).toNat) = true) :
    Doing ms { h with calls := h.calls.set j { h.calls[j] with stack := h.calls[j].stack.take ((h.calls[j].stack.length : Int) - t).toNat, pc := (pc : Int) + 1 } } j kk a (h.calls[j].stack.drop ((h.calls[j].stack.length : Int) - t).toNat) := by
  have h1 : ¬ ((ms.getD (curC h).m.toNat (0, 0, [])).2.2.length : Int) ≤ (curC h).pc := by
    rw [cur_at hn hj, hm, Int.toNat_natCast, getD_at hml, hpc]
    omega
  have e : opNext ms (curC h) = (kk, a) := by rw [cur_at hn hj, opNext_at hj hm hpc hml hpl, ho]
  obtain ⟨j', d⟩ := hg.doing hc h1 (by rw [e]; simp only []; rw [ht, cur_at hn hj]; exact h2) (by rw [e]; simp only []; rw [ht, cur_at hn hj]; exact h3)
  rw [e] at d
  simp only [] at d
  rw [ht, cur_at hn hj, setH_now hn, hpc] at d
  have hjj : j' = j := by have := d.now; simp only [] at this; omega
  subst hjj
  exact d
end Go.Proofs.YtfpodljalccpnaaGreatDoor

/-
  What is seen of a heap, by the model: l11Names, l11Copy.
-/
namespace Go.Proofs.YtfpodljalccpnaaGreatDoor
open Go.RowKit
theorem map_take {α β : Type} {f : α → β} {l : List α} {k : Nat} (h : k < l.length) : (l.take k).map f ++ [f l[k]] = (l.take (k + 1)).map f := by
  rw [List.take_add_one, List.getElem?_eq_getElem h, List.map_append]
  rfl
set_option maxRecDepth 100000 in
set_option maxHeartbeats 2000000 in
theorem l11Copy_any (vt vs : Value) (c : Cl) (w : World) (ht : OpsAt w vt c.temps) (hs : OpsAt w vs c.stack) (hb : c.temps.length ≤ 1000 ∧ c.stack.length ≤ 1000) :
    Calls Tryz.prog 89 #[.agg (clCells vt vs c)] w fun e w' => ∃ vt' vs', e = .returned (.agg (clCells vt' vs' c)) ∧ PairRow w.heap.size w' vt' c.temps ∧ PairRow w.heap.size w' vs' c.stack ∧ (∀ g, vt'.ownBlock = some g → vs'.ownBlock ≠ some g) ∧ Below w.heap.size w w' := by
  obtain ⟨at', ct', hvt⟩ := ht.shape
  obtain ⟨as', cs', hvs⟩ := hs.shape
  subst hvt hvs
  unfold clCells
  obtain ⟨hb1, hb2⟩ := hb
  have hA : Below w.heap.size w ((w.alloc (.cells #[.int .i64 c.m, .int .i64 c.pc, .slice at' c.temps.length ct', .slice as' c.stack.length cs', .int .i64 c.sender, .bool c.dead] 56)).alloc (.cells #[.int .i64 0, .int .i64 0, .slice none 0 0, .slice none 0 0, .int .i64 0, .bool false] 56)) := ((Below.refl _ _).alloc (Nat.le_refl _) _).alloc (by simp) _
  have bc := (six_new w 56 (.int .i64 c.m) (.int .i64 c.pc) (.slice at' c.temps.length ct') (.slice as' c.stack.length cs') (.int .i64 c.sender) (.bool c.dead)).alloc (.cells #[.int .i64 0, .int .i64 0, .slice none 0 0, .slice none 0 0, .int .i64 0, .bool false] 56)
  have bz := six_new (w.alloc (.cells #[.int .i64 c.m, .int .i64 c.pc, .slice at' c.temps.length ct', .slice as' c.stack.length cs', .int .i64 c.sender, .bool c.dead] 56)) 56 (.int .i64 0) (.int .i64 0) (.slice none 0 0) (.slice none 0 0) (.int .i64 0) (.bool false)
  simp only [World.size_alloc] at bz
  go_enter Tryz.func89, Tryz.ntmps89
  go_upto_region 1 with fail
  generalize (w.alloc (.cells #[.int .i64 c.m, .int .i64 c.pc, .slice at' c.temps.length ct', .slice as' c.stack.length cs', .int .i64 c.sender, .bool c.dead] 56)).alloc (.cells #[.int .i64 0, .int .i64 0, .slice none 0 0, .slice none 0 0, .int .i64 0, .bool false] 56) = W1 at *
  have zA := hA.size
  have yA := bz.lt
  have N1 := (Below.refl W1.heap.size W1).alloc (Nat.le_refl _) (.cells #[] 51)
  have mk1 := PairRow.made (B := W1.heap.size) (w := W1) (e := 51) (Nat.le_refl _)
  have ht1 := (ht.below hA).below N1
  have bc1 := row_below N1 bc
  have bz1 := row_below N1 bz
  obtain ⟨⟨x0, x1, x2, x3, x4, x5⟩, xf⟩ := six_cells bc1
  clear xf
  go_upto_region 2 with (at_builtin; refine append_vals _ (by rfl) _ _ (by rfl) W1.heap.size _ _ [] c.temps (by rfl) (by rfl) mk1 ht1 (by simp; omega) N1.size ?_; intro v2 w2 hrow2 hg2 hbk2; rw [List.nil_append] at hrow2; obtain ⟨a2, c2, hv2, _⟩ := hrow2.slice; subst hv2; have bc2 := bc1.of_block (hg2.block w.heap.size bc1.lt (fun e => by have := (mk1.lt _ e.symm).1; omega)); have bz2 := bz1.of_block (hg2.block (w.heap.size + 1) bz1.lt (fun e => by have := (mk1.lt _ e.symm).1; omega)); obtain ⟨⟨y0, y1, y2, y3, y4, y5⟩, k0, k1, k2, k3, k4, k5⟩ := six_cells bc2)
  have B2 : Below w.heap.size w w2 := (hA.trans (N1.mono zA)).grown hg2 (by have := N1.size; omega) (fun q e => by have := (mk1.lt q e).1; omega)
  have hz2 : W1.heap.size ≤ w2.heap.size := Nat.le_trans N1.size hg2.size
  clear hg2 hbk2 mk1 ht1 bc1 bz1 N1 x0 x1 x2 x3 x4 x5 y0 y1 y2 y3 y4 y5 k0 k1 k2 k3 k4 k5 bc bz hA
  have hne2 : (Value.slice a2 c.temps.length c2).ownBlock ≠ some w.heap.size := fun e => by have := (hrow2.lt _ e).1; omega
  have P3 := hrow2.set_other (p := ⟨w.heap.size, 2, none⟩) (.slice a2 c.temps.length c2) hne2
  have bc3 := six_set2 bc2 (.slice a2 c.temps.length c2)
  have bz3 := row_set (k := w.heap.size) (o := 2) bz2 (by omega) (.slice a2 c.temps.length c2)
  have B3 := B2.setCell (p := ⟨w.heap.size, 2, none⟩) (Nat.le_refl _) (.slice a2 c.temps.length c2)
  have hz3 : W1.heap.size ≤ (w2.setCell ⟨w.heap.size, 2, none⟩ (.slice a2 c.temps.length c2)).heap.size := by simp [World.setCell]; exact hz2
  generalize w2.setCell ⟨w.heap.size, 2, none⟩ (.slice a2 c.temps.length c2) = w3 at *
  clear bc2 bz2 B2 hrow2
  have N3 := (Below.refl w3.heap.size w3).alloc (Nat.le_refl _) (.cells #[] 51)
  have mk3 := PairRow.made (B := w3.heap.size) (w := w3) (e := 51) (Nat.le_refl _)
  have hs3 := (hs.below B3).below N3
  have bc4 := row_below N3 bc3
  have bz4 := row_below N3 bz3
  have P4 := P3.below N3
  have z3 := B3.size
  obtain ⟨⟨x0, x1, x2, x3, x4, x5⟩, xf⟩ := six_cells bc4
  clear xf
  go_upto_region 3 with (at_builtin; refine append_vals _ (by rfl) _ _ (by rfl) w3.heap.size _ _ [] c.stack (by rfl) (by rfl) mk3 hs3 (by simp; omega) N3.size ?_; intro v5 w5 hrow5 hg5 hbk5; rw [List.nil_append] at hrow5; obtain ⟨a5, c5, hv5, _⟩ := hrow5.slice; subst hv5; have bc5 := bc4.of_block (hg5.block w.heap.size bc4.lt (fun e => by have := (mk3.lt _ e.symm).1; omega)); have bz5 := bz4.of_block (hg5.block (w.heap.size + 1) bz4.lt (fun e => by have := (mk3.lt _ e.symm).1; omega)); obtain ⟨⟨y0, y1, y2, y3, y4, y5⟩, k0, k1, k2, k3, k4, k5⟩ := six_cells bc5)
  have B5 : Below w.heap.size w w5 := (B3.trans (N3.mono z3)).grown hg5 (by have := N3.size; omega) (fun q e => by have := (mk3.lt q e).1; omega)
  have P5 := P4.kept hg5.size fun q e => hg5.block q (P4.lt q e).2 (fun e2 => by have h1 := (mk3.lt _ e2.symm).1; have h2 := (P3.lt q e).2; omega)
  have hap : ∀ q, (Value.slice a2 c.temps.length c2).ownBlock = some q → (Value.slice a5 c.stack.length c5).ownBlock ≠ some q := fun q e e2 => by have h1 := (P3.lt q e).2; have h2 := (hrow5.lt q e2).1; omega
  clear hg5 hbk5 mk3 hs3 bc4 bz4 N3 x0 x1 x2 x3 x4 x5 y0 y1 y2 y3 y4 y5 k0 k1 k2 k3 k4 k5 bc3 bz3 P3 P4 B3
  have hne5 : (Value.slice a5 c.stack.length c5).ownBlock ≠ some w.heap.size := fun e => by have := (hrow5.lt _ e).1; omega
  have P6 := P5.set_other (p := ⟨w.heap.size, 3, none⟩) (.slice a5 c.stack.length c5) hne2
  have Q6 := hrow5.set_other (p := ⟨w.heap.size, 3, none⟩) (.slice a5 c.stack.length c5) hne5
  have bc6 := six_set3 bc5 (.slice a5 c.stack.length c5)
  have bz6 := row_set (k := w.heap.size) (o := 3) bz5 (by omega) (.slice a5 c.stack.length c5)
  have B6 := B5.setCell (p := ⟨w.heap.size, 3, none⟩) (Nat.le_refl _) (.slice a5 c.stack.length c5)
  generalize w5.setCell ⟨w.heap.size, 3, none⟩ (.slice a5 c.stack.length c5) = w6 at *
  clear P5 hrow5 bc5 bz5 B5
  have nt1 : (Value.slice a2 c.temps.length c2).ownBlock ≠ some (w.heap.size + 1) := fun e => by have := (P6.lt _ e).1; omega
  have ns1 : (Value.slice a5 c.stack.length c5).ownBlock ≠ some (w.heap.size + 1) := fun e => by have := (Q6.lt _ e).1; omega
  obtain ⟨⟨x0, x1, x2, x3, x4, x5⟩, xf⟩ := six_cells bc6
  obtain ⟨⟨y0, y1, y2, y3, y4, y5⟩, k0, k1, k2, k3, k4, k5⟩ := six_cells bz6
  clear xf
  have R9 := six_set5 (six_set4 (six_set3 (six_set2 (six_set1 (six_set0 bz6 (.int .i64 c.m)) (.int .i64 c.pc)) (.slice a2 c.temps.length c2)) (.slice a5 c.stack.length c5)) (.int .i64 c.sender)) (.bool c.dead)
  have P9 := (((((P6.set_other (p := ⟨w.heap.size + 1, 0, none⟩) (.int .i64 c.m) nt1).set_other (p := ⟨w.heap.size + 1, 1, none⟩) (.int .i64 c.pc) nt1).set_other (p := ⟨w.heap.size + 1, 2, none⟩) (.slice a2 c.temps.length c2) nt1).set_other (p := ⟨w.heap.size + 1, 3, none⟩) (.slice a5 c.stack.length c5) nt1).set_other (p := ⟨w.heap.size + 1, 4, none⟩) (.int .i64 c.sender) nt1).set_other (p := ⟨w.heap.size + 1, 5, none⟩) (.bool c.dead) nt1
  have Q9 := (((((Q6.set_other (p := ⟨w.heap.size + 1, 0, none⟩) (.int .i64 c.m) ns1).set_other (p := ⟨w.heap.size + 1, 1, none⟩) (.int .i64 c.pc) ns1).set_other (p := ⟨w.heap.size + 1, 2, none⟩) (.slice a2 c.temps.length c2) ns1).set_other (p := ⟨w.heap.size + 1, 3, none⟩) (.slice a5 c.stack.length c5) ns1).set_other (p := ⟨w.heap.size + 1, 4, none⟩) (.int .i64 c.sender) ns1).set_other (p := ⟨w.heap.size + 1, 5, none⟩) (.bool c.dead) ns1
  have B9 := (((((B6.setCell (p := ⟨w.heap.size + 1, 0, none⟩) (Nat.le_succ _) (.int .i64 c.m)).setCell (p := ⟨w.heap.size + 1, 1, none⟩) (Nat.le_succ _) (.int .i64 c.pc)).setCell (p := ⟨w.heap.size + 1, 2, none⟩) (Nat.le_succ _) (.slice a2 c.temps.length c2)).setCell (p := ⟨w.heap.size + 1, 3, none⟩) (Nat.le_succ _) (.slice a5 c.stack.length c5)).setCell (p := ⟨w.heap.size + 1, 4, none⟩) (Nat.le_succ _) (.int .i64 c.sender)).setCell (p := ⟨w.heap.size + 1, 5, none⟩) (Nat.le_succ _) (.bool c.dead)
  go_wp2
  generalize (((((w6.setCell ⟨w.heap.size + 1, 0, none⟩ (.int .i64 c.m)).setCell ⟨w.heap.size + 1, 1, none⟩ (.int .i64 c.pc)).setCell ⟨w.heap.size + 1, 2, none⟩ (.slice a2 c.temps.length c2)).setCell ⟨w.heap.size + 1, 3, none⟩ (.slice a5 c.stack.length c5)).setCell ⟨w.heap.size + 1, 4, none⟩ (.int .i64 c.sender)).setCell ⟨w.heap.size + 1, 5, none⟩ (.bool c.dead) = W9 at *
  obtain ⟨⟨q0, q1, q2, q3, q4, q5⟩, _⟩ := six_cells R9
  exact bodyPost_ret (v := .agg #[.int .i64 c.m, .int .i64 c.pc, .slice a2 c.temps.length c2, .slice a5 c.stack.length c5, .int .i64 c.sender, .bool c.dead]) (by simp [results, Tryz.results89, go_sem, q0, q1, q2, q3, q4, q5]) rfl ⟨_, _, rfl, P9.mono (by omega), Q9.mono (by omega), hap, B9⟩
end Go.Proofs.YtfpodljalccpnaaGreatDoor

/-
  What is seen of a heap, by the program: calls in the order in which they are come to (come, comeToVals, numberOf).
-/
namespace Go.Proofs.YtfpodljalccpnaaGreatDoor
open Go.RowKit
def tabN (n : Nat) (ps : List Nat) : List Int := (List.range n).map fun (p : Nat) => numOf ps p
theorem tabN_len (n : Nat) (ps : List Nat) : (tabN n ps).length = n := by simp [tabN]
theorem tabN_at (n : Nat) (ps : List Nat) (p : Nat) (h : p < (tabN n ps).length) : (tabN n ps)[p] = numOf ps p := by simp [tabN]
theorem tabN_snoc {n : Nat} {ps : List Nat} {p : Nat} (hp : p < n) (h : numOf ps p = -1) : (tabN n ps).set p (ps.length : Int) = tabN n (ps ++ [p]) := by
  refine List.ext_getElem (by simp [tabN]) fun i h1 h2 => ?_
  rw [tabN_at, numOf_snoc h]
  by_cases e : i = p
  · subst e; simp
  · rw [List.getElem_set_ne (Ne.symm e), tabN_at, if_neg (by omega)]
def two (x0 x1 : Value) : Nat → Value := fun i => if i = 0 then x0 else x1
theorem two_new (w : World) (t : TypeId) (x0 x1 : Value) : (w.alloc (.cells #[x0, x1] t)).rowIs w.heap.size t 2 (two x0 x1) :=
  ⟨_, Go.Deep.blk_alloc_new _ _, rfl, fun i hi => by match i, hi with | 0, _ => rfl | 1, _ => rfl⟩
theorem two_cells {w : World} {g : Nat} {t : TypeId} {x0 x1 : Value} (h : w.rowIs g t 2 (two x0 x1)) : (w.cell? ⟨g, 0, none⟩ = some x0 ∧ w.cell? ⟨g, 1, none⟩ = some x1) ∧ (w.frozen? ⟨g, 0, none⟩ = false ∧ w.frozen? ⟨g, 1, none⟩ = false) :=
  ⟨⟨h.cell (i := 0) (by decide), h.cell (i := 1) (by decide)⟩, h.frozen 0, h.frozen 1⟩
theorem two_set0 {w : World} {g : Nat} {t : TypeId} {x0 x1 : Value} (h : w.rowIs g t 2 (two x0 x1)) (v : Value) : (w.setCell ⟨g, 0, none⟩ v).rowIs g t 2 (two v x1) :=
  (h.set 0 v).congr fun i hi => by match i, hi with | 0, _ => rfl | 1, _ => rfl
structure Ord (A : Nat → Prop) (B bo n : Nat) (ps : List Nat) (vp vn : Value) (w : World) : Prop where
  le : B ≤ bo
  box : w.rowIs bo 94 2 (two vp vn)
  p : IntRow B w vp (nums ps)
  n : IntRow B w vn (tabN n ps)
  pb : vp.ownBlock ≠ some bo
  nb : vn.ownBlock ≠ some bo
  pn : ∀ g, vp.ownBlock = some g → vn.ownBlock ≠ some g
  av : ∀ g, A g → g ≠ bo ∧ g < w.heap.size ∧ vp.ownBlock ≠ some g ∧ vn.ownBlock ≠ some g
structure Came (A : Nat → Prop) (B : Nat) (w w' : World) : Prop where
  b : Below B w w'
  a : ∀ g, A g → w'.heap[g]? = w.heap[g]?
theorem Came.refl (A : Nat → Prop) (B : Nat) (w : World) : Came A B w w := ⟨Below.refl _ _, fun _ _ => rfl⟩
theorem Came.trans {A : Nat → Prop} {B : Nat} {a b c : World} (h : Came A B a b) (k : Came A B b c) : Came A B a c :=
  ⟨h.b.trans k.b, fun g hg => (k.a g hg).trans (h.a g hg)⟩
set_option maxRecDepth 100000 in
set_option maxHeartbeats 2000000 in
theorem come_any (A : Nat → Prop) (B bo n : Nat) (ps : List Nat) (vp vn : Value) (p : Int) (w : World) (h : Ord A B bo n ps vp vn w) (hps : PsOk n ps) (hn : n ≤ 1000) :
    Calls Tryz.prog 85 #[.pointer (some ⟨bo, 0, none⟩), .int .i64 p] w fun e w' => e = .returned (.tuple #[]) ∧ (∃ vp', Ord A B bo n (comeP n ps p) vp' vn w') ∧ Came A B w w' := by
  obtain ⟨ap, cp, hvp, _⟩ := h.p.slice
  obtain ⟨an, cn, hvn, _⟩ := h.n.slice
  rw [nums_len] at hvp
  rw [tabN_len] at hvn
  subst hvp hvn
  have hpl := hps.len
  obtain ⟨⟨x0, x1⟩, f0, f1⟩ := two_cells h.box
  by_cases hI : inR p 0 ((n : Int) - 1) = false
  · have hE : Hid (comeP n ps p = ps) := comeP_out (fun e => by have : inR p 0 ((n : Int) - 1) = true := inR_true.2 (by omega); rw [hI] at this; cases this)
    go_enter Tryz.func85, Tryz.ntmps85
    go_wp2_with (go_at_call 64; refine (isPlace_any _ _ _).mono ?_; rintro e w' ⟨rfl, hw⟩; obtain rfl := hw.symm; rw [hI])
    go_end0
    exact ⟨rfl, ⟨_, by rw [hE.out]; exact h⟩, Came.refl _ _ _⟩
  have hI' : inR p 0 ((n : Int) - 1) = true := by simpa using hI
  clear hI
  have hI2 := inR_true.1 hI'
  obtain ⟨k, rfl⟩ := Int.eq_ofNat_of_zero_le hI2.1
  have hk : k < n := by omega
  have hkz : (k : Int) < (n : Int) := by omega
  obtain ⟨gn, on, c1, e1, hgB, hgn⟩ := h.n.form (by rw [tabN_len]; omega)
  obtain rfl : an = some ⟨gn, on, none⟩ := by injection e1
  clear e1
  obtain ⟨d1, fd⟩ := h.n.cell (i := k) (by rw [tabN_len]; exact hk)
  rw [tabN_at] at d1
  by_cases hN : numOf ps k = -1
  · rw [hN] at d1
    have hE : Hid (comeP n ps k = ps ++ [k]) := comeP_yes hk hN
    have hset := h.n.set k (by rw [tabN_len]; exact hk) (ps.length : Int)
    rw [tabN_snoc hk hN] at hset
    have hpo := h.pn
    have hbn : bo ≠ gn := fun e => h.nb (by rw [e]; rfl)
    have HPB : Hid ((Value.slice ap ps.length cp).ownBlock ≠ some bo) := h.pb
    have hle := h.le
    have hp2 := h.p.set_other (p := ⟨gn, on + k, none⟩) (.int .i64 (ps.length : Int)) (fun e => hpo _ e rfl)
    have hbx2 : (w.setCell ⟨gn, on + k, none⟩ (.int .i64 (ps.length : Int))).rowIs bo 94 2 (two (.slice ap ps.length cp) (.slice (some ⟨gn, on, none⟩) n cn)) := h.box.of_block (Below.heap_setCell _ _ _ _ hbn)
    have HAV : Hid (∀ g, A g → g ≠ bo ∧ g < w.heap.size ∧ (Value.slice ap ps.length cp).ownBlock ≠ some g ∧ (Value.slice (some ⟨gn, on, none⟩) n cn).ownBlock ≠ some g) := h.av
    have C2 : Came A B w (w.setCell ⟨gn, on + k, none⟩ (.int .i64 (ps.length : Int))) := ⟨(Below.refl B w).setCell (p := ⟨gn, on + k, none⟩) hgB _, fun g hg => Below.heap_setCell _ _ _ _ (fun e => (h.av g hg).2.2.2 (by rw [e]; rfl))⟩
    have hz2 : (w.setCell ⟨gn, on + k, none⟩ (.int .i64 (ps.length : Int))).heap.size = w.heap.size := by simp [World.setCell]
    go_enter Tryz.func85, Tryz.ntmps85
    go_upto_region 1 with (go_at_call 64; refine (isPlace_any _ _ _).mono ?_; rintro e w' ⟨rfl, hw⟩; obtain rfl := hw.symm; rw [hI'])
    obtain ⟨⟨y0, y1⟩, g0, g1⟩ := two_cells hbx2
    go_region_held3 (fun w' => w'.cell? ⟨bo, 0, none⟩ = some (.slice ap ps.length cp) ∧ w'.cell? ⟨bo, 1, none⟩ = some (.slice (some ⟨gn, on, none⟩) n cn))
      (first | exact ⟨y0, y1⟩ | exact ⟨x0, x1⟩ | go_keep)
      (fail)
    have hset3 := hset.below (Below.refl _ _).drew
    have hp3 := hp2.below (Below.refl _ _).drew
    have hbx3 := row_below (Below.refl _ _).drew hbx2
    have C3 : Came A B w (w.setCell ⟨gn, on + k, none⟩ (.int .i64 (ps.length : Int))).drew := ⟨C2.b.drew, C2.a⟩
    have hz3 : (w.setCell ⟨gn, on + k, none⟩ (.int .i64 (ps.length : Int))).drew.heap.size ≥ w.heap.size := Nat.le_of_eq hz2.symm
    have HBO : Hid (bo < w.heap.size) := h.box.lt
    clear hset hp2 hbx2 C2 hz2 y0 y1 g0 g1 x0 x1 f0 f1 d1 fd h
    generalize (w.setCell ⟨gn, on + k, none⟩ (.int .i64 (ps.length : Int))).drew = w3 at *
    obtain ⟨⟨x0, x1⟩, f0, f1⟩ := two_cells hbx3
    have hbo := HBO.out
    go_wp2_with (at_builtin; refine append_i _ (by rfl) _ _ (by rfl) B _ (nums ps) (by rfl) hp3 (k : Int) _ _ rfl (by rfl) (by rw [nums_len]; omega) (by omega) ?_; intro g4 o4 c4 w4 hrow4 hg4 hb4 hlt4; have hbx4 := hbx3.of_block (hg4.block bo hbx3.lt (fun e => HPB.out e.symm)); obtain ⟨⟨q0, q1⟩, m0, m1⟩ := two_cells hbx4)
    have hz4 := hg4.size
    have hbg : g4 ≠ bo := fun e => by
      rcases hb4 with h4 | h4
      · exact HPB.out (by rw [h4, e])
      · omega
    rw [nums_snoc, ← hE.out] at hrow4
    have hset4 := hset3.kept hg4.size fun q e => hg4.block q (hset3.lt q e).2 (fun e2 => hpo q e2.symm e)
    refine bodyPost_end (results_none rfl _ _ _) rfl ⟨rfl, ⟨_, ⟨hle, two_set0 hbx4 _, hrow4.set_other _ (fun e => by simp [Value.ownBlock] at e; omega), ?_, fun e => by simp [Value.ownBlock] at e; omega, fun e => by simp [Value.ownBlock] at e; omega, fun q e e2 => ?_, fun q hq => ?_⟩⟩, ⟨?_, fun q hq => ?_⟩⟩
    · rw [← hE.out] at hset4
      exact hset4.set_other _ (fun e => by simp [Value.ownBlock] at e; omega)
    · simp [Value.ownBlock] at e e2
      subst e e2
      rcases hb4 with h4 | h4
      · exact hpo _ h4 rfl
      · omega
    · obtain ⟨a1, a2, a3, a4⟩ := HAV.out q hq
      refine ⟨a1, by simp [World.setCell]; omega, fun e => ?_, a4⟩
      simp [Value.ownBlock] at e
      subst e
      rcases hb4 with h4 | h4
      · exact a3 h4
      · omega
    · exact (C3.b.grown hg4 (by omega) (fun q e => (hp3.lt q e).1)).setCell (p := ⟨bo, 0, none⟩) hle _
    · obtain ⟨a1, a2, a3, a4⟩ := HAV.out q hq
      rw [Below.heap_setCell _ _ _ _ a1, hg4.block q (by omega) (fun e => a3 e.symm)]
      exact C3.a q hq
  · have hE : Hid (comeP n ps k = ps) := comeP_in hN
    go_enter Tryz.func85, Tryz.ntmps85
    go_wp2_with (go_at_call 64; refine (isPlace_any _ _ _).mono ?_; rintro e w' ⟨rfl, hw⟩; obtain rfl := hw.symm; rw [hI'])
    go_end0
    exact ⟨rfl, ⟨_, by rw [hE.out]; exact h⟩, Came.refl _ _ _⟩
end Go.Proofs.YtfpodljalccpnaaGreatDoor

/-
  What is seen of a heap, by the program: comeToVals, numberOf.
-/
namespace Go.Proofs.YtfpodljalccpnaaGreatDoor
open Go.RowKit
theorem Ord.alloc {A : Nat → Prop} {B bo n : Nat} {ps : List Nat} {vp vn : Value} {w : World} (h : Ord A B bo n ps vp vn w) (o : Obj) : Ord A B bo n ps vp vn (w.alloc o) :=
  have hb := (Below.refl w.heap.size w).alloc (Nat.le_refl _) o
  ⟨h.le, row_below hb h.box, h.p.below hb, h.n.below hb, h.pb, h.nb, h.pn, fun g hg => ⟨(h.av g hg).1, by have := (h.av g hg).2.1; simp; omega, (h.av g hg).2.2⟩⟩
theorem Came.alloc {A : Nat → Prop} {B : Nat} {w w' : World} (h : Came A B w w') (hb : B ≤ w'.heap.size) (hA : ∀ g, A g → g < w'.heap.size) (o : Obj) : Came A B w (w'.alloc o) :=
  ⟨h.b.alloc hb o, fun g hg => (Below.heap_alloc _ _ _ (hA g hg)).trans (h.a g hg)⟩
set_option maxRecDepth 100000 in
set_option maxHeartbeats 2000000 in
theorem comeToVals_any (A : Nat → Prop) (B bo n : Nat) (ps : List Nat) (vp vn vl : Value) (vals : List (Int × Int)) (w0 w : World) (h : Ord A B bo n ps vp vn w) (hps : PsOk n ps) (hn : n ≤ 1000) (hl : OpsAt w0 vl vals) (hb : Below w0.heap.size w0 w) (h0 : w0.heap.size ≤ B) :
    Calls Tryz.prog 86 #[.pointer (some ⟨bo, 0, none⟩), vl] w fun e w' => e = .returned (.tuple #[]) ∧ (∃ vp', Ord A B bo n (comeV n ps vals) vp' vn w') ∧ Came A B w w' := by
  obtain ⟨al, cl, rfl, hll, hc⟩ := hl
  unfold maxLen at hll
  go_enter Tryz.func86, Tryz.ntmps86
  go_wp2
  go_loopg [8] vals.length (fun g i wr => ∃ k : Nat, k ≤ vals.length ∧ g = vals.length - k ∧ i = .int .i64 k ∧ (∃ vp', Ord A B bo n (comeV n ps (vals.take k)) vp' vn wr) ∧ Came A B w wr)
  case atStart => exact ⟨0, Nat.zero_le _, rfl, rfl, ⟨vp, h⟩, Came.refl _ _ _⟩
  case round =>
    obtain ⟨k, hk, rfl, rfl, ⟨vp1, hO⟩, hC⟩ := hrel
    have hP : PsOk n (comeV n ps (vals.take k)) := hps.comeV _
    by_cases hlt : k < vals.length
    · obtain ⟨b, o, e1, c0, c1⟩ := hc k hlt
      subst e1
      have hb2 : Below w0.heap.size w0 wr := hb.trans (hC.b.mono h0)
      have d0 := cell_below hb2 c0
      have d1 := cell_below hb2 c1
      have hkz : (k : Int) < (vals.length : Int) := by omega
      have hst := comeV_step (n := n) (ps := ps) hlt
      have hOA := hO.alloc (.cells #[.int .i64 vals[k].1, .int .i64 vals[k].2] 51)
      have hCA := hC.alloc (Nat.le_trans hO.le (Nat.le_of_lt hO.box.lt)) (fun g hg => (hO.av g hg).2.1) (.cells #[.int .i64 vals[k].1, .int .i64 vals[k].2] 51)
      generalize hvk : vals[k] = x at *
      clear hvk c0 c1
      by_cases hkd : x.1 = 2
      · rw [if_pos hkd] at hst
        rw [hkd] at d0 hOA hCA
        have HST : Hid (comeV n ps (vals.take (k + 1)) = comeP n (comeV n ps (vals.take k)) x.2) := hst
        clear hst hO hC
        go_wp2_with fail
        refine (come_any A B bo n _ vp1 vn x.2 _ hOA hP hn).mono ?_
        rintro e w2 ⟨rfl, ⟨vp2, hO2⟩, hC2⟩
        have hC3 := hCA.trans hC2
        rw [← HST.out] at hO2
        clear hOA hCA hC2
        go_wp2
        go_roundg (vals.length - (k + 1))
        case measure => omega
        case rel => exact ⟨k + 1, by omega, rfl, by go_num, ⟨vp2, hO2⟩, hC3⟩
      · rw [if_neg hkd] at hst
        rw [← hst] at hOA
        clear hst hO hC
        go_wp2
        go_roundg (vals.length - (k + 1))
        case measure => omega
        case rel => exact ⟨k + 1, by omega, rfl, by go_num, ⟨vp1, hOA⟩, hCA⟩
    · obtain rfl : k = vals.length := by omega
      rw [List.take_length] at hO
      go_wp2
      go_end0
      exact ⟨rfl, ⟨vp1, hO⟩, hC⟩
set_option maxRecDepth 100000 in
set_option maxHeartbeats 2000000 in
theorem numberOf_any (A : Nat → Prop) (B bo n : Nat) (ps : List Nat) (vp vn : Value) (p : Int) (w : World) (h : Ord A B bo n ps vp vn w) (hps : PsOk n ps) (hn : n ≤ 1000) :
    Calls Tryz.prog 88 #[.pointer (some ⟨bo, 0, none⟩), .int .i64 p] w fun e w' => e = .returned (.int .i64 (numOf ps p)) ∧ w' = w := by
  obtain ⟨an, cn, hvn, _⟩ := h.n.slice
  rw [tabN_len] at hvn
  subst hvn
  obtain ⟨⟨x0, x1⟩, f0, f1⟩ := two_cells h.box
  by_cases hI : inR p 0 ((n : Int) - 1) = false
  · have hE : Hid (numOf ps p = -1) := numOf_none (fun i hi e => by
      have := hps.lt _ (List.getElem_mem hi)
      have h2 : inR p 0 ((n : Int) - 1) = true := inR_true.2 (by omega)
      rw [hI] at h2; cases h2)
    go_enter Tryz.func88, Tryz.ntmps88
    go_wp2_with (go_at_call 64; refine (isPlace_any _ _ _).mono ?_; rintro e w' ⟨rfl, hw⟩; obtain rfl := hw.symm; rw [hI])
    go_ret
    exact ⟨by rw [hE.out]; rfl, rfl⟩
  have hI' : inR p 0 ((n : Int) - 1) = true := by simpa using hI
  clear hI
  have hI2 := inR_true.1 hI'
  obtain ⟨k, rfl⟩ := Int.eq_ofNat_of_zero_le hI2.1
  have hk : k < n := by omega
  have hkz : (k : Int) < (n : Int) := by omega
  obtain ⟨gn, on, c1, e1, hgB, hgn⟩ := h.n.form (by rw [tabN_len]; omega)
  obtain rfl : an = some ⟨gn, on, none⟩ := by injection e1
  clear e1
  obtain ⟨d1, fd⟩ := h.n.cell (i := k) (by rw [tabN_len]; exact hk)
  rw [tabN_at] at d1
  go_enter Tryz.func88, Tryz.ntmps88
  go_wp2_with (go_at_call 64; refine (isPlace_any _ _ _).mono ?_; rintro e w' ⟨rfl, hw⟩; obtain rfl := hw.symm; rw [hI'])
  go_ret
  exact ⟨rfl, rfl⟩
end Go.Proofs.YtfpodljalccpnaaGreatDoor

/-
  What is seen of a heap, by the program: slices.Clone of values, renumberedVals, renumbered.
-/
namespace Go.Proofs.YtfpodljalccpnaaGreatDoor
open Go.RowKit
set_option maxRecDepth 100000 in
set_option maxHeartbeats 1000000 in
theorem clone_any (v : Value) (xs : List (Int × Int)) (w : World) (h : OpsAt w v xs) (hl : xs.length ≤ 1000) :
    Calls Tryz.prog 56 #[v] w fun e w' => ∃ v', e = .returned v' ∧ PairRow w.heap.size w' v' xs ∧ Below w.heap.size w w' := by
  obtain ⟨a, c, rfl, hlm, hc⟩ := id h
  have hnil : ∀ (W : World) (a : Option Addr) (n c : Nat), (binOp .eql 27 (.slice a n c) (.slice none 0 0)).run Tryz.prog W = .ok (.bool a.isNone) W := fun W a n c => Lib.run_eql_slice_nil W _ _ a n c 0 0 Tryz.underlying27
  cases a with
  | none =>
    have hx : xs = [] := by
      cases xs with
      | nil => rfl
      | cons y t => obtain ⟨b, o, e, _⟩ := hc 0 (by simp); cases e
    subst hx
    go_enter Tryz.func56, Tryz.ntmps56
    go_wp2
    go_ret
    exact ⟨_, rfl, PairRow.nil _ _, Below.refl _ _⟩
  | some ad =>
    have N1 := (Below.refl w.heap.size w).alloc (Nat.le_refl _) (.cells #[] 51)
    have mk := PairRow.made (B := w.heap.size) (w := w) (e := 51) (Nat.le_refl _)
    have h1 := h.below N1
    go_enter Tryz.func56, Tryz.ntmps56
    go_wp2_with (at_builtin; refine append_vals _ (by rfl) _ _ (by rfl) w.heap.size _ _ [] xs (by rfl) (by rfl) mk h1 (by simp; omega) N1.size ?_; intro v2 w2 hrow2 hg2 hb2; rw [List.nil_append] at hrow2)
    have B2 := N1.grown hg2 N1.size (fun q e => (mk.lt q e).1)
    clear hg2 hb2
    go_ret
    exact ⟨_, rfl, hrow2, B2⟩
theorem PairRow.set1 {B : Nat} {w : World} {g off n cap : Nat} {xs : List (Int × Int)} (h : PairRow B w (.slice (some ⟨g, off, none⟩) n cap) xs) (i : Nat) (hi : i < xs.length) (y : Int) :
    PairRow B (w.setCell ⟨g, off + i * 2 + 1, none⟩ (.int .i64 y)) (.slice (some ⟨g, off, none⟩) n cap) (xs.set i (xs[i].1, y)) := by
  obtain ⟨⟨hc, hd⟩, _⟩ := h.cell hi
  rcases h with ⟨h, _⟩ | ⟨g', off', cap', hv, hB, hg, hl, hm, hsp, hx⟩
  · cases h
  · cases hv
    refine .inr ⟨g, off, cap, by simp, hB, by simp [World.setCell]; exact hg, by simpa using hl, hm, fun j hj => ?_, fun j hj => ?_⟩
    · rw [World.frozen?_setCell]
      refine ⟨?_, (hsp j hj).2⟩
      by_cases e : j = i * 2 + 1
      · subst e; rw [show off + (i * 2 + 1) = off + i * 2 + 1 by omega, World.cell?_setCell_same _ _ _ hd]; rfl
      · rw [World.cell?_setCell_other _ _ _ _ (fun q => by have := congrArg Addr.off q; simp at this; omega)]; exact (hsp j hj).1
    · rw [List.length_set] at hj
      by_cases e : j = i
      · subst e
        rw [List.getElem_set_self]
        refine ⟨?_, World.cell?_setCell_same _ _ _ hd⟩
        rw [World.cell?_setCell_other _ _ _ _ (fun q => by have := congrArg Addr.off q; simp at this)]; exact hc
      · rw [List.getElem_set_ne (Ne.symm e), World.cell?_setCell_other _ _ _ _ (fun q => by have := congrArg Addr.off q; simp at this; omega), World.cell?_setCell_other _ _ _ _ (fun q => by have := congrArg Addr.off q; simp at this; omega)]
        exact hx j hj
theorem Ord.below {A : Nat → Prop} {B bo n : Nat} {ps : List Nat} {vp vn : Value} {w w' : World} (h : Ord A B bo n ps vp vn w) (hb : Below w.heap.size w w') : Ord A B bo n ps vp vn w' :=
  ⟨h.le, row_below hb h.box, h.p.below hb, h.n.below hb, h.pb, h.nb, h.pn, fun g hg => ⟨(h.av g hg).1, Nat.lt_of_lt_of_le (h.av g hg).2.1 hb.size, (h.av g hg).2.2⟩⟩
theorem Ord.set {A : Nat → Prop} {B bo n : Nat} {ps : List Nat} {vp vn : Value} {w : World} (h : Ord A B bo n ps vp vn w) {p : Addr} (u : Value) (h1 : bo ≠ p.block) (h2 : vp.ownBlock ≠ some p.block) (h3 : vn.ownBlock ≠ some p.block) : Ord A B bo n ps vp vn (w.setCell p u) :=
  ⟨h.le, h.box.of_block (Below.heap_setCell _ _ _ _ h1), h.p.set_other u h2, h.n.set_other u h3, h.pb, h.nb, h.pn, fun g hg => ⟨(h.av g hg).1, by simp [World.setCell]; exact (h.av g hg).2.1, (h.av g hg).2.2⟩⟩
set_option maxRecDepth 100000 in
set_option maxHeartbeats 2000000 in
theorem renumberedVals_any (A : Nat → Prop) (B bo n : Nat) (ps : List Nat) (vp vn vl : Value) (vals : List (Int × Int)) (w : World) (h : Ord A B bo n ps vp vn w) (hps : PsOk n ps) (hn : n ≤ 1000) (hl : OpsAt w vl vals) (hll : vals.length ≤ 1000) :
    Calls Tryz.prog 105 #[vl, .func (.func 88) #[.pointer (some ⟨bo, 0, none⟩)] #[]] w fun e w' => ∃ v, e = .returned v ∧ PairRow w.heap.size w' v (vals.map (ren ps)) ∧ Below w.heap.size w w' := by
  obtain ⟨al, cl, rfl, _, _⟩ := id hl
  go_enter Tryz.func105, Tryz.ntmps105
  go_wp2_with fail
  refine (clone_any _ vals _ hl hll).mono ?_
  rintro e w1 ⟨v1, rfl, hr1, hb1⟩
  obtain ⟨a1, c1, hv1, _⟩ := hr1.slice
  subst hv1
  have hO1 := h.below hb1
  have hz1 := hb1.size
  have HLT : Hid (bo < w.heap.size ∧ (∀ g, vp.ownBlock = some g → g < w.heap.size) ∧ (∀ g, vn.ownBlock = some g → g < w.heap.size)) := ⟨h.box.lt, fun g e => (h.p.lt g e).2, fun g e => (h.n.lt g e).2⟩
  go_wp2
  go_loopg [12] vals.length (fun g i wr => ∃ (k : Nat) (ys : List (Int × Int)), k ≤ vals.length ∧ g = vals.length - k ∧ i = .int .i64 k ∧ ys.length = vals.length ∧ PairRow w.heap.size wr (.slice a1 vals.length c1) ys ∧ (∀ q, (hq : q < ys.length) → (hq' : q < vals.length) → (q < k → ys[q] = ren ps vals[q]) ∧ (k ≤ q → ys[q] = vals[q])) ∧ Ord A B bo n ps vp vn wr ∧ Below w.heap.size w wr)
  case atStart => exact ⟨0, vals, Nat.zero_le _, rfl, rfl, rfl, hr1, fun q _ _ => ⟨fun hq => absurd hq (Nat.not_lt_zero _), fun _ => rfl⟩, hO1, hb1⟩
  case round =>
    obtain ⟨k, ys, hk, rfl, rfl, hyl, hr, hys, hO, hb⟩ := hrel
    have HY : Hid (∀ q, (hq : q < ys.length) → (hq' : q < vals.length) → (q < k → ys[q] = ren ps vals[q]) ∧ (k ≤ q → ys[q] = vals[q])) := hys
    clear hys
    by_cases hlt : k < vals.length
    · obtain ⟨g1, o1, c2, e1, hgB, hgl⟩ := hr.form (by omega)
      obtain rfl : a1 = some ⟨g1, o1, none⟩ := by injection e1
      clear e1
      have hky : k < ys.length := by omega
      have hyk : ys[k] = vals[k] := (HY.out k hky hlt).2 (Nat.le_refl _)
      obtain ⟨⟨d0, d1⟩, f0, f1⟩ := hr.cell hky
      have hkz : (k : Int) < (vals.length : Int) := by omega
      have N1 := (Below.refl wr.heap.size wr).alloc (Nat.le_refl _) (.cells #[.int .i64 vals[k].1, .int .i64 vals[k].2] 51)
      have hrA := hr.below N1
      have hOA := hO.below N1
      have hbA := hb.trans (N1.mono hb.size)
      have hset0 := hr.set1 k hky (numOf ps vals[k].2)
      have hset := hset0.below ((Below.refl _ _).alloc (Nat.le_refl _) (.cells #[.int .i64 vals[k].1, .int .i64 vals[k].2] 51))
      clear hset0
      have d1A := cell_below N1 d1
      have f1A : (wr.alloc (.cells #[.int .i64 vals[k].1, .int .i64 vals[k].2] 51)).frozen? ⟨g1, o1 + k * 2 + 1, none⟩ = false := (World.frozen?_of_block (a := ⟨g1, o1 + k * 2 + 1, none⟩) (N1.block g1 hgl)).trans f1
      rw [hyk] at d0 d1 d1A hset
      have hren : vals[k].1 = 2 → ren ps vals[k] = (vals[k].1, numOf ps vals[k].2) := fun e => by unfold ren; rw [if_pos e, e]
      have hren2 : ¬ vals[k].1 = 2 → ren ps vals[k] = vals[k] := fun e => by unfold ren; rw [if_neg e]
      have HREN : Hid _ := hren
      have HREN2 : Hid _ := hren2
      have HB3 := HLT.out
      have hOS := (hO.set (p := ⟨g1, o1 + k * 2 + 1, none⟩) (.int .i64 (numOf ps vals[k].2)) (by show bo ≠ g1; omega) (fun e => by have h1 : g1 < w.heap.size := HB3.2.1 _ e; omega) (fun e => by have h1 : g1 < w.heap.size := HB3.2.2 _ e; omega)).alloc (.cells #[.int .i64 vals[k].1, .int .i64 vals[k].2] 51)
      have hbS0 := hb.setCell (p := ⟨g1, o1 + k * 2 + 1, none⟩) hgB (.int .i64 (numOf ps vals[k].2))
      have hbS := hbS0.alloc hbS0.size (.cells #[.int .i64 vals[k].1, .int .i64 vals[k].2] 51)
      clear hren hren2 hr hO hb HLT hbS0
      by_cases hkd : vals[k].1 = 2
      · have hE := HREN.out hkd
        have HE : Hid (ren ps vals[k] = (vals[k].1, numOf ps vals[k].2)) := hE
        clear hE
        have hds : ∀ x0 : Int, x0 = vals[k].1 → x0 = 2 := fun x0 e => by rw [e]; exact hkd
        clear hds
        have HYK : Hid (ys[k] = vals[k]) := hyk
        clear hyk
        have hd02 : wr.cell? ⟨g1, o1 + k * 2, none⟩ = some (.int .i64 2) := by rw [d0, hkd]
        clear d0
        rw [hkd] at hset hOS hbS hOA d1A f1A
        go_wp2_with (go_at_call 88; refine (numberOf_any A B bo n ps vp vn _ _ hOA hps hn).mono ?_; rintro e w' ⟨rfl, hw⟩; obtain rfl := hw.symm)
        go_roundg (vals.length - (k + 1))
        case measure => omega
        case rel => exact ⟨k + 1, _, by omega, rfl, by go_num, by rw [List.length_set]; exact hyl, hset, fun q h1 h2 => by
            rw [List.length_set] at h1
            refine ⟨fun hq => ?_, fun hq => ?_⟩
            · by_cases e : q = k
              · subst e; rw [List.getElem_set_self, HE.out, hkd]
              · rw [List.getElem_set_ne (fun x => e x.symm)]; exact (HY.out q h1 h2).1 (by omega)
            · rw [List.getElem_set_ne (by omega)]; exact (HY.out q h1 h2).2 (by omega), hOS, hbS⟩
      · have hE := HREN2.out hkd
        have HE : Hid (ren ps vals[k] = vals[k]) := hE
        have HYK : Hid (ys[k] = vals[k]) := hyk
        clear hE hyk hset hOS hbS
        go_wp2
        go_roundg (vals.length - (k + 1))
        case measure => omega
        case rel => exact ⟨k + 1, ys, by omega, rfl, by go_num, hyl, hrA, fun q h1 h2 => by
            refine ⟨fun hq => ?_, fun hq => (HY.out q h1 h2).2 (by omega)⟩
            by_cases e : q = k
            · subst e; rw [HYK.out, HE.out]
            · exact (HY.out q h1 h2).1 (by omega), hOA, hbA⟩
    · obtain rfl : k = vals.length := by omega
      have hE : ys = vals.map (ren ps) := List.ext_getElem (by simpa using hyl) fun q h1 h2 => by rw [(HY.out q h1 (by simpa using h2)).1 (by simpa using h2)]; simp
      subst hE
      go_wp2
      go_ret
      exact ⟨_, rfl, hr, hb⟩
end Go.Proofs.YtfpodljalccpnaaGreatDoor

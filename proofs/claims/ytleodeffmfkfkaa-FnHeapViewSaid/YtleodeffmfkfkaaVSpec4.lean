import Derived.Test.YtleodeffmfkfkaaVSpec
import Derived.Deep.QuietTactic
import Derived.Test.YtleodeffmfkfkaaVApart
import Derived.Deep.RegionHeld3

/-
  What is seen of a heap, by the model: l11Names, l11Copy.
-/
namespace Go.Proofs.Ytleodeffmfkfkaa
open Go.RowKit

theorem map_take {α β : Type} {f : α → β} {l : List α} {k : Nat} (h : k < l.length) : (l.take k).map f ++ [f l[k]] = (l.take (k + 1)).map f := by
  rw [List.take_add_one, List.getElem?_eq_getElem h, List.map_append]
  rfl

set_option maxRecDepth 100000 in
set_option maxHeartbeats 2000000 in
theorem l11Names_any (B : Nat) (vl vf : Value) (vals : List (Int × Int)) (ps : List Nat) (w : World) (hv : OpsAt w vl vals) (hf : IntRow B w vf (nums ps)) (hl : vals.length ≤ 1000) :
    Calls Try.prog 52 #[vl, vf] w fun e w' => ∃ v, e = .returned v ∧ PairRow w.heap.size w' v (vals.map (ren ps)) ∧ Below w.heap.size w w' := by
  obtain ⟨al, cl, rfl, _, hc⟩ := id hv
  obtain ⟨af, cf, hvf, _⟩ := hf.slice
  rw [nums_len] at hvf
  subst hvf
  have mk := PairRow.made (B := w.heap.size) (w := w) (e := 73) (Nat.le_refl _)
  have hA : Below w.heap.size w (w.alloc (.cells #[] 73)) := (Below.refl _ _).alloc (Nat.le_refl _) _
  go_enter Try.func52, Try.ntmps52
  go_wp2
  go_loopg [5, 6] vals.length (fun g o i wr => ∃ k : Nat, k ≤ vals.length ∧ g = vals.length - k ∧ i = .int .i64 k ∧ PairRow w.heap.size wr o ((vals.take k).map (ren ps)) ∧ Below w.heap.size w wr)
  case atStart => exact ⟨0, Nat.zero_le _, rfl, rfl, mk, hA⟩
  case round =>
    obtain ⟨k, hk, rfl, rfl, hrow, hb⟩ := hrel
    have hbz := hb.size
    by_cases hlt : k < vals.length
    · obtain ⟨b, o, e1, d0, d1⟩ := hc k hlt
      subst e1
      have q0 := cell_below hb d0
      have q1 := cell_below hb d1
      have hkz : (k : Int) < (vals.length : Int) := by omega
      have hmt := map_take (f := ren ps) hlt
      have hW := (Below.refl wr.heap.size wr).alloc (Nat.le_refl _) (.cells #[.int .i64 vals[k].1, .int .i64 vals[k].2] 73)
      have hfW := (hf.below hb).below hW
      have hrow' := hrow
      by_cases hkd : vals[k].1 = 2
      · have hre : ren ps vals[k] = (2, numOf ps vals[k].2) := by unfold ren; rw [if_pos hkd]
        rw [hre] at hmt
        rw [hkd] at q0 hW hfW
        generalize vals[k].2 = x at *
        clear hre d0 d1 hc hv
        go_upto_region 8 with (go_at_call 53; refine (l11Has_any _ _ ps _ _ hfW).mono ?_; rintro e w' ⟨rfl, hw⟩; obtain rfl := hw.symm)
        have N6 := (Below.refl wr.heap.size wr).alloc (Nat.le_refl _) (.cells #[.int .i64 2, .int .i64 (numOf ps x)] 73)
        have N7 := N6.alloc N6.size (.cells #[.int .i64 2, .int .i64 (numOf ps x)] 73)
        have one := one_at (wr.alloc (.cells #[.int .i64 2, .int .i64 (numOf ps x)] 73)) 2 (numOf ps x) 73 1
        have hrow7 := hrow.below N7
        have z7 := N7.size
        simp only [World.size_alloc] at one
        go_wp2_with (at_builtin; refine append_vals _ (by rfl) _ _ (by rfl) w.heap.size _ _ ((vals.take k).map (ren ps)) [(2, numOf ps x)] (by rfl) (by rfl) hrow7 one (by rw [List.length_map, List.length_take]; simp; omega) (by omega) ?_; intro v2 w2 hrow2 hg2 hb2)
        rw [hmt] at hrow2
        have hb3 : Below w.heap.size w w2 := (hb.trans (N7.mono hbz)).grown hg2 (by omega) (fun q e => (hrow7.lt q e).1)
        clear hg2 hb2 hrow7 one N6 N7 hW hfW hrow'
        go_roundg (vals.length - (k + 1))
        case measure => omega
        case rel => exact ⟨k + 1, by omega, rfl, by go_num, hrow2, hb3⟩
      · have hre : ren ps vals[k] = vals[k] := by unfold ren; rw [if_neg hkd]
        rw [hre] at hmt
        generalize hx : vals[k] = x at *
        clear hx hre d0 d1 hc hv
        go_upto_region 8 with fail
        have N6 := (Below.refl wr.heap.size wr).alloc (Nat.le_refl _) (.cells #[.int .i64 x.1, .int .i64 x.2] 73)
        have N7 := N6.alloc N6.size (.cells #[.int .i64 x.1, .int .i64 x.2] 73)
        have one := one_at (wr.alloc (.cells #[.int .i64 x.1, .int .i64 x.2] 73)) x.1 x.2 73 1
        have hrow7 := hrow.below N7
        have z7 := N7.size
        simp only [World.size_alloc] at one
        go_wp2_with (at_builtin; refine append_vals _ (by rfl) _ _ (by rfl) w.heap.size _ _ ((vals.take k).map (ren ps)) [x] (by rfl) (by rfl) hrow7 one (by rw [List.length_map, List.length_take]; simp; omega) (by omega) ?_; intro v2 w2 hrow2 hg2 hb2)
        rw [hmt] at hrow2
        have hb3 : Below w.heap.size w w2 := (hb.trans (N7.mono hbz)).grown hg2 (by omega) (fun q e => (hrow7.lt q e).1)
        clear hg2 hb2 hrow7 one N6 N7 hW hfW hrow'
        go_roundg (vals.length - (k + 1))
        case measure => omega
        case rel => exact ⟨k + 1, by omega, rfl, by go_num, hrow2, hb3⟩
    · obtain rfl : k = vals.length := by omega
      rw [List.take_length] at hrow
      go_wp2
      go_ret
      exact ⟨_, rfl, hrow, hb⟩

set_option maxRecDepth 100000 in
set_option maxHeartbeats 2000000 in
theorem l11Copy_any (vt vs : Value) (c : Cl) (w : World) (ht : OpsAt w vt c.temps) (hs : OpsAt w vs c.stack) (hb : c.temps.length ≤ 1000 ∧ c.stack.length ≤ 1000) :
    Calls Try.prog 51 #[.agg (clCells vt vs c)] w fun e w' => ∃ vt' vs', e = .returned (.agg (clCells vt' vs' c)) ∧ PairRow w.heap.size w' vt' c.temps ∧ PairRow w.heap.size w' vs' c.stack ∧ (∀ g, vt'.ownBlock = some g → vs'.ownBlock ≠ some g) ∧ Below w.heap.size w w' := by
  obtain ⟨at', ct', hvt⟩ := ht.shape
  obtain ⟨as', cs', hvs⟩ := hs.shape
  subst hvt hvs
  unfold clCells
  obtain ⟨hb1, hb2⟩ := hb
  have hA : Below w.heap.size w ((w.alloc (.cells #[.int .i64 c.m, .int .i64 c.pc, .slice at' c.temps.length ct', .slice as' c.stack.length cs', .int .i64 c.sender, .bool c.dead] 34)).alloc (.cells #[.int .i64 0, .int .i64 0, .slice none 0 0, .slice none 0 0, .int .i64 0, .bool false] 34)) := ((Below.refl _ _).alloc (Nat.le_refl _) _).alloc (by simp) _
  have bc := (six_new w 34 (.int .i64 c.m) (.int .i64 c.pc) (.slice at' c.temps.length ct') (.slice as' c.stack.length cs') (.int .i64 c.sender) (.bool c.dead)).alloc (.cells #[.int .i64 0, .int .i64 0, .slice none 0 0, .slice none 0 0, .int .i64 0, .bool false] 34)
  have bz := six_new (w.alloc (.cells #[.int .i64 c.m, .int .i64 c.pc, .slice at' c.temps.length ct', .slice as' c.stack.length cs', .int .i64 c.sender, .bool c.dead] 34)) 34 (.int .i64 0) (.int .i64 0) (.slice none 0 0) (.slice none 0 0) (.int .i64 0) (.bool false)
  simp only [World.size_alloc] at bz
  go_enter Try.func51, Try.ntmps51
  go_upto_region 1 with fail
  generalize (w.alloc (.cells #[.int .i64 c.m, .int .i64 c.pc, .slice at' c.temps.length ct', .slice as' c.stack.length cs', .int .i64 c.sender, .bool c.dead] 34)).alloc (.cells #[.int .i64 0, .int .i64 0, .slice none 0 0, .slice none 0 0, .int .i64 0, .bool false] 34) = W1 at *
  have zA := hA.size
  have yA := bz.lt
  have N1 := (Below.refl W1.heap.size W1).alloc (Nat.le_refl _) (.cells #[] 73)
  have mk1 := PairRow.made (B := W1.heap.size) (w := W1) (e := 73) (Nat.le_refl _)
  have ht1 := (ht.below hA).below N1
  have bc1 := row_below N1 bc
  have bz1 := row_below N1 bz
  obtain ⟨⟨x0, x1, x2, x3, x4, x5⟩, xf⟩ := six_cells bc1
  clear xf
  go_upto_region 2 with (at_builtin; refine append_vals _ (by rfl) _ _ (by rfl) W1.heap.size _ _ [] c.temps (by rfl) (by rfl) mk1 ht1 (by simp; omega) N1.size ?_; intro v2 w2 hrow2 hg2 hbk2; rw [List.nil_append] at hrow2; obtain ⟨a2, c2, hv2, _⟩ := hrow2.slice; subst hv2; have bc2 := bc1.of_block (hg2.block w.heap.size bc1.lt (fun e => by have := (mk1.lt _ e.symm).1; omega)); have bz2 := bz1.of_block (hg2.block (w.heap.size + 1) bz1.lt (fun e => by have := (mk1.lt _ e.symm).1; omega)); obtain ⟨⟨y0, y1, y2, y3, y4, y5⟩, k0, k1, k2, k3, k4, k5⟩ := six_cells bc2)
  have B2 : Below w.heap.size w w2 := (hA.trans (N1.mono zA)).grown hg2 (by have := N1.size; omega) (fun q e => by have := (mk1.lt q e).1; omega)
  have hz2 : W1.heap.size ≤ w2.heap.size := Nat.le_trans N1.size hg2.size
  clear hg2 hbk2 mk1 ht1 bc1 bz1 N1 x0 x1 x2 x3 x4 x5 y0 y1 y2 y3 y4 y5 k0 k1 k2 k3 k4 k5 bc bz hA
  have hne2 : (Value.slice a2 c.temps.length c2).ownBlock ≠ some w.heap.size := fun e => by have := (hrow2.lt _ e).1; omega
  have P3 := hrow2.set_other (p := ⟨w.heap.size, 2, none⟩) (.slice a2 c.temps.length c2) hne2
  have bc3 := six_set2 bc2 (.slice a2 c.temps.length c2)
  have bz3 := row_set (k := w.heap.size) (o := 2) bz2 (by omega) (.slice a2 c.temps.length c2)
  have B3 := B2.setCell (p := ⟨w.heap.size, 2, none⟩) (Nat.le_refl _) (.slice a2 c.temps.length c2)
  have hz3 : W1.heap.size ≤ (w2.setCell ⟨w.heap.size, 2, none⟩ (.slice a2 c.temps.length c2)).heap.size := by simp [World.setCell]; exact hz2
  generalize w2.setCell ⟨w.heap.size, 2, none⟩ (.slice a2 c.temps.length c2) = w3 at *
  clear bc2 bz2 B2 hrow2
  have N3 := (Below.refl w3.heap.size w3).alloc (Nat.le_refl _) (.cells #[] 73)
  have mk3 := PairRow.made (B := w3.heap.size) (w := w3) (e := 73) (Nat.le_refl _)
  have hs3 := (hs.below B3).below N3
  have bc4 := row_below N3 bc3
  have bz4 := row_below N3 bz3
  have P4 := P3.below N3
  have z3 := B3.size
  obtain ⟨⟨x0, x1, x2, x3, x4, x5⟩, xf⟩ := six_cells bc4
  clear xf
  go_upto_region 3 with (at_builtin; refine append_vals _ (by rfl) _ _ (by rfl) w3.heap.size _ _ [] c.stack (by rfl) (by rfl) mk3 hs3 (by simp; omega) N3.size ?_; intro v5 w5 hrow5 hg5 hbk5; rw [List.nil_append] at hrow5; obtain ⟨a5, c5, hv5, _⟩ := hrow5.slice; subst hv5; have bc5 := bc4.of_block (hg5.block w.heap.size bc4.lt (fun e => by have := (mk3.lt _ e.symm).1; omega)); have bz5 := bz4.of_block (hg5.block (w.heap.size + 1) bz4.lt (fun e => by have := (mk3.lt _ e.symm).1; omega)); obtain ⟨⟨y0, y1, y2, y3, y4, y5⟩, k0, k1, k2, k3, k4, k5⟩ := six_cells bc5)
  have B5 : Below w.heap.size w w5 := (B3.trans (N3.mono z3)).grown hg5 (by have := N3.size; omega) (fun q e => by have := (mk3.lt q e).1; omega)
  have P5 := P4.kept hg5.size fun q e => hg5.block q (P4.lt q e).2 (fun e2 => by have h1 := (mk3.lt _ e2.symm).1; have h2 := (P3.lt q e).2; omega)
  have hap : ∀ q, (Value.slice a2 c.temps.length c2).ownBlock = some q → (Value.slice a5 c.stack.length c5).ownBlock ≠ some q := fun q e e2 => by have h1 := (P3.lt q e).2; have h2 := (hrow5.lt q e2).1; omega
  clear hg5 hbk5 mk3 hs3 bc4 bz4 N3 x0 x1 x2 x3 x4 x5 y0 y1 y2 y3 y4 y5 k0 k1 k2 k3 k4 k5 bc3 bz3 P3 P4 B3
  have hne5 : (Value.slice a5 c.stack.length c5).ownBlock ≠ some w.heap.size := fun e => by have := (hrow5.lt _ e).1; omega
  have P6 := P5.set_other (p := ⟨w.heap.size, 3, none⟩) (.slice a5 c.stack.length c5) hne2
  have Q6 := hrow5.set_other (p := ⟨w.heap.size, 3, none⟩) (.slice a5 c.stack.length c5) hne5
  have bc6 := six_set3 bc5 (.slice a5 c.stack.length c5)
  have bz6 := row_set (k := w.heap.size) (o := 3) bz5 (by omega) (.slice a5 c.stack.length c5)
  have B6 := B5.setCell (p := ⟨w.heap.size, 3, none⟩) (Nat.le_refl _) (.slice a5 c.stack.length c5)
  generalize w5.setCell ⟨w.heap.size, 3, none⟩ (.slice a5 c.stack.length c5) = w6 at *
  clear P5 hrow5 bc5 bz5 B5
  have nt1 : (Value.slice a2 c.temps.length c2).ownBlock ≠ some (w.heap.size + 1) := fun e => by have := (P6.lt _ e).1; omega
  have ns1 : (Value.slice a5 c.stack.length c5).ownBlock ≠ some (w.heap.size + 1) := fun e => by have := (Q6.lt _ e).1; omega
  obtain ⟨⟨x0, x1, x2, x3, x4, x5⟩, xf⟩ := six_cells bc6
  obtain ⟨⟨y0, y1, y2, y3, y4, y5⟩, k0, k1, k2, k3, k4, k5⟩ := six_cells bz6
  clear xf
  have R9 := six_set5 (six_set4 (six_set3 (six_set2 (six_set1 (six_set0 bz6 (.int .i64 c.m)) (.int .i64 c.pc)) (.slice a2 c.temps.length c2)) (.slice a5 c.stack.length c5)) (.int .i64 c.sender)) (.bool c.dead)
  have P9 := (((((P6.set_other (p := ⟨w.heap.size + 1, 0, none⟩) (.int .i64 c.m) nt1).set_other (p := ⟨w.heap.size + 1, 1, none⟩) (.int .i64 c.pc) nt1).set_other (p := ⟨w.heap.size + 1, 2, none⟩) (.slice a2 c.temps.length c2) nt1).set_other (p := ⟨w.heap.size + 1, 3, none⟩) (.slice a5 c.stack.length c5) nt1).set_other (p := ⟨w.heap.size + 1, 4, none⟩) (.int .i64 c.sender) nt1).set_other (p := ⟨w.heap.size + 1, 5, none⟩) (.bool c.dead) nt1
  have Q9 := (((((Q6.set_other (p := ⟨w.heap.size + 1, 0, none⟩) (.int .i64 c.m) ns1).set_other (p := ⟨w.heap.size + 1, 1, none⟩) (.int .i64 c.pc) ns1).set_other (p := ⟨w.heap.size + 1, 2, none⟩) (.slice a2 c.temps.length c2) ns1).set_other (p := ⟨w.heap.size + 1, 3, none⟩) (.slice a5 c.stack.length c5) ns1).set_other (p := ⟨w.heap.size + 1, 4, none⟩) (.int .i64 c.sender) ns1).set_other (p := ⟨w.heap.size + 1, 5, none⟩) (.bool c.dead) ns1
  have B9 := (((((B6.setCell (p := ⟨w.heap.size + 1, 0, none⟩) (Nat.le_succ _) (.int .i64 c.m)).setCell (p := ⟨w.heap.size + 1, 1, none⟩) (Nat.le_succ _) (.int .i64 c.pc)).setCell (p := ⟨w.heap.size + 1, 2, none⟩) (Nat.le_succ _) (.slice a2 c.temps.length c2)).setCell (p := ⟨w.heap.size + 1, 3, none⟩) (Nat.le_succ _) (.slice a5 c.stack.length c5)).setCell (p := ⟨w.heap.size + 1, 4, none⟩) (Nat.le_succ _) (.int .i64 c.sender)).setCell (p := ⟨w.heap.size + 1, 5, none⟩) (Nat.le_succ _) (.bool c.dead)
  go_wp2
  generalize (((((w6.setCell ⟨w.heap.size + 1, 0, none⟩ (.int .i64 c.m)).setCell ⟨w.heap.size + 1, 1, none⟩ (.int .i64 c.pc)).setCell ⟨w.heap.size + 1, 2, none⟩ (.slice a2 c.temps.length c2)).setCell ⟨w.heap.size + 1, 3, none⟩ (.slice a5 c.stack.length c5)).setCell ⟨w.heap.size + 1, 4, none⟩ (.int .i64 c.sender)).setCell ⟨w.heap.size + 1, 5, none⟩ (.bool c.dead) = W9 at *
  obtain ⟨⟨q0, q1, q2, q3, q4, q5⟩, _⟩ := six_cells R9
  exact bodyPost_ret (v := .agg #[.int .i64 c.m, .int .i64 c.pc, .slice a2 c.temps.length c2, .slice a5 c.stack.length c5, .int .i64 c.sender, .bool c.dead]) (by simp [results, Try.results51, go_sem, q0, q1, q2, q3, q4, q5]) rfl ⟨_, _, rfl, P9.mono (by omega), Q9.mono (by omega), hap, B9⟩

end Go.Proofs.Ytleodeffmfkfkaa

/-
  What is seen of a heap, by the model: l11Found answers the calls that can be come to.
-/
namespace Go.Proofs.Ytleodeffmfkfkaa
open Go.RowKit

/-- lists of calls that are not long -/
def Hp.short (h : Hp) : Prop := h.calls.length ≤ 1000 ∧ ∀ i, (hi : i < h.calls.length) → h.calls[i].temps.length ≤ 1000 ∧ h.calls[i].stack.length ≤ 1000

theorem fold_take {n : Nat} {ps : List Nat} {rs : List Int} {k : Nat} (h : k < rs.length) : (rs.take (k + 1)).foldl (comeP n) ps = comeP n ((rs.take k).foldl (comeP n) ps) rs[k] := by
  rw [List.take_add_one, List.getElem?_eq_getElem h, List.foldl_append]
  rfl

theorem PsOk.fold {n : Nat} : ∀ (rs : List Int) {ps : List Nat}, PsOk n ps → PsOk n (rs.foldl (comeP n) ps)
  | [], _, h => h
  | r :: t, _, h => PsOk.fold t (h.come r)

theorem PsOk.nil (n : Nat) : PsOk n [] := ⟨by simp, fun p hp => by cases hp⟩

set_option maxRecDepth 100000 in
set_option maxHeartbeats 4000000 in
theorem l11Found_any (vc vs : Value) (h : Hp) (w : World) (hh : HeapAt w vc vs h) (hsh : h.short) :
    Calls Try.prog 50 #[.agg (hpCells vc vs h)] w fun e w' => ∃ v, e = .returned v ∧ IntRow w.heap.size w' v (nums (found h)) ∧ Below w.heap.size w w' := by
  unfold hpCells
  obtain ⟨cs, now, born, said, code⟩ := h
  obtain ⟨hhc, hhs⟩ := hh
  obtain ⟨hs1, hs2⟩ := hsh
  simp only [] at hhc hhs hs1 hs2 ⊢
  obtain ⟨aD, kD, hvs⟩ := hhs.shape
  subst hvs
  obtain ⟨ac, kc, rfl, _, hcl⟩ := id hhc
  have hA : Below w.heap.size w ((w.alloc (.cells #[.slice ac cs.length kc, .int .i64 now, .int .i64 born, .slice aD said.length kD, .int .i64 code] 29)).alloc (.cells #[] 3)) := ((Below.refl _ _).alloc (Nat.le_refl _) _).alloc (by simp) _
  have bx := (five_new w 29 (.slice ac cs.length kc) (.int .i64 now) (.int .i64 born) (.slice aD said.length kD) (.int .i64 code)).alloc (.cells #[] 3)
  have mk := (int_made (w.alloc (.cells #[.slice ac cs.length kc, .int .i64 now, .int .i64 born, .slice aD said.length kD, .int .i64 code] 29))).mono (B' := w.heap.size + 1) (by simp)
  simp only [World.size_alloc] at mk
  obtain ⟨F, hF⟩ : ∃ F, F = found ⟨cs, now, born, said, code⟩ := ⟨_, rfl⟩
  rw [← hF]
  have HF : Hid (F = foundF cs cs.length 0 (comeP cs.length [] now)) := hF
  clear hF
  go_enter Try.func50, Try.ntmps50
  go_upto_region 2 with fail
  generalize (w.alloc (.cells #[.slice ac cs.length kc, .int .i64 now, .int .i64 born, .slice aD said.length kD, .int .i64 code] 29)).alloc (.cells #[] 3) = W1 at *
  obtain ⟨⟨x0, x1, x2, x3, x4⟩, xf⟩ := five_cells bx
  clear xf
  have zA := hA.size
  have yA := bx.lt
  have hwn : IntKind.i64.wrap ((cs.length : Int) - 1) = (cs.length : Int) - 1 := by rw [IntKind.wrap_i64]; omega
  by_cases hin : inR now 0 ((cs.length : Int) - 1) = false
  · have hFE : Hid (F = []) := by
      show F = []
      rw [HF.out, comeP_out (fun e => by have : inR now 0 ((cs.length : Int) - 1) = true := inR_true.2 (by omega); rw [hin] at this; cases this), foundF_end _ (by simp)]
    go_wp2_with (go_at_call 39; refine (l6In_any _ _ _ _).mono ?_; rintro e w' ⟨rfl, hw⟩; obtain rfl := hw.symm)
    go_ret
    exact ⟨_, rfl, by rw [hFE.out]; exact mk.mono (by omega), hA⟩
  have hin' : inR now 0 ((cs.length : Int) - 1) = true := by simpa using hin
  clear hin
  have hin2 := inR_true.1 hin'
  obtain ⟨an, rfl⟩ := Int.eq_ofNat_of_zero_le hin2.1
  have han : an < cs.length := by omega
  have HF2 : Hid (F = foundF cs (cs.length - 0) 0 [an]) := by
    show F = _
    rw [HF.out, comeP_yes han (numOf_none (fun i hi => absurd hi (Nat.not_lt_zero _)))]
    rfl
  have hP1 : PsOk cs.length [an] := ⟨by simp, fun p hp => by simp at hp; omega⟩
  clear HF
  go_upto_region 5 with (first | (go_at_call 39; refine (l6In_any _ _ _ _).mono ?_; rintro e w' ⟨rfl, hw⟩; obtain rfl := hw.symm) | (at_builtin; refine append_i _ (by rfl) _ _ (by rfl) (w.heap.size + 1) _ [] (by rfl) mk (an : Int) _ _ rfl (by rfl) (by simp) (by omega) ?_; intro g2 o2 c2 w2 hrow2 hg2 hb2 hlt2))
  have hg2' : W1.grownBy w2 (some (w.heap.size + 1)) := hg2
  have B2 : Below w.heap.size w w2 := hA.grown hg2' zA (fun q e => by cases e; omega)
  have bx2 := bx.of_block (hg2'.block w.heap.size yA (by simp))
  have hV2 : IntRow (w.heap.size + 1) w2 (.slice (some ⟨g2, o2, none⟩) (([] : List Int).length + 1) c2) (nums [an]) := hrow2
  clear hg2 hg2' hrow2 hb2 hlt2 mk hA bx x0 x1 x2 x3 x4 hin' hin2
  generalize Value.slice (some ⟨g2, o2, none⟩) (([] : List Int).length + 1) c2 = vo at *
  go_wp2
  go_loopg [3, 4] cs.length (fun g o i wr => ∃ (j : Nat) (ps : List Nat), j ≤ ps.length ∧ g = cs.length - j ∧ i = .int .i64 j ∧ PsOk cs.length ps ∧ F = foundF cs (cs.length - j) j ps ∧ IntRow (w.heap.size + 1) wr o (nums ps) ∧ Below w.heap.size w wr ∧ wr.rowIs w.heap.size 29 5 (five (.slice ac cs.length kc) (.int .i64 (an : Int)) (.int .i64 born) (.slice aD said.length kD) (.int .i64 code)))
  case atStart => exact ⟨0, [an], Nat.zero_le _, rfl, rfl, hP1, HF2.out, hV2, B2, bx2⟩
  case round =>
    obtain ⟨j, ps, hj, rfl, rfl, hps, hFF, hrow, hb, hbx⟩ := hrel
    have HFF : Hid (F = foundF cs (cs.length - j) j ps) := hFF
    clear hFF
    have hpl := hps.len
    obtain ⟨av, cv, hv, _⟩ := hrow.slice
    rw [nums_len] at hv
    subst hv
    by_cases hlt : j < ps.length
    · have hjz : (j : Int) < (ps.length : Int) := by omega
      obtain ⟨g1, o1, c1, e1, _⟩ := hrow.form (by rw [nums_len]; omega)
      obtain rfl : av = some ⟨g1, o1, none⟩ := by injection e1
      clear e1
      have d1 := (hrow.cell (i := j) (by rw [nums_len]; exact hlt)).1
      rw [nums_at] at d1
      have hpj : ps[j] < cs.length := hps.lt _ (List.getElem_mem hlt)
      have HST : Hid (F = foundF cs (cs.length - (j + 1)) (j + 1) (comeC cs.length ps cs[ps[j]])) := by show F = _; rw [HFF.out, foundF_step hps hlt hpj]
      generalize hpe : ps[j] = p at *
      clear hpe HFF
      obtain ⟨b, o, vt, vs', hac, hc⟩ := hcl p hpj
      subst hac
      obtain ⟨at', ct', hvt⟩ := hc.t.shape
      obtain ⟨as', ct2, hvs⟩ := hc.s.shape
      subst hvt hvs
      have q0 := cell_below hb hc.c0
      have q1 := cell_below hb hc.c1
      have q2 := cell_below hb hc.c2
      have q3 := cell_below hb hc.c3
      have q4 := cell_below hb hc.c4
      have q5 := cell_below hb hc.c5
      have hct := (hc.t.below hb).below (Below.refl _ _).drew
      have hcs' := (hc.s.below hb).below (Below.refl _ _).drew
      have hlen := hs2 p hpj
      obtain ⟨⟨x0, x1, x2, x3, x4⟩, xf⟩ := five_cells hbx
      clear xf x1 x2 x3 x4
      have hpz : (p : Int) < (cs.length : Int) := by omega
      have hbz := hb.size
      generalize hce : cs[p] = cp at *
      have HCE : Hid (cs[p] = cp) := hce
      clear hce hc
      go_wp2_with fail
      go_region_held3 (fun w' => w'.cell? ⟨g1, o1 + j, none⟩ = some (.int .i64 (p : Int)) ∧ w'.cell? ⟨w.heap.size, 0, none⟩ = some (.slice (some ⟨b, o, none⟩) cs.length kc) ∧ w'.cell? ⟨b, o + p * 6, none⟩ = some (.int .i64 cp.m) ∧ w'.cell? ⟨b, o + p * 6 + 1, none⟩ = some (.int .i64 cp.pc) ∧ w'.cell? ⟨b, o + p * 6 + 2, none⟩ = some (.slice at' cp.temps.length ct') ∧ w'.cell? ⟨b, o + p * 6 + 3, none⟩ = some (.slice as' cp.stack.length ct2) ∧ w'.cell? ⟨b, o + p * 6 + 4, none⟩ = some (.int .i64 cp.sender) ∧ w'.cell? ⟨b, o + p * 6 + 5, none⟩ = some (.bool cp.dead))
        (first | exact ⟨cell_below hb8 d1, cell_below hb8 x0, cell_below hb8 q0, cell_below hb8 q1, cell_below hb8 q2, cell_below hb8 q3, cell_below hb8 q4, cell_below hb8 q5⟩ | go_keep)
        ((go_at_call 69; refine (l11Refs_any _ _ cp _ hct hcs' hlen).mono ?_; rintro e w8 ⟨v8, rfl, hr8, hb8⟩))
      have hb8' : Below wr.heap.size wr w8 := (Below.refl wr.heap.size wr).drew.trans hb8
      have hr8' : IntRow wr.heap.size w8 v8 (refsC cp) := hr8
      have hrow8 := hrow.below hb8'
      have hbx8 := row_below hb8' hbx
      have B8 := hb.trans (hb8'.mono hbz)
      have z8 := hb8'.size
      have hne8 : ∀ q, (Value.slice (some ⟨g1, o1, none⟩) ps.length cv).ownBlock = some q → v8.ownBlock ≠ some q := fun q e e2 => by have h1 := (hrow.lt q e).2; have h2 := (hr8'.lt q e2).1; omega
      obtain ⟨a8, c8, hv8, hl8⟩ := hr8'.slice
      subst hv8
      have HREF : Hid (comeC cs.length ps cp = (refsC cp).foldl (comeP cs.length) ps) := (come_refsC _ _ _).symm
      have hps' := hps
      clear hb8 hb8' hr8 hrow hbx hb hct hcs' q0 q1 q2 q3 q4 q5 x0 d1
      generalize refsC cp = rs at *
      unfold maxLen at hl8
      generalize hvo : Value.slice (some ⟨g1, o1, none⟩) ps.length cv = vo2 at *
      clear hvo
      go_wp2
      go_loopg [3, 6] rs.length (fun g ov i wr2 => ∃ k : Nat, k ≤ rs.length ∧ g = rs.length - k ∧ i = .int .i64 k ∧ IntRow (w.heap.size + 1) wr2 ov (nums ((rs.take k).foldl (comeP cs.length) ps)) ∧ IntRow wr.heap.size wr2 (.slice a8 rs.length c8) rs ∧ (∀ q, ov.ownBlock = some q → (Value.slice a8 rs.length c8).ownBlock ≠ some q) ∧ Below w.heap.size w wr2 ∧ wr.heap.size ≤ wr2.heap.size ∧ wr2.rowIs w.heap.size 29 5 (five (.slice (some ⟨b, o, none⟩) cs.length kc) (.int .i64 (an : Int)) (.int .i64 born) (.slice aD said.length kD) (.int .i64 code)))
      case atStart => exact ⟨0, Nat.zero_le _, rfl, rfl, hrow8, hr8', hne8, B8, z8, hbx8⟩
      case round =>
        obtain ⟨k, hk, rfl, rfl, hrow, hrr, hne, hb, hzr, hbx⟩ := hrel
        have HNE := fun q => hne q
        clear hne
        have hpk : PsOk cs.length ((rs.take k).foldl (comeP cs.length) ps) := hps'.fold _
        have hpkl := hpk.len
        by_cases hltk : k < rs.length
        · obtain ⟨g3, o3, c3, e3, _⟩ := hrr.form (by omega)
          obtain rfl : a8 = some ⟨g3, o3, none⟩ := by injection e3
          clear e3
          have d1 := (hrr.cell hltk).1
          obtain ⟨⟨x0, x1, x2, x3, x4⟩, xf⟩ := five_cells hbx
          clear xf x1 x2 x3 x4
          have hkz : (k : Int) < (rs.length : Int) := by omega
          have hft := fold_take (n := cs.length) (ps := ps) hltk
          generalize (rs.take k).foldl (comeP cs.length) ps = ps2 at *
          generalize rs[k] = r at *
          have HFT : Hid ((rs.take (k + 1)).foldl (comeP cs.length) ps = comeP cs.length ps2 r) := hft
          clear hft
          obtain ⟨ao, co, hvo, _⟩ := hrow.slice
          rw [nums_len] at hvo
          subst hvo
          by_cases hI : inR r 0 ((cs.length : Int) - 1) = false
          · have hE : Hid ((rs.take (k + 1)).foldl (comeP cs.length) ps = ps2) := by
              show _ = _
              rw [HFT.out, comeP_out (fun e => by have : inR r 0 ((cs.length : Int) - 1) = true := inR_true.2 (by omega); rw [hI] at this; cases this)]
            go_wp2
            go_quiet ((first | (go_at_call 39; exact Calls.quiet_of_same (l6In_any _ _ _ _)) | (go_at_call 53; exact Calls.quiet_of_same (l11Has_any _ _ ps2 _ _ (hrow.drewN _)))))
            go_wp2
            go_roundg (rs.length - (k + 1))
            case measure => omega
            case rel => exact ⟨k + 1, by omega, rfl, by go_num, by rw [hE.out]; exact hrow.drewN _, hrr.drewN _, HNE, below_drewN hb _, hzr, hbx⟩
          have hI' : inR r 0 ((cs.length : Int) - 1) = true := by simpa using hI
          clear hI
          have hI2 := inR_true.1 hI'
          obtain ⟨rn, rfl⟩ := Int.eq_ofNat_of_zero_le hI2.1
          by_cases hN : numOf ps2 rn = -1
          · have hE : Hid ((rs.take (k + 1)).foldl (comeP cs.length) ps = ps2 ++ [rn]) := by
              show _ = _
              rw [HFT.out, comeP_yes (by omega) hN]
            go_wp2
            go_quiet ((first | (go_at_call 39; exact Calls.quiet_of_same (l6In_any _ _ _ _)) | (go_at_call 53; exact Calls.quiet_of_same (l11Has_any _ _ ps2 _ _ (hrow.drewN _)))))
            go_wp2_with (at_builtin; refine append_i _ (by rfl) _ _ (by rfl) (w.heap.size + 1) _ (nums ps2) (by rfl) (hrow.drewN nq) (rn : Int) _ _ rfl (by rfl) (by rw [nums_len]; omega) (by show w.heap.size + 1 ≤ wr.heap.size; omega) ?_; intro g2' o2' c2' w2' hrow2 hg2 hb2 hlt2)
            have hbd : Below w.heap.size w (wr.drewN nq) := below_drewN hb nq
            have hb3 : Below w.heap.size w w2' := hbd.grown hg2 hbd.size (fun q e => by have := (hrow.lt q e).1; omega)
            have hp3 : IntRow _ w2' (.slice (some ⟨g3, o3, none⟩) rs.length c8) rs := (hrr.drewN nq).kept hg2.size fun q e => hg2.block q (hrr.lt q e).2 (fun e2 => HNE q e2.symm e)
            have hz3 : wr.heap.size ≤ w2'.heap.size := hg2.size
            have hbx3 := (show (wr.drewN nq).rowIs w.heap.size 29 5 _ from hbx).of_block (hg2.block w.heap.size (by show w.heap.size < wr.heap.size; exact hbx.lt) (fun e => by have := (hrow.lt _ e.symm).1; omega))
            have hne3 : ∀ q, (Value.slice (some ⟨g2', o2', none⟩) ((nums ps2).length + 1) c2').ownBlock = some q → (Value.slice (some ⟨g3, o3, none⟩) rs.length c8).ownBlock ≠ some q := fun q e e2 => by
              simp [Value.ownBlock] at e
              subst e
              rcases hb2 with h2 | h2
              · exact HNE _ h2 e2
              · have := (hrr.lt _ e2).2
                have h9 : (wr.drewN nq).heap.size = wr.heap.size := rfl
                omega
            rw [nums_snoc] at hrow2
            have hrow3 : IntRow (w.heap.size + 1) w2' (.slice (some ⟨g2', o2', none⟩) ((nums ps2).length + 1) c2') (nums ((rs.take (k + 1)).foldl (comeP cs.length) ps)) := by rw [hE.out]; exact hrow2
            clear hg2 hb2 hrow2 hrow hrr hbd
            go_roundg (rs.length - (k + 1))
            case measure => omega
            case rel => exact ⟨k + 1, by omega, rfl, by go_num, hrow3, hp3, hne3, hb3, by omega, hbx3⟩
          · have hE : Hid ((rs.take (k + 1)).foldl (comeP cs.length) ps = ps2) := by
              show _ = _
              rw [HFT.out, comeP_in hN]
            have hN2 : ¬ numOf ps2 rn < 0 := by have := numOf_ge ps2 rn; omega
            clear hN
            go_wp2
            go_quiet ((first | (go_at_call 39; exact Calls.quiet_of_same (l6In_any _ _ _ _)) | (go_at_call 53; exact Calls.quiet_of_same (l11Has_any _ _ ps2 _ _ (hrow.drewN _)))))
            go_wp2
            go_roundg (rs.length - (k + 1))
            case measure => omega
            case rel => exact ⟨k + 1, by omega, rfl, by go_num, by rw [hE.out]; exact hrow.drewN _, hrr.drewN _, HNE, below_drewN hb _, hzr, hbx⟩
        · obtain rfl : k = rs.length := by omega
          rw [List.take_length, ← HREF.out] at hrow hpk
          obtain ⟨t, htt⟩ := comeC_pre cs.length ps cp
          have hlen2 : Hid (j + 1 ≤ (comeC cs.length ps cp).length) := by show _ ≤ _; rw [htt, List.length_append]; omega
          have HST2 : Hid (F = foundF cs (cs.length - (j + 1)) (j + 1) (comeC cs.length ps cp)) := HST.out
          clear htt HST
          go_wp2
          go_roundg (cs.length - (j + 1))
          case measure => omega
          case rel => exact ⟨j + 1, _, hlen2.out, rfl, by go_num, hpk, HST2.out, hrow, hb, hbx⟩
    · obtain rfl : j = ps.length := by omega
      have hE : Hid (F = ps) := by show F = ps; rw [HFF.out, foundF_end _ (by omega)]
      go_wp2
      go_ret
      exact ⟨_, rfl, by rw [hE.out]; exact hrow.mono (by omega), hb⟩

end Go.Proofs.Ytleodeffmfkfkaa

/-
  What is seen of a heap, by the model: HeapView.
-/
namespace Go.Proofs.Ytleodeffmfkfkaa
open Go.RowKit

theorem CallsAt.cl {w : World} {a : Option Addr} {n c : Nat} {cs : List Cl} (h : CallsAt w (.slice a n c) cs) {p : Nat} (hp : p < cs.length) : ∃ b o vt vs, a = some ⟨b, o, none⟩ ∧ ClAt w b (o + p * 6) vt vs cs[p] := by
  obtain ⟨a', c', e, _, hc⟩ := h
  obtain ⟨b, o, vt, vs, rfl, hx⟩ := hc p hp
  injection e with e1 e2 e3
  exact ⟨b, o, vt, vs, e1, hx⟩

/-- calls in memory from block B on: they stay where those blocks do -/
def CallsFrom (B : Nat) (w : World) (v : Value) (cs : List Cl) : Prop := ∀ w' : World, w.heap.size ≤ w'.heap.size → (∀ k, B ≤ k → k < w.heap.size → w'.heap[k]? = w.heap[k]?) → CallsAt w' v cs

theorem CallsFrom.at {B : Nat} {w : World} {v : Value} {cs : List Cl} (h : CallsFrom B w v cs) : CallsAt w v cs := h w (Nat.le_refl _) (fun _ _ _ => rfl)

theorem found_ok (h : Hp) : PsOk h.calls.length (found h) := by
  have key : ∀ (f j : Nat) (ps : List Nat), PsOk h.calls.length ps → PsOk h.calls.length (foundF h.calls f j ps) := by
    intro f
    induction f with
    | zero => intro j ps hp; exact hp
    | succ f ih =>
      intro j ps hp
      show PsOk _ (if hj : j < ps.length then foundF h.calls f (j + 1) (comeC h.calls.length ps (h.calls.getD ps[j] Cl.none)) else ps)
      split
      · exact ih _ _ (hp.comeC _)
      · exact hp
  exact key _ _ _ ((PsOk.nil _).come _)

set_option maxRecDepth 100000 in
set_option maxHeartbeats 4000000 in
theorem specHeapView_any (vc vs : Value) (h : Hp) (w : World) (hh : HeapAt w vc vs h) (hsh : h.short) (hsd : ∀ i, (hi : i < h.calls.length) → -1 ≤ h.calls[i].sender) :
    Calls Try.prog 20 #[.agg (hpCells vc vs h)] w fun e w' => ∃ v, e = .returned v ∧ CallsFrom w.heap.size w' v (viewL h) ∧ Below w.heap.size w w' := by
  unfold hpCells
  obtain ⟨ac, kc, hvc⟩ := hh.c.shape
  obtain ⟨aD, kD, hvs⟩ := hh.s.shape
  subst hvc hvs
  have HP : Hid (PsOk h.calls.length (found h)) := found_ok h
  have HV : Hid (viewL h = (found h).map fun p => viewC (found h) (h.calls.getD p Cl.none)) := rfl
  have hA : Below w.heap.size w ((w.alloc (.cells #[.slice ac h.calls.length kc, .int .i64 h.now, .int .i64 h.born, .slice aD h.said.length kD, .int .i64 h.code] 29)).alloc (.cells #[] 34)) := ((Below.refl _ _).alloc (Nat.le_refl _) _).alloc (by simp) _
  have bx := (five_new w 29 (.slice ac h.calls.length kc) (.int .i64 h.now) (.int .i64 h.born) (.slice aD h.said.length kD) (.int .i64 h.code)).alloc (.cells #[] 34)
  have mk := CallRow.made (B := w.heap.size + 1) (w := w.alloc (.cells #[.slice ac h.calls.length kc, .int .i64 h.now, .int .i64 h.born, .slice aD h.said.length kD, .int .i64 h.code] 29)) (e := 34) (by simp)
  simp only [World.size_alloc] at mk
  go_enter Try.func20, Try.ntmps20
  go_upto_region 2 with fail
  generalize (w.alloc (.cells #[.slice ac h.calls.length kc, .int .i64 h.now, .int .i64 h.born, .slice aD h.said.length kD, .int .i64 h.code] 29)).alloc (.cells #[] 34) = W1 at *
  obtain ⟨⟨x0, x1, x2, x3, x4⟩, xf⟩ := five_cells bx
  clear xf
  have zA := hA.size
  have yA := bx.lt
  go_wp2_with fail
  refine (l11Found_any _ _ h _ (hh.below hA) hsh).mono ?_
  rintro e w2 ⟨v2, rfl, hf2, hb2⟩
  have B2 := hA.trans (hb2.mono zA)
  have bx2 := row_below hb2 bx
  have mk2 := mk.below hb2
  have z2 := hb2.size
  have hne2 : ∀ g, (Value.slice (some ⟨w.heap.size + 1, 0, none⟩) 0 0).ownBlock = some g → v2.ownBlock ≠ some g := fun g e e2 => by have h1 := (mk.lt g e).2; have h2 := (hf2.lt g e2).1; omega
  obtain ⟨a2, c2, hv2, _⟩ := hf2.slice
  rw [nums_len] at hv2
  subst hv2
  have HP2 := HP.out
  generalize found h = F at *
  have hFl := HP2.len
  clear hA bx mk hb2 x0 x1 x2 x3 x4
  go_wp2
  go_loopg [3, 5] F.length (fun g o i wr => ∃ (k : Nat) (L : List (Cl × Value × Value)), k ≤ F.length ∧ g = F.length - k ∧ i = .int .i64 k ∧ L.map (·.1) = (F.take k).map (fun p => viewC F (h.calls.getD p Cl.none)) ∧ CallRow (w.heap.size + 1) wr o L ∧
      (∀ j, (hj : j < L.length) → PairRow (w.heap.size + 1) wr L[j].2.1 L[j].1.temps ∧ PairRow (w.heap.size + 1) wr L[j].2.2 L[j].1.stack) ∧ (∀ j, (hj : j < L.length) → ∀ q, o.ownBlock = some q → L[j].2.1.ownBlock ≠ some q ∧ L[j].2.2.ownBlock ≠ some q) ∧
      IntRow W1.heap.size wr (.slice a2 F.length c2) (nums F) ∧ (∀ q, o.ownBlock = some q → (Value.slice a2 F.length c2).ownBlock ≠ some q) ∧ Below w.heap.size w wr ∧ wr.rowIs w.heap.size 29 5 (five (.slice ac h.calls.length kc) (.int .i64 h.now) (.int .i64 h.born) (.slice aD h.said.length kD) (.int .i64 h.code)))
  case atStart => exact ⟨0, [], Nat.zero_le _, rfl, rfl, rfl, mk2, fun j hj => absurd hj (Nat.not_lt_zero _), fun j hj => absurd hj (Nat.not_lt_zero _), hf2, hne2, B2, bx2⟩
  case round =>
    obtain ⟨k, L, hk, rfl, rfl, hmap, hrow, hls, hap, hf, hnf, hb, hbx⟩ := hrel
    have HMAP : Hid (L.map (·.1) = (F.take k).map (fun p => viewC F (h.calls.getD p Cl.none))) := hmap
    have HLS : Hid (∀ j, (hj : j < L.length) → PairRow (w.heap.size + 1) wr L[j].2.1 L[j].1.temps ∧ PairRow (w.heap.size + 1) wr L[j].2.2 L[j].1.stack) := hls
    have HAP : Hid (∀ j, (hj : j < L.length) → ∀ q, u3.ownBlock = some q → L[j].2.1.ownBlock ≠ some q ∧ L[j].2.2.ownBlock ≠ some q) := hap
    have HNF : Hid (∀ q, u3.ownBlock = some q → (Value.slice a2 F.length c2).ownBlock ≠ some q) := hnf
    have hLl : L.length = k := by have := congrArg List.length hmap; simp at this; omega
    have HLL : Hid (L.length = k) := hLl
    clear hmap hls hap hnf hLl
    obtain ⟨ao, co, hvo, _⟩ := hrow.slice
    subst hvo
    by_cases hlt : k < F.length
    · have hkz : (k : Int) < (F.length : Int) := by omega
      obtain ⟨g1, o1, c1, e1, _⟩ := hf.form (by rw [nums_len]; omega)
      obtain rfl : a2 = some ⟨g1, o1, none⟩ := by injection e1
      clear e1
      have d1 := (hf.cell (i := k) (by rw [nums_len]; exact hlt)).1
      rw [nums_at] at d1
      have hpk : F[k] < h.calls.length := HP2.lt _ (List.getElem_mem hlt)
      have HMT := map_take (f := fun p => viewC F (h.calls.getD p Cl.none)) hlt
      generalize F[k] = p at *
      obtain ⟨b, o, vt, vs', hac, hc⟩ := hh.c.cl hpk
      subst hac
      obtain ⟨at', ct', hvt⟩ := hc.t.shape
      obtain ⟨as', ct2, hvs⟩ := hc.s.shape
      subst hvt hvs
      have q0 := cell_below hb hc.c0
      have q1 := cell_below hb hc.c1
      have q2 := cell_below hb hc.c2
      have q3 := cell_below hb hc.c3
      have q4 := cell_below hb hc.c4
      have q5 := cell_below hb hc.c5
      have hlen := hsh.2 p hpk
      have hsdp := hsd p hpk
      have hgd : h.calls.getD p Cl.none = h.calls[p] := by simp [hpk]
      rw [hgd] at HMT
      have hct := hc.t
      have hcs' := hc.s
      have hpz : (p : Int) < (h.calls.length : Int) := by omega
      have hcallen : h.calls.length ≤ 1000 := hsh.1
      obtain ⟨⟨x0, x1, x2, x3, x4⟩, xf⟩ := five_cells hbx
      clear xf x1 x2 x3 x4 hgd hc
      have hbz := hb.size
      generalize hce : h.calls[p] = cp at *
      clear hce
      go_wp2_with fail
      have HS8 : ∀ w', Below wr.heap.size wr w' → (w'.cell? ⟨g1, o1 + k, none⟩ = some (.int .i64 (p : Int)) ∧ w'.cell? ⟨w.heap.size, 0, none⟩ = some (.slice (some ⟨b, o, none⟩) h.calls.length kc) ∧ w'.cell? ⟨b, o + p * 6, none⟩ = some (.int .i64 cp.m) ∧ w'.cell? ⟨b, o + p * 6 + 1, none⟩ = some (.int .i64 cp.pc) ∧ w'.cell? ⟨b, o + p * 6 + 2, none⟩ = some (.slice at' cp.temps.length ct') ∧ w'.cell? ⟨b, o + p * 6 + 3, none⟩ = some (.slice as' cp.stack.length ct2) ∧ w'.cell? ⟨b, o + p * 6 + 4, none⟩ = some (.int .i64 cp.sender) ∧ w'.cell? ⟨b, o + p * 6 + 5, none⟩ = some (.bool cp.dead)) := fun w' hB => ⟨cell_below hB d1, cell_below hB x0, cell_below hB q0, cell_below hB q1, cell_below hB q2, cell_below hB q3, cell_below hB q4, cell_below hB q5⟩
      have nA : Below wr.heap.size wr wr.drew := (Below.refl _ _).drew
      have nB : Below wr.heap.size wr (wr.alloc (.cells #[.int .i64 0, .int .i64 0, .slice none 0 0, .slice none 0 0, .int .i64 0, .bool false] 34)).drew := ((Below.refl _ _).alloc (Nat.le_refl _) _).drew
      have ctA := (hct.below hb).below nA
      have csA := (hcs'.below hb).below nA
      have ctB := (hct.below hb).below nB
      have csB := (hcs'.below hb).below nB
      have zB := nB.size
      have rB : (wr.alloc (.cells #[.int .i64 0, .int .i64 0, .slice none 0 0, .slice none 0 0, .int .i64 0, .bool false] 34)).drew.rowIs wr.heap.size 34 6 (six (.int .i64 0) (.int .i64 0) (.slice none 0 0) (.slice none 0 0) (.int .i64 0) (.bool false)) := six_new wr 34 (.int .i64 0) (.int .i64 0) (.slice none 0 0) (.slice none 0 0) (.int .i64 0) (.bool false)
      have hq : wr.heap.size ≤ wr.heap.size := Nat.le_refl _
      clear q0 q1 q2 q3 q4 q5 hct hcs'
      go_region_held3 (fun w' => w'.cell? ⟨g1, o1 + k, none⟩ = some (.int .i64 (p : Int)) ∧ w'.cell? ⟨w.heap.size, 0, none⟩ = some (.slice (some ⟨b, o, none⟩) h.calls.length kc) ∧ w'.cell? ⟨b, o + p * 6, none⟩ = some (.int .i64 cp.m) ∧ w'.cell? ⟨b, o + p * 6 + 1, none⟩ = some (.int .i64 cp.pc) ∧ w'.cell? ⟨b, o + p * 6 + 2, none⟩ = some (.slice at' cp.temps.length ct') ∧ w'.cell? ⟨b, o + p * 6 + 3, none⟩ = some (.slice as' cp.stack.length ct2) ∧ w'.cell? ⟨b, o + p * 6 + 4, none⟩ = some (.int .i64 cp.sender) ∧ w'.cell? ⟨b, o + p * 6 + 5, none⟩ = some (.bool cp.dead))
        ((refine HS8 _ ?_; first | (with_reducible exact hb8A) | (with_reducible exact hb8A.alloc hb8A.size _) | (with_reducible exact (((((hb8A.setCell (p := ⟨wr.heap.size, 0, none⟩) hq _).setCell (p := ⟨wr.heap.size, 1, none⟩) hq _).setCell (p := ⟨wr.heap.size, 2, none⟩) hq _).setCell (p := ⟨wr.heap.size, 3, none⟩) hq _).setCell (p := ⟨wr.heap.size, 4, none⟩) hq _).setCell (p := ⟨wr.heap.size, 5, none⟩) hq _) | (with_reducible exact nB) | (with_reducible exact nA) | (with_reducible exact (Below.refl _ _).alloc (Nat.le_refl _) _) | (with_reducible exact Below.refl _ _)))
        ((first
          | (go_at_call 51; refine (l11Copy_any _ _ cp _ ctB csB hlen).mono ?_; rintro e w8 ⟨vt8, vs8, rfl, ht8, hs8, hap8, hb8⟩; have hb8A : Below wr.heap.size wr w8 := nB.trans (hb8.mono zB); obtain ⟨at8, kt8, hv8, _⟩ := ht8.slice; obtain ⟨as8, ks8, hw8, _⟩ := hs8.slice; subst hv8 hw8; unfold clCells; have r8 := row_below hb8 rB; obtain ⟨⟨m0, m1, m2, m3, m4, m5⟩, e0, e1, e2, e3, e4, e5⟩ := six_cells r8)
          | (go_at_call 51; refine (l11Copy_any _ _ cp _ ctA csA hlen).mono ?_; rintro e w8 ⟨vt8, vs8, rfl, ht8, hs8, hap8, hb8⟩; have hb8A : Below wr.heap.size wr w8 := nA.trans hb8; obtain ⟨at8, kt8, hv8, _⟩ := ht8.slice; obtain ⟨as8, ks8, hw8, _⟩ := hs8.slice; subst hv8 hw8; unfold clCells)))
      · have r9 := six_new w8 34 (.int .i64 cp.m) (.int .i64 cp.pc) (.slice at8 cp.temps.length kt8) (.slice as8 cp.stack.length ks8) (.int .i64 cp.sender) (.bool cp.dead)
        have B9 := hb8A.alloc hb8A.size (.cells #[.int .i64 cp.m, .int .i64 cp.pc, .slice at8 cp.temps.length kt8, .slice as8 cp.stack.length ks8, .int .i64 cp.sender, .bool cp.dead] 34)
        have NN := (Below.refl w8.heap.size w8).alloc (Nat.le_refl _) (.cells #[.int .i64 cp.m, .int .i64 cp.pc, .slice at8 cp.temps.length kt8, .slice as8 cp.stack.length ks8, .int .i64 cp.sender, .bool cp.dead] 34)
        have T9 : PairRow wr.heap.size _ _ _ := ht8.below NN
        have S9 : PairRow wr.heap.size _ _ _ := hs8.below NN
        have hcb := hb8A.size
        have nt9 : (Value.slice at8 cp.temps.length kt8).ownBlock ≠ some w8.heap.size := fun e => by have := (ht8.lt _ e).2; omega
        have ns9 : (Value.slice as8 cp.stack.length ks8).ownBlock ≠ some w8.heap.size := fun e => by have := (hs8.lt _ e).2; omega
        generalize w8.alloc (.cells #[.int .i64 cp.m, .int .i64 cp.pc, .slice at8 cp.temps.length kt8, .slice as8 cp.stack.length ks8, .int .i64 cp.sender, .bool cp.dead] 34) = w9 at *
        clear NN ht8 hs8 hb8 hb8A ctA csA ctB csB nA nB rB zB HS8
        generalize w8.heap.size = cb at *
        have hf9 := hf.below B9
        have z9 := B9.size
        have y9 := r9.lt
        have nf9 : (Value.slice (some ⟨g1, o1, none⟩) F.length c2).ownBlock ≠ some cb := fun e => by have := (hf.lt _ e).2; omega
        obtain ⟨⟨x0, x1, x2, x3, x4, x5⟩, xf⟩ := six_cells r9
        clear xf
        go_upto_region 8 with (go_at_call 52; refine (l11Names_any _ _ _ cp.temps F _ T9.at hf9 hlen.1).mono ?_; rintro e w10 ⟨v10, rfl, p10, hb10⟩; obtain ⟨aA, kA, hvA, _⟩ := p10.slice; rw [List.length_map] at hvA; subst hvA; have r10 := row_below hb10 r9; obtain ⟨⟨y0, y1, y2, y3, y4, y5⟩, e0, e1, e2, e3, e4, e5⟩ := six_cells r10)
        have nA : (Value.slice aA cp.temps.length kA).ownBlock ≠ some cb := fun e => by have := (p10.lt _ e).1; omega
        have r11 := six_set2 r10 (.slice aA cp.temps.length kA)
        have P11 := p10.set_other (p := ⟨cb, 2, none⟩) (.slice aA cp.temps.length kA) nA
        have S11 := (S9.below hb10).set_other (p := ⟨cb, 2, none⟩) (.slice aA cp.temps.length kA) ns9
        have f11 := (hf9.below hb10).set_other (p := ⟨cb, 2, none⟩) (.slice aA cp.temps.length kA) nf9
        have B11 := (B9.trans (hb10.mono z9)).setCell (p := ⟨cb, 2, none⟩) hcb (.slice aA cp.temps.length kA)
        have z11 : w9.heap.size ≤ (w10.setCell ⟨cb, 2, none⟩ (.slice aA cp.temps.length kA)).heap.size := by simp [World.setCell]; exact hb10.size
        generalize w10.setCell ⟨cb, 2, none⟩ (.slice aA cp.temps.length kA) = w11 at *
        clear r10 hb10 hf9 S9 T9 r9 p10 x0 x1 x2 x3 x4 x5 y0 y1 y2 y3 y4 y5 e0 e1 e2 e3 e4 e5
        obtain ⟨⟨x0, x1, x2, x3, x4, x5⟩, xf⟩ := six_cells r11
        clear xf
        go_upto_region 9 with (go_at_call 52; refine (l11Names_any _ _ _ cp.stack F _ S11.at f11 hlen.2).mono ?_; rintro e w12 ⟨v12, rfl, p12, hb12⟩; obtain ⟨aB, kB, hvB, _⟩ := p12.slice; rw [List.length_map] at hvB; subst hvB; have r12 := row_below hb12 r11; obtain ⟨⟨y0, y1, y2, y3, y4, y5⟩, e0, e1, e2, e3, e4, e5⟩ := six_cells r12)
        have nB : (Value.slice aB cp.stack.length kB).ownBlock ≠ some cb := fun e => by have := (p12.lt _ e).1; omega
        have r13 := six_set3 r12 (.slice aB cp.stack.length kB)
        have P13 := ((P11.below hb12).set_other (p := ⟨cb, 3, none⟩) (.slice aB cp.stack.length kB) nA).mono z9
        have Q13 := (p12.set_other (p := ⟨cb, 3, none⟩) (.slice aB cp.stack.length kB) nB).mono (B' := wr.heap.size) (by omega)
        have f13 := (f11.below hb12).set_other (p := ⟨cb, 3, none⟩) (.slice aB cp.stack.length kB) nf9
        have B13 := (B11.trans (hb12.mono B11.size)).setCell (p := ⟨cb, 3, none⟩) hcb (.slice aB cp.stack.length kB)
        generalize w12.setCell ⟨cb, 3, none⟩ (.slice aB cp.stack.length kB) = w13 at *
        clear r12 hb12 S11 r11 p12 P11 f11 x0 x1 x2 x3 x4 x5 y0 y1 y2 y3 y4 y5 e0 e1 e2 e3 e4 e5
        obtain ⟨⟨x0, x1, x2, x3, x4, x5⟩, e0, e1, e2, e3, e4, e5⟩ := six_cells r13
        by_cases hsn : 0 ≤ cp.sender
        · go_upto_region 11 with (go_at_call 53; refine (l11Has_any _ _ F _ _ f13).mono ?_; rintro e w' ⟨rfl, hw⟩; obtain rfl := hw.symm)
          have r14 := six_set4 r13 (.int .i64 (numOf F cp.sender))
          have P14 := P13.set_other (p := ⟨cb, 4, none⟩) (.int .i64 (numOf F cp.sender)) nA
          have Q14 := Q13.set_other (p := ⟨cb, 4, none⟩) (.int .i64 (numOf F cp.sender)) nB
          have B14 := B13.setCell (p := ⟨cb, 4, none⟩) hcb (.int .i64 (numOf F cp.sender))
          generalize w13.setCell ⟨cb, 4, none⟩ (.int .i64 (numOf F cp.sender)) = w14 at *
          clear r13 P13 Q13 f13 B13 x0 x1 x2 x3 x4 x5 e0 e1 e2 e3 e4 e5
          have N15 := (Below.refl w14.heap.size w14).alloc (Nat.le_refl _) (.cells #[.int .i64 cp.m, .int .i64 cp.pc, .slice aA cp.temps.length kA, .slice aB cp.stack.length kB, .int .i64 (numOf F cp.sender), .bool cp.dead] 34)
          have s15 := six_new w14 34 (.int .i64 cp.m) (.int .i64 cp.pc) (.slice aA cp.temps.length kA) (.slice aB cp.stack.length kB) (.int .i64 (numOf F cp.sender)) (.bool cp.dead)
          have B15 := B14.trans (N15.mono B14.size)
          have hrow15 := hrow.below B15
          have P15 := P14.below N15
          have Q15 := Q14.below N15
          have z15 := B15.size
          obtain ⟨⟨x0, x1, x2, x3, x4, x5⟩, xf⟩ := six_cells r14
          clear xf
          have hLb : L.length ≤ 900000 := by rw [HLL.out]; omega
          go_wp2_with (at_builtin; refine append_call _ (by rfl) _ _ (by rfl) (w.heap.size + 1) _ L (viewC F cp, .slice aA cp.temps.length kA, .slice aB cp.stack.length kB) (by rfl) w14.heap.size 1 (by rfl) hrow15 rfl rfl (cells6_of s15) hLb (by omega) ?_; intro v16 w16 hrow16 hg16 hbk16)
          have hz16 := hg16.size
          have B16 : Below w.heap.size w w16 := (hb.trans (B15.mono hbz)).grown hg16 (by omega) (fun q e => by have := (hrow15.lt q e).1; omega)
          have hbl : ∀ q, q < wr.heap.size → (Value.slice ao L.length co).ownBlock ≠ some q → w16.heap[q]? = wr.heap[q]? := fun q h1 h2 => (hg16.block q (by omega) (fun e => h2 e.symm)).trans (B15.block q h1)
          have hf16 : IntRow W1.heap.size w16 (.slice (some ⟨g1, o1, none⟩) F.length c2) (nums F) := hf.kept (by omega) fun q e => hbl q (hf.lt q e).2 (fun e2 => HNF.out q e2 e)
          have hbx16 := hbx.of_block (hbl w.heap.size hbx.lt (fun e => by have := (hrow.lt _ e).1; omega))
          have hvn : ∀ q, v16.ownBlock = some q → (Value.slice ao L.length co).ownBlock = some q ∨ q = (w14.alloc (.cells #[.int .i64 cp.m, .int .i64 cp.pc, .slice aA cp.temps.length kA, .slice aB cp.stack.length kB, .int .i64 (numOf F cp.sender), .bool cp.dead] 34)).heap.size := fun q e => by
            rcases hbk16 with h1 | h1
            · exact .inl (by rw [← h1]; exact e)
            · exact .inr (by rw [h1] at e; simpa using e.symm)
          have hz15 : (w14.alloc (.cells #[.int .i64 cp.m, .int .i64 cp.pc, .slice aA cp.temps.length kA, .slice aB cp.stack.length kB, .int .i64 (numOf F cp.sender), .bool cp.dead] 34)).heap.size = w14.heap.size + 1 := by simp
          have hz14 := B14.size
          have hnf16 : ∀ q, v16.ownBlock = some q → (Value.slice (some ⟨g1, o1, none⟩) F.length c2).ownBlock ≠ some q := fun q e e2 => by
            rcases hvn q e with h1 | h1
            · exact HNF.out q h1 e2
            · have := (hf.lt q e2).2; omega
          have P16 : PairRow wr.heap.size w16 (.slice aA cp.temps.length kA) (cp.temps.map (ren F)) := P15.kept (by omega) fun q e => hg16.block q (by have := (P15.lt q e).2; omega) (fun e2 => by have h1 := (P15.lt q e).1; have h2 := (hrow.lt q e2.symm).2; omega)
          have Q16 : PairRow wr.heap.size w16 (.slice aB cp.stack.length kB) (cp.stack.map (ren F)) := Q15.kept (by omega) fun q e => hg16.block q (by have := (Q15.lt q e).2; omega) (fun e2 => by have h1 := (Q15.lt q e).1; have h2 := (hrow.lt q e2.symm).2; omega)
          have hls16 : Hid (∀ j, (hj : j < (L ++ [(viewC F cp, Value.slice aA cp.temps.length kA, Value.slice aB cp.stack.length kB)]).length) → PairRow (w.heap.size + 1) w16 (L ++ [(viewC F cp, Value.slice aA cp.temps.length kA, Value.slice aB cp.stack.length kB)])[j].2.1 (L ++ [(viewC F cp, Value.slice aA cp.temps.length kA, Value.slice aB cp.stack.length kB)])[j].1.temps ∧ PairRow (w.heap.size + 1) w16 (L ++ [(viewC F cp, Value.slice aA cp.temps.length kA, Value.slice aB cp.stack.length kB)])[j].2.2 (L ++ [(viewC F cp, Value.slice aA cp.temps.length kA, Value.slice aB cp.stack.length kB)])[j].1.stack) := fun j hj => by
            by_cases e : j < L.length
            · rw [List.getElem_append_left e]
              obtain ⟨p1, p2⟩ := HLS.out j e
              exact ⟨p1.kept (by omega) fun q h1 => hbl q (p1.lt q h1).2 (fun e2 => (HAP.out j e q e2).1 h1), p2.kept (by omega) fun q h1 => hbl q (p2.lt q h1).2 (fun e2 => (HAP.out j e q e2).2 h1)⟩
            · rw [List.getElem_append_right (by omega)]
              simp only [List.getElem_singleton]
              exact ⟨P16.mono (by omega), Q16.mono (by omega)⟩
          have hap16 : Hid (∀ j, (hj : j < (L ++ [(viewC F cp, Value.slice aA cp.temps.length kA, Value.slice aB cp.stack.length kB)]).length) → ∀ q, v16.ownBlock = some q → (L ++ [(viewC F cp, Value.slice aA cp.temps.length kA, Value.slice aB cp.stack.length kB)])[j].2.1.ownBlock ≠ some q ∧ (L ++ [(viewC F cp, Value.slice aA cp.temps.length kA, Value.slice aB cp.stack.length kB)])[j].2.2.ownBlock ≠ some q) := fun j hj q hq => by
            by_cases e : j < L.length
            · rw [List.getElem_append_left e]
              obtain ⟨p1, p2⟩ := HLS.out j e
              rcases hvn q hq with h1 | h1
              · exact HAP.out j e q h1
              · exact ⟨fun e2 => by have := (p1.lt q e2).2; omega, fun e2 => by have := (p2.lt q e2).2; omega⟩
            · rw [List.getElem_append_right (by omega)]
              simp only [List.getElem_singleton]
              rcases hvn q hq with h1 | h1
              · have h2 := (hrow.lt q h1).2
                exact ⟨fun e2 => by have := (P14.lt q e2).1; omega, fun e2 => by have := (Q14.lt q e2).1; omega⟩
              · exact ⟨fun e2 => by have := (P14.lt q e2).2; omega, fun e2 => by have := (Q14.lt q e2).2; omega⟩
          have hmap16 : Hid ((L ++ [(viewC F cp, Value.slice aA cp.temps.length kA, Value.slice aB cp.stack.length kB)]).map (·.1) = (F.take (k + 1)).map (fun p => viewC F (h.calls.getD p Cl.none))) := by
            show _ = _
            rw [List.map_append, HMAP.out, ← HMT]
            rfl
          clear hbl hg16 hbk16 hvn hrow15 s15 x0 x1 x2 x3 x4 x5 r14 P14 Q14 P15 Q15 P16 Q16 HLS HAP HNF HMAP HMT
          go_wp2
          go_roundg (F.length - (k + 1))
          case measure => omega
          case rel => exact ⟨k + 1, _, by omega, rfl, by go_num, hmap16.out, hrow16, hls16.out, hap16.out, hf16, hnf16, B16, hbx16⟩
        · have hsm : cp.sender = -1 := by omega
          have hnm : numOf F cp.sender = -1 := numOf_none (fun i hi e => by omega)
          go_upto_region 11 with fail
          have r14 : w13.rowIs cb 34 6 (six (.int .i64 cp.m) (.int .i64 cp.pc) (.slice aA cp.temps.length kA) (.slice aB cp.stack.length kB) (.int .i64 (numOf F cp.sender)) (.bool cp.dead)) := by rw [hnm, ← hsm]; exact r13
          have P14 := P13
          have Q14 := Q13
          have B14 := B13
          clear r13 P13 Q13 f13 B13 x0 x1 x2 x3 x4 x5 e0 e1 e2 e3 e4 e5 hsn hsm hnm
          generalize w13 = w14 at *
          have N15 := (Below.refl w14.heap.size w14).alloc (Nat.le_refl _) (.cells #[.int .i64 cp.m, .int .i64 cp.pc, .slice aA cp.temps.length kA, .slice aB cp.stack.length kB, .int .i64 (numOf F cp.sender), .bool cp.dead] 34)
          have s15 := six_new w14 34 (.int .i64 cp.m) (.int .i64 cp.pc) (.slice aA cp.temps.length kA) (.slice aB cp.stack.length kB) (.int .i64 (numOf F cp.sender)) (.bool cp.dead)
          have B15 := B14.trans (N15.mono B14.size)
          have hrow15 := hrow.below B15
          have P15 := P14.below N15
          have Q15 := Q14.below N15
          have z15 := B15.size
          obtain ⟨⟨x0, x1, x2, x3, x4, x5⟩, xf⟩ := six_cells r14
          clear xf
          have hLb : L.length ≤ 900000 := by rw [HLL.out]; omega
          go_wp2_with (at_builtin; refine append_call _ (by rfl) _ _ (by rfl) (w.heap.size + 1) _ L (viewC F cp, .slice aA cp.temps.length kA, .slice aB cp.stack.length kB) (by rfl) w14.heap.size 1 (by rfl) hrow15 rfl rfl (cells6_of s15) hLb (by omega) ?_; intro v16 w16 hrow16 hg16 hbk16)
          have hz16 := hg16.size
          have B16 : Below w.heap.size w w16 := (hb.trans (B15.mono hbz)).grown hg16 (by omega) (fun q e => by have := (hrow15.lt q e).1; omega)
          have hbl : ∀ q, q < wr.heap.size → (Value.slice ao L.length co).ownBlock ≠ some q → w16.heap[q]? = wr.heap[q]? := fun q h1 h2 => (hg16.block q (by omega) (fun e => h2 e.symm)).trans (B15.block q h1)
          have hf16 : IntRow W1.heap.size w16 (.slice (some ⟨g1, o1, none⟩) F.length c2) (nums F) := hf.kept (by omega) fun q e => hbl q (hf.lt q e).2 (fun e2 => HNF.out q e2 e)
          have hbx16 := hbx.of_block (hbl w.heap.size hbx.lt (fun e => by have := (hrow.lt _ e).1; omega))
          have hvn : ∀ q, v16.ownBlock = some q → (Value.slice ao L.length co).ownBlock = some q ∨ q = (w14.alloc (.cells #[.int .i64 cp.m, .int .i64 cp.pc, .slice aA cp.temps.length kA, .slice aB cp.stack.length kB, .int .i64 (numOf F cp.sender), .bool cp.dead] 34)).heap.size := fun q e => by
            rcases hbk16 with h1 | h1
            · exact .inl (by rw [← h1]; exact e)
            · exact .inr (by rw [h1] at e; simpa using e.symm)
          have hz15 : (w14.alloc (.cells #[.int .i64 cp.m, .int .i64 cp.pc, .slice aA cp.temps.length kA, .slice aB cp.stack.length kB, .int .i64 (numOf F cp.sender), .bool cp.dead] 34)).heap.size = w14.heap.size + 1 := by simp
          have hz14 := B14.size
          have hnf16 : ∀ q, v16.ownBlock = some q → (Value.slice (some ⟨g1, o1, none⟩) F.length c2).ownBlock ≠ some q := fun q e e2 => by
            rcases hvn q e with h1 | h1
            · exact HNF.out q h1 e2
            · have := (hf.lt q e2).2; omega
          have P16 : PairRow wr.heap.size w16 (.slice aA cp.temps.length kA) (cp.temps.map (ren F)) := P15.kept (by omega) fun q e => hg16.block q (by have := (P15.lt q e).2; omega) (fun e2 => by have h1 := (P15.lt q e).1; have h2 := (hrow.lt q e2.symm).2; omega)
          have Q16 : PairRow wr.heap.size w16 (.slice aB cp.stack.length kB) (cp.stack.map (ren F)) := Q15.kept (by omega) fun q e => hg16.block q (by have := (Q15.lt q e).2; omega) (fun e2 => by have h1 := (Q15.lt q e).1; have h2 := (hrow.lt q e2.symm).2; omega)
          have hls16 : Hid (∀ j, (hj : j < (L ++ [(viewC F cp, Value.slice aA cp.temps.length kA, Value.slice aB cp.stack.length kB)]).length) → PairRow (w.heap.size + 1) w16 (L ++ [(viewC F cp, Value.slice aA cp.temps.length kA, Value.slice aB cp.stack.length kB)])[j].2.1 (L ++ [(viewC F cp, Value.slice aA cp.temps.length kA, Value.slice aB cp.stack.length kB)])[j].1.temps ∧ PairRow (w.heap.size + 1) w16 (L ++ [(viewC F cp, Value.slice aA cp.temps.length kA, Value.slice aB cp.stack.length kB)])[j].2.2 (L ++ [(viewC F cp, Value.slice aA cp.temps.length kA, Value.slice aB cp.stack.length kB)])[j].1.stack) := fun j hj => by
            by_cases e : j < L.length
            · rw [List.getElem_append_left e]
              obtain ⟨p1, p2⟩ := HLS.out j e
              exact ⟨p1.kept (by omega) fun q h1 => hbl q (p1.lt q h1).2 (fun e2 => (HAP.out j e q e2).1 h1), p2.kept (by omega) fun q h1 => hbl q (p2.lt q h1).2 (fun e2 => (HAP.out j e q e2).2 h1)⟩
            · rw [List.getElem_append_right (by omega)]
              simp only [List.getElem_singleton]
              exact ⟨P16.mono (by omega), Q16.mono (by omega)⟩
          have hap16 : Hid (∀ j, (hj : j < (L ++ [(viewC F cp, Value.slice aA cp.temps.length kA, Value.slice aB cp.stack.length kB)]).length) → ∀ q, v16.ownBlock = some q → (L ++ [(viewC F cp, Value.slice aA cp.temps.length kA, Value.slice aB cp.stack.length kB)])[j].2.1.ownBlock ≠ some q ∧ (L ++ [(viewC F cp, Value.slice aA cp.temps.length kA, Value.slice aB cp.stack.length kB)])[j].2.2.ownBlock ≠ some q) := fun j hj q hq => by
            by_cases e : j < L.length
            · rw [List.getElem_append_left e]
              obtain ⟨p1, p2⟩ := HLS.out j e
              rcases hvn q hq with h1 | h1
              · exact HAP.out j e q h1
              · exact ⟨fun e2 => by have := (p1.lt q e2).2; omega, fun e2 => by have := (p2.lt q e2).2; omega⟩
            · rw [List.getElem_append_right (by omega)]
              simp only [List.getElem_singleton]
              rcases hvn q hq with h1 | h1
              · have h2 := (hrow.lt q h1).2
                exact ⟨fun e2 => by have := (P14.lt q e2).1; omega, fun e2 => by have := (Q14.lt q e2).1; omega⟩
              · exact ⟨fun e2 => by have := (P14.lt q e2).2; omega, fun e2 => by have := (Q14.lt q e2).2; omega⟩
          have hmap16 : Hid ((L ++ [(viewC F cp, Value.slice aA cp.temps.length kA, Value.slice aB cp.stack.length kB)]).map (·.1) = (F.take (k + 1)).map (fun p => viewC F (h.calls.getD p Cl.none))) := by
            show _ = _
            rw [List.map_append, HMAP.out, ← HMT]
            rfl
          clear hbl hg16 hbk16 hvn hrow15 s15 x0 x1 x2 x3 x4 x5 r14 P14 Q14 P15 Q15 P16 Q16 HLS HAP HNF HMAP HMT
          go_wp2
          go_roundg (F.length - (k + 1))
          case measure => omega
          case rel => exact ⟨k + 1, _, by omega, rfl, by go_num, hmap16.out, hrow16, hls16.out, hap16.out, hf16, hnf16, B16, hbx16⟩
      · have zZ : (wr.alloc (.cells #[.int .i64 0, .int .i64 0, .slice none 0 0, .slice none 0 0, .int .i64 0, .bool false] 34)).drew.heap.size = wr.heap.size + 1 := by show (wr.alloc _).heap.size = _; simp
        have nt9 : (Value.slice at8 cp.temps.length kt8).ownBlock ≠ some wr.heap.size := fun e => by have := (ht8.lt _ e).1; omega
        have ns9 : (Value.slice as8 cp.stack.length ks8).ownBlock ≠ some wr.heap.size := fun e => by have := (hs8.lt _ e).1; omega
        have r9 := (six_set5 (six_set4 (six_set3 (six_set2 (six_set1 (six_set0 r8 (.int .i64 cp.m)) (.int .i64 cp.pc)) (.slice at8 cp.temps.length kt8)) (.slice as8 cp.stack.length ks8)) (.int .i64 cp.sender)) (.bool cp.dead))
        have B9 := ((((((hb8A.setCell (p := ⟨wr.heap.size, 0, none⟩) hq (.int .i64 cp.m)).setCell (p := ⟨wr.heap.size, 1, none⟩) hq (.int .i64 cp.pc)).setCell (p := ⟨wr.heap.size, 2, none⟩) hq (.slice at8 cp.temps.length kt8)).setCell (p := ⟨wr.heap.size, 3, none⟩) hq (.slice as8 cp.stack.length ks8)).setCell (p := ⟨wr.heap.size, 4, none⟩) hq (.int .i64 cp.sender)).setCell (p := ⟨wr.heap.size, 5, none⟩) hq (.bool cp.dead))
        have T9 := PairRow.mono (B' := wr.heap.size) ((((((ht8.set_other (p := ⟨wr.heap.size, 0, none⟩) (.int .i64 cp.m) nt9).set_other (p := ⟨wr.heap.size, 1, none⟩) (.int .i64 cp.pc) nt9).set_other (p := ⟨wr.heap.size, 2, none⟩) (.slice at8 cp.temps.length kt8) nt9).set_other (p := ⟨wr.heap.size, 3, none⟩) (.slice as8 cp.stack.length ks8) nt9).set_other (p := ⟨wr.heap.size, 4, none⟩) (.int .i64 cp.sender) nt9).set_other (p := ⟨wr.heap.size, 5, none⟩) (.bool cp.dead) nt9) (by omega)
        have S9 := PairRow.mono (B' := wr.heap.size) ((((((hs8.set_other (p := ⟨wr.heap.size, 0, none⟩) (.int .i64 cp.m) ns9).set_other (p := ⟨wr.heap.size, 1, none⟩) (.int .i64 cp.pc) ns9).set_other (p := ⟨wr.heap.size, 2, none⟩) (.slice at8 cp.temps.length kt8) ns9).set_other (p := ⟨wr.heap.size, 3, none⟩) (.slice as8 cp.stack.length ks8) ns9).set_other (p := ⟨wr.heap.size, 4, none⟩) (.int .i64 cp.sender) ns9).set_other (p := ⟨wr.heap.size, 5, none⟩) (.bool cp.dead) ns9) (by omega)
        clear m0 m1 m2 m3 m4 m5 e0 e1 e2 e3 e4 e5 r8 zZ
        generalize ((((((w8.setCell ⟨wr.heap.size, 0, none⟩ (.int .i64 cp.m)).setCell ⟨wr.heap.size, 1, none⟩ (.int .i64 cp.pc)).setCell ⟨wr.heap.size, 2, none⟩ (.slice at8 cp.temps.length kt8)).setCell ⟨wr.heap.size, 3, none⟩ (.slice as8 cp.stack.length ks8)).setCell ⟨wr.heap.size, 4, none⟩ (.int .i64 cp.sender)).setCell ⟨wr.heap.size, 5, none⟩ (.bool cp.dead)) = w9 at *
        clear ht8 hs8 hb8 hb8A ctA csA ctB csB nA nB rB zB HS8
        have hcb : wr.heap.size ≤ wr.heap.size := Nat.le_refl _
        generalize hcbe : wr.heap.size = cb at r9 nt9 ns9 hcb ⊢
        have hcb : wr.heap.size ≤ cb := by omega
        clear hcbe
        have hf9 := hf.below B9
        have z9 := B9.size
        have y9 := r9.lt
        have nf9 : (Value.slice (some ⟨g1, o1, none⟩) F.length c2).ownBlock ≠ some cb := fun e => by have := (hf.lt _ e).2; omega
        obtain ⟨⟨x0, x1, x2, x3, x4, x5⟩, xf⟩ := six_cells r9
        clear xf
        go_upto_region 8 with (go_at_call 52; refine (l11Names_any _ _ _ cp.temps F _ T9.at hf9 hlen.1).mono ?_; rintro e w10 ⟨v10, rfl, p10, hb10⟩; obtain ⟨aA, kA, hvA, _⟩ := p10.slice; rw [List.length_map] at hvA; subst hvA; have r10 := row_below hb10 r9; obtain ⟨⟨y0, y1, y2, y3, y4, y5⟩, e0, e1, e2, e3, e4, e5⟩ := six_cells r10)
        have nA : (Value.slice aA cp.temps.length kA).ownBlock ≠ some cb := fun e => by have := (p10.lt _ e).1; omega
        have r11 := six_set2 r10 (.slice aA cp.temps.length kA)
        have P11 := p10.set_other (p := ⟨cb, 2, none⟩) (.slice aA cp.temps.length kA) nA
        have S11 := (S9.below hb10).set_other (p := ⟨cb, 2, none⟩) (.slice aA cp.temps.length kA) ns9
        have f11 := (hf9.below hb10).set_other (p := ⟨cb, 2, none⟩) (.slice aA cp.temps.length kA) nf9
        have B11 := (B9.trans (hb10.mono z9)).setCell (p := ⟨cb, 2, none⟩) hcb (.slice aA cp.temps.length kA)
        have z11 : w9.heap.size ≤ (w10.setCell ⟨cb, 2, none⟩ (.slice aA cp.temps.length kA)).heap.size := by simp [World.setCell]; exact hb10.size
        generalize w10.setCell ⟨cb, 2, none⟩ (.slice aA cp.temps.length kA) = w11 at *
        clear r10 hb10 hf9 S9 T9 r9 p10 x0 x1 x2 x3 x4 x5 y0 y1 y2 y3 y4 y5 e0 e1 e2 e3 e4 e5
        obtain ⟨⟨x0, x1, x2, x3, x4, x5⟩, xf⟩ := six_cells r11
        clear xf
        go_upto_region 9 with (go_at_call 52; refine (l11Names_any _ _ _ cp.stack F _ S11.at f11 hlen.2).mono ?_; rintro e w12 ⟨v12, rfl, p12, hb12⟩; obtain ⟨aB, kB, hvB, _⟩ := p12.slice; rw [List.length_map] at hvB; subst hvB; have r12 := row_below hb12 r11; obtain ⟨⟨y0, y1, y2, y3, y4, y5⟩, e0, e1, e2, e3, e4, e5⟩ := six_cells r12)
        have nB : (Value.slice aB cp.stack.length kB).ownBlock ≠ some cb := fun e => by have := (p12.lt _ e).1; omega
        have r13 := six_set3 r12 (.slice aB cp.stack.length kB)
        have P13 := ((P11.below hb12).set_other (p := ⟨cb, 3, none⟩) (.slice aB cp.stack.length kB) nA).mono z9
        have Q13 := (p12.set_other (p := ⟨cb, 3, none⟩) (.slice aB cp.stack.length kB) nB).mono (B' := wr.heap.size) (by omega)
        have f13 := (f11.below hb12).set_other (p := ⟨cb, 3, none⟩) (.slice aB cp.stack.length kB) nf9
        have B13 := (B11.trans (hb12.mono B11.size)).setCell (p := ⟨cb, 3, none⟩) hcb (.slice aB cp.stack.length kB)
        generalize w12.setCell ⟨cb, 3, none⟩ (.slice aB cp.stack.length kB) = w13 at *
        clear r12 hb12 S11 r11 p12 P11 f11 x0 x1 x2 x3 x4 x5 y0 y1 y2 y3 y4 y5 e0 e1 e2 e3 e4 e5
        obtain ⟨⟨x0, x1, x2, x3, x4, x5⟩, e0, e1, e2, e3, e4, e5⟩ := six_cells r13
        by_cases hsn : 0 ≤ cp.sender
        · go_upto_region 11 with (go_at_call 53; refine (l11Has_any _ _ F _ _ f13).mono ?_; rintro e w' ⟨rfl, hw⟩; obtain rfl := hw.symm)
          have r14 := six_set4 r13 (.int .i64 (numOf F cp.sender))
          have P14 := P13.set_other (p := ⟨cb, 4, none⟩) (.int .i64 (numOf F cp.sender)) nA
          have Q14 := Q13.set_other (p := ⟨cb, 4, none⟩) (.int .i64 (numOf F cp.sender)) nB
          have B14 := B13.setCell (p := ⟨cb, 4, none⟩) hcb (.int .i64 (numOf F cp.sender))
          generalize w13.setCell ⟨cb, 4, none⟩ (.int .i64 (numOf F cp.sender)) = w14 at *
          clear r13 P13 Q13 f13 B13 x0 x1 x2 x3 x4 x5 e0 e1 e2 e3 e4 e5
          have N15 := (Below.refl w14.heap.size w14).alloc (Nat.le_refl _) (.cells #[.int .i64 cp.m, .int .i64 cp.pc, .slice aA cp.temps.length kA, .slice aB cp.stack.length kB, .int .i64 (numOf F cp.sender), .bool cp.dead] 34)
          have s15 := six_new w14 34 (.int .i64 cp.m) (.int .i64 cp.pc) (.slice aA cp.temps.length kA) (.slice aB cp.stack.length kB) (.int .i64 (numOf F cp.sender)) (.bool cp.dead)
          have B15 := B14.trans (N15.mono B14.size)
          have hrow15 := hrow.below B15
          have P15 := P14.below N15
          have Q15 := Q14.below N15
          have z15 := B15.size
          obtain ⟨⟨x0, x1, x2, x3, x4, x5⟩, xf⟩ := six_cells r14
          clear xf
          have hLb : L.length ≤ 900000 := by rw [HLL.out]; omega
          go_wp2_with (at_builtin; refine append_call _ (by rfl) _ _ (by rfl) (w.heap.size + 1) _ L (viewC F cp, .slice aA cp.temps.length kA, .slice aB cp.stack.length kB) (by rfl) w14.heap.size 1 (by rfl) hrow15 rfl rfl (cells6_of s15) hLb (by omega) ?_; intro v16 w16 hrow16 hg16 hbk16)
          have hz16 := hg16.size
          have B16 : Below w.heap.size w w16 := (hb.trans (B15.mono hbz)).grown hg16 (by omega) (fun q e => by have := (hrow15.lt q e).1; omega)
          have hbl : ∀ q, q < wr.heap.size → (Value.slice ao L.length co).ownBlock ≠ some q → w16.heap[q]? = wr.heap[q]? := fun q h1 h2 => (hg16.block q (by omega) (fun e => h2 e.symm)).trans (B15.block q h1)
          have hf16 : IntRow W1.heap.size w16 (.slice (some ⟨g1, o1, none⟩) F.length c2) (nums F) := hf.kept (by omega) fun q e => hbl q (hf.lt q e).2 (fun e2 => HNF.out q e2 e)
          have hbx16 := hbx.of_block (hbl w.heap.size hbx.lt (fun e => by have := (hrow.lt _ e).1; omega))
          have hvn : ∀ q, v16.ownBlock = some q → (Value.slice ao L.length co).ownBlock = some q ∨ q = (w14.alloc (.cells #[.int .i64 cp.m, .int .i64 cp.pc, .slice aA cp.temps.length kA, .slice aB cp.stack.length kB, .int .i64 (numOf F cp.sender), .bool cp.dead] 34)).heap.size := fun q e => by
            rcases hbk16 with h1 | h1
            · exact .inl (by rw [← h1]; exact e)
            · exact .inr (by rw [h1] at e; simpa using e.symm)
          have hz15 : (w14.alloc (.cells #[.int .i64 cp.m, .int .i64 cp.pc, .slice aA cp.temps.length kA, .slice aB cp.stack.length kB, .int .i64 (numOf F cp.sender), .bool cp.dead] 34)).heap.size = w14.heap.size + 1 := by simp
          have hz14 := B14.size
          have hnf16 : ∀ q, v16.ownBlock = some q → (Value.slice (some ⟨g1, o1, none⟩) F.length c2).ownBlock ≠ some q := fun q e e2 => by
            rcases hvn q e with h1 | h1
            · exact HNF.out q h1 e2
            · have := (hf.lt q e2).2; omega
          have P16 : PairRow wr.heap.size w16 (.slice aA cp.temps.length kA) (cp.temps.map (ren F)) := P15.kept (by omega) fun q e => hg16.block q (by have := (P15.lt q e).2; omega) (fun e2 => by have h1 := (P15.lt q e).1; have h2 := (hrow.lt q e2.symm).2; omega)
          have Q16 : PairRow wr.heap.size w16 (.slice aB cp.stack.length kB) (cp.stack.map (ren F)) := Q15.kept (by omega) fun q e => hg16.block q (by have := (Q15.lt q e).2; omega) (fun e2 => by have h1 := (Q15.lt q e).1; have h2 := (hrow.lt q e2.symm).2; omega)
          have hls16 : Hid (∀ j, (hj : j < (L ++ [(viewC F cp, Value.slice aA cp.temps.length kA, Value.slice aB cp.stack.length kB)]).length) → PairRow (w.heap.size + 1) w16 (L ++ [(viewC F cp, Value.slice aA cp.temps.length kA, Value.slice aB cp.stack.length kB)])[j].2.1 (L ++ [(viewC F cp, Value.slice aA cp.temps.length kA, Value.slice aB cp.stack.length kB)])[j].1.temps ∧ PairRow (w.heap.size + 1) w16 (L ++ [(viewC F cp, Value.slice aA cp.temps.length kA, Value.slice aB cp.stack.length kB)])[j].2.2 (L ++ [(viewC F cp, Value.slice aA cp.temps.length kA, Value.slice aB cp.stack.length kB)])[j].1.stack) := fun j hj => by
            by_cases e : j < L.length
            · rw [List.getElem_append_left e]
              obtain ⟨p1, p2⟩ := HLS.out j e
              exact ⟨p1.kept (by omega) fun q h1 => hbl q (p1.lt q h1).2 (fun e2 => (HAP.out j e q e2).1 h1), p2.kept (by omega) fun q h1 => hbl q (p2.lt q h1).2 (fun e2 => (HAP.out j e q e2).2 h1)⟩
            · rw [List.getElem_append_right (by omega)]
              simp only [List.getElem_singleton]
              exact ⟨P16.mono (by omega), Q16.mono (by omega)⟩
          have hap16 : Hid (∀ j, (hj : j < (L ++ [(viewC F cp, Value.slice aA cp.temps.length kA, Value.slice aB cp.stack.length kB)]).length) → ∀ q, v16.ownBlock = some q → (L ++ [(viewC F cp, Value.slice aA cp.temps.length kA, Value.slice aB cp.stack.length kB)])[j].2.1.ownBlock ≠ some q ∧ (L ++ [(viewC F cp, Value.slice aA cp.temps.length kA, Value.slice aB cp.stack.length kB)])[j].2.2.ownBlock ≠ some q) := fun j hj q hq => by
            by_cases e : j < L.length
            · rw [List.getElem_append_left e]
              obtain ⟨p1, p2⟩ := HLS.out j e
              rcases hvn q hq with h1 | h1
              · exact HAP.out j e q h1
              · exact ⟨fun e2 => by have := (p1.lt q e2).2; omega, fun e2 => by have := (p2.lt q e2).2; omega⟩
            · rw [List.getElem_append_right (by omega)]
              simp only [List.getElem_singleton]
              rcases hvn q hq with h1 | h1
              · have h2 := (hrow.lt q h1).2
                exact ⟨fun e2 => by have := (P14.lt q e2).1; omega, fun e2 => by have := (Q14.lt q e2).1; omega⟩
              · exact ⟨fun e2 => by have := (P14.lt q e2).2; omega, fun e2 => by have := (Q14.lt q e2).2; omega⟩
          have hmap16 : Hid ((L ++ [(viewC F cp, Value.slice aA cp.temps.length kA, Value.slice aB cp.stack.length kB)]).map (·.1) = (F.take (k + 1)).map (fun p => viewC F (h.calls.getD p Cl.none))) := by
            show _ = _
            rw [List.map_append, HMAP.out, ← HMT]
            rfl
          clear hbl hg16 hbk16 hvn hrow15 s15 x0 x1 x2 x3 x4 x5 r14 P14 Q14 P15 Q15 P16 Q16 HLS HAP HNF HMAP HMT
          go_wp2
          go_roundg (F.length - (k + 1))
          case measure => omega
          case rel => exact ⟨k + 1, _, by omega, rfl, by go_num, hmap16.out, hrow16, hls16.out, hap16.out, hf16, hnf16, B16, hbx16⟩
        · have hsm : cp.sender = -1 := by omega
          have hnm : numOf F cp.sender = -1 := numOf_none (fun i hi e => by omega)
          go_upto_region 11 with fail
          have r14 : w13.rowIs cb 34 6 (six (.int .i64 cp.m) (.int .i64 cp.pc) (.slice aA cp.temps.length kA) (.slice aB cp.stack.length kB) (.int .i64 (numOf F cp.sender)) (.bool cp.dead)) := by rw [hnm, ← hsm]; exact r13
          have P14 := P13
          have Q14 := Q13
          have B14 := B13
          clear r13 P13 Q13 f13 B13 x0 x1 x2 x3 x4 x5 e0 e1 e2 e3 e4 e5 hsn hsm hnm
          generalize w13 = w14 at *
          have N15 := (Below.refl w14.heap.size w14).alloc (Nat.le_refl _) (.cells #[.int .i64 cp.m, .int .i64 cp.pc, .slice aA cp.temps.length kA, .slice aB cp.stack.length kB, .int .i64 (numOf F cp.sender), .bool cp.dead] 34)
          have s15 := six_new w14 34 (.int .i64 cp.m) (.int .i64 cp.pc) (.slice aA cp.temps.length kA) (.slice aB cp.stack.length kB) (.int .i64 (numOf F cp.sender)) (.bool cp.dead)
          have B15 := B14.trans (N15.mono B14.size)
          have hrow15 := hrow.below B15
          have P15 := P14.below N15
          have Q15 := Q14.below N15
          have z15 := B15.size
          obtain ⟨⟨x0, x1, x2, x3, x4, x5⟩, xf⟩ := six_cells r14
          clear xf
          have hLb : L.length ≤ 900000 := by rw [HLL.out]; omega
          go_wp2_with (at_builtin; refine append_call _ (by rfl) _ _ (by rfl) (w.heap.size + 1) _ L (viewC F cp, .slice aA cp.temps.length kA, .slice aB cp.stack.length kB) (by rfl) w14.heap.size 1 (by rfl) hrow15 rfl rfl (cells6_of s15) hLb (by omega) ?_; intro v16 w16 hrow16 hg16 hbk16)
          have hz16 := hg16.size
          have B16 : Below w.heap.size w w16 := (hb.trans (B15.mono hbz)).grown hg16 (by omega) (fun q e => by have := (hrow15.lt q e).1; omega)
          have hbl : ∀ q, q < wr.heap.size → (Value.slice ao L.length co).ownBlock ≠ some q → w16.heap[q]? = wr.heap[q]? := fun q h1 h2 => (hg16.block q (by omega) (fun e => h2 e.symm)).trans (B15.block q h1)
          have hf16 : IntRow W1.heap.size w16 (.slice (some ⟨g1, o1, none⟩) F.length c2) (nums F) := hf.kept (by omega) fun q e => hbl q (hf.lt q e).2 (fun e2 => HNF.out q e2 e)
          have hbx16 := hbx.of_block (hbl w.heap.size hbx.lt (fun e => by have := (hrow.lt _ e).1; omega))
          have hvn : ∀ q, v16.ownBlock = some q → (Value.slice ao L.length co).ownBlock = some q ∨ q = (w14.alloc (.cells #[.int .i64 cp.m, .int .i64 cp.pc, .slice aA cp.temps.length kA, .slice aB cp.stack.length kB, .int .i64 (numOf F cp.sender), .bool cp.dead] 34)).heap.size := fun q e => by
            rcases hbk16 with h1 | h1
            · exact .inl (by rw [← h1]; exact e)
            · exact .inr (by rw [h1] at e; simpa using e.symm)
          have hz15 : (w14.alloc (.cells #[.int .i64 cp.m, .int .i64 cp.pc, .slice aA cp.temps.length kA, .slice aB cp.stack.length kB, .int .i64 (numOf F cp.sender), .bool cp.dead] 34)).heap.size = w14.heap.size + 1 := by simp
          have hz14 := B14.size
          have hnf16 : ∀ q, v16.ownBlock = some q → (Value.slice (some ⟨g1, o1, none⟩) F.length c2).ownBlock ≠ some q := fun q e e2 => by
            rcases hvn q e with h1 | h1
            · exact HNF.out q h1 e2
            · have := (hf.lt q e2).2; omega
          have P16 : PairRow wr.heap.size w16 (.slice aA cp.temps.length kA) (cp.temps.map (ren F)) := P15.kept (by omega) fun q e => hg16.block q (by have := (P15.lt q e).2; omega) (fun e2 => by have h1 := (P15.lt q e).1; have h2 := (hrow.lt q e2.symm).2; omega)
          have Q16 : PairRow wr.heap.size w16 (.slice aB cp.stack.length kB) (cp.stack.map (ren F)) := Q15.kept (by omega) fun q e => hg16.block q (by have := (Q15.lt q e).2; omega) (fun e2 => by have h1 := (Q15.lt q e).1; have h2 := (hrow.lt q e2.symm).2; omega)
          have hls16 : Hid (∀ j, (hj : j < (L ++ [(viewC F cp, Value.slice aA cp.temps.length kA, Value.slice aB cp.stack.length kB)]).length) → PairRow (w.heap.size + 1) w16 (L ++ [(viewC F cp, Value.slice aA cp.temps.length kA, Value.slice aB cp.stack.length kB)])[j].2.1 (L ++ [(viewC F cp, Value.slice aA cp.temps.length kA, Value.slice aB cp.stack.length kB)])[j].1.temps ∧ PairRow (w.heap.size + 1) w16 (L ++ [(viewC F cp, Value.slice aA cp.temps.length kA, Value.slice aB cp.stack.length kB)])[j].2.2 (L ++ [(viewC F cp, Value.slice aA cp.temps.length kA, Value.slice aB cp.stack.length kB)])[j].1.stack) := fun j hj => by
            by_cases e : j < L.length
            · rw [List.getElem_append_left e]
              obtain ⟨p1, p2⟩ := HLS.out j e
              exact ⟨p1.kept (by omega) fun q h1 => hbl q (p1.lt q h1).2 (fun e2 => (HAP.out j e q e2).1 h1), p2.kept (by omega) fun q h1 => hbl q (p2.lt q h1).2 (fun e2 => (HAP.out j e q e2).2 h1)⟩
            · rw [List.getElem_append_right (by omega)]
              simp only [List.getElem_singleton]
              exact ⟨P16.mono (by omega), Q16.mono (by omega)⟩
          have hap16 : Hid (∀ j, (hj : j < (L ++ [(viewC F cp, Value.slice aA cp.temps.length kA, Value.slice aB cp.stack.length kB)]).length) → ∀ q, v16.ownBlock = some q → (L ++ [(viewC F cp, Value.slice aA cp.temps.length kA, Value.slice aB cp.stack.length kB)])[j].2.1.ownBlock ≠ some q ∧ (L ++ [(viewC F cp, Value.slice aA cp.temps.length kA, Value.slice aB cp.stack.length kB)])[j].2.2.ownBlock ≠ some q) := fun j hj q hq => by
            by_cases e : j < L.length
            · rw [List.getElem_append_left e]
              obtain ⟨p1, p2⟩ := HLS.out j e
              rcases hvn q hq with h1 | h1
              · exact HAP.out j e q h1
              · exact ⟨fun e2 => by have := (p1.lt q e2).2; omega, fun e2 => by have := (p2.lt q e2).2; omega⟩
            · rw [List.getElem_append_right (by omega)]
              simp only [List.getElem_singleton]
              rcases hvn q hq with h1 | h1
              · have h2 := (hrow.lt q h1).2
                exact ⟨fun e2 => by have := (P14.lt q e2).1; omega, fun e2 => by have := (Q14.lt q e2).1; omega⟩
              · exact ⟨fun e2 => by have := (P14.lt q e2).2; omega, fun e2 => by have := (Q14.lt q e2).2; omega⟩
          have hmap16 : Hid ((L ++ [(viewC F cp, Value.slice aA cp.temps.length kA, Value.slice aB cp.stack.length kB)]).map (·.1) = (F.take (k + 1)).map (fun p => viewC F (h.calls.getD p Cl.none))) := by
            show _ = _
            rw [List.map_append, HMAP.out, ← HMT]
            rfl
          clear hbl hg16 hbk16 hvn hrow15 s15 x0 x1 x2 x3 x4 x5 r14 P14 Q14 P15 Q15 P16 Q16 HLS HAP HNF HMAP HMT
          go_wp2
          go_roundg (F.length - (k + 1))
          case measure => omega
          case rel => exact ⟨k + 1, _, by omega, rfl, by go_num, hmap16.out, hrow16, hls16.out, hap16.out, hf16, hnf16, B16, hbx16⟩
    · obtain rfl : k = F.length := by omega
      have hv : CallsFrom w.heap.size wr (.slice ao L.length co) (viewL h) := fun w' hz hk => by
        have hv := (hrow.kept hz (fun g e => hk g (by have := (hrow.lt g e).1; omega) (hrow.lt g e).2)).at (fun j hj => ⟨((HLS.out j hj).1.kept hz (fun g e => hk g (by have := ((HLS.out j hj).1.lt g e).1; omega) ((HLS.out j hj).1.lt g e).2)).at, ((HLS.out j hj).2.kept hz (fun g e => hk g (by have := ((HLS.out j hj).2.lt g e).1; omega) ((HLS.out j hj).2.lt g e).2)).at⟩)
        rw [HMAP.out, List.take_length, ← HV.out] at hv
        exact hv
      go_wp2
      go_ret
      exact ⟨_, rfl, hv, hb⟩

end Go.Proofs.Ytleodeffmfkfkaa

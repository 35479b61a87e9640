/-
  What is seen of a heap, by the model: l11Has, l11Refs, l11Found, l11Names, l11Copy.
-/
import Derived.Test.YtfpodljalccpnaaViewAgain
import Derived.Test.YtfpodljalccpnaaVals
import Derived.Deep.RegionHeld3

namespace Go.Proofs.Ytfpodljalccpnaa
open Go.RowKit
theorem nums_at (l : List Nat) (i : Nat) (h : i < (nums l).length) : (nums l)[i] = ((l[i]'(by simpa [nums] using h) : Nat) : Int) := by simp [nums]
set_option maxRecDepth 100000 in
set_option maxHeartbeats 1000000 in
theorem l11Has_any (B : Nat) (v : Value) (ps : List Nat) (p : Int) (w : World) (h : IntRow B w v (nums ps)) :
    Calls Try.prog 42 #[v, .int .i64 p] w fun e w' => e = .returned (.int .i64 (numOf ps p)) ∧ w' = w := by
  obtain ⟨a, c, rfl, hl⟩ := h.slice
  rw [nums_len] at h hl ⊢
  unfold maxLen at hl
  go_enter Try.func42, Try.ntmps42
  go_wp2
  go_loopg [5] ps.length (fun g i wr => ∃ k : Nat, k ≤ ps.length ∧ g = ps.length - k ∧ i = .int .i64 k ∧ wr = w ∧ ∀ j, (hj : j < ps.length) → j < k → (ps[j] : Int) ≠ p)
  case atStart => exact ⟨0, Nat.zero_le _, rfl, rfl, rfl, fun j _ hj => absurd hj (Nat.not_lt_zero _)⟩
  case round =>
    obtain ⟨k, hk, rfl, rfl, hw, hne⟩ := hrel
    subst hw
    by_cases hlt : k < ps.length
    · obtain ⟨g1, o1, c1, e1, _⟩ := h.form (by rw [nums_len]; omega)
      obtain rfl : a = some ⟨g1, o1, none⟩ := by injection e1
      clear e1
      have d1 := (h.cell (i := k) (by rw [nums_len]; exact hlt)).1
      rw [nums_at] at d1
      have hkz : (k : Int) < (ps.length : Int) := by omega
      by_cases he : (ps[k] : Int) = p
      · have hN : Hid (numOf ps p = (k : Int)) := numOf_first hlt he (fun j hj => hne j (by omega) hj)
        clear hne
        go_wp2
        go_ret
        exact ⟨by rw [hN.out]; rfl, rfl⟩
      · have HNE : Hid (∀ j, (hj : j < ps.length) → j < k → (ps[j] : Int) ≠ p) := hne
        clear hne
        go_wp2
        go_roundg (ps.length - (k + 1))
        case measure => omega
        case rel => exact ⟨k + 1, by omega, rfl, by go_num, rfl, fun j hj hjk => by
            by_cases e : j = k
            · subst e; exact he
            · exact HNE.out j hj (by omega)⟩
    · obtain rfl : k = ps.length := by omega
      have hN : Hid (numOf ps p = -1) := numOf_none (fun j hj => hne j hj hj)
      clear hne
      go_wp2
      go_ret
      exact ⟨by rw [hN.out]; rfl, rfl⟩
def refsV (vs : List (Int × Int)) : List Int := (vs.filter fun v => v.1 == 2).map (·.2)
def refsC (c : Cl) : List Int := (if 0 ≤ c.sender then [c.sender] else []) ++ refsV (c.temps ++ c.stack)
theorem refsV_step {vs : List (Int × Int)} {k : Nat} (h : k < vs.length) : refsV (vs.take (k + 1)) = if vs[k].1 = 2 then refsV (vs.take k) ++ [vs[k].2] else refsV (vs.take k) := by
  unfold refsV
  rw [List.take_add_one, List.getElem?_eq_getElem h, List.filter_append, List.map_append]
  by_cases e : vs[k].1 = 2
  · simp [e]
  · simp [e]
theorem refsV_len : ∀ (vs : List (Int × Int)), (refsV vs).length ≤ vs.length := fun vs => by
  unfold refsV
  rw [List.length_map]
  exact List.length_filter_le _ _
theorem come_refsV (n : Nat) : ∀ (vs : List (Int × Int)) (ps : List Nat), (refsV vs).foldl (comeP n) ps = comeV n ps vs
  | [], _ => rfl
  | v :: r, ps => by
    have ih := come_refsV n r
    unfold refsV comeV at *
    by_cases e : v.1 = 2
    · simp [e, ih]
    · simp [e, ih]
theorem come_refsC (n : Nat) (ps : List Nat) (c : Cl) : (refsC c).foldl (comeP n) ps = comeC n ps c := by
  unfold refsC comeC
  rw [List.foldl_append, come_refsV, comeV_append]
  by_cases e : 0 ≤ c.sender
  · rw [if_pos e]; rfl
  · rw [if_neg e, comeP_out (p := c.sender) (by omega)]; rfl
theorem append_i {ops : Array Oper} {rest : List Oper} {o : Oper} {act : Act} {Q : Exit → Act → World → Prop} (w : World) (hgd : o.guard = none) (s x : Operand)
    (ho : o.op = .call { callee := .builtin .append, args := #[s, x], argTypes := #[56, 56] }) (B : Nat) (v : Value) (L : List Int) (hs : act.eval s = v) (hown : IntRow B w v L) (k : Int) (H c : Nat) (hH : w.heap.size = H)
    (hx : act.eval x = .slice (some ⟨H, 0, none⟩) 1 c) (hL : L.length ≤ 900000) (hB : B ≤ H)
    (h : ∀ g off cap w', IntRow B w' (.slice (some ⟨g, off, none⟩) (L.length + 1) cap) (L ++ [k]) → w.grownBy w' v.ownBlock → (v.ownBlock = some g ∨ H ≤ g) → g < w'.heap.size →
      wpList Try.prog ops Q rest (act.put o.dst (.slice (some ⟨g, off, none⟩) (L.length + 1) cap)) w') :
    wpList Try.prog ops Q (o :: rest) act (w.alloc (.cells #[.int .i64 k] 3)) := by
  obtain ⟨i0, hi, hz0, hz1, hz2⟩ := info_parts Try.infoInt2
  exact append_int Try.underlying56 hi hz0 hz1 hz2 w hgd s x ho v L hs hown k H c hH hx hL hB h
set_option maxRecDepth 100000 in
set_option maxHeartbeats 2000000 in
theorem l11Refs_any (vt vs : Value) (c : Cl) (w : World) (ht : OpsAt w vt c.temps) (hs : OpsAt w vs c.stack) (hb : c.temps.length ≤ 1000 ∧ c.stack.length ≤ 1000) :
    Calls Try.prog 57 #[.agg (clCells vt vs c)] w fun e w' => ∃ v, e = .returned v ∧ IntRow w.heap.size w' v (refsC c) ∧ Below w.heap.size w w' := by
  obtain ⟨at', ct', hvt⟩ := ht.shape
  obtain ⟨as', cs', hvs⟩ := hs.shape
  subst hvt hvs
  unfold clCells
  have hA : Below w.heap.size w ((w.alloc (.cells #[.int .i64 c.m, .int .i64 c.pc, .slice at' c.temps.length ct', .slice as' c.stack.length cs', .int .i64 c.sender, .bool c.dead] 52)).alloc (.cells #[] 3)) := ((Below.refl _ _).alloc (Nat.le_refl _) _).alloc (by simp) _
  have bx := (six_new w 52 (.int .i64 c.m) (.int .i64 c.pc) (.slice at' c.temps.length ct') (.slice as' c.stack.length cs') (.int .i64 c.sender) (.bool c.dead)).alloc (.cells #[] 3)
  have mk := (int_made (w.alloc (.cells #[.int .i64 c.m, .int .i64 c.pc, .slice at' c.temps.length ct', .slice as' c.stack.length cs', .int .i64 c.sender, .bool c.dead] 52))).mono (B' := w.heap.size + 1) (by simp)
  simp only [World.size_alloc] at mk
  go_enter Try.func57, Try.ntmps57
  go_upto_region 2 with fail
  generalize (w.alloc (.cells #[.int .i64 c.m, .int .i64 c.pc, .slice at' c.temps.length ct', .slice as' c.stack.length cs', .int .i64 c.sender, .bool c.dead] 52)).alloc (.cells #[] 3) = W1 at *
  obtain ⟨⟨x0, x1, x2, x3, x4, x5⟩, xf⟩ := six_cells bx
  clear xf
  have zA := hA.size
  have yA := bx.lt
  obtain ⟨hb1, hb2⟩ := hb
  have HR : Hid (∀ L0, L0 = (if 0 ≤ c.sender then [c.sender] else []) → refsC c = L0 ++ refsV (c.temps ++ c.stack)) := fun L0 e => by rw [e]; rfl
  obtain ⟨L0, hL0⟩ : ∃ L0, L0 = (if 0 ≤ c.sender then [c.sender] else []) := ⟨_, rfl⟩
  have hRL := HR.out L0 hL0
  have hl1 : L0.length ≤ 1 := by rw [hL0]; split <;> simp
  by_cases hsd : 0 ≤ c.sender
  · rw [if_pos hsd] at hL0
    go_upto_region 4 with (at_builtin; refine append_i _ (by rfl) _ _ (by rfl) (w.heap.size + 1) _ [] (by rfl) mk c.sender _ _ rfl (by rfl) (by simp) (by omega) ?_; intro g2 o2 c2 w2 hrow2 hg2 hb2 hlt2)
    have hg2' : W1.grownBy w2 (some (w.heap.size + 1)) := hg2
    have B2 : Below w.heap.size w w2 := hA.grown hg2' zA (fun q e => by cases e; omega)
    have bx2 := bx.of_block (hg2'.block w.heap.size yA (by simp))
    have hV2 : IntRow (w.heap.size + 1) w2 (.slice (some ⟨g2, o2, none⟩) (0 + 1) c2) L0 := by rw [hL0]; exact hrow2
    have Z2 : Hid (W1.heap.size ≤ w2.heap.size) := hg2.size
    clear hg2 hg2' hrow2 hb2 hlt2 mk hA bx x0 x1 x2 x3 x4 x5
    have hz2 : W1.heap.size ≤ w2.heap.size := Z2.out
    generalize Value.slice (some ⟨g2, o2, none⟩) (([] : List Int).length + 1) c2 = vo at *
    clear hL0
    have z2 := B2.size
    have y2 := bx2.lt
    obtain ⟨⟨x0, x1, x2, x3, x4, x5⟩, xf⟩ := six_cells bx2
    clear xf
    have N2 : Below w2.heap.size w2 (w2.alloc (.cells #[] 45)).drew := ((Below.refl w2.heap.size w2).alloc (Nat.le_refl _) (.cells #[] 45)).drew
    have mk2 : PairRow w2.heap.size (w2.alloc (.cells #[] 45)).drew (.slice (some ⟨w2.heap.size, 0, none⟩) 0 0) [] := (PairRow.made (B := w2.heap.size) (w := w2) (e := 45) (Nat.le_refl _)).below (Below.refl _ _).drew
    have ht2 := (ht.below B2).below N2
    have hs2 := (hs.below B2).below N2
    have q2N := cell_below N2 x2
    have q3N := cell_below N2 x3
    go_wp2_with fail
    go_region_held3 (fun w' => w'.cell? ⟨w.heap.size, 2, none⟩ = some (.slice at' c.temps.length ct') ∧ w'.cell? ⟨w.heap.size, 3, none⟩ = some (.slice as' c.stack.length cs'))
      (first | exact ⟨q2B, q3B⟩ | exact ⟨q2A, q3A⟩ | go_keep)
      ((first
        | (have hx := hgA; clear hx; refine step_vals _ (by rfl) _ _ (by rfl) w2.heap.size _ _ c.temps c.stack (by rfl) (by rfl) hrowA hsA (by omega) hzA ?_; intro vB wB hrowB hgB hbB; have q2B := hgB.cell q2A (fun e => by have := (hrowA.lt _ e.symm).1; dsimp only at this; omega); have q3B := hgB.cell q3A (fun e => by have := (hrowA.lt _ e.symm).1; dsimp only at this; omega))
        | (refine step_vals _ (by rfl) _ _ (by rfl) w2.heap.size _ _ [] c.temps (by rfl) (by rfl) mk2 ht2 (by simp; omega) N2.size ?_; intro vA wA hrowA hgA hbA; rw [List.nil_append] at hrowA; have hzA := Nat.le_trans N2.size hgA.size; have q2A := hgA.cell q2N (fun e => by have := (mk2.lt _ e.symm).1; dsimp only at this; omega); have q3A := hgA.cell q3N (fun e => by have := (mk2.lt _ e.symm).1; dsimp only at this; omega); have hsA := (hs.below B2).below (N2.grown hgA N2.size (fun q e => (mk2.lt _ e).1)))))
    have hzB : w2.heap.size ≤ wB.heap.size := Nat.le_trans hzA hgB.size
    have BB : Below w2.heap.size w2 wB := (N2.grown hgA N2.size (fun q e => (mk2.lt _ e).1)).grown hgB hzA (fun q e => (hrowA.lt _ e).1)
    have hVB := hV2.below BB
    have BB' : Below w.heap.size w wB := B2.trans (BB.mono z2)
    have hneB : ∀ g, vo.ownBlock = some g → vB.ownBlock ≠ some g := fun g e e2 => by have h1 := (hV2.lt g e).2; have h2 := (hrowB.lt g e2).1; omega
    have hlB : vB.ownBlock.isSome = true ∨ True := .inr trivial
    clear hlB hgB hbB hgA hbA hrowA q2A q3A q2B q3B hsA ht2 hs2 mk2 q2N q3N N2 x0 x1 x2 x3 x4 x5 hV2 BB bx2 B2
    obtain ⟨aB, cB, hvB, _⟩ := hrowB.slice
    subst hvB
    generalize hall : c.temps ++ c.stack = all at *
    have hal : all.length ≤ 2000 := by rw [← hall, List.length_append]; omega
    have HRL : Hid (refsC c = L0 ++ refsV all) := hRL
    clear hall hRL HR
    go_wp2
    go_loopg [3, 5] all.length (fun g o i wr => ∃ k : Nat, k ≤ all.length ∧ g = all.length - k ∧ i = .int .i64 k ∧ IntRow (w.heap.size + 1) wr o (L0 ++ refsV (all.take k)) ∧ PairRow w2.heap.size wr (.slice aB all.length cB) all ∧ (∀ q, o.ownBlock = some q → (Value.slice aB all.length cB).ownBlock ≠ some q) ∧ Below w.heap.size w wr ∧ w2.heap.size ≤ wr.heap.size)
    case atStart => exact ⟨0, Nat.zero_le _, rfl, rfl, by simpa [refsV] using hVB, hrowB, hneB, BB', hzB⟩
    case round =>
      obtain ⟨k, hk, rfl, rfl, hrow, hp, hne, hb, hzr⟩ := hrel
      have HNE := fun q => hne q
      clear hne
      by_cases hlt : k < all.length
      · obtain ⟨g1, o1, c1, e1, _⟩ := hp.form (by omega)
        obtain rfl : aB = some ⟨g1, o1, none⟩ := by injection e1
        clear e1
        obtain ⟨⟨d0, d1⟩, _, _⟩ := hp.cell hlt
        have hkz : (k : Int) < (all.length : Int) := by omega
        have hst := refsV_step hlt
        have hLk : (L0 ++ refsV (all.take k)).length ≤ 900000 := by rw [List.length_append]; have := refsV_len (all.take k); rw [List.length_take] at this; omega
        by_cases hkd : all[k].1 = 2
        · rw [if_pos hkd] at hst
          rw [hkd] at d0
          have HST : Hid (refsV (all.take (k + 1)) = refsV (all.take k) ++ [all[k].2]) := hst
          clear hst
          go_wp2_with (at_builtin; refine append_i _ (by rfl) _ _ (by rfl) (w.heap.size + 1) _ (L0 ++ refsV (all.take k)) (by rfl) hrow all[k].2 _ _ rfl (by rfl) hLk (by omega) ?_; intro g2 o2 c2 w2' hrow2 hg2 hb2 hlt2)
          have hb3 : Below w.heap.size w w2' := hb.grown hg2 hb.size (fun q e => by have := (hrow.lt q e).1; omega)
          have hp3 : PairRow w2.heap.size w2' (.slice (some ⟨g1, o1, none⟩) all.length cB) all := hp.kept hg2.size fun q e => hg2.block q (hp.lt q e).2 (fun e2 => HNE q e2.symm e)
          have hz3 := hg2.size
          have hne3 : ∀ q, (Value.slice (some ⟨g2, o2, none⟩) ((L0 ++ refsV (all.take k)).length + 1) c2).ownBlock = some q → (Value.slice (some ⟨g1, o1, none⟩) all.length cB).ownBlock ≠ some q := fun q e e2 => by
            simp [Value.ownBlock] at e
            subst e
            rcases hb2 with h2 | h2
            · exact HNE _ h2 e2
            · have := (hp.lt _ e2).2; omega
          have hr3 : IntRow (w.heap.size + 1) w2' (.slice (some ⟨g2, o2, none⟩) ((L0 ++ refsV (all.take k)).length + 1) c2) (L0 ++ refsV (all.take (k + 1))) := by rw [HST.out, ← List.append_assoc]; exact hrow2
          simp only [List.length_append] at hr3 hne3
          clear hg2 hb2 hrow2 hrow hp
          go_roundg (all.length - (k + 1))
          case measure => omega
          case rel => exact ⟨k + 1, by omega, rfl, by go_num, hr3, hp3, hne3, hb3, by omega⟩
        · rw [if_neg hkd] at hst
          have hr3 : Hid (IntRow (w.heap.size + 1) wr u3 (L0 ++ refsV (all.take (k + 1)))) := by rw [hst]; exact hrow
          clear hst
          go_wp2
          go_roundg (all.length - (k + 1))
          case measure => omega
          case rel => exact ⟨k + 1, by omega, rfl, by go_num, hr3.out, hp, HNE, hb, hzr⟩
      · obtain rfl : k = all.length := by omega
        rw [List.take_length] at hrow
        rw [← HRL.out] at hrow
        go_wp2
        go_ret
        exact ⟨_, rfl, hrow.mono (by omega), hb⟩
  · rw [if_neg hsd] at hL0
    go_upto_region 4 with fail
    have hV2 : IntRow (w.heap.size + 1) W1 (.slice (some ⟨w.heap.size + 1, 0, none⟩) 0 0) L0 := by rw [hL0]; exact mk
    have B2 := hA
    have bx2 := bx
    have hz2 : W1.heap.size ≤ W1.heap.size := Nat.le_refl _
    clear mk hA bx x0 x1 x2 x3 x4 x5
    generalize Value.slice (some ⟨w.heap.size + 1, 0, none⟩) 0 0 = vo at *
    obtain ⟨w2, hw2⟩ : ∃ w2, w2 = W1 := ⟨_, rfl⟩
    rw [← hw2] at hV2 B2 bx2 ⊢
    clear hL0
    have z2 := B2.size
    have y2 := bx2.lt
    obtain ⟨⟨x0, x1, x2, x3, x4, x5⟩, xf⟩ := six_cells bx2
    clear xf hw2 hz2
    have N2 : Below w2.heap.size w2 (w2.alloc (.cells #[] 45)).drew := ((Below.refl w2.heap.size w2).alloc (Nat.le_refl _) (.cells #[] 45)).drew
    have mk2 : PairRow w2.heap.size (w2.alloc (.cells #[] 45)).drew (.slice (some ⟨w2.heap.size, 0, none⟩) 0 0) [] := (PairRow.made (B := w2.heap.size) (w := w2) (e := 45) (Nat.le_refl _)).below (Below.refl _ _).drew
    have ht2 := (ht.below B2).below N2
    have hs2 := (hs.below B2).below N2
    have q2N := cell_below N2 x2
    have q3N := cell_below N2 x3
    go_wp2_with fail
    go_region_held3 (fun w' => w'.cell? ⟨w.heap.size, 2, none⟩ = some (.slice at' c.temps.length ct') ∧ w'.cell? ⟨w.heap.size, 3, none⟩ = some (.slice as' c.stack.length cs'))
      (first | exact ⟨q2B, q3B⟩ | exact ⟨q2A, q3A⟩ | go_keep)
      ((first
        | (have hx := hgA; clear hx; refine step_vals _ (by rfl) _ _ (by rfl) w2.heap.size _ _ c.temps c.stack (by rfl) (by rfl) hrowA hsA (by omega) hzA ?_; intro vB wB hrowB hgB hbB; have q2B := hgB.cell q2A (fun e => by have := (hrowA.lt _ e.symm).1; dsimp only at this; omega); have q3B := hgB.cell q3A (fun e => by have := (hrowA.lt _ e.symm).1; dsimp only at this; omega))
        | (refine step_vals _ (by rfl) _ _ (by rfl) w2.heap.size _ _ [] c.temps (by rfl) (by rfl) mk2 ht2 (by simp; omega) N2.size ?_; intro vA wA hrowA hgA hbA; rw [List.nil_append] at hrowA; have hzA := Nat.le_trans N2.size hgA.size; have q2A := hgA.cell q2N (fun e => by have := (mk2.lt _ e.symm).1; dsimp only at this; omega); have q3A := hgA.cell q3N (fun e => by have := (mk2.lt _ e.symm).1; dsimp only at this; omega); have hsA := (hs.below B2).below (N2.grown hgA N2.size (fun q e => (mk2.lt _ e).1)))))
    have hzB : w2.heap.size ≤ wB.heap.size := Nat.le_trans hzA hgB.size
    have BB : Below w2.heap.size w2 wB := (N2.grown hgA N2.size (fun q e => (mk2.lt _ e).1)).grown hgB hzA (fun q e => (hrowA.lt _ e).1)
    have hVB := hV2.below BB
    have BB' : Below w.heap.size w wB := B2.trans (BB.mono z2)
    have hneB : ∀ g, vo.ownBlock = some g → vB.ownBlock ≠ some g := fun g e e2 => by have h1 := (hV2.lt g e).2; have h2 := (hrowB.lt g e2).1; omega
    have hlB : vB.ownBlock.isSome = true ∨ True := .inr trivial
    clear hlB hgB hbB hgA hbA hrowA q2A q3A q2B q3B hsA ht2 hs2 mk2 q2N q3N N2 x0 x1 x2 x3 x4 x5 hV2 BB bx2 B2
    obtain ⟨aB, cB, hvB, _⟩ := hrowB.slice
    subst hvB
    generalize hall : c.temps ++ c.stack = all at *
    have hal : all.length ≤ 2000 := by rw [← hall, List.length_append]; omega
    have HRL : Hid (refsC c = L0 ++ refsV all) := hRL
    clear hall hRL HR
    go_wp2
    go_loopg [3, 5] all.length (fun g o i wr => ∃ k : Nat, k ≤ all.length ∧ g = all.length - k ∧ i = .int .i64 k ∧ IntRow (w.heap.size + 1) wr o (L0 ++ refsV (all.take k)) ∧ PairRow w2.heap.size wr (.slice aB all.length cB) all ∧ (∀ q, o.ownBlock = some q → (Value.slice aB all.length cB).ownBlock ≠ some q) ∧ Below w.heap.size w wr ∧ w2.heap.size ≤ wr.heap.size)
    case atStart => exact ⟨0, Nat.zero_le _, rfl, rfl, by simpa [refsV] using hVB, hrowB, hneB, BB', hzB⟩
    case round =>
      obtain ⟨k, hk, rfl, rfl, hrow, hp, hne, hb, hzr⟩ := hrel
      have HNE := fun q => hne q
      clear hne
      by_cases hlt : k < all.length
      · obtain ⟨g1, o1, c1, e1, _⟩ := hp.form (by omega)
        obtain rfl : aB = some ⟨g1, o1, none⟩ := by injection e1
        clear e1
        obtain ⟨⟨d0, d1⟩, _, _⟩ := hp.cell hlt
        have hkz : (k : Int) < (all.length : Int) := by omega
        have hst := refsV_step hlt
        have hLk : (L0 ++ refsV (all.take k)).length ≤ 900000 := by rw [List.length_append]; have := refsV_len (all.take k); rw [List.length_take] at this; omega
        by_cases hkd : all[k].1 = 2
        · rw [if_pos hkd] at hst
          rw [hkd] at d0
          have HST : Hid (refsV (all.take (k + 1)) = refsV (all.take k) ++ [all[k].2]) := hst
          clear hst
          go_wp2_with (at_builtin; refine append_i _ (by rfl) _ _ (by rfl) (w.heap.size + 1) _ (L0 ++ refsV (all.take k)) (by rfl) hrow all[k].2 _ _ rfl (by rfl) hLk (by omega) ?_; intro g2 o2 c2 w2' hrow2 hg2 hb2 hlt2)
          have hb3 : Below w.heap.size w w2' := hb.grown hg2 hb.size (fun q e => by have := (hrow.lt q e).1; omega)
          have hp3 : PairRow w2.heap.size w2' (.slice (some ⟨g1, o1, none⟩) all.length cB) all := hp.kept hg2.size fun q e => hg2.block q (hp.lt q e).2 (fun e2 => HNE q e2.symm e)
          have hz3 := hg2.size
          have hne3 : ∀ q, (Value.slice (some ⟨g2, o2, none⟩) ((L0 ++ refsV (all.take k)).length + 1) c2).ownBlock = some q → (Value.slice (some ⟨g1, o1, none⟩) all.length cB).ownBlock ≠ some q := fun q e e2 => by
            simp [Value.ownBlock] at e
            subst e
            rcases hb2 with h2 | h2
            · exact HNE _ h2 e2
            · have := (hp.lt _ e2).2; omega
          have hr3 : IntRow (w.heap.size + 1) w2' (.slice (some ⟨g2, o2, none⟩) ((L0 ++ refsV (all.take k)).length + 1) c2) (L0 ++ refsV (all.take (k + 1))) := by rw [HST.out, ← List.append_assoc]; exact hrow2
          simp only [List.length_append] at hr3 hne3
          clear hg2 hb2 hrow2 hrow hp
          go_roundg (all.length - (k + 1))
          case measure => omega
          case rel => exact ⟨k + 1, by omega, rfl, by go_num, hr3, hp3, hne3, hb3, by omega⟩
        · rw [if_neg hkd] at hst
          have hr3 : Hid (IntRow (w.heap.size + 1) wr u3 (L0 ++ refsV (all.take (k + 1)))) := by rw [hst]; exact hrow
          clear hst
          go_wp2
          go_roundg (all.length - (k + 1))
          case measure => omega
          case rel => exact ⟨k + 1, by omega, rfl, by go_num, hr3.out, hp, HNE, hb, hzr⟩
      · obtain rfl : k = all.length := by omega
        rw [List.take_length] at hrow
        rw [← HRL.out] at hrow
        go_wp2
        go_ret
        exact ⟨_, rfl, hrow.mono (by omega), hb⟩
end Go.Proofs.Ytfpodljalccpnaa

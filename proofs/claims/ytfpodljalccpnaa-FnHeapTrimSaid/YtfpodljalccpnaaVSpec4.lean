/-
  What is seen of a heap, by the model: HeapView.
-/
import Derived.Test.YtfpodljalccpnaaPiece
import Derived.Test.YtfpodljalccpnaaHNew
import Derived.Test.YtfpodljalccpnaaSMem
import Derived.Deep.RegionHeld3

namespace Go.Proofs.Ytfpodljalccpnaa
open Go.RowKit
theorem CallsAt.cl {w : World} {a : Option Addr} {n c : Nat} {cs : List Cl} (h : CallsAt w (.slice a n c) cs) {p : Nat} (hp : p < cs.length) : ∃ b o vt vs, a = some ⟨b, o, none⟩ ∧ ClAt w b (o + p * 6) vt vs cs[p] := by
  obtain ⟨a', c', e, _, hc⟩ := h
  obtain ⟨b, o, vt, vs, rfl, hx⟩ := hc p hp
  injection e with e1 e2 e3
  exact ⟨b, o, vt, vs, e1, hx⟩
def CallsFrom (B : Nat) (w : World) (v : Value) (cs : List Cl) : Prop := ∀ w' : World, w.heap.size ≤ w'.heap.size → (∀ k, B ≤ k → k < w.heap.size → w'.heap[k]? = w.heap[k]?) → CallsAt w' v cs
theorem CallsFrom.at {B : Nat} {w : World} {v : Value} {cs : List Cl} (h : CallsFrom B w v cs) : CallsAt w v cs := h w (Nat.le_refl _) (fun _ _ _ => rfl)
set_option maxRecDepth 100000 in
set_option maxHeartbeats 4000000 in
theorem specHeapView_any (vc vs : Value) (h : Hp) (w : World) (hh : HeapAt w vc vs h) (hsh : h.short) (hsd : ∀ i, (hi : i < h.calls.length) → -1 ≤ h.calls[i].sender) :
    Calls Try.prog 15 #[.agg (hpCells vc vs h)] w fun e w' => ∃ v, e = .returned v ∧ CallsFrom w.heap.size w' v (viewL h) ∧ Below w.heap.size w w' := by
  unfold hpCells
  obtain ⟨ac, kc, hvc⟩ := hh.c.shape
  obtain ⟨aD, kD, hvs⟩ := hh.s.shape
  subst hvc hvs
  have HP : Hid (PsOk h.calls.length (found h)) := found_ok h
  have HV : Hid (viewL h = (found h).map fun p => viewC (found h) (h.calls.getD p Cl.none)) := rfl
  have hA : Below w.heap.size w ((w.alloc (.cells #[.slice ac h.calls.length kc, .int .i64 h.now, .int .i64 h.born, .slice aD h.said.length kD, .int .i64 h.code] 29)).alloc (.cells #[] 52)) := ((Below.refl _ _).alloc (Nat.le_refl _) _).alloc (by simp) _
  have bx := (five_new w 29 (.slice ac h.calls.length kc) (.int .i64 h.now) (.int .i64 h.born) (.slice aD h.said.length kD) (.int .i64 h.code)).alloc (.cells #[] 52)
  have mk := CallRow.made (B := w.heap.size + 1) (w := w.alloc (.cells #[.slice ac h.calls.length kc, .int .i64 h.now, .int .i64 h.born, .slice aD h.said.length kD, .int .i64 h.code] 29)) (e := 52) (by simp)
  simp only [World.size_alloc] at mk
  go_enter Try.func15, Try.ntmps15
  go_upto_region 2 with fail
  generalize (w.alloc (.cells #[.slice ac h.calls.length kc, .int .i64 h.now, .int .i64 h.born, .slice aD h.said.length kD, .int .i64 h.code] 29)).alloc (.cells #[] 52) = W1 at *
  obtain ⟨⟨x0, x1, x2, x3, x4⟩, xf⟩ := five_cells bx
  clear xf
  have zA := hA.size
  have yA := bx.lt
  go_wp2_with fail
  refine (l11Found_any _ _ h _ (hh.below hA) hsh).mono ?_
  rintro e w2 ⟨v2, rfl, hf2, hb2⟩
  have B2 := hA.trans (hb2.mono zA)
  have bx2 := row_below hb2 bx
  have mk2 := mk.below hb2
  have z2 := hb2.size
  have hne2 : ∀ g, (Value.slice (some ⟨w.heap.size + 1, 0, none⟩) 0 0).ownBlock = some g → v2.ownBlock ≠ some g := fun g e e2 => by have h1 := (mk.lt g e).2; have h2 := (hf2.lt g e2).1; omega
  obtain ⟨a2, c2, hv2, _⟩ := hf2.slice
  rw [nums_len] at hv2
  subst hv2
  have HP2 := HP.out
  generalize found h = F at *
  have hFl := HP2.len
  clear hA bx mk hb2 x0 x1 x2 x3 x4
  go_wp2
  go_loopg [3, 5] F.length (fun g o i wr => ∃ (k : Nat) (L : List (Cl × Value × Value)), k ≤ F.length ∧ g = F.length - k ∧ i = .int .i64 k ∧ L.map (·.1) = (F.take k).map (fun p => viewC F (h.calls.getD p Cl.none)) ∧ CallRow (w.heap.size + 1) wr o L ∧
      (∀ j, (hj : j < L.length) → PairRow (w.heap.size + 1) wr L[j].2.1 L[j].1.temps ∧ PairRow (w.heap.size + 1) wr L[j].2.2 L[j].1.stack) ∧ (∀ j, (hj : j < L.length) → ∀ q, o.ownBlock = some q → L[j].2.1.ownBlock ≠ some q ∧ L[j].2.2.ownBlock ≠ some q) ∧
      IntRow W1.heap.size wr (.slice a2 F.length c2) (nums F) ∧ (∀ q, o.ownBlock = some q → (Value.slice a2 F.length c2).ownBlock ≠ some q) ∧ Below w.heap.size w wr ∧ wr.rowIs w.heap.size 29 5 (five (.slice ac h.calls.length kc) (.int .i64 h.now) (.int .i64 h.born) (.slice aD h.said.length kD) (.int .i64 h.code)))
  case atStart => exact ⟨0, [], Nat.zero_le _, rfl, rfl, rfl, mk2, fun j hj => absurd hj (Nat.not_lt_zero _), fun j hj => absurd hj (Nat.not_lt_zero _), hf2, hne2, B2, bx2⟩
  case round =>
    obtain ⟨k, L, hk, rfl, rfl, hmap, hrow, hls, hap, hf, hnf, hb, hbx⟩ := hrel
    have HMAP : Hid (L.map (·.1) = (F.take k).map (fun p => viewC F (h.calls.getD p Cl.none))) := hmap
    have HLS : Hid (∀ j, (hj : j < L.length) → PairRow (w.heap.size + 1) wr L[j].2.1 L[j].1.temps ∧ PairRow (w.heap.size + 1) wr L[j].2.2 L[j].1.stack) := hls
    have HAP : Hid (∀ j, (hj : j < L.length) → ∀ q, u3.ownBlock = some q → L[j].2.1.ownBlock ≠ some q ∧ L[j].2.2.ownBlock ≠ some q) := hap
    have HNF : Hid (∀ q, u3.ownBlock = some q → (Value.slice a2 F.length c2).ownBlock ≠ some q) := hnf
    have hLl : L.length = k := by have := congrArg List.length hmap; simp at this; omega
    have HLL : Hid (L.length = k) := hLl
    clear hmap hls hap hnf hLl
    obtain ⟨ao, co, hvo, _⟩ := hrow.slice
    subst hvo
    by_cases hlt : k < F.length
    · have hkz : (k : Int) < (F.length : Int) := by omega
      obtain ⟨g1, o1, c1, e1, _⟩ := hf.form (by rw [nums_len]; omega)
      obtain rfl : a2 = some ⟨g1, o1, none⟩ := by injection e1
      clear e1
      have d1 := (hf.cell (i := k) (by rw [nums_len]; exact hlt)).1
      rw [nums_at] at d1
      have hpk : F[k] < h.calls.length := HP2.lt _ (List.getElem_mem hlt)
      have HMT := map_take (f := fun p => viewC F (h.calls.getD p Cl.none)) hlt
      generalize F[k] = p at *
      obtain ⟨b, o, vt, vs', hac, hc⟩ := hh.c.cl hpk
      subst hac
      obtain ⟨at', ct', hvt⟩ := hc.t.shape
      obtain ⟨as', ct2, hvs⟩ := hc.s.shape
      subst hvt hvs
      have q0 := cell_below hb hc.c0
      have q1 := cell_below hb hc.c1
      have q2 := cell_below hb hc.c2
      have q3 := cell_below hb hc.c3
      have q4 := cell_below hb hc.c4
      have q5 := cell_below hb hc.c5
      have hlen := hsh.2 p hpk
      have hsdp := hsd p hpk
      have hgd : h.calls.getD p Cl.none = h.calls[p] := by simp [hpk]
      rw [hgd] at HMT
      have hct := hc.t
      have hcs' := hc.s
      have hpz : (p : Int) < (h.calls.length : Int) := by omega
      have hcallen : h.calls.length ≤ 1000 := hsh.1
      obtain ⟨⟨x0, x1, x2, x3, x4⟩, xf⟩ := five_cells hbx
      clear xf x1 x2 x3 x4 hgd hc
      have hbz := hb.size
      generalize hce : h.calls[p] = cp at *
      clear hce
      go_wp2_with fail
      have HS8 : ∀ w', Below wr.heap.size wr w' → (w'.cell? ⟨g1, o1 + k, none⟩ = some (.int .i64 (p : Int)) ∧ w'.cell? ⟨w.heap.size, 0, none⟩ = some (.slice (some ⟨b, o, none⟩) h.calls.length kc) ∧ w'.cell? ⟨b, o + p * 6, none⟩ = some (.int .i64 cp.m) ∧ w'.cell? ⟨b, o + p * 6 + 1, none⟩ = some (.int .i64 cp.pc) ∧ w'.cell? ⟨b, o + p * 6 + 2, none⟩ = some (.slice at' cp.temps.length ct') ∧ w'.cell? ⟨b, o + p * 6 + 3, none⟩ = some (.slice as' cp.stack.length ct2) ∧ w'.cell? ⟨b, o + p * 6 + 4, none⟩ = some (.int .i64 cp.sender) ∧ w'.cell? ⟨b, o + p * 6 + 5, none⟩ = some (.bool cp.dead)) := fun w' hB => ⟨cell_below hB d1, cell_below hB x0, cell_below hB q0, cell_below hB q1, cell_below hB q2, cell_below hB q3, cell_below hB q4, cell_below hB q5⟩
      have nA : Below wr.heap.size wr wr.drew := (Below.refl _ _).drew
      have nB : Below wr.heap.size wr (wr.alloc (.cells #[.int .i64 0, .int .i64 0, .slice none 0 0, .slice none 0 0, .int .i64 0, .bool false] 52)).drew := ((Below.refl _ _).alloc (Nat.le_refl _) _).drew
      have ctA := (hct.below hb).below nA
      have csA := (hcs'.below hb).below nA
      have ctB := (hct.below hb).below nB
      have csB := (hcs'.below hb).below nB
      have zB := nB.size
      have rB : (wr.alloc (.cells #[.int .i64 0, .int .i64 0, .slice none 0 0, .slice none 0 0, .int .i64 0, .bool false] 52)).drew.rowIs wr.heap.size 52 6 (six (.int .i64 0) (.int .i64 0) (.slice none 0 0) (.slice none 0 0) (.int .i64 0) (.bool false)) := six_new wr 52 (.int .i64 0) (.int .i64 0) (.slice none 0 0) (.slice none 0 0) (.int .i64 0) (.bool false)
      have hq : wr.heap.size ≤ wr.heap.size := Nat.le_refl _
      clear q0 q1 q2 q3 q4 q5 hct hcs'
      go_region_held3 (fun w' => w'.cell? ⟨g1, o1 + k, none⟩ = some (.int .i64 (p : Int)) ∧ w'.cell? ⟨w.heap.size, 0, none⟩ = some (.slice (some ⟨b, o, none⟩) h.calls.length kc) ∧ w'.cell? ⟨b, o + p * 6, none⟩ = some (.int .i64 cp.m) ∧ w'.cell? ⟨b, o + p * 6 + 1, none⟩ = some (.int .i64 cp.pc) ∧ w'.cell? ⟨b, o + p * 6 + 2, none⟩ = some (.slice at' cp.temps.length ct') ∧ w'.cell? ⟨b, o + p * 6 + 3, none⟩ = some (.slice as' cp.stack.length ct2) ∧ w'.cell? ⟨b, o + p * 6 + 4, none⟩ = some (.int .i64 cp.sender) ∧ w'.cell? ⟨b, o + p * 6 + 5, none⟩ = some (.bool cp.dead))
        ((refine HS8 _ ?_; first | (with_reducible exact hb8A) | (with_reducible exact hb8A.alloc hb8A.size _) | (with_reducible exact (((((hb8A.setCell (p := ⟨wr.heap.size, 0, none⟩) hq _).setCell (p := ⟨wr.heap.size, 1, none⟩) hq _).setCell (p := ⟨wr.heap.size, 2, none⟩) hq _).setCell (p := ⟨wr.heap.size, 3, none⟩) hq _).setCell (p := ⟨wr.heap.size, 4, none⟩) hq _).setCell (p := ⟨wr.heap.size, 5, none⟩) hq _) | (with_reducible exact nB) | (with_reducible exact nA) | (with_reducible exact (Below.refl _ _).alloc (Nat.le_refl _) _) | (with_reducible exact Below.refl _ _)))
        ((first
          | (go_at_call 40; refine (l11Copy_any _ _ cp _ ctB csB hlen).mono ?_; rintro e w8 ⟨vt8, vs8, rfl, ht8, hs8, hap8, hb8⟩; have hb8A : Below wr.heap.size wr w8 := nB.trans (hb8.mono zB); obtain ⟨at8, kt8, hv8, _⟩ := ht8.slice; obtain ⟨as8, ks8, hw8, _⟩ := hs8.slice; subst hv8 hw8; unfold clCells; have r8 := row_below hb8 rB; obtain ⟨⟨m0, m1, m2, m3, m4, m5⟩, e0, e1, e2, e3, e4, e5⟩ := six_cells r8)
          | (go_at_call 40; refine (l11Copy_any _ _ cp _ ctA csA hlen).mono ?_; rintro e w8 ⟨vt8, vs8, rfl, ht8, hs8, hap8, hb8⟩; have hb8A : Below wr.heap.size wr w8 := nA.trans hb8; obtain ⟨at8, kt8, hv8, _⟩ := ht8.slice; obtain ⟨as8, ks8, hw8, _⟩ := hs8.slice; subst hv8 hw8; unfold clCells)))
      · have r9 := six_new w8 52 (.int .i64 cp.m) (.int .i64 cp.pc) (.slice at8 cp.temps.length kt8) (.slice as8 cp.stack.length ks8) (.int .i64 cp.sender) (.bool cp.dead)
        have B9 := hb8A.alloc hb8A.size (.cells #[.int .i64 cp.m, .int .i64 cp.pc, .slice at8 cp.temps.length kt8, .slice as8 cp.stack.length ks8, .int .i64 cp.sender, .bool cp.dead] 52)
        have NN := (Below.refl w8.heap.size w8).alloc (Nat.le_refl _) (.cells #[.int .i64 cp.m, .int .i64 cp.pc, .slice at8 cp.temps.length kt8, .slice as8 cp.stack.length ks8, .int .i64 cp.sender, .bool cp.dead] 52)
        have T9 : PairRow wr.heap.size _ _ _ := ht8.below NN
        have S9 : PairRow wr.heap.size _ _ _ := hs8.below NN
        have hcb := hb8A.size
        have nt9 : (Value.slice at8 cp.temps.length kt8).ownBlock ≠ some w8.heap.size := fun e => by have := (ht8.lt _ e).2; omega
        have ns9 : (Value.slice as8 cp.stack.length ks8).ownBlock ≠ some w8.heap.size := fun e => by have := (hs8.lt _ e).2; omega
        generalize w8.alloc (.cells #[.int .i64 cp.m, .int .i64 cp.pc, .slice at8 cp.temps.length kt8, .slice as8 cp.stack.length ks8, .int .i64 cp.sender, .bool cp.dead] 52) = w9 at *
        clear NN ht8 hs8 hb8 hb8A ctA csA ctB csB nA nB rB zB HS8
        generalize w8.heap.size = cb at *
        have hf9 := hf.below B9
        have z9 := B9.size
        have y9 := r9.lt
        have nf9 : (Value.slice (some ⟨g1, o1, none⟩) F.length c2).ownBlock ≠ some cb := fun e => by have := (hf.lt _ e).2; omega
        obtain ⟨⟨x0, x1, x2, x3, x4, x5⟩, xf⟩ := six_cells r9
        clear xf
        go_upto_region 8 with (go_at_call 41; refine (l11Names_any _ _ _ cp.temps F _ T9.at hf9 hlen.1).mono ?_; rintro e w10 ⟨v10, rfl, p10, hb10⟩; obtain ⟨aA, kA, hvA, _⟩ := p10.slice; rw [List.length_map] at hvA; subst hvA; have r10 := row_below hb10 r9; obtain ⟨⟨y0, y1, y2, y3, y4, y5⟩, e0, e1, e2, e3, e4, e5⟩ := six_cells r10)
        have nA : (Value.slice aA cp.temps.length kA).ownBlock ≠ some cb := fun e => by have := (p10.lt _ e).1; omega
        have r11 := six_set2 r10 (.slice aA cp.temps.length kA)
        have P11 := p10.set_other (p := ⟨cb, 2, none⟩) (.slice aA cp.temps.length kA) nA
        have S11 := (S9.below hb10).set_other (p := ⟨cb, 2, none⟩) (.slice aA cp.temps.length kA) ns9
        have f11 := (hf9.below hb10).set_other (p := ⟨cb, 2, none⟩) (.slice aA cp.temps.length kA) nf9
        have B11 := (B9.trans (hb10.mono z9)).setCell (p := ⟨cb, 2, none⟩) hcb (.slice aA cp.temps.length kA)
        have z11 : w9.heap.size ≤ (w10.setCell ⟨cb, 2, none⟩ (.slice aA cp.temps.length kA)).heap.size := by simp [World.setCell]; exact hb10.size
        generalize w10.setCell ⟨cb, 2, none⟩ (.slice aA cp.temps.length kA) = w11 at *
        clear r10 hb10 hf9 S9 T9 r9 p10 x0 x1 x2 x3 x4 x5 y0 y1 y2 y3 y4 y5 e0 e1 e2 e3 e4 e5
        obtain ⟨⟨x0, x1, x2, x3, x4, x5⟩, xf⟩ := six_cells r11
        clear xf
        go_upto_region 9 with (go_at_call 41; refine (l11Names_any _ _ _ cp.stack F _ S11.at f11 hlen.2).mono ?_; rintro e w12 ⟨v12, rfl, p12, hb12⟩; obtain ⟨aB, kB, hvB, _⟩ := p12.slice; rw [List.length_map] at hvB; subst hvB; have r12 := row_below hb12 r11; obtain ⟨⟨y0, y1, y2, y3, y4, y5⟩, e0, e1, e2, e3, e4, e5⟩ := six_cells r12)
        have nB : (Value.slice aB cp.stack.length kB).ownBlock ≠ some cb := fun e => by have := (p12.lt _ e).1; omega
        have r13 := six_set3 r12 (.slice aB cp.stack.length kB)
        have P13 := ((P11.below hb12).set_other (p := ⟨cb, 3, none⟩) (.slice aB cp.stack.length kB) nA).mono z9
        have Q13 := (p12.set_other (p := ⟨cb, 3, none⟩) (.slice aB cp.stack.length kB) nB).mono (B' := wr.heap.size) (by omega)
        have f13 := (f11.below hb12).set_other (p := ⟨cb, 3, none⟩) (.slice aB cp.stack.length kB) nf9
        have B13 := (B11.trans (hb12.mono B11.size)).setCell (p := ⟨cb, 3, none⟩) hcb (.slice aB cp.stack.length kB)
        generalize w12.setCell ⟨cb, 3, none⟩ (.slice aB cp.stack.length kB) = w13 at *
        clear r12 hb12 S11 r11 p12 P11 f11 x0 x1 x2 x3 x4 x5 y0 y1 y2 y3 y4 y5 e0 e1 e2 e3 e4 e5
        obtain ⟨⟨x0, x1, x2, x3, x4, x5⟩, e0, e1, e2, e3, e4, e5⟩ := six_cells r13
        by_cases hsn : 0 ≤ cp.sender
        · go_upto_region 11 with (go_at_call 42; refine (l11Has_any _ _ F _ _ f13).mono ?_; rintro e w' ⟨rfl, hw⟩; obtain rfl := hw.symm)
          have r14 := six_set4 r13 (.int .i64 (numOf F cp.sender))
          have P14 := P13.set_other (p := ⟨cb, 4, none⟩) (.int .i64 (numOf F cp.sender)) nA
          have Q14 := Q13.set_other (p := ⟨cb, 4, none⟩) (.int .i64 (numOf F cp.sender)) nB
          have B14 := B13.setCell (p := ⟨cb, 4, none⟩) hcb (.int .i64 (numOf F cp.sender))
          generalize w13.setCell ⟨cb, 4, none⟩ (.int .i64 (numOf F cp.sender)) = w14 at *
          clear r13 P13 Q13 f13 B13 x0 x1 x2 x3 x4 x5 e0 e1 e2 e3 e4 e5
          have N15 := (Below.refl w14.heap.size w14).alloc (Nat.le_refl _) (.cells #[.int .i64 cp.m, .int .i64 cp.pc, .slice aA cp.temps.length kA, .slice aB cp.stack.length kB, .int .i64 (numOf F cp.sender), .bool cp.dead] 52)
          have s15 := six_new w14 52 (.int .i64 cp.m) (.int .i64 cp.pc) (.slice aA cp.temps.length kA) (.slice aB cp.stack.length kB) (.int .i64 (numOf F cp.sender)) (.bool cp.dead)
          have B15 := B14.trans (N15.mono B14.size)
          have hrow15 := hrow.below B15
          have P15 := P14.below N15
          have Q15 := Q14.below N15
          have z15 := B15.size
          obtain ⟨⟨x0, x1, x2, x3, x4, x5⟩, xf⟩ := six_cells r14
          clear xf
          have hLb : L.length ≤ 900000 := by rw [HLL.out]; omega
          go_wp2_with (at_builtin; refine append_call _ (by rfl) _ _ (by rfl) (w.heap.size + 1) _ L (viewC F cp, .slice aA cp.temps.length kA, .slice aB cp.stack.length kB) (by rfl) w14.heap.size 1 (by rfl) hrow15 rfl rfl (cells6_of s15) hLb (by omega) ?_; intro v16 w16 hrow16 hg16 hbk16)
          have hz16 := hg16.size
          have B16 : Below w.heap.size w w16 := (hb.trans (B15.mono hbz)).grown hg16 (by omega) (fun q e => by have := (hrow15.lt q e).1; omega)
          have hbl : ∀ q, q < wr.heap.size → (Value.slice ao L.length co).ownBlock ≠ some q → w16.heap[q]? = wr.heap[q]? := fun q h1 h2 => (hg16.block q (by omega) (fun e => h2 e.symm)).trans (B15.block q h1)
          have hf16 : IntRow W1.heap.size w16 (.slice (some ⟨g1, o1, none⟩) F.length c2) (nums F) := hf.kept (by omega) fun q e => hbl q (hf.lt q e).2 (fun e2 => HNF.out q e2 e)
          have hbx16 := hbx.of_block (hbl w.heap.size hbx.lt (fun e => by have := (hrow.lt _ e).1; omega))
          have hvn : ∀ q, v16.ownBlock = some q → (Value.slice ao L.length co).ownBlock = some q ∨ q = (w14.alloc (.cells #[.int .i64 cp.m, .int .i64 cp.pc, .slice aA cp.temps.length kA, .slice aB cp.stack.length kB, .int .i64 (numOf F cp.sender), .bool cp.dead] 52)).heap.size := fun q e => by
            rcases hbk16 with h1 | h1
            · exact .inl (by rw [← h1]; exact e)
            · exact .inr (by rw [h1] at e; simpa using e.symm)
          have hz15 : (w14.alloc (.cells #[.int .i64 cp.m, .int .i64 cp.pc, .slice aA cp.temps.length kA, .slice aB cp.stack.length kB, .int .i64 (numOf F cp.sender), .bool cp.dead] 52)).heap.size = w14.heap.size + 1 := by simp
          have hz14 := B14.size
          have hnf16 : ∀ q, v16.ownBlock = some q → (Value.slice (some ⟨g1, o1, none⟩) F.length c2).ownBlock ≠ some q := fun q e e2 => by
            rcases hvn q e with h1 | h1
            · exact HNF.out q h1 e2
            · have := (hf.lt q e2).2; omega
          have P16 : PairRow wr.heap.size w16 (.slice aA cp.temps.length kA) (cp.temps.map (ren F)) := P15.kept (by omega) fun q e => hg16.block q (by have := (P15.lt q e).2; omega) (fun e2 => by have h1 := (P15.lt q e).1; have h2 := (hrow.lt q e2.symm).2; omega)
          have Q16 : PairRow wr.heap.size w16 (.slice aB cp.stack.length kB) (cp.stack.map (ren F)) := Q15.kept (by omega) fun q e => hg16.block q (by have := (Q15.lt q e).2; omega) (fun e2 => by have h1 := (Q15.lt q e).1; have h2 := (hrow.lt q e2.symm).2; omega)
          have hls16 : Hid (∀ j, (hj : j < (L ++ [(viewC F cp, Value.slice aA cp.temps.length kA, Value.slice aB cp.stack.length kB)]).length) → PairRow (w.heap.size + 1) w16 (L ++ [(viewC F cp, Value.slice aA cp.temps.length kA, Value.slice aB cp.stack.length kB)])[j].2.1 (L ++ [(viewC F cp, Value.slice aA cp.temps.length kA, Value.slice aB cp.stack.length kB)])[j].1.temps ∧ PairRow (w.heap.size + 1) w16 (L ++ [(viewC F cp, Value.slice aA cp.temps.length kA, Value.slice aB cp.stack.length kB)])[j].2.2 (L ++ [(viewC F cp, Value.slice aA cp.temps.length kA, Value.slice aB cp.stack.length kB)])[j].1.stack) := fun j hj => by
            by_cases e : j < L.length
            · rw [List.getElem_append_left e]
              obtain ⟨p1, p2⟩ := HLS.out j e
              exact ⟨p1.kept (by omega) fun q h1 => hbl q (p1.lt q h1).2 (fun e2 => (HAP.out j e q e2).1 h1), p2.kept (by omega) fun q h1 => hbl q (p2.lt q h1).2 (fun e2 => (HAP.out j e q e2).2 h1)⟩
            · rw [List.getElem_append_right (by omega)]
              simp only [List.getElem_singleton]
              exact ⟨P16.mono (by omega), Q16.mono (by omega)⟩
          have hap16 : Hid (∀ j, (hj : j < (L ++ [(viewC F cp, Value.slice aA cp.temps.length kA, Value.slice aB cp.stack.length kB)]).length) → ∀ q, v16.ownBlock = some q → (L ++ [(viewC F cp, Value.slice aA cp.temps.length kA, Value.slice aB cp.stack.length kB)])[j].2.1.ownBlock ≠ some q ∧ (L ++ [(viewC F cp, Value.slice aA cp.temps.length kA, Value.slice aB cp.stack.length kB)])[j].2.2.ownBlock ≠ some q) := fun j hj q hq => by
            by_cases e : j < L.length
            · rw [List.getElem_append_left e]
              obtain ⟨p1, p2⟩ := HLS.out j e
              rcases hvn q hq with h1 | h1
              · exact HAP.out j e q h1
              · exact ⟨fun e2 => by have := (p1.lt q e2).2; omega, fun e2 => by have := (p2.lt q e2).2; omega⟩
            · rw [List.getElem_append_right (by omega)]
              simp only [List.getElem_singleton]
              rcases hvn q hq with h1 | h1
              · have h2 := (hrow.lt q h1).2
                exact ⟨fun e2 => by have := (P14.lt q e2).1; omega, fun e2 => by have := (Q14.lt q e2).1; omega⟩
              · exact ⟨fun e2 => by have := (P14.lt q e2).2; omega, fun e2 => by have := (Q14.lt q e2).2; omega⟩
          have hmap16 : Hid ((L ++ [(viewC F cp, Value.slice aA cp.temps.length kA, Value.slice aB cp.stack.length kB)]).map (·.1) = (F.take (k + 1)).map (fun p => viewC F (h.calls.getD p Cl.none))) := by
            show _ = _
            rw [List.map_append, HMAP.out, ← HMT]
            rfl
          clear hbl hg16 hbk16 hvn hrow15 s15 x0 x1 x2 x3 x4 x5 r14 P14 Q14 P15 Q15 P16 Q16 HLS HAP HNF HMAP HMT
          go_wp2
          go_roundg (F.length - (k + 1))
          case measure => omega
          case rel => exact ⟨k + 1, _, by omega, rfl, by go_num, hmap16.out, hrow16, hls16.out, hap16.out, hf16, hnf16, B16, hbx16⟩
        · have hsm : cp.sender = -1 := by omega
          have hnm : numOf F cp.sender = -1 := numOf_none (fun i hi e => by omega)
          go_upto_region 11 with fail
          have r14 : w13.rowIs cb 52 6 (six (.int .i64 cp.m) (.int .i64 cp.pc) (.slice aA cp.temps.length kA) (.slice aB cp.stack.length kB) (.int .i64 (numOf F cp.sender)) (.bool cp.dead)) := by rw [hnm, ← hsm]; exact r13
          have P14 := P13
          have Q14 := Q13
          have B14 := B13
          clear r13 P13 Q13 f13 B13 x0 x1 x2 x3 x4 x5 e0 e1 e2 e3 e4 e5 hsn hsm hnm
          generalize w13 = w14 at *
          have N15 := (Below.refl w14.heap.size w14).alloc (Nat.le_refl _) (.cells #[.int .i64 cp.m, .int .i64 cp.pc, .slice aA cp.temps.length kA, .slice aB cp.stack.length kB, .int .i64 (numOf F cp.sender), .bool cp.dead] 52)
          have s15 := six_new w14 52 (.int .i64 cp.m) (.int .i64 cp.pc) (.slice aA cp.temps.length kA) (.slice aB cp.stack.length kB) (.int .i64 (numOf F cp.sender)) (.bool cp.dead)
          have B15 := B14.trans (N15.mono B14.size)
          have hrow15 := hrow.below B15
          have P15 := P14.below N15
          have Q15 := Q14.below N15
          have z15 := B15.size
          obtain ⟨⟨x0, x1, x2, x3, x4, x5⟩, xf⟩ := six_cells r14
          clear xf
          have hLb : L.length ≤ 900000 := by rw [HLL.out]; omega
          go_wp2_with (at_builtin; refine append_call _ (by rfl) _ _ (by rfl) (w.heap.size + 1) _ L (viewC F cp, .slice aA cp.temps.length kA, .slice aB cp.stack.length kB) (by rfl) w14.heap.size 1 (by rfl) hrow15 rfl rfl (cells6_of s15) hLb (by omega) ?_; intro v16 w16 hrow16 hg16 hbk16)
          have hz16 := hg16.size
          have B16 : Below w.heap.size w w16 := (hb.trans (B15.mono hbz)).grown hg16 (by omega) (fun q e => by have := (hrow15.lt q e).1; omega)
          have hbl : ∀ q, q < wr.heap.size → (Value.slice ao L.length co).ownBlock ≠ some q → w16.heap[q]? = wr.heap[q]? := fun q h1 h2 => (hg16.block q (by omega) (fun e => h2 e.symm)).trans (B15.block q h1)
          have hf16 : IntRow W1.heap.size w16 (.slice (some ⟨g1, o1, none⟩) F.length c2) (nums F) := hf.kept (by omega) fun q e => hbl q (hf.lt q e).2 (fun e2 => HNF.out q e2 e)
          have hbx16 := hbx.of_block (hbl w.heap.size hbx.lt (fun e => by have := (hrow.lt _ e).1; omega))
          have hvn : ∀ q, v16.ownBlock = some q → (Value.slice ao L.length co).ownBlock = some q ∨ q = (w14.alloc (.cells #[.int .i64 cp.m, .int .i64 cp.pc, .slice aA cp.temps.length kA, .slice aB cp.stack.length kB, .int .i64 (numOf F cp.sender), .bool cp.dead] 52)).heap.size := fun q e => by
            rcases hbk16 with h1 | h1
            · exact .inl (by rw [← h1]; exact e)
            · exact .inr (by rw [h1] at e; simpa using e.symm)
          have hz15 : (w14.alloc (.cells #[.int .i64 cp.m, .int .i64 cp.pc, .slice aA cp.temps.length kA, .slice aB cp.stack.length kB, .int .i64 (numOf F cp.sender), .bool cp.dead] 52)).heap.size = w14.heap.size + 1 := by simp
          have hz14 := B14.size
          have hnf16 : ∀ q, v16.ownBlock = some q → (Value.slice (some ⟨g1, o1, none⟩) F.length c2).ownBlock ≠ some q := fun q e e2 => by
            rcases hvn q e with h1 | h1
            · exact HNF.out q h1 e2
            · have := (hf.lt q e2).2; omega
          have P16 : PairRow wr.heap.size w16 (.slice aA cp.temps.length kA) (cp.temps.map (ren F)) := P15.kept (by omega) fun q e => hg16.block q (by have := (P15.lt q e).2; omega) (fun e2 => by have h1 := (P15.lt q e).1; have h2 := (hrow.lt q e2.symm).2; omega)
          have Q16 : PairRow wr.heap.size w16 (.slice aB cp.stack.length kB) (cp.stack.map (ren F)) := Q15.kept (by omega) fun q e => hg16.block q (by have := (Q15.lt q e).2; omega) (fun e2 => by have h1 := (Q15.lt q e).1; have h2 := (hrow.lt q e2.symm).2; omega)
          have hls16 : Hid (∀ j, (hj : j < (L ++ [(viewC F cp, Value.slice aA cp.temps.length kA, Value.slice aB cp.stack.length kB)]).length) → PairRow (w.heap.size + 1) w16 (L ++ [(viewC F cp, Value.slice aA cp.temps.length kA, Value.slice aB cp.stack.length kB)])[j].2.1 (L ++ [(viewC F cp, Value.slice aA cp.temps.length kA, Value.slice aB cp.stack.length kB)])[j].1.temps ∧ PairRow (w.heap.size + 1) w16 (L ++ [(viewC F cp, Value.slice aA cp.temps.length kA, Value.slice aB cp.stack.length kB)])[j].2.2 (L ++ [(viewC F cp, Value.slice aA cp.temps.length kA, Value.slice aB cp.stack.length kB)])[j].1.stack) := fun j hj => by
            by_cases e : j < L.length
            · rw [List.getElem_append_left e]
              obtain ⟨p1, p2⟩ := HLS.out j e
              exact ⟨p1.kept (by omega) fun q h1 => hbl q (p1.lt q h1).2 (fun e2 => (HAP.out j e q e2).1 h1), p2.kept (by omega) fun q h1 => hbl q (p2.lt q h1).2 (fun e2 => (HAP.out j e q e2).2 h1)⟩
            · rw [List.getElem_append_right (by omega)]
              simp only [List.getElem_singleton]
              exact ⟨P16.mono (by omega), Q16.mono (by omega)⟩
          have hap16 : Hid (∀ j, (hj : j < (L ++ [(viewC F cp, Value.slice aA cp.temps.length kA, Value.slice aB cp.stack.length kB)]).length) → ∀ q, v16.ownBlock = some q → (L ++ [(viewC F cp, Value.slice aA cp.temps.length kA, Value.slice aB cp.stack.length kB)])[j].2.1.ownBlock ≠ some q ∧ (L ++ [(viewC F cp, Value.slice aA cp.temps.length kA, Value.slice aB cp.stack.length kB)])[j].2.2.ownBlock ≠ some q) := fun j hj q hq => by
            by_cases e : j < L.length
            · rw [List.getElem_append_left e]
              obtain ⟨p1, p2⟩ := HLS.out j e
              rcases hvn q hq with h1 | h1
              · exact HAP.out j e q h1
              · exact ⟨fun e2 => by have := (p1.lt q e2).2; omega, fun e2 => by have := (p2.lt q e2).2; omega⟩
            · rw [List.getElem_append_right (by omega)]
              simp only [List.getElem_singleton]
              rcases hvn q hq with h1 | h1
              · have h2 := (hrow.lt q h1).2
                exact ⟨fun e2 => by have := (P14.lt q e2).1; omega, fun e2 => by have := (Q14.lt q e2).1; omega⟩
              · exact ⟨fun e2 => by have := (P14.lt q e2).2; omega, fun e2 => by have := (Q14.lt q e2).2; omega⟩
          have hmap16 : Hid ((L ++ [(viewC F cp, Value.slice aA cp.temps.length kA, Value.slice aB cp.stack.length kB)]).map (·.1) = (F.take (k + 1)).map (fun p => viewC F (h.calls.getD p Cl.none))) := by
            show _ = _
            rw [List.map_append, HMAP.out, ← HMT]
            rfl
          clear hbl hg16 hbk16 hvn hrow15 s15 x0 x1 x2 x3 x4 x5 r14 P14 Q14 P15 Q15 P16 Q16 HLS HAP HNF HMAP HMT
          go_wp2
          go_roundg (F.length - (k + 1))
          case measure => omega
          case rel => exact ⟨k + 1, _, by omega, rfl, by go_num, hmap16.out, hrow16, hls16.out, hap16.out, hf16, hnf16, B16, hbx16⟩
      · have zZ : (wr.alloc (.cells #[.int .i64 0, .int .i64 0, .slice none 0 0, .slice none 0 0, .int .i64 0, .bool false] 52)).drew.heap.size = wr.heap.size + 1 := by show (wr.alloc _).heap.size = _; simp
        have nt9 : (Value.slice at8 cp.temps.length kt8).ownBlock ≠ some wr.heap.size := fun e => by have := (ht8.lt _ e).1; omega
        have ns9 : (Value.slice as8 cp.stack.length ks8).ownBlock ≠ some wr.heap.size := fun e => by have := (hs8.lt _ e).1; omega
        have r9 := (six_set5 (six_set4 (six_set3 (six_set2 (six_set1 (six_set0 r8 (.int .i64 cp.m)) (.int .i64 cp.pc)) (.slice at8 cp.temps.length kt8)) (.slice as8 cp.stack.length ks8)) (.int .i64 cp.sender)) (.bool cp.dead))
        have B9 := ((((((hb8A.setCell (p := ⟨wr.heap.size, 0, none⟩) hq (.int .i64 cp.m)).setCell (p := ⟨wr.heap.size, 1, none⟩) hq (.int .i64 cp.pc)).setCell (p := ⟨wr.heap.size, 2, none⟩) hq (.slice at8 cp.temps.length kt8)).setCell (p := ⟨wr.heap.size, 3, none⟩) hq (.slice as8 cp.stack.length ks8)).setCell (p := ⟨wr.heap.size, 4, none⟩) hq (.int .i64 cp.sender)).setCell (p := ⟨wr.heap.size, 5, none⟩) hq (.bool cp.dead))
        have T9 := PairRow.mono (B' := wr.heap.size) ((((((ht8.set_other (p := ⟨wr.heap.size, 0, none⟩) (.int .i64 cp.m) nt9).set_other (p := ⟨wr.heap.size, 1, none⟩) (.int .i64 cp.pc) nt9).set_other (p := ⟨wr.heap.size, 2, none⟩) (.slice at8 cp.temps.length kt8) nt9).set_other (p := ⟨wr.heap.size, 3, none⟩) (.slice as8 cp.stack.length ks8) nt9).set_other (p := ⟨wr.heap.size, 4, none⟩) (.int .i64 cp.sender) nt9).set_other (p := ⟨wr.heap.size, 5, none⟩) (.bool cp.dead) nt9) (by omega)
        have S9 := PairRow.mono (B' := wr.heap.size) ((((((hs8.set_other (p := ⟨wr.heap.size, 0, none⟩) (.int .i64 cp.m) ns9).set_other (p := ⟨wr.heap.size, 1, none⟩) (.int .i64 cp.pc) ns9).set_other (p := ⟨wr.heap.size, 2, none⟩) (.slice at8 cp.temps.length kt8) ns9).set_other (p := ⟨wr.heap.size, 3, none⟩) (.slice as8 cp.stack.length ks8) ns9).set_other (p := ⟨wr.heap.size, 4, none⟩) (.int .i64 cp.sender) ns9).set_other (p := ⟨wr.heap.size, 5, none⟩) (.bool cp.dead) ns9) (by omega)
        clear m0 m1 m2 m3 m4 m5 e0 e1 e2 e3 e4 e5 r8 zZ
        generalize ((((((w8.setCell ⟨wr.heap.size, 0, none⟩ (.int .i64 cp.m)).setCell ⟨wr.heap.size, 1, none⟩ (.int .i64 cp.pc)).setCell ⟨wr.heap.size, 2, none⟩ (.slice at8 cp.temps.length kt8)).setCell ⟨wr.heap.size, 3, none⟩ (.slice as8 cp.stack.length ks8)).setCell ⟨wr.heap.size, 4, none⟩ (.int .i64 cp.sender)).setCell ⟨wr.heap.size, 5, none⟩ (.bool cp.dead)) = w9 at *
        clear ht8 hs8 hb8 hb8A ctA csA ctB csB nA nB rB zB HS8
        have hcb : wr.heap.size ≤ wr.heap.size := Nat.le_refl _
        generalize hcbe : wr.heap.size = cb at r9 nt9 ns9 hcb ⊢
        have hcb : wr.heap.size ≤ cb := by omega
        clear hcbe
        have hf9 := hf.below B9
        have z9 := B9.size
        have y9 := r9.lt
        have nf9 : (Value.slice (some ⟨g1, o1, none⟩) F.length c2).ownBlock ≠ some cb := fun e => by have := (hf.lt _ e).2; omega
        obtain ⟨⟨x0, x1, x2, x3, x4, x5⟩, xf⟩ := six_cells r9
        clear xf
        go_upto_region 8 with (go_at_call 41; refine (l11Names_any _ _ _ cp.temps F _ T9.at hf9 hlen.1).mono ?_; rintro e w10 ⟨v10, rfl, p10, hb10⟩; obtain ⟨aA, kA, hvA, _⟩ := p10.slice; rw [List.length_map] at hvA; subst hvA; have r10 := row_below hb10 r9; obtain ⟨⟨y0, y1, y2, y3, y4, y5⟩, e0, e1, e2, e3, e4, e5⟩ := six_cells r10)
        have nA : (Value.slice aA cp.temps.length kA).ownBlock ≠ some cb := fun e => by have := (p10.lt _ e).1; omega
        have r11 := six_set2 r10 (.slice aA cp.temps.length kA)
        have P11 := p10.set_other (p := ⟨cb, 2, none⟩) (.slice aA cp.temps.length kA) nA
        have S11 := (S9.below hb10).set_other (p := ⟨cb, 2, none⟩) (.slice aA cp.temps.length kA) ns9
        have f11 := (hf9.below hb10).set_other (p := ⟨cb, 2, none⟩) (.slice aA cp.temps.length kA) nf9
        have B11 := (B9.trans (hb10.mono z9)).setCell (p := ⟨cb, 2, none⟩) hcb (.slice aA cp.temps.length kA)
        have z11 : w9.heap.size ≤ (w10.setCell ⟨cb, 2, none⟩ (.slice aA cp.temps.length kA)).heap.size := by simp [World.setCell]; exact hb10.size
        generalize w10.setCell ⟨cb, 2, none⟩ (.slice aA cp.temps.length kA) = w11 at *
        clear r10 hb10 hf9 S9 T9 r9 p10 x0 x1 x2 x3 x4 x5 y0 y1 y2 y3 y4 y5 e0 e1 e2 e3 e4 e5
        obtain ⟨⟨x0, x1, x2, x3, x4, x5⟩, xf⟩ := six_cells r11
        clear xf
        go_upto_region 9 with (go_at_call 41; refine (l11Names_any _ _ _ cp.stack F _ S11.at f11 hlen.2).mono ?_; rintro e w12 ⟨v12, rfl, p12, hb12⟩; obtain ⟨aB, kB, hvB, _⟩ := p12.slice; rw [List.length_map] at hvB; subst hvB; have r12 := row_below hb12 r11; obtain ⟨⟨y0, y1, y2, y3, y4, y5⟩, e0, e1, e2, e3, e4, e5⟩ := six_cells r12)
        have nB : (Value.slice aB cp.stack.length kB).ownBlock ≠ some cb := fun e => by have := (p12.lt _ e).1; omega
        have r13 := six_set3 r12 (.slice aB cp.stack.length kB)
        have P13 := ((P11.below hb12).set_other (p := ⟨cb, 3, none⟩) (.slice aB cp.stack.length kB) nA).mono z9
        have Q13 := (p12.set_other (p := ⟨cb, 3, none⟩) (.slice aB cp.stack.length kB) nB).mono (B' := wr.heap.size) (by omega)
        have f13 := (f11.below hb12).set_other (p := ⟨cb, 3, none⟩) (.slice aB cp.stack.length kB) nf9
        have B13 := (B11.trans (hb12.mono B11.size)).setCell (p := ⟨cb, 3, none⟩) hcb (.slice aB cp.stack.length kB)
        generalize w12.setCell ⟨cb, 3, none⟩ (.slice aB cp.stack.length kB) = w13 at *
        clear r12 hb12 S11 r11 p12 P11 f11 x0 x1 x2 x3 x4 x5 y0 y1 y2 y3 y4 y5 e0 e1 e2 e3 e4 e5
        obtain ⟨⟨x0, x1, x2, x3, x4, x5⟩, e0, e1, e2, e3, e4, e5⟩ := six_cells r13
        by_cases hsn : 0 ≤ cp.sender
        · go_upto_region 11 with (go_at_call 42; refine (l11Has_any _ _ F _ _ f13).mono ?_; rintro e w' ⟨rfl, hw⟩; obtain rfl := hw.symm)
          have r14 := six_set4 r13 (.int .i64 (numOf F cp.sender))
          have P14 := P13.set_other (p := ⟨cb, 4, none⟩) (.int .i64 (numOf F cp.sender)) nA
          have Q14 := Q13.set_other (p := ⟨cb, 4, none⟩) (.int .i64 (numOf F cp.sender)) nB
          have B14 := B13.setCell (p := ⟨cb, 4, none⟩) hcb (.int .i64 (numOf F cp.sender))
          generalize w13.setCell ⟨cb, 4, none⟩ (.int .i64 (numOf F cp.sender)) = w14 at *
          clear r13 P13 Q13 f13 B13 x0 x1 x2 x3 x4 x5 e0 e1 e2 e3 e4 e5
          have N15 := (Below.refl w14.heap.size w14).alloc (Nat.le_refl _) (.cells #[.int .i64 cp.m, .int .i64 cp.pc, .slice aA cp.temps.length kA, .slice aB cp.stack.length kB, .int .i64 (numOf F cp.sender), .bool cp.dead] 52)
          have s15 := six_new w14 52 (.int .i64 cp.m) (.int .i64 cp.pc) (.slice aA cp.temps.length kA) (.slice aB cp.stack.length kB) (.int .i64 (numOf F cp.sender)) (.bool cp.dead)
          have B15 := B14.trans (N15.mono B14.size)
          have hrow15 := hrow.below B15
          have P15 := P14.below N15
          have Q15 := Q14.below N15
          have z15 := B15.size
          obtain ⟨⟨x0, x1, x2, x3, x4, x5⟩, xf⟩ := six_cells r14
          clear xf
          have hLb : L.length ≤ 900000 := by rw [HLL.out]; omega
          go_wp2_with (at_builtin; refine append_call _ (by rfl) _ _ (by rfl) (w.heap.size + 1) _ L (viewC F cp, .slice aA cp.temps.length kA, .slice aB cp.stack.length kB) (by rfl) w14.heap.size 1 (by rfl) hrow15 rfl rfl (cells6_of s15) hLb (by omega) ?_; intro v16 w16 hrow16 hg16 hbk16)
          have hz16 := hg16.size
          have B16 : Below w.heap.size w w16 := (hb.trans (B15.mono hbz)).grown hg16 (by omega) (fun q e => by have := (hrow15.lt q e).1; omega)
          have hbl : ∀ q, q < wr.heap.size → (Value.slice ao L.length co).ownBlock ≠ some q → w16.heap[q]? = wr.heap[q]? := fun q h1 h2 => (hg16.block q (by omega) (fun e => h2 e.symm)).trans (B15.block q h1)
          have hf16 : IntRow W1.heap.size w16 (.slice (some ⟨g1, o1, none⟩) F.length c2) (nums F) := hf.kept (by omega) fun q e => hbl q (hf.lt q e).2 (fun e2 => HNF.out q e2 e)
          have hbx16 := hbx.of_block (hbl w.heap.size hbx.lt (fun e => by have := (hrow.lt _ e).1; omega))
          have hvn : ∀ q, v16.ownBlock = some q → (Value.slice ao L.length co).ownBlock = some q ∨ q = (w14.alloc (.cells #[.int .i64 cp.m, .int .i64 cp.pc, .slice aA cp.temps.length kA, .slice aB cp.stack.length kB, .int .i64 (numOf F cp.sender), .bool cp.dead] 52)).heap.size := fun q e => by
            rcases hbk16 with h1 | h1
            · exact .inl (by rw [← h1]; exact e)
            · exact .inr (by rw [h1] at e; simpa using e.symm)
          have hz15 : (w14.alloc (.cells #[.int .i64 cp.m, .int .i64 cp.pc, .slice aA cp.temps.length kA, .slice aB cp.stack.length kB, .int .i64 (numOf F cp.sender), .bool cp.dead] 52)).heap.size = w14.heap.size + 1 := by simp
          have hz14 := B14.size
          have hnf16 : ∀ q, v16.ownBlock = some q → (Value.slice (some ⟨g1, o1, none⟩) F.length c2).ownBlock ≠ some q := fun q e e2 => by
            rcases hvn q e with h1 | h1
            · exact HNF.out q h1 e2
            · have := (hf.lt q e2).2; omega
          have P16 : PairRow wr.heap.size w16 (.slice aA cp.temps.length kA) (cp.temps.map (ren F)) := P15.kept (by omega) fun q e => hg16.block q (by have := (P15.lt q e).2; omega) (fun e2 => by have h1 := (P15.lt q e).1; have h2 := (hrow.lt q e2.symm).2; omega)
          have Q16 : PairRow wr.heap.size w16 (.slice aB cp.stack.length kB) (cp.stack.map (ren F)) := Q15.kept (by omega) fun q e => hg16.block q (by have := (Q15.lt q e).2; omega) (fun e2 => by have h1 := (Q15.lt q e).1; have h2 := (hrow.lt q e2.symm).2; omega)
          have hls16 : Hid (∀ j, (hj : j < (L ++ [(viewC F cp, Value.slice aA cp.temps.length kA, Value.slice aB cp.stack.length kB)]).length) → PairRow (w.heap.size + 1) w16 (L ++ [(viewC F cp, Value.slice aA cp.temps.length kA, Value.slice aB cp.stack.length kB)])[j].2.1 (L ++ [(viewC F cp, Value.slice aA cp.temps.length kA, Value.slice aB cp.stack.length kB)])[j].1.temps ∧ PairRow (w.heap.size + 1) w16 (L ++ [(viewC F cp, Value.slice aA cp.temps.length kA, Value.slice aB cp.stack.length kB)])[j].2.2 (L ++ [(viewC F cp, Value.slice aA cp.temps.length kA, Value.slice aB cp.stack.length kB)])[j].1.stack) := fun j hj => by
            by_cases e : j < L.length
            · rw [List.getElem_append_left e]
              obtain ⟨p1, p2⟩ := HLS.out j e
              exact ⟨p1.kept (by omega) fun q h1 => hbl q (p1.lt q h1).2 (fun e2 => (HAP.out j e q e2).1 h1), p2.kept (by omega) fun q h1 => hbl q (p2.lt q h1).2 (fun e2 => (HAP.out j e q e2).2 h1)⟩
            · rw [List.getElem_append_right (by omega)]
              simp only [List.getElem_singleton]
              exact ⟨P16.mono (by omega), Q16.mono (by omega)⟩
          have hap16 : Hid (∀ j, (hj : j < (L ++ [(viewC F cp, Value.slice aA cp.temps.length kA, Value.slice aB cp.stack.length kB)]).length) → ∀ q, v16.ownBlock = some q → (L ++ [(viewC F cp, Value.slice aA cp.temps.length kA, Value.slice aB cp.stack.length kB)])[j].2.1.ownBlock ≠ some q ∧ (L ++ [(viewC F cp, Value.slice aA cp.temps.length kA, Value.slice aB cp.stack.length kB)])[j].2.2.ownBlock ≠ some q) := fun j hj q hq => by
            by_cases e : j < L.length
            · rw [List.getElem_append_left e]
              obtain ⟨p1, p2⟩ := HLS.out j e
              rcases hvn q hq with h1 | h1
              · exact HAP.out j e q h1
              · exact ⟨fun e2 => by have := (p1.lt q e2).2; omega, fun e2 => by have := (p2.lt q e2).2; omega⟩
            · rw [List.getElem_append_right (by omega)]
              simp only [List.getElem_singleton]
              rcases hvn q hq with h1 | h1
              · have h2 := (hrow.lt q h1).2
                exact ⟨fun e2 => by have := (P14.lt q e2).1; omega, fun e2 => by have := (Q14.lt q e2).1; omega⟩
              · exact ⟨fun e2 => by have := (P14.lt q e2).2; omega, fun e2 => by have := (Q14.lt q e2).2; omega⟩
          have hmap16 : Hid ((L ++ [(viewC F cp, Value.slice aA cp.temps.length kA, Value.slice aB cp.stack.length kB)]).map (·.1) = (F.take (k + 1)).map (fun p => viewC F (h.calls.getD p Cl.none))) := by
            show _ = _
            rw [List.map_append, HMAP.out, ← HMT]
            rfl
          clear hbl hg16 hbk16 hvn hrow15 s15 x0 x1 x2 x3 x4 x5 r14 P14 Q14 P15 Q15 P16 Q16 HLS HAP HNF HMAP HMT
          go_wp2
          go_roundg (F.length - (k + 1))
          case measure => omega
          case rel => exact ⟨k + 1, _, by omega, rfl, by go_num, hmap16.out, hrow16, hls16.out, hap16.out, hf16, hnf16, B16, hbx16⟩
        · have hsm : cp.sender = -1 := by omega
          have hnm : numOf F cp.sender = -1 := numOf_none (fun i hi e => by omega)
          go_upto_region 11 with fail
          have r14 : w13.rowIs cb 52 6 (six (.int .i64 cp.m) (.int .i64 cp.pc) (.slice aA cp.temps.length kA) (.slice aB cp.stack.length kB) (.int .i64 (numOf F cp.sender)) (.bool cp.dead)) := by rw [hnm, ← hsm]; exact r13
          have P14 := P13
          have Q14 := Q13
          have B14 := B13
          clear r13 P13 Q13 f13 B13 x0 x1 x2 x3 x4 x5 e0 e1 e2 e3 e4 e5 hsn hsm hnm
          generalize w13 = w14 at *
          have N15 := (Below.refl w14.heap.size w14).alloc (Nat.le_refl _) (.cells #[.int .i64 cp.m, .int .i64 cp.pc, .slice aA cp.temps.length kA, .slice aB cp.stack.length kB, .int .i64 (numOf F cp.sender), .bool cp.dead] 52)
          have s15 := six_new w14 52 (.int .i64 cp.m) (.int .i64 cp.pc) (.slice aA cp.temps.length kA) (.slice aB cp.stack.length kB) (.int .i64 (numOf F cp.sender)) (.bool cp.dead)
          have B15 := B14.trans (N15.mono B14.size)
          have hrow15 := hrow.below B15
          have P15 := P14.below N15
          have Q15 := Q14.below N15
          have z15 := B15.size
          obtain ⟨⟨x0, x1, x2, x3, x4, x5⟩, xf⟩ := six_cells r14
          clear xf
          have hLb : L.length ≤ 900000 := by rw [HLL.out]; omega
          go_wp2_with (at_builtin; refine append_call _ (by rfl) _ _ (by rfl) (w.heap.size + 1) _ L (viewC F cp, .slice aA cp.temps.length kA, .slice aB cp.stack.length kB) (by rfl) w14.heap.size 1 (by rfl) hrow15 rfl rfl (cells6_of s15) hLb (by omega) ?_; intro v16 w16 hrow16 hg16 hbk16)
          have hz16 := hg16.size
          have B16 : Below w.heap.size w w16 := (hb.trans (B15.mono hbz)).grown hg16 (by omega) (fun q e => by have := (hrow15.lt q e).1; omega)
          have hbl : ∀ q, q < wr.heap.size → (Value.slice ao L.length co).ownBlock ≠ some q → w16.heap[q]? = wr.heap[q]? := fun q h1 h2 => (hg16.block q (by omega) (fun e => h2 e.symm)).trans (B15.block q h1)
          have hf16 : IntRow W1.heap.size w16 (.slice (some ⟨g1, o1, none⟩) F.length c2) (nums F) := hf.kept (by omega) fun q e => hbl q (hf.lt q e).2 (fun e2 => HNF.out q e2 e)
          have hbx16 := hbx.of_block (hbl w.heap.size hbx.lt (fun e => by have := (hrow.lt _ e).1; omega))
          have hvn : ∀ q, v16.ownBlock = some q → (Value.slice ao L.length co).ownBlock = some q ∨ q = (w14.alloc (.cells #[.int .i64 cp.m, .int .i64 cp.pc, .slice aA cp.temps.length kA, .slice aB cp.stack.length kB, .int .i64 (numOf F cp.sender), .bool cp.dead] 52)).heap.size := fun q e => by
            rcases hbk16 with h1 | h1
            · exact .inl (by rw [← h1]; exact e)
            · exact .inr (by rw [h1] at e; simpa using e.symm)
          have hz15 : (w14.alloc (.cells #[.int .i64 cp.m, .int .i64 cp.pc, .slice aA cp.temps.length kA, .slice aB cp.stack.length kB, .int .i64 (numOf F cp.sender), .bool cp.dead] 52)).heap.size = w14.heap.size + 1 := by simp
          have hz14 := B14.size
          have hnf16 : ∀ q, v16.ownBlock = some q → (Value.slice (some ⟨g1, o1, none⟩) F.length c2).ownBlock ≠ some q := fun q e e2 => by
            rcases hvn q e with h1 | h1
            · exact HNF.out q h1 e2
            · have := (hf.lt q e2).2; omega
          have P16 : PairRow wr.heap.size w16 (.slice aA cp.temps.length kA) (cp.temps.map (ren F)) := P15.kept (by omega) fun q e => hg16.block q (by have := (P15.lt q e).2; omega) (fun e2 => by have h1 := (P15.lt q e).1; have h2 := (hrow.lt q e2.symm).2; omega)
          have Q16 : PairRow wr.heap.size w16 (.slice aB cp.stack.length kB) (cp.stack.map (ren F)) := Q15.kept (by omega) fun q e => hg16.block q (by have := (Q15.lt q e).2; omega) (fun e2 => by have h1 := (Q15.lt q e).1; have h2 := (hrow.lt q e2.symm).2; omega)
          have hls16 : Hid (∀ j, (hj : j < (L ++ [(viewC F cp, Value.slice aA cp.temps.length kA, Value.slice aB cp.stack.length kB)]).length) → PairRow (w.heap.size + 1) w16 (L ++ [(viewC F cp, Value.slice aA cp.temps.length kA, Value.slice aB cp.stack.length kB)])[j].2.1 (L ++ [(viewC F cp, Value.slice aA cp.temps.length kA, Value.slice aB cp.stack.length kB)])[j].1.temps ∧ PairRow (w.heap.size + 1) w16 (L ++ [(viewC F cp, Value.slice aA cp.temps.length kA, Value.slice aB cp.stack.length kB)])[j].2.2 (L ++ [(viewC F cp, Value.slice aA cp.temps.length kA, Value.slice aB cp.stack.length kB)])[j].1.stack) := fun j hj => by
            by_cases e : j < L.length
            · rw [List.getElem_append_left e]
              obtain ⟨p1, p2⟩ := HLS.out j e
              exact ⟨p1.kept (by omega) fun q h1 => hbl q (p1.lt q h1).2 (fun e2 => (HAP.out j e q e2).1 h1), p2.kept (by omega) fun q h1 => hbl q (p2.lt q h1).2 (fun e2 => (HAP.out j e q e2).2 h1)⟩
            · rw [List.getElem_append_right (by omega)]
              simp only [List.getElem_singleton]
              exact ⟨P16.mono (by omega), Q16.mono (by omega)⟩
          have hap16 : Hid (∀ j, (hj : j < (L ++ [(viewC F cp, Value.slice aA cp.temps.length kA, Value.slice aB cp.stack.length kB)]).length) → ∀ q, v16.ownBlock = some q → (L ++ [(viewC F cp, Value.slice aA cp.temps.length kA, Value.slice aB cp.stack.length kB)])[j].2.1.ownBlock ≠ some q ∧ (L ++ [(viewC F cp, Value.slice aA cp.temps.length kA, Value.slice aB cp.stack.length kB)])[j].2.2.ownBlock ≠ some q) := fun j hj q hq => by
            by_cases e : j < L.length
            · rw [List.getElem_append_left e]
              obtain ⟨p1, p2⟩ := HLS.out j e
              rcases hvn q hq with h1 | h1
              · exact HAP.out j e q h1
              · exact ⟨fun e2 => by have := (p1.lt q e2).2; omega, fun e2 => by have := (p2.lt q e2).2; omega⟩
            · rw [List.getElem_append_right (by omega)]
              simp only [List.getElem_singleton]
              rcases hvn q hq with h1 | h1
              · have h2 := (hrow.lt q h1).2
                exact ⟨fun e2 => by have := (P14.lt q e2).1; omega, fun e2 => by have := (Q14.lt q e2).1; omega⟩
              · exact ⟨fun e2 => by have := (P14.lt q e2).2; omega, fun e2 => by have := (Q14.lt q e2).2; omega⟩
          have hmap16 : Hid ((L ++ [(viewC F cp, Value.slice aA cp.temps.length kA, Value.slice aB cp.stack.length kB)]).map (·.1) = (F.take (k + 1)).map (fun p => viewC F (h.calls.getD p Cl.none))) := by
            show _ = _
            rw [List.map_append, HMAP.out, ← HMT]
            rfl
          clear hbl hg16 hbk16 hvn hrow15 s15 x0 x1 x2 x3 x4 x5 r14 P14 Q14 P15 Q15 P16 Q16 HLS HAP HNF HMAP HMT
          go_wp2
          go_roundg (F.length - (k + 1))
          case measure => omega
          case rel => exact ⟨k + 1, _, by omega, rfl, by go_num, hmap16.out, hrow16, hls16.out, hap16.out, hf16, hnf16, B16, hbx16⟩
    · obtain rfl : k = F.length := by omega
      have hv : CallsFrom w.heap.size wr (.slice ao L.length co) (viewL h) := fun w' hz hk => by
        have hv := (hrow.kept hz (fun g e => hk g (by have := (hrow.lt g e).1; omega) (hrow.lt g e).2)).at (fun j hj => ⟨((HLS.out j hj).1.kept hz (fun g e => hk g (by have := ((HLS.out j hj).1.lt g e).1; omega) ((HLS.out j hj).1.lt g e).2)).at, ((HLS.out j hj).2.kept hz (fun g e => hk g (by have := ((HLS.out j hj).2.lt g e).1; omega) ((HLS.out j hj).2.lt g e).2)).at⟩)
        rw [HMAP.out, List.take_length, ← HV.out] at hv
        exact hv
      go_wp2
      go_ret
      exact ⟨_, rfl, hv, hb⟩
end Go.Proofs.Ytfpodljalccpnaa

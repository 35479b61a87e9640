/-
  What is seen of a heap, by the program: view, HeapView.
-/
import Derived.Test.YtldiccheboipeaaVOrder
import Derived.Test.YtldiccheboipeaaCallRow

namespace Go.Proofs.Ytldiccheboipeaa
open Go.RowKit
set_option maxRecDepth 100000 in
set_option maxHeartbeats 4000000 in
theorem view_any (B bo : Nat) (F : List Nat) (vp vn vc vs : Value) (h : Hp) (w : World) (hh : HeapAt w vc vs h) (hsh : h.short) (hn : h.calls.length ≤ 30) (hO : Ord (fun _ => False) B bo h.calls.length F vp vn w) (hps : PsOk h.calls.length F) :
    Calls Try.prog 54 #[.pointer (some ⟨bo, 0, none⟩), .agg (hpCells vc vs h)] w fun e w' => (∃ v V, e = .returned v ∧ OwnCalls w.heap.size w' v (F.map fun p => viewC F (h.calls.getD p Cl.none)) V) ∧ Below w.heap.size w w' := by
  unfold hpCells
  obtain ⟨ac, kc, hvc⟩ := hh.c.shape
  obtain ⟨aD, kD, hvs⟩ := hh.s.shape
  subst hvc hvs
  obtain ⟨ap, cp', hvp, _⟩ := hO.p.slice
  rw [nums_len] at hvp
  subst hvp
  have hpl := hps.len
  obtain ⟨⟨o0, o1⟩, of0, of1⟩ := two_cells hO.box
  have hA : Below w.heap.size w (w.alloc (.cells #[.slice ac h.calls.length kc, .int .i64 h.now, .int .i64 h.born, .slice aD h.said.length kD, .int .i64 h.code] 39)) := (Below.refl _ _).alloc (Nat.le_refl _) _
  have bx := five_new w 39 (.slice ac h.calls.length kc) (.int .i64 h.now) (.int .i64 h.born) (.slice aD h.said.length kD) (.int .i64 h.code)
  have o0A := cell_below hA o0
  have o1A := cell_below hA o1
  go_enter Try.func54, Try.ntmps54
  go_wp2
  generalize w.alloc (.cells #[.slice ac h.calls.length kc, .int .i64 h.now, .int .i64 h.born, .slice aD h.said.length kD, .int .i64 h.code] 39) = W1 at *
  have zA := hA.size
  have yA := bx.lt
  clear o0A o1A
  go_loopg [5, 13] F.length (fun g o i wr2 => ∃ (k : Nat) (L : List (Cl × Value × Value)), k ≤ F.length ∧ g = F.length - k ∧ i = .int .i64 k ∧ L.map (·.1) = (F.take k).map (fun p => viewC F (h.calls.getD p Cl.none)) ∧ CallRow w.heap.size wr2 o L ∧
      (∀ j, (hj : j < L.length) → PairRow w.heap.size wr2 L[j].2.1 L[j].1.temps ∧ PairRow w.heap.size wr2 L[j].2.2 L[j].1.stack) ∧ ApartL L o ∧ Below W1.heap.size W1 wr2 ∧
      (∀ q, o.ownBlock = some q → W1.heap.size ≤ q))
  case atStart => exact ⟨0, [], Nat.zero_le _, rfl, rfl, rfl, CallRow.nil _ _, fun j hj => absurd hj (Nat.not_lt_zero _), fun q hq => absurd hq (Nat.not_lt_zero _), Below.refl _ _, fun q e => by simp [Value.ownBlock] at e⟩
  case round =>
    obtain ⟨k, L, hk, rfl, rfl, hmap, hrow, hls, hap, hL2, hon⟩ := hrel
    have HMAP : Hid (L.map (·.1) = (F.take k).map (fun p => viewC F (h.calls.getD p Cl.none))) := hmap
    have HLS : Hid (∀ j, (hj : j < L.length) → PairRow w.heap.size wr L[j].2.1 L[j].1.temps ∧ PairRow w.heap.size wr L[j].2.2 L[j].1.stack) := hls
    have hLl : L.length = k := by have := congrArg List.length hmap; simp at this; omega
    have HLL : Hid (L.length = k) := hLl
    obtain ⟨ao, co, hvo, _⟩ := hrow.slice
    subst hvo
    have HAP : Hid (ApartL L (.slice ao L.length co)) := hap
    have HON : Hid (∀ q, (Value.slice ao L.length co).ownBlock = some q → W1.heap.size ≤ q) := hon
    clear hmap hls hap hLl hon
    have hb : Below w.heap.size w wr := hA.trans (hL2.mono zA)
    have hO2 := hO.below hb
    by_cases hltk : k < F.length
    · have hkz : (k : Int) < (F.length : Int) := by omega
      obtain ⟨gp, op, c1', e1, _⟩ := hO2.p.form (by rw [nums_len]; omega)
      obtain rfl : ap = some ⟨gp, op, none⟩ := by injection e1
      clear e1
      have d1 := (hO2.p.cell (i := k) (by rw [nums_len]; exact hltk)).1
      rw [nums_at] at d1
      have hpk : F[k] < h.calls.length := hps.lt _ (List.getElem_mem hltk)
      have HMT := map_take (f := fun p => viewC F (h.calls.getD p Cl.none)) hltk
      generalize F[k] = p at *
      obtain ⟨b, o, vt, vs', hac, hc⟩ := hh.c.cl hpk
      subst hac
      obtain ⟨at', ct', hvt⟩ := hc.t.shape
      obtain ⟨as', ct2, hvs⟩ := hc.s.shape
      subst hvt hvs
      have q0 := cell_below hb hc.c0
      have q1 := cell_below hb hc.c1
      have q2 := cell_below hb hc.c2
      have q3 := cell_below hb hc.c3
      have q4 := cell_below hb hc.c4
      have q5 := cell_below hb hc.c5
      have hlen := hsh.2 p hpk
      have hgd : h.calls.getD p Cl.none = h.calls[p] := by simp [hpk]
      rw [hgd] at HMT
      have hct := hc.t.below hb
      have hcs' := hc.s.below hb
      have w0x := (five_cells (row_below hL2 bx)).1.1
      have hpz : (p : Int) < (h.calls.length : Int) := by omega
      have hLb : L.length ≤ 900000 := by rw [HLL.out]; omega
      have hLT := lists_lt HLS.out
      have HLT : Hid _ := hLT
      generalize hce : h.calls[p] = cp at *
      clear hce hc hgd hLT
      go_wp2_with fail
      refine (renumbered_any _ B bo _ F _ _ _ _ cp _ hO2 hps (by omega) hct hcs' hlen).mono ?_
      rintro e w8 ⟨vt8, vs8, rfl, ht8, hs8, hap8, hb8⟩
      obtain ⟨at8, kt8, hv8, _⟩ := ht8.slice
      obtain ⟨as8, ks8, hw8, _⟩ := hs8.slice
      rw [List.length_map] at hv8 hw8
      subst hv8 hw8
      unfold clCells
      simp only [viewC]
      have hz8 := hb8.size
      have hwz := hb.size
      have N15 := (Below.refl w8.heap.size w8).alloc (Nat.le_refl _) (.cells #[.int .i64 cp.m, .int .i64 cp.pc, .slice at8 cp.temps.length kt8, .slice as8 cp.stack.length ks8, .int .i64 (numOf F cp.sender), .bool cp.dead] 88)
      have s15 := six_new w8 88 (.int .i64 cp.m) (.int .i64 cp.pc) (.slice at8 cp.temps.length kt8) (.slice as8 cp.stack.length ks8) (.int .i64 (numOf F cp.sender)) (.bool cp.dead)
      have B15 := hb8.trans (N15.mono hz8)
      have hrow15 := hrow.below B15
      have hz15 : (w8.alloc (.cells #[.int .i64 cp.m, .int .i64 cp.pc, .slice at8 cp.temps.length kt8, .slice as8 cp.stack.length ks8, .int .i64 (numOf F cp.sender), .bool cp.dead] 88)).heap.size = w8.heap.size + 1 := by simp
      go_wp2_with (at_builtin; refine append_call _ (by rfl) _ _ (by rfl) w.heap.size _ L (viewC F cp, Value.slice at8 cp.temps.length kt8, Value.slice as8 cp.stack.length ks8) (by rfl) w8.heap.size 1 (by rfl) hrow15 rfl rfl (cells6_of s15) hLb (by omega) ?_; intro v16 w16 hrow16 hg16 hbk16)
      have hz16 := hg16.size
      have hbl : ∀ q, q < wr.heap.size → (Value.slice ao L.length co).ownBlock ≠ some q → w16.heap[q]? = wr.heap[q]? := fun q h1 h2 => (hg16.block q (by omega) (fun e => h2 e.symm)).trans (B15.block q h1)
      have hvn : ∀ q, v16.ownBlock = some q → (Value.slice ao L.length co).ownBlock = some q ∨ w8.heap.size + 1 ≤ q := fun q e => by
        rcases hbk16 with h1 | h1
        · exact .inl (by rw [← h1]; exact e)
        · exact .inr (by rw [h1] at e; simp at e; omega)
      have L16 : Below W1.heap.size W1 w16 := (hL2.trans (B15.mono hL2.size)).grown hg16 (by have := hL2.size; omega) (fun q e => HON.out q e)
      have hon16 : ∀ q, v16.ownBlock = some q → W1.heap.size ≤ q := fun q e => by
        rcases hvn q e with h1 | h1
        · exact HON.out q h1
        · have := hL2.size; omega
      have P16 : PairRow w.heap.size w16 (.slice at8 cp.temps.length kt8) (cp.temps.map (ren F)) := ((ht8.below N15).kept hz16 fun q e => hg16.block q (by have := (ht8.lt q e).2; omega) (fun e2 => by have h1 := (ht8.lt q e).1; have h2 := (hrow.lt q e2.symm).2; omega)).mono (by omega)
      have Q16 : PairRow w.heap.size w16 (.slice as8 cp.stack.length ks8) (cp.stack.map (ren F)) := ((hs8.below N15).kept hz16 fun q e => hg16.block q (by have := (hs8.lt q e).2; omega) (fun e2 => by have h1 := (hs8.lt q e).1; have h2 := (hrow.lt q e2.symm).2; omega)).mono (by omega)
      have hls16 : Hid (∀ j, (hj : j < (L ++ [(viewC F cp, Value.slice at8 cp.temps.length kt8, Value.slice as8 cp.stack.length ks8)]).length) → PairRow w.heap.size w16 (L ++ [(viewC F cp, Value.slice at8 cp.temps.length kt8, Value.slice as8 cp.stack.length ks8)])[j].2.1 (L ++ [(viewC F cp, Value.slice at8 cp.temps.length kt8, Value.slice as8 cp.stack.length ks8)])[j].1.temps ∧ PairRow w.heap.size w16 (L ++ [(viewC F cp, Value.slice at8 cp.temps.length kt8, Value.slice as8 cp.stack.length ks8)])[j].2.2 (L ++ [(viewC F cp, Value.slice at8 cp.temps.length kt8, Value.slice as8 cp.stack.length ks8)])[j].1.stack) := fun j hj => by
        by_cases e : j < L.length
        · rw [List.getElem_append_left e]
          obtain ⟨p1, p2⟩ := HLS.out j e
          have a0 := HAP.out (j * 2) (by omega)
          have a1 := HAP.out (j * 2 + 1) (by omega)
          have hget : L.getD j (Cl.none, .slice none 0 0, .slice none 0 0) = L[j] := by simp [e]
          rw [lst_0, hget] at a0
          rw [lst_1, hget] at a1
          exact ⟨p1.kept (by omega) fun q h1 => hbl q (p1.lt q h1).2 (a0 q h1).1, p2.kept (by omega) fun q h1 => hbl q (p2.lt q h1).2 (a1 q h1).1⟩
        · rw [List.getElem_append_right (by omega)]
          simp only [List.getElem_singleton]
          exact ⟨P16, Q16⟩
      have hap16 : Hid (ApartL (L ++ [(viewC F cp, Value.slice at8 cp.temps.length kt8, Value.slice as8 cp.stack.length ks8)]) v16) := apart_snoc (S := wr.heap.size) (S' := w8.heap.size + 1) HAP.out HLT.out (fun g e => ⟨(ht8.lt g e).1, by have := (ht8.lt g e).2; omega⟩) (fun g e => ⟨(hs8.lt g e).1, by have := (hs8.lt g e).2; omega⟩) hap8 (fun g e => (hrow.lt g e).2) hvn (by omega)
      have hmap16 : Hid ((L ++ [(viewC F cp, Value.slice at8 cp.temps.length kt8, Value.slice as8 cp.stack.length ks8)]).map (·.1) = (F.take (k + 1)).map (fun p => viewC F (h.calls.getD p Cl.none))) := by
        show _ = _
        rw [List.map_append, HMAP.out, ← HMT]
        rfl
      clear hbl hg16 hbk16 hvn hrow15 s15 P16 Q16 HLS HAP HON HMAP HMT HLT ht8 hs8 hb8 B15 N15 hrow hO2 hL2 hct hcs' q0 q1 q2 q3 q4 q5 d1 w0x
      go_wp2
      go_roundg (F.length - (k + 1))
      case measure => omega
      case rel => exact ⟨k + 1, _, by omega, rfl, by go_num, hmap16.out, hrow16, hls16.out, hap16.out, L16, hon16⟩
    · obtain rfl : k = F.length := by omega
      have hv := hrow.own HLS.out HAP.out
      rw [HMAP.out, List.take_length] at hv
      go_wp2
      go_ret
      exact ⟨⟨_, _, rfl, hv⟩, hb⟩
end Go.Proofs.Ytldiccheboipeaa

/-
  What is seen of a heap, by the program: HeapView.
-/
namespace Go.Proofs.Ytldiccheboipeaa
open Go.RowKit
theorem OwnCalls.mono {B B' : Nat} {w : World} {v : Value} {cs : List Cl} {V : Nat → Value × Value} (h : OwnCalls B w v cs V) (hB : B' ≤ B) : OwnCalls B' w v cs V := by
  refine ⟨?_, fun i hi => ⟨(h.lists i hi).1.mono hB, (h.lists i hi).2.mono hB⟩, h.apart⟩
  rcases h.row with h0 | ⟨g, off, cap, hv, hg, r⟩
  · exact .inl h0
  · exact .inr ⟨g, off, cap, hv, by omega, r⟩
set_option maxRecDepth 100000 in
set_option maxHeartbeats 4000000 in
theorem implHeapView_any (vc vs : Value) (h : Hp) (w : World) (hh : HeapAt w vc vs h) (hsh : h.short) (hn : h.calls.length ≤ 30) :
    Calls Try.prog 15 #[.agg (hpCells vc vs h)] w fun e w' => (∃ v V, e = .returned v ∧ OwnCalls w.heap.size w' v (viewL h) V) ∧ Below w.heap.size w w' := by
  have HH : Hid (HeapAt w vc vs h) := hh
  have hA : Below w.heap.size w (w.alloc (.cells (hpCells vc vs h) 39)) := (Below.refl _ _).alloc (Nat.le_refl _) _
  have bx : (w.alloc (.cells (hpCells vc vs h) 39)).rowIs w.heap.size 39 5 (five vc (.int .i64 h.now) (.int .i64 h.born) vs (.int .i64 h.code)) := five_new w 39 vc (.int .i64 h.now) (.int .i64 h.born) vs (.int .i64 h.code)
  unfold hpCells at *
  obtain ⟨ac, kc, hvc⟩ := hh.c.shape
  obtain ⟨aD, kD, hvs⟩ := hh.s.shape
  subst hvc hvs
  clear hh
  go_enter Try.func15, Try.ntmps15
  go_upto_region 1 with fail
  generalize w.alloc (.cells #[.slice ac h.calls.length kc, .int .i64 h.now, .int .i64 h.born, .slice aD h.said.length kD, .int .i64 h.code] 39) = W1 at *
  have zA := hA.size
  obtain ⟨⟨x0, x1, x2, x3, x4⟩, xf⟩ := five_cells bx
  clear xf
  have HO := orderOf_any _ _ h W1 (HH.out.below hA) hn
  unfold hpCells at HO
  go_wp2_with fail
  refine HO.mono ?_
  rintro e w2 ⟨⟨vp, vn, rfl, hV, hps⟩, hb2⟩
  obtain ⟨ap, kp, hvp, _⟩ := hV.p.slice
  obtain ⟨an, kn, hvn, _⟩ := hV.n.slice
  rw [nums_len] at hvp
  rw [tabN_len] at hvn
  subst hvp hvn
  have N2 := (Below.refl w2.heap.size w2).alloc (Nat.le_refl _) (.cells #[.slice ap (found h).length kp, .slice an h.calls.length kn] 99)
  have HOrd : Hid (Ord (fun _ => False) W1.heap.size w2.heap.size h.calls.length (found h) (.slice ap (found h).length kp) (.slice an h.calls.length kn) (w2.alloc (.cells #[.slice ap (found h).length kp, .slice an h.calls.length kn] 99))) :=
    ⟨hb2.size, two_new _ _ _ _, hV.p.below N2, hV.n.below N2, fun e => by have := (hV.p.lt _ e).2; omega, fun e => by have := (hV.n.lt _ e).2; omega, hV.pn, fun g e => e.elim⟩
  have B3 : Below W1.heap.size W1 (w2.alloc (.cells #[.slice ap (found h).length kp, .slice an h.calls.length kn] 99)) := hb2.trans (N2.mono hb2.size)
  have HPs : Hid (PsOk h.calls.length (found h)) := hps
  have bx3 := row_below B3 bx
  clear x0 x1 x2 x3 x4 HO hV hps hb2 N2
  obtain ⟨⟨x0, x1, x2, x3, x4⟩, xf⟩ := five_cells bx3
  clear xf bx3 bx
  generalize hF : found h = F at *
  have HF : Hid (found h = F) := hF
  clear hF
  go_upto_region 2 with fail
  generalize w2.alloc (.cells #[.slice ap F.length kp, .slice an h.calls.length kn] 99) = w3 at *
  generalize w2.heap.size = bo at *
  have HVw := view_any W1.heap.size bo F _ _ _ _ h w3 (HH.out.below (hA.trans (B3.mono zA))) hsh hn HOrd.out HPs.out
  unfold hpCells at HVw
  go_wp2_with fail
  refine HVw.mono ?_
  rintro e w4 ⟨⟨v, V, rfl, hv⟩, hb4⟩
  have hz := (hA.trans (B3.mono zA)).size
  go_wp2
  go_ret
  refine ⟨⟨v, V, rfl, ?_⟩, (hA.trans (B3.mono zA)).trans (hb4.mono hz)⟩
  have : viewL h = F.map fun p => viewC F (h.calls.getD p Cl.none) := by rw [← HF.out]; rfl
  rw [this]
  exact hv.mono hz
end Go.Proofs.Ytldiccheboipeaa

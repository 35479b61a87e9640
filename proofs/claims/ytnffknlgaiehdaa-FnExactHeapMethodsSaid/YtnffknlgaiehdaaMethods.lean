/-
  The methods of the calls that wait: both sides' HeapMethods, whatever program and heap come in.
-/
import Derived.Test.YtnffknlgaiehdaaHHeapOk
import Derived.Test.YtnffknlgaiehdaaHImpl6
import Derived.Test.YtnffknlgaiehdaaStepQ
import Derived.Deep.RegionHeld3
namespace Go.Proofs.Ytnffknlgaiehdaa
open Go.RowKit

/-- an operation of a region whose run is known -/
theorem held_valM {P : Program} {o : Oper} {y : Nat → Option Bool} {a : Act} {w w' : World} {v : Value} {K : Act → World → Prop} {Q : Exit → Act → World → Prop} {E : Prop} (hg : Region.wanted o y = true) (hr : (execOp a.eval o).run P w = .ok (.value v) w') (hK : K (a.put o.dst v) w') :
    if Region.wanted o y = true then Oper.wp P o a w K Q else E := by
  rw [if_pos hg]
  unfold Oper.wp
  rw [hr]
  exact hK

theorem append_runT {P : Program} {t : TypeId} {o : Oper} {act : Act} {w w' : World} {s x : Operand} {v xv v' : Value} (ho : o.op = .call { callee := .builtin .append, args := #[s, x], argTypes := #[t, t] }) (hs : act.eval s = v) (hx : act.eval x = xv)
    (hr : (Builtin.append_ #[t, t] o.type #[v, xv]).run P w = .ok v' w') : (execOp act.eval o).run P w = .ok (.value v') w' := by
  unfold execOp
  simp only [ho, resolve, invoke, builtin, Sem.run_bind, Sem.run_pure, Result.andThen_ok, List.map_toArray, List.map_cons, List.map_nil, hs, hx, hr]

theorem one_box (w : World) (t : TypeId) (x : Value) : (w.alloc (.cells #[x] t)).rowIs w.heap.size t 1 (fun _ => x) :=
  ⟨_, Go.Deep.blk_alloc_new _ _, rfl, fun i hi => by match i, hi with | 0, _ => rfl⟩

/-- the method of the call at a place -/
def mOf (cs : List Cl) (k : Nat) : Int := (cs.getD k Cl.none).m
/-- methods of those that wait -/
def methL (h : Hp) : List Int := (chainOf h.calls h.now).map (mOf h.calls)
def methodsL (ms : Ms) (h : Hp) : List Int := if heapOk ms h = true then methL h else []

theorem mOf_at {cs : List Cl} {k : Nat} (hk : k < cs.length) : mOf cs k = cs[k].m := by simp [mOf, hk]

theorem walk_next {cs : List Cl} {f : Nat} {a : Int} {l : List Nat} (h : walkC cs f a = some l) (ha : 0 ≤ a) : ∃ (k : Nat) (hk : k < cs.length) (t : List Nat) (f' : Nat), a = (k : Int) ∧ l = k :: t ∧ walkC cs f' cs[k].sender = some t := by
  obtain ⟨k, rfl⟩ := Int.eq_ofNat_of_zero_le ha
  cases f with
  | zero => rw [walkC_zero ha] at h; cases h
  | succ f =>
    by_cases hk : k < cs.length
    · cases hd : cs[k].dead
      · rw [walkC_step hk hd] at h
        cases ht : walkC cs f cs[k].sender with
        | none => rw [ht] at h; cases h
        | some t =>
          rw [ht] at h
          simp at h
          exact ⟨k, hk, t, f, rfl, h.symm, ht⟩
      · rw [walkC_dead hk hd] at h; cases h
    · rw [walkC_past hk] at h; cases h

theorem walk_end {cs : List Cl} {f : Nat} {a : Int} {l : List Nat} (h : walkC cs f a = some l) (ha : a < 0) : l = [] := by rw [walkC_neg ha] at h; simpa using h.symm

theorem good_walk {ms : Ms} {h : Hp} (g : Good ms h) : (∃ f, walkC h.calls f h.now = some (chainOf h.calls h.now)) ∧ (chainOf h.calls h.now).length ≤ 30 := by
  obtain ⟨l, hw⟩ := g.w
  have e := hw.chain
  have hl := hw.len
  have h1 := g.head.few
  have h2 := g.head.born
  rw [e]
  exact ⟨hw.ch, by omega⟩

set_option maxRecDepth 100000 in
set_option maxHeartbeats 4000000 in
theorem methodsOf_any (vc vs : Value) (ms : Ms) (h : Hp) (w : World) (hh : HeapAt w vc vs h) (hg : Good ms h) :
    Calls Try.prog 47 #[.agg (hpCells vc vs h)] w fun e w' => ∃ v, e = .returned v ∧ IntRow w.heap.size w' v (methL h) ∧ Below w.heap.size w w' := by
  obtain ⟨⟨f0, hf0⟩, hlen⟩ := good_walk hg
  have hfl : (methL h).length ≤ 30 := by unfold methL; rw [List.length_map]; exact hlen
  have HSD : Hid (∀ k, (hk : k < h.calls.length) → -1 ≤ h.calls[k].sender) := fun k hk => (hg.cl k hk).sd.1
  have hnow : -1 ≤ h.now := hg.head.now.1
  unfold hpCells
  obtain ⟨aD, kD, hvs⟩ := hh.s.shape
  obtain ⟨ac, kc, hvc, _, hcl⟩ := id hh.c
  subst hvs hvc
  obtain ⟨i0, hi, hz0, hz1, hz2⟩ := info_parts Try.infoInt2
  have hA := (Below.refl w.heap.size w).alloc (Nat.le_refl _) (.cells #[.slice ac h.calls.length kc, .int .i64 h.now, .int .i64 h.born, .slice aD h.said.length kD, .int .i64 h.code] 34)
  have bh := five_new w 34 (.slice ac h.calls.length kc) (.int .i64 h.now) (.int .i64 h.born) (.slice aD h.said.length kD) (.int .i64 h.code)
  obtain ⟨⟨b0, b1, _, _, _⟩, _⟩ := five_cells bh
  have HSTART : Hid (methL h = [] ++ (chainOf h.calls h.now).map (mOf h.calls)) := rfl
  obtain ⟨full, hfull⟩ : ∃ full, methL h = full := ⟨_, rfl⟩
  have HFU : Hid (methL h = full) := hfull
  rw [hfull] at hfl HSTART ⊢
  obtain ⟨ch, hch⟩ : ∃ ch, chainOf h.calls h.now = ch := ⟨_, rfl⟩
  rw [hch] at hf0 HSTART
  have HF0 : Hid (walkC h.calls f0 h.now = some ch) := hf0
  clear hfull hch hf0 HFU bh
  go_enter Try.func47, Try.ntmps47
  go_upto_region 1 with fail
  generalize w.alloc (.cells #[.slice ac h.calls.length kc, .int .i64 h.now, .int .i64 h.born, .slice aD h.said.length kD, .int .i64 h.code] 34) = W0 at *
  have z0 : w.heap.size < W0.heap.size := World.block_lt_of_cell? _ _ b0
  go_wp2_with fail
  go_loopg [3, 4] (ch.length * 1) (fun d v at_ wr => ∃ (rest : List Nat) (L : List Int) (f : Nat) (a : Int), walkC h.calls f a = some rest ∧ d = rest.length * 1 ∧ at_ = .int .i64 a ∧ -1 ≤ a ∧ IntRow W0.heap.size wr v L ∧ full = L ++ rest.map (mOf h.calls) ∧ wr.cell? ⟨w.heap.size, 0, none⟩ = some (.slice ac h.calls.length kc) ∧ Below w.heap.size w wr ∧ W0.heap.size ≤ wr.heap.size)
  case atStart => exact ⟨ch, [], f0, h.now, HF0.out, rfl, rfl, hnow, IntRow.nil _ _, HSTART.out, b0, hA, Nat.le_refl _⟩
  case round =>
    clear b0 b1 hA HSTART HF0 hnow
    obtain ⟨rest, L, f, a, hw, rfl, rfl, ha, hrow, hL, br, hb, hzr⟩ := hrel
    have HW : Hid (walkC h.calls f a = some rest) := hw
    have HL : Hid (full = L ++ rest.map (mOf h.calls)) := hL
    obtain ⟨aL, cL, hvL, _⟩ := hrow.slice
    subst hvL
    clear hw hL
    have hsz := hb.size
    by_cases han : a < 0
    · obtain rfl : a = -1 := by omega
      have HE : Hid (L = full) := by
        have e := HL.out
        rw [walk_end HW.out han] at e
        have e2 : full = L := by simpa using e
        exact e2.symm
      go_wp2
      go_ret
      exact ⟨_, rfl, by rw [← HE.out]; exact hrow.mono (by omega), hb⟩
    obtain ⟨k, hk, t, f', rfl, hr, hw'⟩ := walk_next HW.out (by omega)
    have HW' : Hid (walkC h.calls f' h.calls[k].sender = some t) := hw'
    have HR : Hid (rest = k :: t) := hr
    clear hr hw' HW
    have hkz : (k : Int) < (h.calls.length : Int) := by omega
    have hkn : ¬ ((k : Int) = -1) := by omega
    obtain ⟨b, o, vt, vs', rfl, hc⟩ := hcl k hk
    have d0 := cell_below hb hc.c0
    have d4 := cell_below hb hc.c4
    have hbl : b < w.heap.size := World.block_lt_of_cell? _ _ hc.c0
    have hll : L.length ≤ 900000 := by have := hfl; rw [HL.out] at this; simp at this; omega
    have HN : Hid (-1 ≤ h.calls[k].sender) := HSD.out k hk
    have HM : Hid (mOf h.calls k = h.calls[k].m) := mOf_at hk
    clear hc hcl han ha
    go_wp2_with (at_builtin; refine append_int Try.underlying52 hi hz0 hz1 hz2 _ (by rfl) _ _ (by rfl) _ L (by rfl) hrow _ _ _ rfl (by rfl) hll hzr ?_; intro g2 off2 cp2 w2 hrow2 hg2 hor2 hlt2; have br2 := hg2.cell br (fun e => by have h9 : W0.heap.size ≤ w.heap.size := (hrow.lt _ e.symm).1; omega); have e4 := hg2.cell d4 (fun e => by have h9 : W0.heap.size ≤ b := (hrow.lt _ e.symm).1; omega))
    have hb2 : Below w.heap.size w w2 := hb.grown hg2 (by omega) (fun q e => by have h9 : W0.heap.size ≤ q := (hrow.lt _ e).1; omega)
    go_roundg (t.length * 1)
    case measure => rw [HR.out]; simp
    case rel => exact ⟨t, L ++ [h.calls[k].m], f', h.calls[k].sender, HW'.out, rfl, rfl, HN.out, hrow2, by rw [HL.out, HR.out, List.map_cons, HM.out]; simp, br2, hb2, by have := hg2.size; omega⟩

set_option maxRecDepth 100000 in
set_option maxHeartbeats 4000000 in
theorem implHeapMethods_any (vp vc vs : Value) (ms : Ms) (h : Hp) (w : World) (hp : MethsAt w vp ms) (hh : HeapAt w vc vs h) (hn : h.calls.length ≤ 1048576) :
    Calls Try.prog 21 #[.agg #[vp], .agg (hpCells vc vs h)] w fun e w' => ∃ v, e = .returned v ∧ IntRow w.heap.size w' v (methodsL ms h) ∧ Below w.heap.size w w' := by
  obtain ⟨aD, kD, hvs⟩ := hh.s.shape
  obtain ⟨ac, kc, hvc, _, hcl⟩ := id hh.c
  obtain ⟨ap, cp, hvp, hlp, _⟩ := id hp
  subst hvc hvs hvp
  unfold hpCells
  obtain ⟨fb, hfb⟩ : ∃ fb, heapOk ms h = fb := ⟨_, rfl⟩
  have HFB : Hid (heapOk ms h = fb) := hfb
  have hA : Below w.heap.size w ((w.alloc (.cells #[.slice ap ms.length cp] 39)).alloc (.cells #[.slice ac h.calls.length kc, .int .i64 h.now, .int .i64 h.born, .slice aD h.said.length kD, .int .i64 h.code] 34)) := ((Below.refl _ _).alloc (Nat.le_refl _) _).alloc (by simp) _
  have bp : ((w.alloc (.cells #[.slice ap ms.length cp] 39)).alloc (.cells #[.slice ac h.calls.length kc, .int .i64 h.now, .int .i64 h.born, .slice aD h.said.length kD, .int .i64 h.code] 34)).rowIs w.heap.size 39 1 (fun _ => .slice ap ms.length cp) := (one_box w 39 (.slice ap ms.length cp)).alloc _
  have bh := five_new (w.alloc (.cells #[.slice ap ms.length cp] 39)) 34 (.slice ac h.calls.length kc) (.int .i64 h.now) (.int .i64 h.born) (.slice aD h.said.length kD) (.int .i64 h.code)
  simp only [World.size_alloc] at bh
  go_enter Try.func21, Try.ntmps21
  go_upto_region 1 with fail
  generalize (w.alloc (.cells #[.slice ap ms.length cp] 39)).alloc (.cells #[.slice ac h.calls.length kc, .int .i64 h.now, .int .i64 h.born, .slice aD h.said.length kD, .int .i64 h.code] 34) = W0 at *
  have z0 := hA.size
  have HOK := implHeapOk_any _ _ _ ms h W0 (hp.below hA) (hh.below hA) hn
  rw [hfb] at HOK
  unfold hpCells at HOK
  have v0 := bp.cell (i := 0) (by decide)
  obtain ⟨⟨x0, x1, x2, x3, x4⟩, _⟩ := five_cells bh
  clear hfb
  go_wp2_with fail
  refine HOK.mono ?_
  rintro e w1 ⟨rfl, hb1⟩
  have B1 := hA.trans (hb1.mono z0)
  have bh1 := row_below hb1 bh
  have z1 := B1.size
  clear HOK x0 x1 x2 x3 x4 v0 bp bh hb1 hA
  cases fb
  · have HE : Hid (methodsL ms h = []) := by show _ = _; unfold methodsL; rw [HFB.out]; rfl
    go_wp2
    go_ret
    exact ⟨_, rfl, by rw [HE.out]; exact IntRow.nil _ _, B1⟩
  have HE : Hid (methodsL ms h = methL h) := by show _ = _; unfold methodsL; rw [HFB.out]; rfl
  have HC := methodsOf_any _ _ ms h w1 (hh.below B1) (good_iff.1 HFB.out)
  unfold hpCells at HC
  obtain ⟨⟨x0, x1, x2, x3, x4⟩, _⟩ := five_cells bh1
  go_wp2_with fail
  refine HC.mono ?_
  rintro e w2 ⟨v2, rfl, hr2, hb2⟩
  obtain ⟨a2, c2, hv2, _⟩ := hr2.slice
  subst hv2
  go_wp2
  go_ret
  exact ⟨_, rfl, by rw [HE.out]; exact hr2.mono z1, B1.trans (hb2.mono z1)⟩

set_option maxRecDepth 100000 in
set_option maxHeartbeats 4000000 in
theorem specHeapMethods_any (vp vc vs : Value) (ms : Ms) (h : Hp) (w : World) (hp : MethsAt w vp ms) (hh : HeapAt w vc vs h) (hn : h.calls.length ≤ 1048576) :
    Calls Try.prog 20 #[.agg #[vp], .agg (hpCells vc vs h)] w fun e w' => ∃ v, e = .returned v ∧ IntRow w.heap.size w' v (methodsL ms h) ∧ Below w.heap.size w w' := by
  obtain ⟨aD, kD, hvs⟩ := hh.s.shape
  obtain ⟨ac, kc, hvc, _, hcl⟩ := id hh.c
  obtain ⟨ap, cp, hvp, hlp, _⟩ := id hp
  subst hvc hvs hvp
  unfold hpCells
  obtain ⟨fb, hfb⟩ : ∃ fb, heapOk ms h = fb := ⟨_, rfl⟩
  have HFB : Hid (heapOk ms h = fb) := hfb
  have hA : Below w.heap.size w ((w.alloc (.cells #[.slice ap ms.length cp] 39)).alloc (.cells #[.slice ac h.calls.length kc, .int .i64 h.now, .int .i64 h.born, .slice aD h.said.length kD, .int .i64 h.code] 34)) := ((Below.refl _ _).alloc (Nat.le_refl _) _).alloc (by simp) _
  have bp : ((w.alloc (.cells #[.slice ap ms.length cp] 39)).alloc (.cells #[.slice ac h.calls.length kc, .int .i64 h.now, .int .i64 h.born, .slice aD h.said.length kD, .int .i64 h.code] 34)).rowIs w.heap.size 39 1 (fun _ => .slice ap ms.length cp) := (one_box w 39 (.slice ap ms.length cp)).alloc _
  have bh := five_new (w.alloc (.cells #[.slice ap ms.length cp] 39)) 34 (.slice ac h.calls.length kc) (.int .i64 h.now) (.int .i64 h.born) (.slice aD h.said.length kD) (.int .i64 h.code)
  simp only [World.size_alloc] at bh
  obtain ⟨i0, hi, hz0, hz1, hz2⟩ := info_parts Try.infoInt2
  go_enter Try.func20, Try.ntmps20
  go_upto_region 1 with fail
  generalize (w.alloc (.cells #[.slice ap ms.length cp] 39)).alloc (.cells #[.slice ac h.calls.length kc, .int .i64 h.now, .int .i64 h.born, .slice aD h.said.length kD, .int .i64 h.code] 34) = W0 at *
  have z0 := hA.size
  have hbl1 := bh.lt
  go_upto_region 2 with fail
  have mk0 := int_made W0
  have hW01 := (mk0.lt W0.heap.size rfl).2
  have NE := (Below.refl W0.heap.size W0).alloc (Nat.le_refl _) (.cells #[] 3)
  have hA' := hA.trans (NE.mono z0)
  have bp' := row_below NE bp
  have bh' := row_below NE bh
  have hz' := NE.size
  clear hA bp bh
  generalize W0.alloc (.cells #[] 3) = W1 at *
  have z1 := hA'.size
  have HOK := specHeapOk_any _ _ _ ms h W1 (hp.below hA') (hh.below hA') hn
  rw [hfb] at HOK
  unfold hpCells at HOK
  have v0 := bp'.cell (i := 0) (by decide)
  obtain ⟨⟨x0, x1, x2, x3, x4⟩, _⟩ := five_cells bh'
  clear hfb
  go_wp2_with fail
  refine HOK.mono ?_
  rintro e w1 ⟨rfl, hb1⟩
  have B1 := hA'.trans (hb1.mono z1)
  have bh1 := row_below hb1 bh'
  have mk1 := mk0.below hb1
  have zz1 := hb1.size
  clear HOK x0 x1 x2 x3 x4 v0 bp' bh' hb1 hA' mk0
  cases fb
  · have HE : Hid (methodsL ms h = []) := by show _ = _; unfold methodsL; rw [HFB.out]; rfl
    go_wp2
    go_ret
    exact ⟨_, rfl, by rw [HE.out]; exact mk1.mono (by omega), B1⟩
  have hgd := good_iff.1 HFB.out
  obtain ⟨_, hlen⟩ := good_walk hgd
  have hcn : h.calls.length ≤ 900000 := by have := hgd.head.few; have := hgd.head.born; omega
  have HE : Hid (methodsL ms h = methL h) := by show _ = _; unfold methodsL; rw [HFB.out]; rfl
  have HC := l11Chain_any _ _ h w1 (hh.below B1) hcn
  have HIN : Hid (∀ k ∈ chainOf h.calls h.now, k < h.calls.length) := fun k hk => (chain_in hk).1
  unfold hpCells at HC
  obtain ⟨⟨x0, x1, x2, x3, x4⟩, _⟩ := five_cells bh1
  go_wp2_with fail
  refine HC.mono ?_
  rintro e w2 ⟨v2, rfl, hr2, hb2⟩
  have HM0 : Hid (methL h = (chainOf h.calls h.now).map (mOf h.calls)) := rfl
  obtain ⟨ch, hch⟩ : ∃ ch, chainOf h.calls h.now = ch := ⟨_, rfl⟩
  rw [hch] at hr2 HIN hlen HM0
  obtain ⟨a2, c2, hv2, _⟩ := hr2.slice
  subst hv2
  have B2 := B1.trans (hb2.mono (by have := B1.size; omega))
  have bx2 := cell_below hb2 x0
  have mk2 := mk1.below hb2
  have zz2 := hb2.size
  have hmb : ∀ q, (Value.slice a2 (nums ch).length c2).ownBlock = some q → w1.heap.size ≤ q ∧ q < w2.heap.size := fun q e => hr2.lt q e
  have hW0l : W0.heap.size < w1.heap.size := by omega
  have HR2 : Hid (IntRow w1.heap.size w2 (.slice a2 (nums ch).length c2) (nums ch)) := hr2
  have hnl : (nums ch).length = ch.length := nums_len ch
  clear HC x0 x1 x2 x3 x4 bh1 hb2 mk1 hch hr2
  go_wp2_with fail
  go_loopg [5, 7] ch.length (fun d v i wr => ∃ k : Nat, k ≤ ch.length ∧ d = ch.length - k ∧ i = .int .i64 (k : Int) ∧ IntRow W0.heap.size wr v ((ch.take k).map (mOf h.calls)) ∧ IntRow w1.heap.size wr (.slice a2 (nums ch).length c2) (nums ch) ∧ (∀ q, v.ownBlock = some q → (Value.slice a2 (nums ch).length c2).ownBlock ≠ some q) ∧ wr.cell? ⟨w.heap.size + 1, 0, none⟩ = some (.slice ac h.calls.length kc) ∧ Below w.heap.size w wr ∧ w2.heap.size ≤ wr.heap.size)
  case atStart => exact ⟨0, Nat.zero_le _, rfl, rfl, by simpa using mk2, HR2.out, fun q e1 e2 => by have := (hmb q e2).1; have h9 : q = W0.heap.size := by { injection e1 with e1; exact e1.symm }; omega, bx2, B2, Nat.le_refl _⟩
  case round =>
    clear mk2 HR2 bx2 B2
    obtain ⟨k, hk, rfl, rfl, hrow, hrc, hap, br, hb, hzr⟩ := hrel
    obtain ⟨L, hL⟩ : ∃ L, (ch.take k).map (mOf h.calls) = L := ⟨_, rfl⟩
    have HL : Hid ((ch.take k).map (mOf h.calls) = L) := hL
    rw [hL] at hrow
    clear hL
    obtain ⟨aL, cL, hvL, _⟩ := hrow.slice
    subst hvL
    have HLl : Hid (L.length = k) := by
      show _ = _
      rw [← HL.out]
      simp
      omega
    by_cases hlt : k < ch.length
    case neg =>
      obtain rfl : k = ch.length := by omega
      have HF : Hid (L = methL h) := by show _ = _; rw [← HL.out, HM0.out, List.take_length]
      have hkz : ¬ ((ch.length : Int) < ((nums ch).length : Int)) := by omega
      go_wp2
      go_ret
      exact ⟨.slice aL L.length cL, rfl, by rw [HE.out, ← HF.out]; exact hrow.mono (by omega), hb⟩
    have hkz : (k : Int) < ((nums ch).length : Int) := by omega
    obtain ⟨p, hp'⟩ : ∃ p, ch[k] = p := ⟨_, rfl⟩
    have hpl : p < h.calls.length := by rw [← hp']; exact HIN.out _ (List.getElem_mem hlt)
    have hpz : (p : Int) < (h.calls.length : Int) := by omega
    obtain ⟨gc, oc, cc, hvc, hgc1, hgc2⟩ := hrc.form (by omega)
    injection hvc with hvc1 _ hvc2
    subst hvc1 hvc2
    have ck : wr.cell? ⟨gc, oc + k, none⟩ = some (.int .i64 (p : Int)) := by
      have q := hrc.cell (i := k) (by omega)
      have e : (nums ch)[k]'(by omega) = (p : Int) := by simp [nums, hp']
      rw [e] at q
      exact q.1
    obtain ⟨b, o, vt, vs', hac, hc⟩ := hcl p hpl
    subst hac
    have d0 := cell_below hb hc.c0
    have hbl : b < w.heap.size := World.block_lt_of_cell? _ _ hc.c0
    have HTK : Hid ((ch.take (k + 1)).map (mOf h.calls) = L ++ [h.calls[p].m]) := by
      show _ = _
      rw [← List.take_append_getElem hlt, List.map_append, HL.out, hp', List.map_cons, List.map_nil, mOf_at hpl]
    obtain ⟨m, hm⟩ : ∃ m, h.calls[p].m = m := ⟨_, rfl⟩
    rw [hm] at d0 HTK
    clear hc hcl hp' hm
    have hzw : w.heap.size ≤ wr.heap.size := hb.size
    have N1 : Below wr.heap.size wr (wr.alloc (.cells #[.int .i64 m] 3)).drew := ((Below.refl _ _).alloc (Nat.le_refl _) _).drew
    have hnew : ∀ j, (hj : j < [m].length) → (wr.alloc (.cells #[.int .i64 m] 3)).drew.cell? ((⟨wr.heap.size, 0, none⟩ : Addr).add j) = some (.int .i64 [m][j]) := fun j hj => by
      obtain rfl : j = 0 := by simpa using hj
      simp [go_sem, Addr.add]
    have hll : L.length + 1 ≤ 1000000 := by have := HLl.out; omega
    obtain ⟨g3, o3, c3, w3, hrun3, hrow3, hg3, hor3⟩ := run_append_ints (P := Try.prog) (ty := 52) Try.underlying52 hi hz0 hz1 hz2 (hrow.below N1) ⟨wr.heap.size, 0, none⟩ 1 1 [m] rfl hnew (.inl (by omega)) hll (Nat.le_trans (by omega) N1.size)
    have hno : ∀ q, (Value.slice aL L.length cL).ownBlock = some q → W0.heap.size ≤ q := fun q e => (hrow.lt q e).1
    have hnc : (Value.slice aL L.length cL).ownBlock ≠ some gc := fun e => hap gc e rfl
    have SS : w3.cell? ⟨w.heap.size + 1, 0, none⟩ = some (.slice (some ⟨b, o, none⟩) h.calls.length kc) ∧ w3.cell? ⟨gc, oc + k, none⟩ = some (.int .i64 (p : Int)) ∧ w3.cell? ⟨b, o + p * 6, none⟩ = some (.int .i64 m) := ⟨hg3.cell (cell_below N1 br) (fun e => by have h9 : W0.heap.size ≤ w.heap.size + 1 := hno _ e.symm; omega), hg3.cell (cell_below N1 ck) (fun e => hnc e.symm), hg3.cell (cell_below N1 d0) (fun e => by have h9 : W0.heap.size ≤ b := hno _ e.symm; omega)⟩
    have hrc3 : IntRow w1.heap.size w3 (.slice (some ⟨gc, oc, none⟩) (nums ch).length c2) (nums ch) := (hrc.below N1).kept hg3.size (fun q e => hg3.block q (by have := (hrc.lt q e).2; have := N1.size; omega) (fun e2 => hap q e2.symm e))
    have hap3 : ∀ q, (Value.slice (some ⟨g3, o3, none⟩) (L.length + 1) c3).ownBlock = some q → (Value.slice (some ⟨gc, oc, none⟩) (nums ch).length c2).ownBlock ≠ some q := fun q e => by
      have hq : g3 = q := by injection e
      subst hq
      rcases hor3 with e3 | e3
      · exact hap g3 e3
      · intro e4
        have := (hrc.lt g3 e4).2
        have := N1.size
        omega
    have hb3 : Below w.heap.size w w3 := (hb.trans (N1.mono hzw)).grown hg3 (by have := N1.size; omega) (fun q e => by have h9 : W0.heap.size ≤ q := hno q e; omega)
    have hz3 : w2.heap.size ≤ w3.heap.size := by have := N1.size; have := hg3.size; omega
    clear hrow hrc hap hb hnew hnc
    go_wp2_with fail
    go_region_held3 (fun w' => w'.cell? ⟨w.heap.size + 1, 0, none⟩ = some (.slice (some ⟨b, o, none⟩) h.calls.length kc) ∧ w'.cell? ⟨gc, oc + k, none⟩ = some (.int .i64 (p : Int)) ∧ w'.cell? ⟨b, o + p * 6, none⟩ = some (.int .i64 m))
      (first | with_reducible exact SS | go_keep)
      ((refine held_valM (v := .slice (some ⟨g3, o3, none⟩) (L.length + 1) c3) (w' := w3) rfl (append_runT rfl (by go_simp) (by go_simp) hrun3) ?_))
    go_wp2
    go_roundg (ch.length - (k + 1))
    case measure => omega
    case rel => exact ⟨k + 1, by omega, rfl, by go_num, by rw [HTK.out]; exact hrow3, hrc3, hap3, SS.1, hb3, hz3⟩

end Go.Proofs.Ytnffknlgaiehdaa

/-
  The model's heap at work, walked: call.
-/
import Derived.Test.YtileneepajcbgaaDoorSWalk5
import Derived.Test.YtileneepajcbgaaDoorSWalk4

namespace Go.Proofs.YtileneepajcbgaaDoor
open Go.RowKit
theorem step_call {ops : Array Oper} {o : Oper} {act : Act} {K : Act → World → Prop} {Q : Exit → Act → World → Prop} {E : Prop} (w : World) (hgd : o.guard = none) (s y : Operand)
    (ho : o.op = .call { callee := .builtin .append, args := #[s, y], argTypes := #[30, 30] }) (B : Nat) (v : Value) (L : List (Cl × Value × Value)) (x : Cl × Value × Value) (hs : act.eval s = v) (H c : Nat) (hy : act.eval y = .slice (some ⟨H, 0, none⟩) 1 c) (hown : CallRow B w v L)
    (h1 : x.2.1.oneCell' = true) (h2 : x.2.2.oneCell' = true) (hx : ∀ j u, (cells6 x)[j]? = some u → w.cell? ⟨H, j, none⟩ = some u) (hL : L.length ≤ 900000) (hB : B ≤ w.heap.size)
    (h : ∀ v' w', CallRow B w' v' (L ++ [x]) → w.grownBy w' v.ownBlock → (v'.ownBlock = v.ownBlock ∨ v'.ownBlock = some w.heap.size) → K (act.put o.dst v') w') :
    if Region.wanted o (yielded ops act.tmps) = true then Oper.wp Tryd.prog o act w K Q else E := by
  obtain ⟨v', w', hr, h3, h4, h5⟩ := run_append_call (ty := o.type) hown x h1 h2 H c hx hL hB
  rw [if_pos (by simp [Region.wanted, hgd])]
  unfold Oper.wp execOp
  simp only [ho, resolve, invoke, builtin, Sem.run_bind, Sem.run_pure, Result.andThen_ok, List.map_toArray, List.map_cons, List.map_nil, hs, hy, hr]
  exact h v' w' h3 h4 h5
theorem callH_full {ms : Ms} {h : Hp} {m : Int} {args : List (Int × Int)} (hb : 30 ≤ h.born) : callH ms h m args = { h with code := 3 } := by unfold callH; rw [if_pos hb]; rfl
theorem callH_new {ms : Ms} {h : Hp} {m : Nat} {args : List (Int × Int)} (hb : ¬ 30 ≤ h.born) (hm : m < ms.length) {t : Nat} (ht : ms[m].2.1 = (t : Int)) : callH ms h m args = { h with calls := h.calls ++ [⟨(m : Int), 0, args ++ List.replicate (t - args.length) (0, 0), [], h.now, false⟩], now := h.calls.length, born := h.born + 1 } := by
  unfold callH
  rw [if_neg hb]
  have e : (ms.getD ((m : Int)).toNat (0, 0, [])).2.1.toNat = t := by simp [hm, ht]
  rw [e]
set_option maxRecDepth 100000 in
set_option maxHeartbeats 8000000 in
theorem call_any {A : Nat → Prop} {B : Nat} {w : World} {bo : Nat} {vp vs : Value} {g off cap : Nat} {ms : List (Int × Int × List (Int × Int))} {h : Hp} {V : Nat → Value × Value} (k : SM A B w bo vp (.slice (some ⟨g, off, none⟩) h.calls.length cap) vs ms h V) (hB : B ≤ w.heap.size) (m : Nat) (hm : m < ms.length) (t : Nat) (ht : ms[m].2.1 = (t : Int)) (ht4 : t ≤ 1000) (va : Value) (args : List (Int × Int)) (ha : OpsAt w va args) (hat : args.length ≤ t) (hn : h.calls.length ≤ 800000) (hbn : 0 ≤ h.born) :
    Calls Tryd.prog 54 #[.pointer (some ⟨bo, 0, none⟩), .int .i64 (m : Int), va] w fun e w' => e = .returned (.tuple #[]) ∧ (∃ vc' vs' V', SM A B w' bo vp vc' vs' ms (callH ms h m args) V') ∧ Cm A B w w' := by
  obtain ⟨⟨x0, x1, x2, x3, x4, x5⟩, _, _, f2, f3, _, f5⟩ := six_cells k.box
  obtain ⟨ap, cp, hvp, _⟩ := id k.prog
  obtain ⟨aa, ca, hva⟩ := ha.shape
  subst hva
  by_cases hb : 30 ≤ h.born
  · have hb' : decide (30 ≤ h.born) = true := decide_eq_true hb
    obtain ⟨k2, cm2⟩ := k.setCode 3
    have HR : Hid (callH ms h m args = { h with code := 3 }) := callH_full hb
    clear hb
    go_enter Tryd.func54, Tryd.ntmps54
    go_wp2
    refine bodyPost_ret (results_none rfl _ _ _) rfl ⟨rfl, ⟨.slice (some ⟨g, off, none⟩) h.calls.length cap, vs, V, ?_⟩, cm2⟩
    rw [HR.out]
    exact k2
  · have hb' : ¬ (30 ≤ h.born) := hb
    subst hvp
    have HR : Hid (callH ms h m args = { h with calls := h.calls ++ [⟨(m : Int), 0, args ++ List.replicate (t - args.length) (0, 0), [], h.now, false⟩], now := h.calls.length, born := h.born + 1 }) := callH_new hb hm ht
    have hbo : bo < w.heap.size := k.box.lt
    have HC := fun (W : World) (hW : Below w.heap.size w W) => l11Call_any _ _ ms m args h.now t W (k.prog.below hW) hm ht ht4 (ha.below hW) hat
    have hlr := rowOf_len h.calls V
    have HTL : Hid ((args ++ List.replicate (t - args.length) ((0 : Int), (0 : Int))).length = t) := by show _ = _; simp; omega
    -- behind the making of the call
    have H3 : Hid (∀ (w3 : World) (at3 as3 : Option Addr) (kt ks : Nat), Below w.drew.heap.size w.drew w3 → PairRow w.drew.heap.size w3 (.slice at3 t kt) (args ++ List.replicate (t - args.length) (0, 0)) → PairRow w.drew.heap.size w3 (.slice as3 0 ks) [] → (∀ q, (Value.slice at3 t kt).ownBlock = some q → (Value.slice as3 0 ks).ownBlock ≠ some q) →
        (w3.cell? ⟨bo, 1, none⟩ = some (.slice (some ⟨g, off, none⟩) h.calls.length cap) ∧ bo < w3.heap.size) ∧
        CallRow B (w3.alloc (.cells #[.int .i64 (m : Int), .int .i64 0, .slice at3 t kt, .slice as3 0 ks, .int .i64 h.now, .bool false] 58)) (.slice (some ⟨g, off, none⟩) h.calls.length cap) (rowOf h.calls V) ∧
        (∀ j u, (cells6 (⟨(m : Int), 0, args ++ List.replicate (t - args.length) (0, 0), [], h.now, false⟩, .slice at3 t kt, .slice as3 0 ks))[j]? = some u → (w3.alloc (.cells #[.int .i64 (m : Int), .int .i64 0, .slice at3 t kt, .slice as3 0 ks, .int .i64 h.now, .bool false] 58)).cell? ⟨w3.heap.size, j, none⟩ = some u) ∧ B ≤ (w3.alloc (.cells #[.int .i64 (m : Int), .int .i64 0, .slice at3 t kt, .slice as3 0 ks, .int .i64 h.now, .bool false] 58)).heap.size ∧
        (∀ v' w', CallRow B w' v' (rowOf h.calls V ++ [(⟨(m : Int), 0, args ++ List.replicate (t - args.length) (0, 0), [], h.now, false⟩, .slice at3 t kt, .slice as3 0 ks)]) → (w3.alloc (.cells #[.int .i64 (m : Int), .int .i64 0, .slice at3 t kt, .slice as3 0 ks, .int .i64 h.now, .bool false] 58)).grownBy w' (Value.slice (some ⟨g, off, none⟩) h.calls.length cap).ownBlock → (v'.ownBlock = (Value.slice (some ⟨g, off, none⟩) h.calls.length cap).ownBlock ∨ v'.ownBlock = some (w3.alloc (.cells #[.int .i64 (m : Int), .int .i64 0, .slice at3 t kt, .slice as3 0 ks, .int .i64 h.now, .bool false] 58)).heap.size) →
          w'.rowIs bo 80 6 (six (.slice ap ms.length cp) (.slice (some ⟨g, off, none⟩) h.calls.length cap) (.int .i64 h.now) (.int .i64 h.born) vs (.int .i64 h.code)) ∧
          (∃ V', SM A B (w'.setCell ⟨bo, 1, none⟩ v') bo (.slice ap ms.length cp) v' vs ms { h with calls := h.calls ++ [⟨(m : Int), 0, args ++ List.replicate (t - args.length) (0, 0), [], h.now, false⟩] } V') ∧ Cm A B w (w'.setCell ⟨bo, 1, none⟩ v'))) := fun w3 at3 as3 kt ks hb3 hp3 hq3 hap3 => by
      have hb3' : Below w.heap.size w w3 := (Below.refl w.heap.size w).drew.trans hb3
      have hz3 := hb3'.size
      have N := (Below.refl w3.heap.size w3).alloc (Nat.le_refl _) (.cells #[.int .i64 (m : Int), .int .i64 0, .slice at3 t kt, .slice as3 0 ks, .int .i64 h.now, .bool false] 58)
      have hX : Below w.heap.size w _ := hb3'.trans (N.mono hz3)
      have hzX := hX.size
      obtain ⟨⟨_, y1, _⟩, _⟩ := six_cells (row_below hb3' k.box)
      refine ⟨⟨y1, by omega⟩, (k.own.below hX).c.toRow, cells6_of (six_new w3 58 _ _ _ _ _ _), by omega, fun v' w' hr hg hv' => ?_⟩
      have hbn : (Value.slice (some ⟨g, off, none⟩) h.calls.length cap).ownBlock ≠ some bo := fun e => k.nb (.inr (.inl e))
      have hbk : w'.heap[bo]? = w.heap[bo]? := (hg.block bo (by omega) (fun e => hbn e.symm)).trans (hX.block bo hbo)
      exact ⟨k.box.of_block hbk, k.born _ _ _ v' hB hX (hp3.below N) (hq3.below N) hap3 hr hg hv'⟩
    have hwb : IntKind.i64.wrap (h.born + 1) = h.born + 1 := by rw [IntKind.wrap_i64]; omega
    have hwn : IntKind.i64.wrap ((h.calls.length : Int) + 1 - 1) = (h.calls.length : Int) := by rw [IntKind.wrap_i64]; omega
    go_enter Tryd.func54, Tryd.ntmps54
    go_upto_region 2 with fail
    clear x3 x4 x5 f2 f3 f5
    go_region_law (first
      | (refine step_call _ (by rfl) _ _ (by rfl) B _ (rowOf h.calls V) (⟨(m : Int), 0, args ++ List.replicate (t - args.length) (0, 0), [], h.now, false⟩, .slice at3 t kt, .slice as3 0 ks) (by rfl) w3.heap.size 1 (by rfl) hrow3 rfl rfl hcell3 (by rw [hlr]; omega) hB3 ?_; intro v' w' hrow hg hbk; obtain ⟨a', c', hv', _⟩ := hrow.slice; rw [List.length_append, hlr] at hv'; subst hv'; obtain ⟨hbx, hSM⟩ := HEnd.out _ w' hrow hg hbk; obtain ⟨⟨z0, z1, z2, z3, z4, z5⟩, y0, y1, y2, y3, y4, y5⟩ := six_cells hbx)
      | (go_simp; go_at_call 34; refine (HC _ ((Below.refl _ _).drew)).mono ?_; rintro e w3 ⟨vt, vs3, rfl, hp3, hq3, hap3, hb3⟩; obtain ⟨at3, kt, hvt, _⟩ := hp3.slice; obtain ⟨as3, ks, hvs, _⟩ := hq3.slice; rw [HTL.out] at hvt; subst hvt hvs; unfold clCells; obtain ⟨⟨w31, w3b⟩, hrow3, hcell3, hB3, hE3⟩ := H3.out w3 at3 as3 kt ks hb3 hp3 hq3 hap3; have HEnd : Hid _ := hE3; clear hE3 hp3 hq3 hap3 hb3))
    all_goals
      obtain ⟨⟨V5, k5⟩, cm5⟩ := hSM
      clear z0 z1 z2 z3 z4 z5 y0 y1 y2 y3 y4 y5 hbx hrow hg hbk
      obtain ⟨⟨z0, z1, z2, z3, z4, z5⟩, y0, y1, y2, y3, y4, y5⟩ := six_cells k5.box
      obtain ⟨k6, cm6⟩ := k5.setBorn (h.born + 1)
      obtain ⟨k7, cm7⟩ := k6.setNow h.calls.length
      generalize w'.setCell ⟨bo, 1, none⟩ (.slice a' (h.calls.length + 1) c') = W5 at *
      go_wp2
      refine bodyPost_end (results_none rfl _ _ _) rfl ⟨rfl, ⟨.slice a' (h.calls.length + 1) c', vs, V5, ?_⟩, cm5.trans (cm6.trans cm7)⟩
      rw [HR.out]
      exact k7
end Go.Proofs.YtileneepajcbgaaDoor

/-
  The model's heap at work, walked: back.
-/
namespace Go.Proofs.YtileneepajcbgaaDoor
open Go.RowKit
set_option maxRecDepth 100000 in
set_option maxHeartbeats 8000000 in
theorem back_any {A : Nat → Prop} {B : Nat} {w : World} {bo : Nat} {vp vs : Value} {g off cap : Nat} {ms : List (Int × Int × List (Int × Int))} {h : Hp} {V : Nat → Value × Value} (k : SM A B w bo vp (.slice (some ⟨g, off, none⟩) h.calls.length cap) vs ms h V) (hB : B ≤ w.heap.size) (j : Nat) (hj : j < h.calls.length) (a b : Int) (l : List Nat) (hw : Waits h.calls h.now l) (hst : ∀ s : Nat, ∀ hs : s < h.calls.length, h.calls[s].stack.length ≤ 1000) :
    Calls Tryd.prog 57 #[.pointer (some ⟨bo, 0, none⟩), .int .i64 (j : Int), .agg #[.int .i64 a, .int .i64 b]] w fun e w' => e = .returned (.tuple #[]) ∧ (∃ vc' vs' V', SM A B w' bo vp vc' vs' ms (backH h j (a, b)) V') ∧ Cm A B w w' := by
  have hA : Below w.heap.size w (w.alloc (.cells #[.int .i64 a, .int .i64 b] 42)) := (Below.refl _ _).alloc (Nat.le_refl _) _
  have rx := duo_new w 42 (.int .i64 a) (.int .i64 b)
  have k1 := k.made hA (by simp)
  have cm1 := k.cm hA hB
  have hjz : (j : Int) < (h.calls.length : Int) := by omega
  go_enter Tryd.func57, Tryd.ntmps57
  go_upto_region 1 with fail
  generalize w.alloc (.cells #[.int .i64 a, .int .i64 b] 42) = W1 at *
  have z1 := hA.size
  obtain ⟨⟨d0, d1, d2, d3, d4, d5⟩, _⟩ := k1.own.c.cells hj
  obtain ⟨⟨x0, x1, x2, x3, x4, x5⟩, _, _, _, _, _, f5⟩ := six_cells k1.box
  cases hd : h.calls[j].dead
  case true =>
    rw [hd] at d5
    have HR : Hid (backH h j (a, b) = { h with code := 2 }) := by show _ = _; unfold backH; rw [getD_at hj, hd]; rfl
    obtain ⟨k2, cm2⟩ := k1.setCode 2
    go_wp2
    refine bodyPost_ret (results_none rfl _ _ _) rfl ⟨rfl, ⟨.slice (some ⟨g, off, none⟩) h.calls.length cap, vs, V, ?_⟩, cm1.trans (cm2.less (fun q hq => .inl hq))⟩
    rw [HR.out]
    exact k2.less (fun q hq => .inl hq)
  case false =>
    rw [hd] at d5
    have HR : Hid (backH h j (a, b) = pushH (backTo h.calls.length h j) (a, b)) := by show _ = _; unfold backH; rw [getD_at hj, hd]; rfl
    have hjl : j ∈ l := hw.all j hj hd
    have hll := hw.len
    go_wp2
    go_loopg [] l.length (fun d wr => ∃ (h' : Hp) (V' : Nat → Value × Value) (l' : List Nat) (f : Nat), d = l'.length ∧ SM (fun q => A q ∨ q = w.heap.size) B wr bo vp (.slice (some ⟨g, off, none⟩) h'.calls.length cap) vs ms h' V' ∧ Waits h'.calls h'.now l' ∧ j ∈ l' ∧ l'.length ≤ f ∧ backTo h.calls.length h j = backTo f h' j ∧ (∀ s : Nat, ∀ hs : s < h'.calls.length, h'.calls[s].stack.length ≤ 1000) ∧ Cm (fun q => A q ∨ q = w.heap.size) B W1 wr)
    case atStart => exact ⟨h, V, l, h.calls.length, rfl, k1, hw, hjl, hll, rfl, hst, ⟨Below.refl _ _, fun _ _ => rfl⟩⟩
    case round =>
      obtain ⟨h', V', l', f, rfl, k', hw', hjl', hf, hback, hst', cm'⟩ := hrel
      have HBK : Hid (backTo h.calls.length h j = backTo f h' j) := hback
      clear hback
      obtain ⟨f', rfl⟩ : ∃ f', f = f' + 1 := ⟨f - 1, by cases l' with | nil => cases hjl' | cons => simp at hf; omega⟩
      have hn0 : 0 ≤ h'.now := by
        by_cases q : h'.now < 0
        · obtain ⟨f'', hf''⟩ := hw'.ch
          rw [walkC_neg q] at hf''
          cases hf''
          cases hjl'
        · omega
      obtain ⟨i, hni⟩ : ∃ i : Nat, h'.now = i := ⟨h'.now.toNat, by omega⟩
      rw [hni] at hw'
      have hi : i < h'.calls.length := hw'.head.1
      obtain ⟨⟨x0', x1', x2', x3', x4', x5'⟩, _, _, f2', _, _, _⟩ := six_cells k'.box
      rw [hni] at x2'
      by_cases hij : i = j
      · subst hij
        have HR2 : Hid (backH h i (a, b) = { h' with calls := h'.calls.set i { h'.calls[i] with stack := h'.calls[i].stack ++ [(a, b)] } }) := by
          show _ = _
          rw [HR.out, HBK.out, backTo_here hni, pushH_eq hni hi]
        have rx4 := cm'.row rx (.inr rfl)
        have cmA : Cm A B w wr := cm1.trans (cm'.less (fun q hq => .inl hq))
        have hB3 : B ≤ wr.heap.size := by have := cmA.b.size; omega
        have hst4 := hst' i hi
        obtain ⟨sa, sc, hVs, _⟩ := (k'.own.c.lists i hi).2.slice
        obtain ⟨⟨e0, e1, e2, e3, e4, e5⟩, _⟩ := k'.own.c.cells hi
        rw [hVs] at e3
        have hgl4 := (k'.own.c.lt (g := g) (.inl rfl)).2
        have hbo4 : bo < wr.heap.size := k'.box.lt
        have HPT := push_tail k' hB3 hi hVs
        have hwl := rx4.lt
        obtain ⟨⟨t0, t1⟩, _⟩ := duo_cells rx4
        obtain ⟨hown, hend⟩ := HPT ((wr.alloc (.cells #[.int .i64 a, .int .i64 b] 42)).drew.drew.drew) ((((Below.refl _ _).alloc (Nat.le_refl _) _).drew.drew.drew)) (a, b)
        have HE : Hid _ := hend
        clear hend HPT x0 x1 x2 x3 x4 x5 d0 d1 d2 d3 d4 d5 k k1 hst hst'
        go_wp2_with fail
        go_region_law (first
          | (refine step_vals _ (by rfl) _ _ (by rfl) B _ _ h'.calls[i].stack [(a, b)] (by rfl) (by rfl) hown (one_at wr a b _ _) (by simp; omega) (by simp; omega) ?_; intro v' w' hrow hg hbk; obtain ⟨a', c', hv', _⟩ := hrow.slice; rw [List.length_append] at hv'; subst hv'; obtain ⟨⟨z4, f4⟩, hSM⟩ := HE.out _ w' hrow hg hbk)
          | (go_simp; go_at_call 43; refine (now_drew (k'.below (by first | exact (Below.refl _ _).drew | exact (Below.refl _ _).drew.drew | exact ((Below.refl _ _).alloc (Nat.le_refl _) _).drew | exact ((Below.refl _ _).alloc (Nat.le_refl _) _).drew.drew)) hni hi).mono ?_; rintro e w' ⟨rfl, hw⟩; obtain rfl := hw))
        all_goals
          obtain ⟨⟨V4, kV⟩, cV⟩ := hSM
          refine bodyPost_end (results_none rfl _ _ _) rfl ⟨rfl, ⟨.slice (some ⟨g, off, none⟩) h'.calls.length cap, vs, V4, ?_⟩, cmA.trans (cV.less (fun q hq => .inl hq))⟩
          rw [HR2.out]
          exact kV.less (fun q hq => .inl hq)
      · have hij' : ((i : Int) == (j : Int)) = false := beq_eq_false_iff_ne.2 (by omega)
        have HW : Hid (Waits h'.calls (i : Int) l') := hw'
        obtain ⟨t, hlt, hwt, _⟩ := hw'.leave hi (dieC h'.calls[i]) rfl
        have HWT : Hid (Waits (h'.calls.set i (dieC h'.calls[i])) h'.calls[i].sender t ∧ l' = i :: t) := ⟨hwt, hlt⟩
        have hlv := leaveH_eq hni hi
        have HLV : Hid (leaveH h' = { h' with calls := h'.calls.set i { h'.calls[i] with stack := [], sender := -1, dead := true }, now := h'.calls[i].sender }) := hlv
        have HB2 : Hid (backTo (f' + 1) h' j = backTo f' (leaveH h') j) := backTo_on (fun e => hij (by rw [hni] at e; omega))
        clear hw' hlv hwt hlt hij
        obtain ⟨⟨e0, e1, e2, e3, e4, e5⟩, _⟩ := k'.own.c.cells hi
        obtain ⟨k2, cm2⟩ := k'.drew.setNow h'.calls[i].sender
        have hN := now_drew k' hni hi
        have hD := die_any (h := { h' with now := h'.calls[i].sender }) k2 (j := i) hi
        have cmD := k'.cm (Below.refl _ _).drew (by have := k'.box.lt; have := k'.le; omega)
        clear x0 x1 x2 x3 x4 x5 d0 d1 d2 d3 d4 d5 k k1
        go_wp2_with (first
          | (go_at_call 43; refine hN.mono ?_; rintro e w' ⟨rfl, hw⟩; obtain rfl := hw)
          | (go_at_call 64; refine hD.mono ?_; rintro e w' ⟨rfl, ⟨V3, k3⟩, cm3⟩))
        have hlen : (leaveH h').calls.length = h'.calls.length := by rw [HLV.out]; simp
        have k4 : SM (fun q => A q ∨ q = w.heap.size) B w' bo vp (.slice (some ⟨g, off, none⟩) (leaveH h').calls.length cap) vs ms (leaveH h') V3 := by rw [hlen, HLV.out]; exact k3
        have hw4 : Waits (leaveH h').calls (leaveH h').now t := by
          rw [HLV.out]
          exact HWT.out.1
        have hst4 : ∀ s : Nat, ∀ hs : s < (leaveH h').calls.length, (leaveH h').calls[s].stack.length ≤ 1000 := fun s hs => by
          have hq : (leaveH h').calls = h'.calls.set i { h'.calls[i] with stack := [], sender := -1, dead := true } := by rw [HLV.out]
          simp only [hq]
          by_cases e : i = s
          · subst e; simp
          · rw [List.getElem_set_ne e]; exact hst' s (by omega)
        have hl' := HWT.out.2
        have hjt : j ∈ t := by
          rw [hl'] at hjl'
          rcases List.mem_cons.1 hjl' with q | q
          · exact absurd (by omega : (i : Int) = j) (beq_eq_false_iff_ne.1 hij')
          · exact q
        go_roundg t.length
        case measure => rw [hl']; simp
        case rel => exact ⟨leaveH h', V3, t, f', rfl, k4, hw4, hjt, by rw [hl'] at hf; simpa using hf, by rw [HBK.out, HB2.out], hst4, cm'.trans (cmD.trans (cm2.trans cm3))⟩
end Go.Proofs.YtileneepajcbgaaDoor

/-
  The model's heap at work, walked: do, where an operation looks at nothing but its values.
-/
namespace Go.Proofs.YtileneepajcbgaaDoor
open Go.RowKit
set_option maxRecDepth 100000 in
set_option maxHeartbeats 8000000 in
theorem do_made {A : Nat → Prop} {B : Nat} {w : World} {bo : Nat} {vp vs : Value} {g off cap : Nat} {ms : List (Int × Int × List (Int × Int))} {h : Hp} {V : Nat → Value × Value} (k : SM A B w bo vp (.slice (some ⟨g, off, none⟩) h.calls.length cap) vs ms h V) (hB : B ≤ w.heap.size) {j : Nat} (hn : h.now = j) (hj : j < h.calls.length) (hst : h.calls[j].stack.length ≤ 1000) (kk a x : Int) (va : Value) (args : List (Int × Int)) (ha : OpsAt w va args)
    (hM : ∀ W : World, Below w.heap.size w W → Calls Tryd.prog 52 #[.agg #[.int .i64 kk, .int .i64 a], va] W fun e w' => e = .returned (.tuple #[.agg #[.int .i64 1, .int .i64 x], .bool true]) ∧ Below W.heap.size W w') :
    Calls Tryd.prog 46 #[.pointer (some ⟨bo, 0, none⟩), .agg #[.int .i64 kk, .int .i64 a], va] w fun e w' => e = .returned (.tuple #[]) ∧ (∃ vc' vs' V', SM A B w' bo vp vc' vs' ms (pushH h (1, x)) V') ∧ Cm A B w w' := by
  obtain ⟨aa, ca, hva⟩ := ha.shape
  subst hva
  have hA : Below w.heap.size w (w.alloc (.cells #[.int .i64 kk, .int .i64 a] 85)) := (Below.refl _ _).alloc (Nat.le_refl _) _
  have rx := duo_new w 85 (.int .i64 kk) (.int .i64 a)
  have k1 := k.made hA (by simp)
  have cm1 := k.cm hA hB
  go_enter Tryd.func46, Tryd.ntmps46
  go_upto_region 1 with fail
  generalize w.alloc (.cells #[.int .i64 kk, .int .i64 a] 85) = W1 at *
  have z1 := hA.size
  obtain ⟨⟨t0, t1⟩, _⟩ := duo_cells rx
  go_upto_region 4 with (first
    | (go_at_call 43; refine (now_drew k1 hn hj).mono ?_; rintro e w' ⟨rfl, hw⟩; obtain rfl := hw)
    | (go_at_call 52; refine (hM _ hA.drew).mono ?_; rintro e w3 ⟨rfl, hb3⟩))
  have N4 := (Below.refl w3.heap.size w3).alloc (Nat.le_refl _) (.cells #[.int .i64 1, .int .i64 x] 42)
  have r4 := duo_new w3 42 (.int .i64 1) (.int .i64 x)
  have b14 : Below W1.heap.size W1 (w3.alloc (.cells #[.int .i64 1, .int .i64 x] 42)) := ((Below.refl W1.heap.size W1).drew.trans hb3).trans (N4.mono hb3.size)
  have k4 := k1.below b14
  have cmA : Cm A B w (w3.alloc (.cells #[.int .i64 1, .int .i64 x] 42)) := cm1.trans ((k1.cm b14 (by omega)).less (fun q hq => .inl hq))
  have hB4 : B ≤ (w3.alloc (.cells #[.int .i64 1, .int .i64 x] 42)).heap.size := by have := cmA.b.size; omega
  have HR : Hid (pushH h (1, x) = { h with calls := h.calls.set j { h.calls[j] with stack := h.calls[j].stack ++ [(1, x)] } }) := pushH_eq hn hj _
  obtain ⟨sa, sc, hVs, _⟩ := (k4.own.c.lists j hj).2.slice
  obtain ⟨⟨e0, e1, e2, e3, e4, e5⟩, _⟩ := k4.own.c.cells hj
  rw [hVs] at e3
  have hgl4 := (k4.own.c.lt (g := g) (.inl rfl)).2
  have HPT := push_tail k4 hB4 hj hVs
  have hwl := r4.lt
  clear k1 k cm1 N4 b14 hb3 hM t0 t1 rx
  generalize w3.alloc (.cells #[.int .i64 1, .int .i64 x] 42) = W4 at *
  generalize w3.heap.size = bv at *
  obtain ⟨⟨t0, t1⟩, _⟩ := duo_cells r4
  obtain ⟨hown, hend⟩ := HPT ((W4.alloc (.cells #[.int .i64 1, .int .i64 x] 42)).drew) (((Below.refl _ _).alloc (Nat.le_refl _) _).drew) (1, x)
  have HE : Hid _ := hend
  clear hend HPT
  go_region_law (refine step_vals _ (by rfl) _ _ (by rfl) B _ _ h.calls[j].stack [(1, x)] (by rfl) (by rfl) hown (one_at W4 1 x _ _) (by simp; omega) (by simp; omega) ?_; intro v' w' hrow hg hbk; obtain ⟨a', c', hv', _⟩ := hrow.slice; rw [List.length_append] at hv'; subst hv'; obtain ⟨⟨z4, f4⟩, hSM⟩ := HE.out _ w' hrow hg hbk)
  all_goals
    obtain ⟨⟨V4, kV⟩, cV⟩ := hSM
    go_wp2
    refine bodyPost_ret (results_none rfl _ _ _) rfl ⟨rfl, ⟨.slice (some ⟨g, off, none⟩) h.calls.length cap, vs, V4, ?_⟩, cmA.trans (cV.less (fun q hq => .inl hq))⟩
    rw [HR.out]
    exact kV.less (fun q hq => .inl hq)
end Go.Proofs.YtileneepajcbgaaDoor

/-
  What is seen of a heap, by the program: orderOf.
-/
import Derived.Test.YtldiccheboipeaaVImpl4
import Derived.Test.YtldiccheboipeaaVSpec4
import Derived.Test.YtldiccheboipeaaRep
import Derived.Deep.RegionHeld3
namespace Go.Proofs.Ytldiccheboipeaa
open Go.RowKit

theorem tabN_nil (n : Nat) : tabN n [] = List.replicate n (-1) := by
  refine List.ext_getElem (by simp [tabN]) fun i h1 h2 => ?_
  rw [tabN_at, numOf_none (fun j hj => absurd hj (Nat.not_lt_zero _))]
  simp

theorem Ord.re {A A' : Nat → Prop} {B bo n : Nat} {ps : List Nat} {vp vn : Value} {w : World} (h : Ord A B bo n ps vp vn w) (hA : ∀ g, A' g → g ≠ bo ∧ g < w.heap.size ∧ vp.ownBlock ≠ some g ∧ vn.ownBlock ≠ some g) : Ord A' B bo n ps vp vn w := ⟨h.le, h.box, h.p, h.n, h.pb, h.nb, h.pn, hA⟩

theorem two_set1 {w : World} {g : Nat} {t : TypeId} {x0 x1 : Value} (h : w.rowIs g t 2 (two x0 x1)) (v : Value) : (w.setCell ⟨g, 1, none⟩ v).rowIs g t 2 (two x0 v) :=
  (h.set 1 v).congr fun i hi => by match i, hi with | 0, _ => rfl | 1, _ => rfl

/-- an order as a value, in memory of its own -/
structure OrdV (B n : Nat) (ps : List Nat) (vp vn : Value) (w : World) : Prop where
  p : IntRow B w vp (nums ps)
  n : IntRow B w vn (tabN n ps)
  pn : ∀ g, vp.ownBlock = some g → vn.ownBlock ≠ some g

set_option maxRecDepth 100000 in
set_option maxHeartbeats 4000000 in
theorem orderOf_any (vc vs : Value) (h : Hp) (w : World) (hh : HeapAt w vc vs h) (hn : h.calls.length ≤ 30) :
    Calls Try.prog 53 #[.agg (hpCells vc vs h)] w fun e w' => (∃ vp vn, e = .returned (.agg #[vp, vn]) ∧ OrdV w.heap.size h.calls.length (found h) vp vn w' ∧ PsOk h.calls.length (found h)) ∧ Below w.heap.size w w' := by
  unfold hpCells
  obtain ⟨ac, kc, hvc⟩ := hh.c.shape
  obtain ⟨aD, kD, hvs⟩ := hh.s.shape
  subst hvc hvs
  have hA : Below w.heap.size w ((w.alloc (.cells #[.slice ac h.calls.length kc, .int .i64 h.now, .int .i64 h.born, .slice aD h.said.length kD, .int .i64 h.code] 39)).alloc (.cells #[.slice none 0 0, .slice none 0 0] 99)) := ((Below.refl _ _).alloc (Nat.le_refl _) _).alloc (by simp) _
  have bx : ((w.alloc (.cells #[.slice ac h.calls.length kc, .int .i64 h.now, .int .i64 h.born, .slice aD h.said.length kD, .int .i64 h.code] 39)).alloc (.cells #[.slice none 0 0, .slice none 0 0] 99)).rowIs w.heap.size 39 5 (five (.slice ac h.calls.length kc) (.int .i64 h.now) (.int .i64 h.born) (.slice aD h.said.length kD) (.int .i64 h.code)) := (five_new w 39 (.slice ac h.calls.length kc) (.int .i64 h.now) (.int .i64 h.born) (.slice aD h.said.length kD) (.int .i64 h.code)).alloc _
  have rx : ((w.alloc (.cells #[.slice ac h.calls.length kc, .int .i64 h.now, .int .i64 h.born, .slice aD h.said.length kD, .int .i64 h.code] 39)).alloc (.cells #[.slice none 0 0, .slice none 0 0] 99)).rowIs (w.heap.size + 1) 99 2 (two (.slice none 0 0) (.slice none 0 0)) := by
    have := two_new (w.alloc (.cells #[.slice ac h.calls.length kc, .int .i64 h.now, .int .i64 h.born, .slice aD h.said.length kD, .int .i64 h.code] 39)) 99 (.slice none 0 0) (.slice none 0 0)
    simpa using this
  go_enter Try.func53, Try.ntmps53
  go_upto_region 1 with fail
  generalize (w.alloc (.cells #[.slice ac h.calls.length kc, .int .i64 h.now, .int .i64 h.born, .slice aD h.said.length kD, .int .i64 h.code] 39)).alloc (.cells #[.slice none 0 0, .slice none 0 0] 99) = W1 at *
  have zA := hA.size
  have yA := bx.lt
  obtain ⟨⟨x0, x1, x2, x3, x4⟩, xf⟩ := five_cells bx
  clear xf
  have HF0 : Hid (found h = foundF h.calls (h.calls.length - 0) 0 (comeP h.calls.length [] h.now)) := rfl
  obtain ⟨F, hF⟩ : ∃ F, F = found h := ⟨_, rfl⟩
  have HF : Hid (F = found h) := hF
  rw [← hF] at HF0
  clear hF
  have N1 := (Below.refl W1.heap.size W1).alloc (Nat.le_refl _) (.cells #[.int .i64 (-1)] 3)
  have c1 : (W1.alloc (.cells #[.int .i64 (-1)] 3)).cell? ⟨W1.heap.size, 0, none⟩ = some (.int .i64 (-1)) := by simp [go_sem]
  have x0A := cell_below N1 x0
  go_upto_region 2 with (go_at_call 102; refine (repeat_any _ W1.heap.size h.calls.length hn c1).mono ?_; rintro e w3 ⟨hb3, v3, rfl, hr3⟩; obtain ⟨a3, k3, hv3, _⟩ := hr3.slice; rw [List.length_replicate] at hv3; subst hv3)
  have L3 : Below W1.heap.size W1 w3 := N1.trans (hb3.mono N1.size)
  have N3 := (Below.refl w3.heap.size w3).alloc (Nat.le_refl _) (.cells #[.slice none 0 0, .slice a3 h.calls.length k3] 99)
  have r4 := two_new w3 99 (.slice none 0 0) (.slice a3 h.calls.length k3)
  have hr4 := hr3.below N3
  have L4 := L3.trans (N3.mono L3.size)
  have y3 := L3.size
  have z1 := N1.size
  have O4 : Ord (fun _ => False) W1.heap.size w3.heap.size h.calls.length [] (.slice none 0 0) (.slice a3 h.calls.length k3) (w3.alloc (.cells #[.slice none 0 0, .slice a3 h.calls.length k3] 99)) :=
    ⟨L3.size, r4, IntRow.nil _ _, by rw [tabN_nil]; exact hr4.mono z1, fun e => by simp [Value.ownBlock] at e, fun e => by have := (hr3.lt _ e).2; omega, fun g e => by simp [Value.ownBlock] at e, fun g e => e.elim⟩
  generalize w3.alloc (.cells #[.slice none 0 0, .slice a3 h.calls.length k3] 99) = w4 at *
  generalize w3.heap.size = bo at *
  clear N1 c1 x0A hb3 hr3 hr4 L3 N3 r4
  have bx4 := row_below L4 bx
  obtain ⟨⟨y0, y1, y2, y3', y4⟩, yf⟩ := five_cells bx4
  clear yf
  go_wp2_with fail
  refine (come_any _ W1.heap.size bo _ [] _ _ h.now _ O4 (PsOk.nil _) (by omega)).mono ?_
  rintro e w5 ⟨rfl, ⟨vp5, O5⟩, C5⟩
  have L5 := L4.trans C5.b
  have P5 : PsOk h.calls.length (comeP h.calls.length [] h.now) := (PsOk.nil _).come _
  clear O4 C5 L4 bx4 y0 y1 y2 y3' y4
  go_wp2
  go_loopg [4] h.calls.length (fun g i wr => ∃ (j : Nat) (ps : List Nat) (vp : Value), j ≤ ps.length ∧ g = h.calls.length - j ∧ i = .int .i64 j ∧ PsOk h.calls.length ps ∧ F = foundF h.calls (h.calls.length - j) j ps ∧ Ord (fun _ => False) W1.heap.size bo h.calls.length ps vp (.slice a3 h.calls.length k3) wr ∧ Below W1.heap.size W1 wr)
  case atStart => exact ⟨0, _, vp5, Nat.zero_le _, rfl, rfl, P5, HF0.out, O5, L5⟩
  case round =>
    obtain ⟨j, ps, vp, hj, rfl, rfl, hps, hFF, hO, hL⟩ := hrel
    have HFF : Hid (F = foundF h.calls (h.calls.length - j) j ps) := hFF
    clear hFF
    have hpl := hps.len
    obtain ⟨ap, cp', hvp, _⟩ := hO.p.slice
    rw [nums_len] at hvp
    subst hvp
    obtain ⟨⟨o0, o1⟩, of0, of1⟩ := two_cells hO.box
    by_cases hlt : j < ps.length
    · have hjz : (j : Int) < (ps.length : Int) := by omega
      obtain ⟨gp, op, c1', e1, _⟩ := hO.p.form (by rw [nums_len]; omega)
      obtain rfl : ap = some ⟨gp, op, none⟩ := by injection e1
      clear e1
      have d1 := (hO.p.cell (i := j) (by rw [nums_len]; exact hlt)).1
      rw [nums_at] at d1
      have hpj : ps[j] < h.calls.length := hps.lt _ (List.getElem_mem hlt)
      have HST : Hid (F = foundF h.calls (h.calls.length - (j + 1)) (j + 1) (comeC h.calls.length ps h.calls[ps[j]])) := by show F = _; rw [HFF.out, foundF_step hps hlt hpj]
      generalize ps[j] = p at *
      clear HFF
      obtain ⟨b, o, vt, vs', hac, hc⟩ := hh.c.cl hpj
      subst hac
      obtain ⟨at', ct', hvt⟩ := hc.t.shape
      obtain ⟨as', ct2, hvs⟩ := hc.s.shape
      subst hvt hvs
      have hb : Below w.heap.size w wr := hA.trans (hL.mono zA)
      have q0 := cell_below hb hc.c0
      have q1 := cell_below hb hc.c1
      have q2 := cell_below hb hc.c2
      have q3 := cell_below hb hc.c3
      have q4 := cell_below hb hc.c4
      have q5 := cell_below hb hc.c5
      have hct := hc.t
      have hcs' := hc.s
      have w0x := (five_cells (row_below hL bx)).1.1
      have hpz : (p : Int) < (h.calls.length : Int) := by omega
      have HSZ : Hid (∀ f', bo < wr.heap.size ∧ (Value.slice (some ⟨gp, op, none⟩) ps.length cp').ownBlock ≠ some (wr.heap.size + f') ∧ (Value.slice a3 h.calls.length k3).ownBlock ≠ some (wr.heap.size + f')) := fun f' => ⟨hO.box.lt, fun e => by have := (hO.p.lt _ e).2; omega, fun e => by have := (hO.n.lt _ e).2; omega⟩
      generalize hce : h.calls[p] = cp at *
      clear hce hc
      have HS8 : ∀ w', Below wr.heap.size wr w' → (w'.cell? ⟨bo, 0, none⟩ = some (.slice (some ⟨gp, op, none⟩) ps.length cp') ∧ w'.cell? ⟨gp, op + j, none⟩ = some (.int .i64 (p : Int)) ∧ w'.cell? ⟨w.heap.size, 0, none⟩ = some (.slice (some ⟨b, o, none⟩) h.calls.length kc) ∧ w'.cell? ⟨b, o + p * 6, none⟩ = some (.int .i64 cp.m) ∧ w'.cell? ⟨b, o + p * 6 + 1, none⟩ = some (.int .i64 cp.pc) ∧ w'.cell? ⟨b, o + p * 6 + 2, none⟩ = some (.slice at' cp.temps.length ct') ∧ w'.cell? ⟨b, o + p * 6 + 3, none⟩ = some (.slice as' cp.stack.length ct2) ∧ w'.cell? ⟨b, o + p * 6 + 4, none⟩ = some (.int .i64 cp.sender) ∧ w'.cell? ⟨b, o + p * 6 + 5, none⟩ = some (.bool cp.dead)) := fun w' hB => ⟨cell_below hB o0, cell_below hB d1, cell_below hB w0x, cell_below hB q0, cell_below hB q1, cell_below hB q2, cell_below hB q3, cell_below hB q4, cell_below hB q5⟩
      go_wp2_with fail
      go_region_held3 (fun w' => w'.cell? ⟨bo, 0, none⟩ = some (.slice (some ⟨gp, op, none⟩) ps.length cp') ∧ w'.cell? ⟨gp, op + j, none⟩ = some (.int .i64 (p : Int)) ∧ w'.cell? ⟨w.heap.size, 0, none⟩ = some (.slice (some ⟨b, o, none⟩) h.calls.length kc) ∧ w'.cell? ⟨b, o + p * 6, none⟩ = some (.int .i64 cp.m) ∧ w'.cell? ⟨b, o + p * 6 + 1, none⟩ = some (.int .i64 cp.pc) ∧ w'.cell? ⟨b, o + p * 6 + 2, none⟩ = some (.slice at' cp.temps.length ct') ∧ w'.cell? ⟨b, o + p * 6 + 3, none⟩ = some (.slice as' cp.stack.length ct2) ∧ w'.cell? ⟨b, o + p * 6 + 4, none⟩ = some (.int .i64 cp.sender) ∧ w'.cell? ⟨b, o + p * 6 + 5, none⟩ = some (.bool cp.dead))
        ((refine HS8 _ ?_; first | (with_reducible exact (Below.refl _ _).alloc (Nat.le_refl _) _) | (with_reducible exact ((Below.refl _ _).alloc (Nat.le_refl _) _).drew) | (with_reducible exact (Below.refl _ _).drew.alloc (Nat.le_refl _) _) | (with_reducible exact (Below.refl _ _).drew) | (with_reducible exact Below.refl _ _)))
        (fail)
      have NN : Below wr.heap.size wr (wr.alloc (.cells #[.int .i64 cp.m, .int .i64 cp.pc, .slice at' cp.temps.length ct', .slice as' cp.stack.length ct2, .int .i64 cp.sender, .bool cp.dead] 88)).drew := ((Below.refl wr.heap.size wr).alloc (Nat.le_refl _) _).drew
      have r7 : (wr.alloc (.cells #[.int .i64 cp.m, .int .i64 cp.pc, .slice at' cp.temps.length ct', .slice as' cp.stack.length ct2, .int .i64 cp.sender, .bool cp.dead] 88)).drew.rowIs wr.heap.size 88 6 (six (.int .i64 cp.m) (.int .i64 cp.pc) (.slice at' cp.temps.length ct') (.slice as' cp.stack.length ct2) (.int .i64 cp.sender) (.bool cp.dead)) := six_new wr 88 _ _ _ _ _ _
      have O7 : Ord (fun g => g = wr.heap.size) W1.heap.size bo h.calls.length ps (.slice (some ⟨gp, op, none⟩) ps.length cp') (.slice a3 h.calls.length k3) (wr.alloc (.cells #[.int .i64 cp.m, .int .i64 cp.pc, .slice at' cp.temps.length ct', .slice as' cp.stack.length ct2, .int .i64 cp.sender, .bool cp.dead] 88)).drew := (hO.below NN).re (fun g e => by
        subst e
        obtain ⟨s1, s2, s3⟩ := HSZ.out 0
        exact ⟨by omega, r7.lt, s2, s3⟩)
      have L7 := hL.trans (NN.mono hL.size)
      generalize (wr.alloc (.cells #[.int .i64 cp.m, .int .i64 cp.pc, .slice at' cp.temps.length ct', .slice as' cp.stack.length ct2, .int .i64 cp.sender, .bool cp.dead] 88)).drew = w7 at *
      clear NN HS8 q0 q1 q2 q3 q4 q5 w0x d1 o0 o1 of0 of1 hO hL HSZ hb
      generalize wr.heap.size = cb at *
      obtain ⟨⟨x0', x1', x2', x3'', x4', x5'⟩, xf⟩ := six_cells r7
      clear xf
      go_wp2_with fail
      refine (come_any _ W1.heap.size bo _ ps _ _ cp.sender _ O7 hps (by omega)).mono ?_
      rintro e w8 ⟨rfl, ⟨vp8, O8⟩, C8⟩
      have r8 := r7.of_block (C8.a cb rfl)
      have L8 := L7.trans C8.b
      have P8 := hps.come cp.sender
      clear O7 C8 L7 r7 x0' x1' x2' x3'' x4' x5'
      obtain ⟨⟨x0', x1', x2', x3'', x4', x5'⟩, xf⟩ := six_cells r8
      clear xf
      go_wp2_with fail
      refine (comeToVals_any _ W1.heap.size bo _ _ _ _ _ cp.temps w _ O8 P8 (by omega) hct (hA.trans (L8.mono zA)) zA).mono ?_
      rintro e w9 ⟨rfl, ⟨vp9, O9⟩, C9⟩
      have r9 := r8.of_block (C9.a cb rfl)
      have L9 := L8.trans C9.b
      have P9 := P8.comeV cp.temps
      clear O8 C9 L8 r8 x0' x1' x2' x3'' x4' x5'
      obtain ⟨⟨x0', x1', x2', x3'', x4', x5'⟩, xf⟩ := six_cells r9
      clear xf
      go_wp2_with fail
      refine (comeToVals_any _ W1.heap.size bo _ _ _ _ _ cp.stack w _ O9 P9 (by omega) hcs' (hA.trans (L9.mono zA)) zA).mono ?_
      rintro e w10 ⟨rfl, ⟨vp10, O10⟩, C10⟩
      have L10 := L9.trans C10.b
      have P10 : PsOk h.calls.length (comeC h.calls.length ps cp) := P9.comeV cp.stack
      have O10' : Ord (fun _ => False) W1.heap.size bo h.calls.length (comeC h.calls.length ps cp) vp10 (.slice a3 h.calls.length k3) w10 := O10.re (fun g e => e.elim)
      obtain ⟨t, htt⟩ := comeC_pre h.calls.length ps cp
      have hlen2 : Hid (j + 1 ≤ (comeC h.calls.length ps cp).length) := by show _ ≤ _; rw [htt, List.length_append]; omega
      have HST2 : Hid (F = foundF h.calls (h.calls.length - (j + 1)) (j + 1) (comeC h.calls.length ps cp)) := HST.out
      clear htt HST O9 C10 L9 r9 O10 P8 P9 x0' x1' x2' x3'' x4' x5'
      go_wp2
      go_roundg (h.calls.length - (j + 1))
      case measure => omega
      case rel => exact ⟨j + 1, _, vp10, hlen2.out, rfl, by go_num, P10, HST2.out, O10', L10⟩
    · obtain rfl : j = ps.length := by omega
      have hE : Hid (F = ps) := by show F = ps; rw [HFF.out, foundF_end _ (by omega)]
      have hFe := hE.out
      subst hFe
      have HP : Hid (PsOk h.calls.length F) := hps
      have hb : Below w.heap.size w wr := hA.trans (hL.mono zA)
      have HO : Hid (OrdV w.heap.size h.calls.length F (.slice ap F.length cp') (.slice a3 h.calls.length k3) wr) := ⟨hO.p.mono zA, hO.n.mono zA, hO.pn⟩
      have HFd : Hid (found h = F) := HF.out.symm
      have hlr := rx.lt
      have HO6 : Hid (OrdV w.heap.size h.calls.length F (.slice ap F.length cp') (.slice a3 h.calls.length k3) ((wr.setCell ⟨w.heap.size + 1, 0, none⟩ (.slice ap F.length cp')).setCell ⟨w.heap.size + 1, 1, none⟩ (.slice a3 h.calls.length k3))) :=
        ⟨((hO.p.set_other (p := ⟨w.heap.size + 1, 0, none⟩) _ (fun e => by have := (hO.p.lt _ e).1; simp at this; omega)).set_other (p := ⟨w.heap.size + 1, 1, none⟩) _ (fun e => by have := (hO.p.lt _ e).1; simp at this; omega)).mono zA,
          ((hO.n.set_other (p := ⟨w.heap.size + 1, 0, none⟩) _ (fun e => by have := (hO.n.lt _ e).1; simp at this; omega)).set_other (p := ⟨w.heap.size + 1, 1, none⟩) _ (fun e => by have := (hO.n.lt _ e).1; simp at this; omega)).mono zA, hO.pn⟩
      have r5 := row_below hL rx
      have r6 := two_set1 (two_set0 r5 (.slice ap F.length cp')) (.slice a3 h.calls.length k3)
      have hb6 := (hb.setCell (p := ⟨w.heap.size + 1, 0, none⟩) (by simp) (.slice ap F.length cp')).setCell (p := ⟨w.heap.size + 1, 1, none⟩) (by simp) (.slice a3 h.calls.length k3)
      obtain ⟨⟨t0, t1⟩, tf0, tf1⟩ := two_cells r5
      obtain ⟨⟨s0, s1⟩, _⟩ := two_cells r6
      clear hE HFF hps hO HF P5 L5 O5 HF0 hlt hj hL r5 r6 HO
      go_wp2
      refine bodyPost_ret (v := .agg #[.slice ap F.length cp', .slice a3 h.calls.length k3]) (by simp [results, Try.results53, go_sem, s0, s1]) rfl ?_
      refine ⟨⟨_, _, rfl, ?_, ?_⟩, hb6⟩
      · rw [HFd.out]; exact HO6.out
      · rw [HFd.out]; exact HP.out

end Go.Proofs.Ytldiccheboipeaa

/-
  What is seen of a heap, by the program: orderOf.
-/
import Derived.Test.YtfpodljalccpnaaGreatDoorVImpl4
import Derived.Test.YtfpodljalccpnaaGreatDoorLLive2
import Derived.Test.YtfpodljalccpnaaGreatDoorLWalk2
import Derived.Deep.RegionHeld3

namespace Go.Proofs.YtfpodljalccpnaaGreatDoor
open Go.RowKit
theorem tabN_nil (n : Nat) : tabN n [] = List.replicate n (-1) := by
  refine List.ext_getElem (by simp [tabN]) fun i h1 h2 => ?_
  rw [tabN_at, numOf_none (fun j hj => absurd hj (Nat.not_lt_zero _))]
  simp
theorem Ord.re {A A' : Nat → Prop} {B bo n : Nat} {ps : List Nat} {vp vn : Value} {w : World} (h : Ord A B bo n ps vp vn w) (hA : ∀ g, A' g → g ≠ bo ∧ g < w.heap.size ∧ vp.ownBlock ≠ some g ∧ vn.ownBlock ≠ some g) : Ord A' B bo n ps vp vn w := ⟨h.le, h.box, h.p, h.n, h.pb, h.nb, h.pn, hA⟩
theorem two_set1 {w : World} {g : Nat} {t : TypeId} {x0 x1 : Value} (h : w.rowIs g t 2 (two x0 x1)) (v : Value) : (w.setCell ⟨g, 1, none⟩ v).rowIs g t 2 (two x0 v) :=
  (h.set 1 v).congr fun i hi => by match i, hi with | 0, _ => rfl | 1, _ => rfl
structure OrdV (B n : Nat) (ps : List Nat) (vp vn : Value) (w : World) : Prop where
  p : IntRow B w vp (nums ps)
  n : IntRow B w vn (tabN n ps)
  pn : ∀ g, vp.ownBlock = some g → vn.ownBlock ≠ some g
set_option maxRecDepth 100000 in
set_option maxHeartbeats 4000000 in
theorem orderOf_any (vc vs : Value) (h : Hp) (w : World) (hh : HeapAt w vc vs h) (hn : h.calls.length ≤ 30) :
    Calls Tryz.prog 62 #[.agg (hpCells vc vs h)] w fun e w' => (∃ vp vn, e = .returned (.agg #[vp, vn]) ∧ OrdV w.heap.size h.calls.length (found h) vp vn w' ∧ PsOk h.calls.length (found h)) ∧ Below w.heap.size w w' := by
  unfold hpCells
  obtain ⟨ac, kc, hvc⟩ := hh.c.shape
  obtain ⟨aD, kD, hvs⟩ := hh.s.shape
  subst hvc hvs
  have hA : Below w.heap.size w ((w.alloc (.cells #[.slice ac h.calls.length kc, .int .i64 h.now, .int .i64 h.born, .slice aD h.said.length kD, .int .i64 h.code] 29)).alloc (.cells #[.slice none 0 0, .slice none 0 0] 94)) := ((Below.refl _ _).alloc (Nat.le_refl _) _).alloc (by simp) _
  have bx : ((w.alloc (.cells #[.slice ac h.calls.length kc, .int .i64 h.now, .int .i64 h.born, .slice aD h.said.length kD, .int .i64 h.code] 29)).alloc (.cells #[.slice none 0 0, .slice none 0 0] 94)).rowIs w.heap.size 29 5 (five (.slice ac h.calls.length kc) (.int .i64 h.now) (.int .i64 h.born) (.slice aD h.said.length kD) (.int .i64 h.code)) := (five_new w 29 (.slice ac h.calls.length kc) (.int .i64 h.now) (.int .i64 h.born) (.slice aD h.said.length kD) (.int .i64 h.code)).alloc _
  have rx : ((w.alloc (.cells #[.slice ac h.calls.length kc, .int .i64 h.now, .int .i64 h.born, .slice aD h.said.length kD, .int .i64 h.code] 29)).alloc (.cells #[.slice none 0 0, .slice none 0 0] 94)).rowIs (w.heap.size + 1) 94 2 (two (.slice none 0 0) (.slice none 0 0)) := by
    have := two_new (w.alloc (.cells #[.slice ac h.calls.length kc, .int .i64 h.now, .int .i64 h.born, .slice aD h.said.length kD, .int .i64 h.code] 29)) 94 (.slice none 0 0) (.slice none 0 0)
    simpa using this
  go_enter Tryz.func62, Tryz.ntmps62
  go_upto_region 1 with fail
  generalize (w.alloc (.cells #[.slice ac h.calls.length kc, .int .i64 h.now, .int .i64 h.born, .slice aD h.said.length kD, .int .i64 h.code] 29)).alloc (.cells #[.slice none 0 0, .slice none 0 0] 94) = W1 at *
  have zA := hA.size
  have yA := bx.lt
  obtain ⟨⟨x0, x1, x2, x3, x4⟩, xf⟩ := five_cells bx
  clear xf
  have HF0 : Hid (found h = foundF h.calls (h.calls.length - 0) 0 (comeP h.calls.length [] h.now)) := rfl
  obtain ⟨F, hF⟩ : ∃ F, F = found h := ⟨_, rfl⟩
  have HF : Hid (F = found h) := hF
  rw [← hF] at HF0
  clear hF
  have N1 := (Below.refl W1.heap.size W1).alloc (Nat.le_refl _) (.cells #[.int .i64 (-1)] 3)
  have c1 : (W1.alloc (.cells #[.int .i64 (-1)] 3)).cell? ⟨W1.heap.size, 0, none⟩ = some (.int .i64 (-1)) := by simp [go_sem]
  have x0A := cell_below N1 x0
  go_upto_region 2 with (go_at_call 70; refine (repeat_any _ W1.heap.size h.calls.length hn c1).mono ?_; rintro e w3 ⟨hb3, v3, rfl, hr3⟩; obtain ⟨a3, k3, hv3, _⟩ := hr3.slice; rw [List.length_replicate] at hv3; subst hv3)
  have L3 : Below W1.heap.size W1 w3 := N1.trans (hb3.mono N1.size)
  have N3 := (Below.refl w3.heap.size w3).alloc (Nat.le_refl _) (.cells #[.slice none 0 0, .slice a3 h.calls.length k3] 94)
  have r4 := two_new w3 94 (.slice none 0 0) (.slice a3 h.calls.length k3)
  have hr4 := hr3.below N3
  have L4 := L3.trans (N3.mono L3.size)
  have y3 := L3.size
  have z1 := N1.size
  have O4 : Ord (fun _ => False) W1.heap.size w3.heap.size h.calls.length [] (.slice none 0 0) (.slice a3 h.calls.length k3) (w3.alloc (.cells #[.slice none 0 0, .slice a3 h.calls.length k3] 94)) :=
    ⟨L3.size, r4, IntRow.nil _ _, by rw [tabN_nil]; exact hr4.mono z1, fun e => by simp [Value.ownBlock] at e, fun e => by have := (hr3.lt _ e).2; omega, fun g e => by simp [Value.ownBlock] at e, fun g e => e.elim⟩
  generalize w3.alloc (.cells #[.slice none 0 0, .slice a3 h.calls.length k3] 94) = w4 at *
  generalize w3.heap.size = bo at *
  clear N1 c1 x0A hb3 hr3 hr4 L3 N3 r4
  have bx4 := row_below L4 bx
  obtain ⟨⟨y0, y1, y2, y3', y4⟩, yf⟩ := five_cells bx4
  clear yf
  go_wp2_with fail
  refine (come_any _ W1.heap.size bo _ [] _ _ h.now _ O4 (PsOk.nil _) (by omega)).mono ?_
  rintro e w5 ⟨rfl, ⟨vp5, O5⟩, C5⟩
  have L5 := L4.trans C5.b
  have P5 : PsOk h.calls.length (comeP h.calls.length [] h.now) := (PsOk.nil _).come _
  clear O4 C5 L4 bx4 y0 y1 y2 y3' y4
  go_wp2
  go_loopg [4] h.calls.length (fun g i wr => ∃ (j : Nat) (ps : List Nat) (vp : Value), j ≤ ps.length ∧ g = h.calls.length - j ∧ i = .int .i64 j ∧ PsOk h.calls.length ps ∧ F = foundF h.calls (h.calls.length - j) j ps ∧ Ord (fun _ => False) W1.heap.size bo h.calls.length ps vp (.slice a3 h.calls.length k3) wr ∧ Below W1.heap.size W1 wr)
  case atStart => exact ⟨0, _, vp5, Nat.zero_le _, rfl, rfl, P5, HF0.out, O5, L5⟩
  case round =>
    obtain ⟨j, ps, vp, hj, rfl, rfl, hps, hFF, hO, hL⟩ := hrel
    have HFF : Hid (F = foundF h.calls (h.calls.length - j) j ps) := hFF
    clear hFF
    have hpl := hps.len
    obtain ⟨ap, cp', hvp, _⟩ := hO.p.slice
    rw [nums_len] at hvp
    subst hvp
    obtain ⟨⟨o0, o1⟩, of0, of1⟩ := two_cells hO.box
    by_cases hlt : j < ps.length
    · have hjz : (j : Int) < (ps.length : Int) := by omega
      obtain ⟨gp, op, c1', e1, _⟩ := hO.p.form (by rw [nums_len]; omega)
      obtain rfl : ap = some ⟨gp, op, none⟩ := by injection e1
      clear e1
      have d1 := (hO.p.cell (i := j) (by rw [nums_len]; exact hlt)).1
      rw [nums_at] at d1
      have hpj : ps[j] < h.calls.length := hps.lt _ (List.getElem_mem hlt)
      have HST : Hid (F = foundF h.calls (h.calls.length - (j + 1)) (j + 1) (comeC h.calls.length ps h.calls[ps[j]])) := by show F = _; rw [HFF.out, foundF_step hps hlt hpj]
      generalize ps[j] = p at *
      clear HFF
      obtain ⟨b, o, vt, vs', hac, hc⟩ := hh.c.cl hpj
      subst hac
      obtain ⟨at', ct', hvt⟩ := hc.t.shape
      obtain ⟨as', ct2, hvs⟩ := hc.s.shape
      subst hvt hvs
      have hb : Below w.heap.size w wr := hA.trans (hL.mono zA)
      have q0 := cell_below hb hc.c0
      have q1 := cell_below hb hc.c1
      have q2 := cell_below hb hc.c2
      have q3 := cell_below hb hc.c3
      have q4 := cell_below hb hc.c4
      have q5 := cell_below hb hc.c5
      have hct := hc.t
      have hcs' := hc.s
      have w0x := (five_cells (row_below hL bx)).1.1
      have hpz : (p : Int) < (h.calls.length : Int) := by omega
      have HSZ : Hid (∀ f', bo < wr.heap.size ∧ (Value.slice (some ⟨gp, op, none⟩) ps.length cp').ownBlock ≠ some (wr.heap.size + f') ∧ (Value.slice a3 h.calls.length k3).ownBlock ≠ some (wr.heap.size + f')) := fun f' => ⟨hO.box.lt, fun e => by have := (hO.p.lt _ e).2; omega, fun e => by have := (hO.n.lt _ e).2; omega⟩
      generalize hce : h.calls[p] = cp at *
      clear hce hc
      have HS8 : ∀ w', Below wr.heap.size wr w' → (w'.cell? ⟨bo, 0, none⟩ = some (.slice (some ⟨gp, op, none⟩) ps.length cp') ∧ w'.cell? ⟨gp, op + j, none⟩ = some (.int .i64 (p : Int)) ∧ w'.cell? ⟨w.heap.size, 0, none⟩ = some (.slice (some ⟨b, o, none⟩) h.calls.length kc) ∧ w'.cell? ⟨b, o + p * 6, none⟩ = some (.int .i64 cp.m) ∧ w'.cell? ⟨b, o + p * 6 + 1, none⟩ = some (.int .i64 cp.pc) ∧ w'.cell? ⟨b, o + p * 6 + 2, none⟩ = some (.slice at' cp.temps.length ct') ∧ w'.cell? ⟨b, o + p * 6 + 3, none⟩ = some (.slice as' cp.stack.length ct2) ∧ w'.cell? ⟨b, o + p * 6 + 4, none⟩ = some (.int .i64 cp.sender) ∧ w'.cell? ⟨b, o + p * 6 + 5, none⟩ = some (.bool cp.dead)) := fun w' hB => ⟨cell_below hB o0, cell_below hB d1, cell_below hB w0x, cell_below hB q0, cell_below hB q1, cell_below hB q2, cell_below hB q3, cell_below hB q4, cell_below hB q5⟩
      go_wp2_with fail
      go_region_held3 (fun w' => w'.cell? ⟨bo, 0, none⟩ = some (.slice (some ⟨gp, op, none⟩) ps.length cp') ∧ w'.cell? ⟨gp, op + j, none⟩ = some (.int .i64 (p : Int)) ∧ w'.cell? ⟨w.heap.size, 0, none⟩ = some (.slice (some ⟨b, o, none⟩) h.calls.length kc) ∧ w'.cell? ⟨b, o + p * 6, none⟩ = some (.int .i64 cp.m) ∧ w'.cell? ⟨b, o + p * 6 + 1, none⟩ = some (.int .i64 cp.pc) ∧ w'.cell? ⟨b, o + p * 6 + 2, none⟩ = some (.slice at' cp.temps.length ct') ∧ w'.cell? ⟨b, o + p * 6 + 3, none⟩ = some (.slice as' cp.stack.length ct2) ∧ w'.cell? ⟨b, o + p * 6 + 4, none⟩ = some (.int .i64 cp.sender) ∧ w'.cell? ⟨b, o + p * 6 + 5, none⟩ = some (.bool cp.dead))
        ((refine HS8 _ ?_; first | (with_reducible exact (Below.refl _ _).alloc (Nat.le_refl _) _) | (with_reducible exact ((Below.refl _ _).alloc (Nat.le_refl _) _).drew) | (with_reducible exact (Below.refl _ _).drew.alloc (Nat.le_refl _) _) | (with_reducible exact (Below.refl _ _).drew) | (with_reducible exact Below.refl _ _)))
        (fail)
      have NN : Below wr.heap.size wr (wr.alloc (.cells #[.int .i64 cp.m, .int .i64 cp.pc, .slice at' cp.temps.length ct', .slice as' cp.stack.length ct2, .int .i64 cp.sender, .bool cp.dead] 56)).drew := ((Below.refl wr.heap.size wr).alloc (Nat.le_refl _) _).drew
      have r7 : (wr.alloc (.cells #[.int .i64 cp.m, .int .i64 cp.pc, .slice at' cp.temps.length ct', .slice as' cp.stack.length ct2, .int .i64 cp.sender, .bool cp.dead] 56)).drew.rowIs wr.heap.size 56 6 (six (.int .i64 cp.m) (.int .i64 cp.pc) (.slice at' cp.temps.length ct') (.slice as' cp.stack.length ct2) (.int .i64 cp.sender) (.bool cp.dead)) := six_new wr 56 _ _ _ _ _ _
      have O7 : Ord (fun g => g = wr.heap.size) W1.heap.size bo h.calls.length ps (.slice (some ⟨gp, op, none⟩) ps.length cp') (.slice a3 h.calls.length k3) (wr.alloc (.cells #[.int .i64 cp.m, .int .i64 cp.pc, .slice at' cp.temps.length ct', .slice as' cp.stack.length ct2, .int .i64 cp.sender, .bool cp.dead] 56)).drew := (hO.below NN).re (fun g e => by
        subst e
        obtain ⟨s1, s2, s3⟩ := HSZ.out 0
        exact ⟨by omega, r7.lt, s2, s3⟩)
      have L7 := hL.trans (NN.mono hL.size)
      generalize (wr.alloc (.cells #[.int .i64 cp.m, .int .i64 cp.pc, .slice at' cp.temps.length ct', .slice as' cp.stack.length ct2, .int .i64 cp.sender, .bool cp.dead] 56)).drew = w7 at *
      clear NN HS8 q0 q1 q2 q3 q4 q5 w0x d1 o0 o1 of0 of1 hO hL HSZ hb
      generalize wr.heap.size = cb at *
      obtain ⟨⟨x0', x1', x2', x3'', x4', x5'⟩, xf⟩ := six_cells r7
      clear xf
      go_wp2_with fail
      refine (come_any _ W1.heap.size bo _ ps _ _ cp.sender _ O7 hps (by omega)).mono ?_
      rintro e w8 ⟨rfl, ⟨vp8, O8⟩, C8⟩
      have r8 := r7.of_block (C8.a cb rfl)
      have L8 := L7.trans C8.b
      have P8 := hps.come cp.sender
      clear O7 C8 L7 r7 x0' x1' x2' x3'' x4' x5'
      obtain ⟨⟨x0', x1', x2', x3'', x4', x5'⟩, xf⟩ := six_cells r8
      clear xf
      go_wp2_with fail
      refine (comeToVals_any _ W1.heap.size bo _ _ _ _ _ cp.temps w _ O8 P8 (by omega) hct (hA.trans (L8.mono zA)) zA).mono ?_
      rintro e w9 ⟨rfl, ⟨vp9, O9⟩, C9⟩
      have r9 := r8.of_block (C9.a cb rfl)
      have L9 := L8.trans C9.b
      have P9 := P8.comeV cp.temps
      clear O8 C9 L8 r8 x0' x1' x2' x3'' x4' x5'
      obtain ⟨⟨x0', x1', x2', x3'', x4', x5'⟩, xf⟩ := six_cells r9
      clear xf
      go_wp2_with fail
      refine (comeToVals_any _ W1.heap.size bo _ _ _ _ _ cp.stack w _ O9 P9 (by omega) hcs' (hA.trans (L9.mono zA)) zA).mono ?_
      rintro e w10 ⟨rfl, ⟨vp10, O10⟩, C10⟩
      have L10 := L9.trans C10.b
      have P10 : PsOk h.calls.length (comeC h.calls.length ps cp) := P9.comeV cp.stack
      have O10' : Ord (fun _ => False) W1.heap.size bo h.calls.length (comeC h.calls.length ps cp) vp10 (.slice a3 h.calls.length k3) w10 := O10.re (fun g e => e.elim)
      obtain ⟨t, htt⟩ := comeC_pre h.calls.length ps cp
      have hlen2 : Hid (j + 1 ≤ (comeC h.calls.length ps cp).length) := by show _ ≤ _; rw [htt, List.length_append]; omega
      have HST2 : Hid (F = foundF h.calls (h.calls.length - (j + 1)) (j + 1) (comeC h.calls.length ps cp)) := HST.out
      clear htt HST O9 C10 L9 r9 O10 P8 P9 x0' x1' x2' x3'' x4' x5'
      go_wp2
      go_roundg (h.calls.length - (j + 1))
      case measure => omega
      case rel => exact ⟨j + 1, _, vp10, hlen2.out, rfl, by go_num, P10, HST2.out, O10', L10⟩
    · obtain rfl : j = ps.length := by omega
      have hE : Hid (F = ps) := by show F = ps; rw [HFF.out, foundF_end _ (by omega)]
      have hFe := hE.out
      subst hFe
      have HP : Hid (PsOk h.calls.length F) := hps
      have hb : Below w.heap.size w wr := hA.trans (hL.mono zA)
      have HO : Hid (OrdV w.heap.size h.calls.length F (.slice ap F.length cp') (.slice a3 h.calls.length k3) wr) := ⟨hO.p.mono zA, hO.n.mono zA, hO.pn⟩
      have HFd : Hid (found h = F) := HF.out.symm
      have hlr := rx.lt
      have HO6 : Hid (OrdV w.heap.size h.calls.length F (.slice ap F.length cp') (.slice a3 h.calls.length k3) ((wr.setCell ⟨w.heap.size + 1, 0, none⟩ (.slice ap F.length cp')).setCell ⟨w.heap.size + 1, 1, none⟩ (.slice a3 h.calls.length k3))) :=
        ⟨((hO.p.set_other (p := ⟨w.heap.size + 1, 0, none⟩) _ (fun e => by have := (hO.p.lt _ e).1; simp at this; omega)).set_other (p := ⟨w.heap.size + 1, 1, none⟩) _ (fun e => by have := (hO.p.lt _ e).1; simp at this; omega)).mono zA,
          ((hO.n.set_other (p := ⟨w.heap.size + 1, 0, none⟩) _ (fun e => by have := (hO.n.lt _ e).1; simp at this; omega)).set_other (p := ⟨w.heap.size + 1, 1, none⟩) _ (fun e => by have := (hO.n.lt _ e).1; simp at this; omega)).mono zA, hO.pn⟩
      have r5 := row_below hL rx
      have r6 := two_set1 (two_set0 r5 (.slice ap F.length cp')) (.slice a3 h.calls.length k3)
      have hb6 := (hb.setCell (p := ⟨w.heap.size + 1, 0, none⟩) (by simp) (.slice ap F.length cp')).setCell (p := ⟨w.heap.size + 1, 1, none⟩) (by simp) (.slice a3 h.calls.length k3)
      obtain ⟨⟨t0, t1⟩, tf0, tf1⟩ := two_cells r5
      obtain ⟨⟨s0, s1⟩, _⟩ := two_cells r6
      clear hE HFF hps hO HF P5 L5 O5 HF0 hlt hj hL r5 r6 HO
      go_wp2
      refine bodyPost_ret (v := .agg #[.slice ap F.length cp', .slice a3 h.calls.length k3]) (by simp [results, Tryz.results62, go_sem, s0, s1]) rfl ?_
      refine ⟨⟨_, _, rfl, ?_, ?_⟩, hb6⟩
      · rw [HFd.out]; exact HO6.out
      · rw [HFd.out]; exact HP.out
end Go.Proofs.YtfpodljalccpnaaGreatDoor

/-
  The program's heap at work: a call is born.
-/
namespace Go.Proofs.YtfpodljalccpnaaGreatDoor
open Go.RowKit
variable {B : Nat} {w w' : World} {bl br : Nat} {vp vcs vsd : Value} {C D : Nat → Nat} {T : Nat → Value × Value} {h h' : Hp}
theorem Tryz.infoLC : (Tryz.prog.info? 89).map (fun i => (i.zero, i.size, i.bytes)) = some (some (.pointer none), 1, 8) := by kernel_rfl
theorem src_ptr {w : World} {c g : Nat} (hc : w.cell? ⟨g, 0, none⟩ = some (.pointer (some ⟨c, 0, none⟩))) : Src Tryz.prog 1 88 (.slice (some ⟨g, 0, none⟩) 1 1) 1 [.pointer (some ⟨c, 0, none⟩)] w := by
  refine Src.ofSlice w Tryz.underlying88 ⟨g, 0, none⟩ _ 1 _ rfl (fun j u hu => ?_) (fun u hu => ?_)
  · cases j with
    | zero => simp at hu; subst hu; rw [Addr.add_lit]; exact hc
    | succ j => simp at hu
  · simp at hu; subst hu; rfl
theorem run_append_ptrs {ty : TypeId} {B : Nat} {w : World} {v xv : Value} {n : Nat} {xs : List Value} {y : Value} (hown : CRow B 1 w v n xs) (hM : Src Tryz.prog 1 88 xv 1 [y] w) (hL : n + 1 ≤ 3000000) (hB : B ≤ w.heap.size) :
    ∃ v' w', (Builtin.append_ #[88, 88] ty #[v, xv]).run Tryz.prog w = .ok v' w' ∧ CRow B 1 w' v' (n + 1) (xs ++ [y]) ∧ w.grownBy w' v.ownBlock ∧ (v'.ownBlock = v.ownBlock ∨ v'.ownBlock = some w.heap.size) := by
  obtain ⟨i0, hi, hz0, hz1, hz2⟩ := info_parts Tryz.infoLC
  have h1 : CRow B i0.size w v n xs := by rw [hz1]; exact hown
  have h2 : Src Tryz.prog i0.size 88 xv 1 [y] w := by rw [hz1]; exact hM
  obtain ⟨v', w', hr, hc, hg, hb⟩ := run_append_rows (P := Tryz.prog) (ty := ty) Tryz.underlying88 hi hz0 (by rw [hz1]; rfl) (by rw [hz2]; omega) h1 xv 1 [y] h2 hL hB
  rw [hz1] at hc
  exact ⟨v', w', hr, hc, hg, hb⟩
theorem step_ptrs {ops : Array Oper} {o : Oper} {act : Act} {K : Act → World → Prop} {Q : Exit → Act → World → Prop} {E : Prop} (w : World) (hgd : o.guard = none) (s x : Operand)
    (ho : o.op = .call { callee := .builtin .append, args := #[s, x], argTypes := #[88, 88] }) (B : Nat) (v xv : Value) (n : Nat) (xs : List Value) (y : Value) (hs : act.eval s = v) (hx : act.eval x = xv) (hown : CRow B 1 w v n xs) (hM : Src Tryz.prog 1 88 xv 1 [y] w)
    (hL : n + 1 ≤ 3000000) (hB : B ≤ w.heap.size)
    (h : ∀ v' w', CRow B 1 w' v' (n + 1) (xs ++ [y]) → w.grownBy w' v.ownBlock → (v'.ownBlock = v.ownBlock ∨ v'.ownBlock = some w.heap.size) → K (act.put o.dst v') w') :
    if Region.wanted o (yielded ops act.tmps) = true then Oper.wp Tryz.prog o act w K Q else E := by
  obtain ⟨v', w', hr, h2, h3, h4⟩ := run_append_ptrs (ty := o.type) hown hM hL hB
  rw [if_pos (by simp [Region.wanted, hgd])]
  unfold Oper.wp execOp
  simp only [ho, resolve, invoke, builtin, Sem.run_bind, Sem.run_pure, Result.andThen_ok, List.map_toArray, List.map_cons, List.map_nil, hs, hx, hr]
  exact h v' w' h2 h3 h4
theorem CRow.form1 {B n : Nat} {w : World} {v : Value} {xs : List Value} (h : CRow B 1 w v n xs) : ∃ a cap, v = .slice a n cap := by
  obtain ⟨_, h | ⟨g, off, cap, hv, _⟩⟩ := h
  · exact ⟨none, 0, by rw [h.1, h.2]⟩
  · exact ⟨_, cap, hv⟩
theorem enter_go {w0 : World} (_k : LV B w0 bl br vp vcs vsd C D T h) {c d : Nat} {vcs' : Value} (hbl : ∀ g, g < w0.heap.size → g ≠ bl → vcs.ownBlock ≠ some g → w'.heap[g]? = w0.heap[g]?) (hb : Below B w0 w') (hc : w0.heap.size ≤ c) (hd : w0.heap.size ≤ d) {vt : Value}
    (nv : ∀ q, vcs'.ownBlock = some q → vcs.ownBlock = some q ∨ (w0.heap.size ≤ q ∧ q ≠ c ∧ q ≠ d)) (nt : ∀ q, vt.ownBlock = some q → w0.heap.size ≤ q) :
    LGo B (LOwn bl br vcs vsd C D T h.calls.length) (LOwn bl br vcs' vsd (updN C h.calls.length c) (updN D h.calls.length d) (putV T h.calls.length (vt, .slice none 0 0)) (h.calls.length + 1)) w0 w' := by
  refine ⟨hb, fun g hg hn => hbl g hg (fun e => hn ⟨.heap, trivial, by rw [e]; rfl⟩) (fun e => hn ⟨.row, trivial, e⟩), fun g ⟨x, hx, e⟩ => ?_⟩
  cases x with
  | heap => exact .inl ⟨.heap, trivial, e⟩
  | run => exact .inl ⟨.run, trivial, e⟩
  | said => exact .inl ⟨.said, trivial, e⟩
  | row =>
    rcases nv g e with q | q
    · exact .inl ⟨.row, trivial, q⟩
    · exact .inr q.1
  | call i =>
    simp only [Blk.at] at e
    by_cases q : i = h.calls.length
    · subst q; rw [updN_same] at e; injection e with e; exact .inr (by omega)
    · rw [updN_other _ q] at e; exact .inl ⟨.call i, by have : i < h.calls.length + 1 := hx; show i < h.calls.length; omega, e⟩
  | body i =>
    simp only [Blk.at] at e
    by_cases q : i = h.calls.length
    · subst q; rw [updN_same] at e; injection e with e; exact .inr (by omega)
    · rw [updN_other _ q] at e; exact .inl ⟨.body i, by have : i < h.calls.length + 1 := hx; show i < h.calls.length; omega, e⟩
  | temps i =>
    simp only [Blk.at] at e
    by_cases q : i = h.calls.length
    · subst q; rw [putV_same] at e; exact .inr (nt g e)
    · rw [putV_other _ _ q] at e; exact .inl ⟨.temps i, by have : i < h.calls.length + 1 := hx; show i < h.calls.length; omega, e⟩
  | stack i =>
    simp only [Blk.at] at e
    by_cases q : i = h.calls.length
    · subst q; rw [putV_same] at e; simp [Value.ownBlock] at e
    · rw [putV_other _ _ q] at e; exact .inl ⟨.stack i, by have : i < h.calls.length + 1 := hx; show i < h.calls.length; omega, e⟩
set_option maxRecDepth 100000 in
set_option maxHeartbeats 4000000 in
theorem enter_any {w0 : World} (k : LV B w0 bl br vp vcs vsd C D T h) (hb0 : Below w0.heap.size w0 w) (hB : B ≤ w0.heap.size) {d : Nat} (hd : w0.heap.size ≤ d) {vt : Value} {cl : Cl} (hst : cl.stack = []) (hsn : cl.sender = h.now) (hnow : h.now < (h.calls.length : Int)) (hsd : ∀ i, (hi : i < h.calls.length) → h.calls[i].sender < (h.calls.length : Int))
    (rd : w.rowIs d 143 5 (five (.int .i64 cl.m) (.int .i64 cl.pc) vt (.slice none 0 0) (.bool cl.dead))) (ht : PairRow B w vt cl.temps) (nt : ∀ q, vt.ownBlock = some q → w0.heap.size ≤ q ∧ q ≠ d) (hl : h.calls.length ≤ 1000) :
    Calls Tryz.prog 164 #[.pointer (some ⟨bl, 0, none⟩), .pointer (some ⟨d, 0, none⟩)] w fun e w' => e = .returned (.tuple #[]) ∧ ∃ vcs' C' D' T', LV B w' bl br vp vcs' vsd C' D' T' { h with calls := h.calls ++ [cl], now := (h.calls.length : Int) } ∧ LGo B (LOwn bl br vcs vsd C D T h.calls.length) (LOwn bl br vcs' vsd C' D' T' (h.calls.length + 1)) w0 w' := by
  have kw := k.below hb0
  obtain ⟨av, cv, hvc⟩ := k.row.form1
  subst hvc
  obtain ⟨q, hq⟩ : ∃ q, ptrN C h.now = .pointer q := by
    unfold ptrN
    split
    · exact ⟨_, rfl⟩
    · exact ⟨_, rfl⟩
  have hbl := k.lo .heap trivial bl rfl
  have hz0 := hb0.size
  have hdl := rd.lt
  have hblw : bl < w.heap.size := by omega
  have hrl : ∀ g, (Value.slice av h.calls.length cv).ownBlock = some g → g < w0.heap.size ∧ g ≠ bl := fun g e => ⟨(k.lo .row trivial g e).2, fun e2 => by have := k.ap .row .heap trivial trivial g e (by rw [e2]; rfl); cases this⟩
  -- the world behind the first statement
  have zs : (w.setCell ⟨bl, 1, none⟩ (.pointer (some ⟨w.heap.size, 0, none⟩))).heap.size = w.heap.size := by simp [World.setCell]
  have NS : Below (w.setCell ⟨bl, 1, none⟩ (.pointer (some ⟨w.heap.size, 0, none⟩))).heap.size (w.setCell ⟨bl, 1, none⟩ (.pointer (some ⟨w.heap.size, 0, none⟩))) (((w.setCell ⟨bl, 1, none⟩ (.pointer (some ⟨w.heap.size, 0, none⟩))).alloc (.cells #[.pointer (some ⟨d, 0, none⟩), .int .i64 h.calls.length, .pointer q] 116)).drew) := ((Below.refl _ _).alloc (Nat.le_refl _) _).drew
  have rc1 : (((w.setCell ⟨bl, 1, none⟩ (.pointer (some ⟨w.heap.size, 0, none⟩))).alloc (.cells #[.pointer (some ⟨d, 0, none⟩), .int .i64 h.calls.length, .pointer q] 116)).drew).rowIs w.heap.size 116 3 (trio (.pointer (some ⟨d, 0, none⟩)) (.int .i64 h.calls.length) (.pointer q)) := by
    have r := trio_new (w.setCell ⟨bl, 1, none⟩ (.pointer (some ⟨w.heap.size, 0, none⟩))) 116 (.pointer (some ⟨d, 0, none⟩)) (.int .i64 h.calls.length) (.pointer q)
    rw [zs] at r
    exact r
  have hp1 : (((w.setCell ⟨bl, 1, none⟩ (.pointer (some ⟨w.heap.size, 0, none⟩))).alloc (.cells #[.pointer (some ⟨d, 0, none⟩), .int .i64 h.calls.length, .pointer q] 116)).drew).rowIs bl 91 2 (two (.slice av h.calls.length cv) (.pointer (some ⟨w.heap.size, 0, none⟩))) := row_below NS ((kw.hp.set 1 (.pointer (some ⟨w.heap.size, 0, none⟩))).congr fun i hi => by match i, hi with | 0, _ => rfl | 1, _ => rfl)
  have hz1 : (((w.setCell ⟨bl, 1, none⟩ (.pointer (some ⟨w.heap.size, 0, none⟩))).alloc (.cells #[.pointer (some ⟨d, 0, none⟩), .int .i64 h.calls.length, .pointer q] 116)).drew).heap.size = w.heap.size + 1 := by simp [World.setCell]
  have hblk : ∀ g, g < w.heap.size → g ≠ bl → (((w.setCell ⟨bl, 1, none⟩ (.pointer (some ⟨w.heap.size, 0, none⟩))).alloc (.cells #[.pointer (some ⟨d, 0, none⟩), .int .i64 h.calls.length, .pointer q] 116)).drew).heap[g]? = w.heap[g]? := fun g h1 h2 => (NS.block g (by rw [zs]; exact h1)).trans (Below.heap_setCell _ _ _ _ (fun e => h2 e))
  have row1 : CRow B 1 (((w.setCell ⟨bl, 1, none⟩ (.pointer (some ⟨w.heap.size, 0, none⟩))).alloc (.cells #[.pointer (some ⟨d, 0, none⟩), .int .i64 h.calls.length, .pointer q] 116)).drew) (.slice av h.calls.length cv) h.calls.length (ptrs C h.calls.length) := kw.row.kept (by rw [hz1]; omega) fun g e => hblk g (by have := (hrl g e).1; omega) (hrl g e).2
  have hbW : Below B w (((w.setCell ⟨bl, 1, none⟩ (.pointer (some ⟨w.heap.size, 0, none⟩))).alloc (.cells #[.pointer (some ⟨d, 0, none⟩), .int .i64 h.calls.length, .pointer q] 116)).drew) := (((Below.refl B w).setCell (p := ⟨bl, 1, none⟩) hbl.1 _).alloc (by rw [zs]; omega) _).drew
  obtain ⟨⟨x0, x1⟩, xf0, xf1⟩ := two_cells kw.hp
  obtain ⟨⟨p0, p1⟩, pf0, pf1⟩ := two_cells hp1
  rw [hq] at x1
  have HFIN : Hid (∀ (W1 : World), W1 = ((w.setCell ⟨bl, 1, none⟩ (.pointer (some ⟨w.heap.size, 0, none⟩))).alloc (.cells #[.pointer (some ⟨d, 0, none⟩), .int .i64 h.calls.length, .pointer q] 116)).drew → ∀ v' w', CRow B 1 w' v' (h.calls.length + 1) (ptrs C h.calls.length ++ [.pointer (some ⟨w.heap.size, 0, none⟩)]) → (W1.alloc (.cells #[.pointer (some ⟨w.heap.size, 0, none⟩)] 89)).drew.grownBy w' (Value.slice av h.calls.length cv).ownBlock → (v'.ownBlock = (Value.slice av h.calls.length cv).ownBlock ∨ v'.ownBlock = some (W1.alloc (.cells #[.pointer (some ⟨w.heap.size, 0, none⟩)] 89)).drew.heap.size) → (w'.cell? ⟨bl, 0, none⟩ = some (.slice av h.calls.length cv) ∧ w'.frozen? ⟨bl, 0, none⟩ = false) ∧ ∃ vcs' C' D' T', LV B (w'.setCell ⟨bl, 0, none⟩ v') bl br vp vcs' vsd C' D' T' { h with calls := h.calls ++ [cl], now := (h.calls.length : Int) } ∧ LGo B (LOwn bl br (.slice av h.calls.length cv) vsd C D T h.calls.length) (LOwn bl br vcs' vsd C' D' T' (h.calls.length + 1)) w0 (w'.setCell ⟨bl, 0, none⟩ v')) := by
    intro W1 hW1 v' w' hr hg hv
    rw [← hW1] at rc1 hp1 hz1 hblk hbW
    have NA : Below W1.heap.size W1 (W1.alloc (.cells #[.pointer (some ⟨w.heap.size, 0, none⟩)] 89)).drew := ((Below.refl _ _).alloc (Nat.le_refl _) _).drew
    have zN : (W1.alloc (.cells #[.pointer (some ⟨w.heap.size, 0, none⟩)] 89)).drew.heap.size = w.heap.size + 2 := by simp; omega
    have hzg := hg.size
    have hbw : ∀ g, g < W1.heap.size → (Value.slice av h.calls.length cv).ownBlock ≠ some g → w'.heap[g]? = W1.heap[g]? := fun g h1 h2 => (hg.block g (by omega) (fun e => h2 e.symm)).trans (NA.block g h1)
    have hnr : ∀ g, w0.heap.size ≤ g → (Value.slice av h.calls.length cv).ownBlock ≠ some g := fun g h1 e => by have := (hrl g e).1; omega
    have hbr : (Value.slice av h.calls.length cv).ownBlock ≠ some bl := fun e => (hrl bl e).2 rfl
    have hpw := hp1.of_block (hbw bl (by omega) hbr)
    obtain ⟨⟨c0, _⟩, cf0, _⟩ := two_cells hpw
    have hvb : v'.ownBlock ≠ some bl := fun e => by
      rcases hv with x | x
      · exact hbr (by rw [← x]; exact e)
      · rw [x] at e; injection e with e; omega
    have nv : ∀ g, v'.ownBlock = some g → (Value.slice av h.calls.length cv).ownBlock = some g ∨ (w0.heap.size ≤ g ∧ g ≠ w.heap.size ∧ g ≠ d) := fun g e => by
      rcases hv with x | x
      · exact .inl (by rw [← x]; exact e)
      · rw [x] at e; injection e with e; exact .inr ⟨by omega, by omega, by omega⟩
    have ntt : ∀ g, vt.ownBlock = some g → w0.heap.size ≤ g ∧ g ≠ w.heap.size ∧ g ≠ d ∧ v'.ownBlock ≠ some g := fun g e => by
      have h1 := nt g e
      have h2 := (ht.lt g e).2
      refine ⟨h1.1, by omega, h1.2, fun e2 => ?_⟩
      rcases hv with x | x
      · exact hnr g h1.1 (by rw [← x]; exact e2)
      · rw [x] at e2; injection e2 with e2; omega
    have hF : ∀ g, g < w.heap.size → g ≠ bl → (Value.slice av h.calls.length cv).ownBlock ≠ some g → (w'.setCell ⟨bl, 0, none⟩ v').heap[g]? = w.heap[g]? := fun g h1 h2 h3 => ((Below.heap_setCell _ _ _ _ (fun e => h2 e)).trans (hbw g (by omega) h3)).trans (hblk g h1 h2)
    have hF0 : ∀ g, g < w0.heap.size → g ≠ bl → (Value.slice av h.calls.length cv).ownBlock ≠ some g → (w'.setCell ⟨bl, 0, none⟩ v').heap[g]? = w0.heap[g]? := fun g h1 h2 h3 => (hF g (by omega) h2 h3).trans (hb0.block g h1)
    have hsz : w0.heap.size ≤ (w'.setCell ⟨bl, 0, none⟩ v').heap.size := by simp [World.setCell]; omega
    have hhp : (w'.setCell ⟨bl, 0, none⟩ v').rowIs bl 91 2 (two v' (.pointer (some ⟨w.heap.size, 0, none⟩))) := two_set0 hpw v'
    have hrw : CRow B 1 (w'.setCell ⟨bl, 0, none⟩ v') v' (h.calls.length + 1) (ptrs C h.calls.length ++ [.pointer (some ⟨w.heap.size, 0, none⟩)]) := hr.kept (by simp [World.setCell]) fun g e => Below.heap_setCell _ _ _ _ (fun e2 => hvb (by have e3 : g = bl := e2; rw [← e3]; exact e))
    have hcl : (w'.setCell ⟨bl, 0, none⟩ v').rowIs w.heap.size 116 3 (trio (.pointer (some ⟨d, 0, none⟩)) (.int .i64 h.calls.length) (ptrN C h.now)) := by
      rw [hq]
      exact rc1.of_block ((Below.heap_setCell _ _ _ _ (by show w.heap.size ≠ bl; omega)).trans (hbw _ (by omega) (hnr _ (by omega))))
    have hbd := rd.of_block (hF d hdl (by omega) (hnr d hd))
    have htF : PairRow B (w'.setCell ⟨bl, 0, none⟩ v') vt cl.temps := ht.kept (by simp [World.setCell]; omega) fun g e => hF g (ht.lt g e).2 (by have := (nt g e).1; omega) (hnr g (nt g e).1)
    have hbF : Below B w0 (w'.setCell ⟨bl, 0, none⟩ v') := ((((hb0.mono hB).trans hbW).trans (NA.mono (by omega))).grown hg (by omega) (fun g e => (k.lo .row trivial g e).1)).setCell (p := ⟨bl, 0, none⟩) hbl.1 v'
    exact ⟨⟨c0, cf0⟩, v', _, _, _, k.enter hst hsn hnow hsd hB (by omega) hd (by omega) hsz hF0 hhp hrw hcl hbd htF nv ntt, enter_go k hF0 hbF (by omega) hd nv (fun g e => (nt g e).1)⟩
  have hBz : B ≤ w.heap.size := by omega
  clear kw k rc1 hp1 NS rd ht hblk hbW hb0 hsd
  go_enter Tryz.func164, Tryz.ntmps164
  go_wp2_with fail
  go_region
  all_goals
    have HF := HFIN.out _ rfl
    have HFH : Hid _ := HF
    clear HF HFIN
    generalize ((w.setCell ⟨bl, 1, none⟩ (.pointer (some ⟨w.heap.size, 0, none⟩))).alloc (.cells #[.pointer (some ⟨d, 0, none⟩), .int .i64 h.calls.length, .pointer q] 116)).drew = W1 at *
    have s1 : Src Tryz.prog 1 88 (.slice (some ⟨w.heap.size + 1, 0, none⟩) 1 1) 1 [.pointer (some ⟨w.heap.size, 0, none⟩)] (W1.alloc (.cells #[.pointer (some ⟨w.heap.size, 0, none⟩)] 89)).drew := src_ptr (by rw [← hz1]; simp [go_sem])
    have row2 : CRow B 1 (W1.alloc (.cells #[.pointer (some ⟨w.heap.size, 0, none⟩)] 89)).drew (.slice av h.calls.length cv) h.calls.length (ptrs C h.calls.length) := row1.below (((Below.refl _ _).alloc (Nat.le_refl _) _).drew)
    have hBA : B ≤ (W1.alloc (.cells #[.pointer (some ⟨w.heap.size, 0, none⟩)] 89)).drew.heap.size := by simp; omega
    have hblW : bl < W1.heap.size := by omega
    clear row1 x0 x1 xf0 xf1
    go_wp2_with fail
    go_region_law (refine step_ptrs _ (by rfl) _ _ (by rfl) B _ _ h.calls.length (ptrs C h.calls.length) (.pointer (some ⟨w.heap.size, 0, none⟩)) (by rfl) (by rfl) row2 s1 (by omega) (by first | exact hBA | (simp; omega)) ?_; intro v' w' hrow hg hbk; obtain ⟨a', c', hv'⟩ := hrow.form1; subst hv'; obtain ⟨⟨z4, f4⟩, hLV⟩ := HFH.out _ w' hrow hg hbk)
    all_goals exact bodyPost_end (results_none rfl _ _ _) rfl ⟨rfl, hLV⟩
end Go.Proofs.YtfpodljalccpnaaGreatDoor

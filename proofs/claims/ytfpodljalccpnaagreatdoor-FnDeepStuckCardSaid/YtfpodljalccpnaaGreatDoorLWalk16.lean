/-
  The program's heap at work: operations are done, part nine: one goes on elsewhere, if it is nothing, or 0.
-/
import Derived.Test.YtfpodljalccpnaaGreatDoorLWalk14
import Derived.Test.YtfpodljalccpnaaGreatDoorVSpec2
import Derived.Laws.IdiomCopy

namespace Go.Proofs.YtfpodljalccpnaaGreatDoor
open Go.RowKit
variable {B : Nat} {w w' : World} {bl br : Nat} {vp vcs vsd : Value} {C D : Nat → Nat} {T : Nat → Value × Value} {h h' : Hp}
set_option maxRecDepth 100000 in
set_option maxHeartbeats 2000000 in
theorem isZero_any (k n : Int) (w : World) :
    Calls Tryz.prog 145 #[.agg #[.int .i64 k, .int .i64 n]] w fun e w' => e = .returned (.bool (decide (n = 0 ∧ (k = 0 ∨ k = 1)))) ∧ Below w.heap.size w w' := by
  have hA : Below w.heap.size w (w.alloc (.cells #[.int .i64 k, .int .i64 n] 51)) := (Below.refl _ _).alloc (Nat.le_refl _) _
  have rx := two_new w 51 (.int .i64 k) (.int .i64 n)
  by_cases hz : k = 0 ∧ n = 0
  · obtain ⟨rfl, rfl⟩ := hz
    go_enter Tryz.func145, Tryz.ntmps145
    go_wp2_with fail
    go_region
    go_wp2
    go_ret
    exact ⟨ret_bool (by simp), hA.drew⟩
  by_cases hn : n = 0
  · subst hn
    have hk : (k == 0) = false := beq_eq_false_iff_ne.2 (fun q => hz ⟨q, rfl⟩)
    have hk0 : ¬ k = 0 := fun q => hz ⟨q, rfl⟩
    clear hz
    by_cases h1 : k = 1
    · subst h1
      clear hk hk0
      go_enter Tryz.func145, Tryz.ntmps145
      go_wp2_with fail
      go_region_with (go_at_call 143; refine (numVal_any _ _).mono ?_; rintro e w2 ⟨rfl, hb⟩; obtain ⟨⟨t0, t1⟩, _⟩ := two_cells (row_below hb rx))
      all_goals
        go_wp2
        go_ret
        exact ⟨ret_bool (by simp), hA.drew.trans (hb.mono hA.size)⟩
    · have h1' : (k == 1) = false := beq_eq_false_iff_ne.2 h1
      go_enter Tryz.func145, Tryz.ntmps145
      go_wp2_with fail
      go_region_with (go_at_call 143; refine (numVal_any _ _).mono ?_; rintro e w2 ⟨rfl, hb⟩; obtain ⟨⟨t0, t1⟩, _⟩ := two_cells (row_below hb rx))
      all_goals
        go_wp2
        go_ret
        exact ⟨ret_bool (by simp [hk0, h1]), hA.drew.trans (hb.mono hA.size)⟩
  · have hn' : (n == 0) = false := beq_eq_false_iff_ne.2 hn
    clear hz
    go_enter Tryz.func145, Tryz.ntmps145
    go_wp2_with fail
    go_region_with (go_at_call 143; refine (numVal_any _ _).mono ?_; rintro e w2 ⟨rfl, hb⟩; obtain ⟨⟨t0, t1⟩, _⟩ := two_cells (row_below hb rx))
    all_goals
      go_wp2
      go_ret
      exact ⟨ret_bool (by simp [hn]), hA.drew.trans (hb.mono hA.size)⟩
set_option maxRecDepth 100000 in
set_option maxHeartbeats 2000000 in
theorem doZero_any (k : LV B w bl br vp vcs vsd C D T h) {j : Nat} (hn : h.now = (j : Int)) (hj : j < h.calls.length) (hB : B ≤ w.heap.size) (a : Int) {vt : Value} {args : List (Int × Int)} (t : Tk (LOwn bl br vcs vsd C D T h.calls.length) w vt args) (h1 : 0 < args.length) :
    Calls Tryz.prog 129 #[.pointer (some ⟨br, 0, none⟩), .int .i64 a, vt] w fun e w' => e = .returned (.tuple #[]) ∧ LEnd B bl br vp (LOwn bl br vcs vsd C D T h.calls.length) w (if args[0].2 = 0 ∧ (args[0].1 = 0 ∨ args[0].1 = 1) then setH h { curC h with pc := a } else h) w' := by
  obtain ⟨b, o, cap, rfl, c0, c1⟩ := t.cell h1
  rw [Nat.zero_mul, Nat.add_zero] at c0 c1
  have hz : (0 : Int) < (args.length : Int) := by omega
  clear t
  generalize args[0] = x at *
  obtain ⟨x1, x2⟩ := x
  have hm := Tryz.go_running bl
  simp only at c0 c1 ⊢
  by_cases hx : x2 = 0 ∧ (x1 = 0 ∨ x1 = 1)
  · rw [if_pos hx]
    have HZ : ∀ w, Calls Tryz.prog 145 #[.agg #[.int .i64 x1, .int .i64 x2]] w fun e w' => e = .returned (.bool true) ∧ Below w.heap.size w w' := fun w => by
      have := isZero_any x1 x2 w
      rw [decide_eq_true hx] at this
      exact this
    have HJ : Hid (∀ w1, Below w.heap.size w w1 → Calls Tryz.prog 168 #[.pointer (some ⟨bl, 0, none⟩)] w1 fun e w' => e = .returned (.pointer (some ⟨D j, 0, none⟩)) ∧ w' = w1) := fun w1 hb => running_any (k.below hb) hn hj
    have HF : Hid (∀ w1, Below w.heap.size w w1 → ((w1.cell? ⟨br, 0, none⟩ = some vp ∧ w1.cell? ⟨br, 1, none⟩ = some (.iface 78 (.pointer (some ⟨bl, 0, none⟩)))) ∧ w1.cell? ⟨D j, 1, none⟩ = some (.int .i64 h.calls[j].pc) ∧ w1.frozen? ⟨D j, 1, none⟩ = false) ∧ LEnd B bl br vp (LOwn bl br vcs vsd C D T h.calls.length) w (setH h { curC h with pc := a }) (w1.setCell ⟨D j, 1, none⟩ (.int .i64 a))) := fun w1 hb => by
      have k1 := k.below hb
      obtain ⟨⟨y0, y1, _⟩, _⟩ := five_cells k1.rn
      obtain ⟨⟨_, z1, _⟩, _, zf1, _⟩ := five_cells (k1.bd j hj)
      refine ⟨⟨⟨y0, y1⟩, z1, zf1⟩, ?_⟩
      have e : setH h { curC h with pc := a } = { h with calls := h.calls.set j { h.calls[j] with pc := a } } := by
        unfold setH
        rw [cur_at hn hj, hn, Int.toNat_natCast]
      rw [e]
      obtain ⟨k2, g2⟩ := k1.pc hj a
      refine LEnd.first hb hB ⟨_, _, _, _, _, k2, ?_⟩
      simp only [List.length_set]
      exact g2
    clear k hx
    go_enter Tryz.func129, Tryz.ntmps129
    go_wp2_with (first
      | (go_at_call 145; refine (HZ _).mono ?_; rintro e w2 ⟨rfl, hb⟩; obtain ⟨⟨⟨y0, y1⟩, z1, zf1⟩, hE⟩ := HF.out _ hb)
      | (go_at_call 168; refine (HJ.out _ hb).mono ?_; rintro e w' ⟨rfl, hw⟩; obtain rfl := hw.symm))
    exact bodyPost_end (results_none rfl _ _ _) rfl ⟨rfl, hE⟩
  · rw [if_neg hx]
    have HZ : ∀ w, Calls Tryz.prog 145 #[.agg #[.int .i64 x1, .int .i64 x2]] w fun e w' => e = .returned (.bool false) ∧ Below w.heap.size w w' := fun w => by
      have := isZero_any x1 x2 w
      rw [decide_eq_false hx] at this
      exact this
    have HE : Hid (∀ w1, Below w.heap.size w w1 → LEnd B bl br vp (LOwn bl br vcs vsd C D T h.calls.length) w h w1) := fun w1 hb => ⟨_, _, _, _, _, k.below hb, LGo.of_below hB hb⟩
    clear k hx
    go_enter Tryz.func129, Tryz.ntmps129
    go_wp2_with (go_at_call 145; refine (HZ _).mono ?_; rintro e w2 ⟨rfl, hb⟩)
    exact bodyPost_end (results_none rfl _ _ _) rfl ⟨rfl, HE.out _ hb⟩
end Go.Proofs.YtfpodljalccpnaaGreatDoor

/-
  The program's heap at work: operations are done, part ten: a method is called.
-/
namespace Go.Proofs.YtfpodljalccpnaaGreatDoor
open Go.RowKit
variable {B : Nat} {w w' : World} {bl br : Nat} {vp vcs vsd : Value} {C D : Nat → Nat} {T : Nat → Value × Value} {h h' : Hp}
theorem run_copy_two {P : Program} (w : World) (dT sT ty elem : TypeId) (b o dLen dCap : Nat) (a : Addr) (sLen sCap : Nat) (cs : List Value)
    (hu : P.underlying dT = some (.slice elem)) (hs : (P.info? elem).map (·.size) = some 2) (hn : cs.length = Nat.min sLen dLen * 2)
    (hsrc : ∀ j v, cs[j]? = some v → w.cell? (a.add j) = some v) (hc : ∀ j, j < cs.length → (w.cell? ⟨b, o + j, none⟩).isSome = true) (hf : ∀ j, j < cs.length → w.frozen? ⟨b, o + j, none⟩ = false) (h1 : ∀ v ∈ cs, v.oneCell' = true) :
    (Builtin.copy_ #[dT, sT] ty #[.slice (some ⟨b, o, none⟩) dLen dCap, .slice (some a) sLen sCap]).run P w = .ok (goInt (Nat.min sLen dLen)) (w.setCells b o cs) := by
  have hl := run_loadCells_list (P := P) w a cs hsrc
  have hst := run_storeCells_cells (P := P) b o cs 0 w (by simpa using hc) (by simpa using hf) h1
  cases hq : P.info? elem with
  | none => simp [hq] at hs
  | some i =>
    have hi : i.size = 2 := by simpa [hq] using hs
    simp [Builtin.copy_, run_underlying hu, Builtin.lenOf, Builtin.firstCells, sizeOf, typeInfo, hq, hi, ← hn, hl, hst]
theorem run_copy_zero {P : Program} (w : World) (dT sT ty elem : TypeId) (d a : Option Addr) (dLen dCap sLen sCap : Nat) (hu : P.underlying dT = some (.slice elem)) (hs : (P.info? elem).map (·.size) = some 2) (hn : Nat.min sLen dLen = 0) :
    (Builtin.copy_ #[dT, sT] ty #[.slice d dLen dCap, .slice a sLen sCap]).run P w = .ok (goInt 0) w := by
  cases hq : P.info? elem with
  | none => simp [hq] at hs
  | some i =>
    have hl : ∀ (x : Addr), (loadCells x 0).run P w = .ok #[] w := fun x => by simpa using run_loadCells_list (P := P) w x [] (by simp)
    cases d <;> cases a <;> simp [Builtin.copy_, run_underlying hu, Builtin.lenOf, Builtin.firstCells, sizeOf, typeInfo, hq, hn, storeCells, hl]
theorem PairRow.over {B g n cap : Nat} : ∀ (ys pre zs : List (Int × Int)) {w : World}, PairRow B w (.slice (some ⟨g, 0, none⟩) n cap) (pre ++ zs) → ys.length ≤ zs.length → PairRow B (w.setCells g (pre.length * 2) (pcells ys)) (.slice (some ⟨g, 0, none⟩) n cap) (pre ++ ys ++ zs.drop ys.length)
  | [], pre, zs, _, h, _ => by simpa [pcells, World.setCells] using h
  | (x, y) :: t, pre, zs, w, h, hl => by
    obtain ⟨z, zs', rfl⟩ : ∃ z zs', zs = z :: zs' := by
      cases zs with
      | nil => simp at hl
      | cons z zs' => exact ⟨z, zs', rfl⟩
    have h1 := h.set pre.length (by simp) x y
    have e : (pre ++ z :: zs').set pre.length (x, y) = (pre ++ [(x, y)]) ++ zs' := by simp
    rw [e] at h1
    have h2 := PairRow.over t (pre ++ [(x, y)]) zs' h1 (by simpa using hl)
    simp only [Nat.zero_add] at h2
    have e2 : (pre ++ [(x, y)]).length * 2 = pre.length * 2 + 1 + 1 := by simp; omega
    rw [e2] at h2
    have e3 : pre ++ (x, y) :: t ++ (z :: zs').drop ((x, y) :: t).length = pre ++ [(x, y)] ++ t ++ zs'.drop t.length := by simp
    rw [e3]
    have e4 : pcells ((x, y) :: t) = .int .i64 x :: .int .i64 y :: pcells t := by simp [pcells]
    rw [e4]
    exact h2
theorem setCellsL_size (b : Nat) : ∀ (vs : List Value) (o : Nat) (w : World), (w.setCells b o vs).heap.size = w.heap.size
  | [], _, _ => rfl
  | v :: r, o, w => by rw [World.setCells, setCellsL_size b r]; simp [World.setCell]
theorem setCellsL_block (b : Nat) {q : Nat} (hq : q ≠ b) : ∀ (vs : List Value) (o : Nat) (w : World), (w.setCells b o vs).heap[q]? = w.heap[q]?
  | [], _, _ => rfl
  | v :: r, o, w => by rw [World.setCells, setCellsL_block b hq r]; exact Below.heap_setCell _ _ _ _ hq
theorem setCells_belowL {B b : Nat} {w : World} : ∀ (vs : List Value) (o : Nat) {W : World}, Below B w W → B ≤ b → Below B w (W.setCells b o vs)
  | [], _, _, h, _ => h
  | v :: vs, o, _, h, hB => setCells_belowL vs (o + 1) (h.setCell (p := ⟨b, o, none⟩) hB v) hB
theorem copy_args {B : Nat} (W : World) (vt : Value) (args : List (Int × Int)) (hM : OpsAt W vt args) (g nt : Nat) (hrow : PairRow B W (.slice (some ⟨g, 0, none⟩) nt nt) (List.replicate nt (0, 0))) (hn : args.length ≤ nt) :
    ∃ W', (Builtin.copy_ #[27, 27] 3 #[.slice (some ⟨g, 0, none⟩) nt nt, vt]).run Tryz.prog W = .ok (goInt args.length) W' ∧ PairRow B W' (.slice (some ⟨g, 0, none⟩) nt nt) (args ++ List.replicate (nt - args.length) (0, 0)) ∧ W'.heap.size = W.heap.size ∧ (∀ q, q ≠ g → W'.heap[q]? = W.heap[q]?) ∧ ∀ {B' : Nat} {w : World}, Below B' w W → B' ≤ g → Below B' w W' := by
  obtain ⟨i0, hi, hz0, hz1, hz2⟩ := info_parts Tryz.infoVal
  have hs : (Tryz.prog.info? 51).map (·.size) = some 2 := by rw [hi]; simp [hz1]
  obtain ⟨a, cap, rfl, hlm, hc⟩ := hM
  by_cases h0 : args.length = 0
  · have e : args = [] := List.eq_nil_of_length_eq_zero h0
    subst e
    refine ⟨W, run_copy_zero W _ _ _ _ _ _ _ _ _ _ Tryz.underlying27 hs (by simp), by simpa using hrow, rfl, fun _ _ => rfl, fun h _ => h⟩
  obtain ⟨b, o, rfl, _⟩ := hc 0 (by omega)
  have hc2 : ∀ i, (hi : i < args.length) → W.cell? ⟨b, o + i * 2, none⟩ = some (.int .i64 args[i].1) ∧ W.cell? ⟨b, o + i * 2 + 1, none⟩ = some (.int .i64 args[i].2) := fun i hi => by
    obtain ⟨b', o', hbo, q0, q1⟩ := hc i hi
    obtain ⟨rfl, rfl⟩ : b = b' ∧ o = o' := by injection hbo with e; injection e with e1 e2; exact ⟨e1, e2⟩
    exact ⟨q0, q1⟩
  have hmin : Nat.min args.length nt = args.length := Nat.min_eq_left hn
  have hsp : ∀ j, j < nt * 2 → (W.cell? ⟨g, 0 + j, none⟩).isSome = true ∧ W.frozen? ⟨g, 0 + j, none⟩ = false := by
    rcases hrow with ⟨q, _⟩ | ⟨g', off', cap', hv, _, _, _, _, hsp, _⟩
    · cases q
    · injection hv with e1 e2 e3
      injection e1 with e1
      injection e1 with e1 e4 _
      subst e1 e3 e4
      exact hsp
  have hr := run_copy_two (P := Tryz.prog) W 27 27 3 51 g 0 nt nt ⟨b, o, none⟩ args.length cap (pcells args) Tryz.underlying27 hs (by rw [pcells_length, hmin]) (fun j v hv => by
      have hj : j < (pcells args).length := (List.getElem?_eq_some_iff.1 hv).1
      rw [pcells_length] at hj
      rw [Addr.add_lit]
      have hj2 : j / 2 < args.length := by omega
      have hj3 : j / 2 * 2 ≤ j ∧ j < j / 2 * 2 + 2 := by omega
      have hp := pcells_at args (j / 2) hj2
      have hq := hc2 (j / 2) hj2
      generalize j / 2 = i at *
      by_cases e : j = i * 2
      · subst e
        rw [hp.1] at hv
        rw [← hv]
        exact hq.1
      · obtain rfl : j = i * 2 + 1 := by omega
        rw [hp.2] at hv
        rw [← hv]
        exact hq.2)
    (fun j hj => (hsp j (by rw [pcells_length] at hj; omega)).1) (fun j hj => (hsp j (by rw [pcells_length] at hj; omega)).2) (pcells_one args)
  rw [hmin] at hr
  refine ⟨_, hr, ?_, setCellsL_size _ _ _ _, fun q hq => setCellsL_block g hq _ _ _, fun hb hB => setCells_belowL _ _ hb hB⟩
  have := PairRow.over args [] (List.replicate nt (0, 0)) hrow (by simpa using hn)
  simpa using this
end Go.Proofs.YtfpodljalccpnaaGreatDoor

/-
  The program's heap at work: operations are done, part eleven: a method is called.
-/
namespace Go.Proofs.YtfpodljalccpnaaGreatDoor
open Go.RowKit
variable {B : Nat} {w w' : World} {bl br : Nat} {vp vcs vsd : Value} {C D : Nat → Nat} {T : Nat → Value × Value} {h h' : Hp}
set_option maxRecDepth 100000 in
set_option maxHeartbeats 4000000 in
theorem doCall_any (k : LV B w bl br vp vcs vsd C D T h) (hB : B ≤ w.heap.size) {ms : Ms} (hM : MethsAt w vp ms) (a : Nat) (ha : a < ms.length) {vt : Value} {args : List (Int × Int)} (t : Tk (LOwn bl br vcs vsd C D T h.calls.length) w vt args)
    (hal : (args.length : Int) = ms[a].1) (hat : ms[a].1 ≤ ms[a].2.1 ∧ ms[a].2.1 ≤ 4) (hnow : h.now < (h.calls.length : Int)) (hsd : ∀ i, (hi : i < h.calls.length) → h.calls[i].sender < (h.calls.length : Int)) (hl : h.calls.length ≤ 1000) (hbn : 0 ≤ h.born ∧ h.born ≤ 30) :
    Calls Tryz.prog 130 #[.pointer (some ⟨br, 0, none⟩), .int .i64 a, vt] w fun e w' => e = .returned (.tuple #[]) ∧ LEnd B bl br vp (LOwn bl br vcs vsd C D T h.calls.length) w (callH ms h a args) w' := by
  obtain ⟨⟨y0, y1, y2, y3, y4⟩, yf0, yf1, yf2, yf3, yf4⟩ := five_cells k.rn
  have hbr := (k.lo .run trivial br rfl)
  by_cases hb : h.born = 30
  · have HE : Hid (LEnd B bl br vp (LOwn bl br vcs vsd C D T h.calls.length) w (callH ms h a args) (w.setCell ⟨br, 4, none⟩ (.int .i64 3))) := by
      show LEnd _ _ _ _ _ _ _ _
      unfold callH
      rw [if_pos (by omega)]
      exact ⟨_, _, _, _, _, k.num (h' := codeH h 3) (i := 4) (x := 3) rfl rfl rfl (five_set4 k.rn (.int .i64 3)), LGo.set (p := ⟨br, 4, none⟩) ⟨.run, trivial, rfl⟩ hbr.1 _⟩
    rw [hb] at y2
    clear k t hM hsd
    go_enter Tryz.func130, Tryz.ntmps130
    go_wp2
    exact bodyPost_ret (results_none rfl _ _ _) rfl ⟨rfl, HE.out⟩
  have hb' : (h.born == 30) = false := beq_eq_false_iff_ne.2 hb
  obtain ⟨ap, cp, hvp, hlp, hms⟩ := id hM
  obtain ⟨pb, po, vo, hap, p0, p1, p2, p3⟩ := hms a ha
  subst hvp hap
  clear hms p3
  obtain ⟨nt, hnt⟩ := Int.eq_ofNat_of_zero_le (show 0 ≤ ms[a].2.1 by omega)
  rw [hnt] at p1
  have haz : (a : Int) < (ms.length : Int) := by omega
  obtain ⟨i0, hi, hz0, hz1, hz2⟩ := info_parts Tryz.infoVal
  have hnt4 : nt ≤ 4 := by omega
  have hmk : ∀ w : World, (Instr.makeSlice 27 (.int .i64 (nt : Int)) (.int .i64 (nt : Int))).run Tryz.prog w = .ok (.slice (some ⟨w.heap.size, 0, none⟩) nt nt) (w.alloc (.cells (madeCells #[.int .i64 0, .int .i64 0] (nt * 2)) 51)) := by
    intro w
    have := run_make (P := Tryz.prog) w 27 51 i0 _ Tryz.underlying27 hi hz0 .i64 .i64 nt nt (by omega) (Int.le_refl _) (by rw [hz2]; omega) (by omega)
    simpa [hz1, Value.cells] using this
  clear hi hz0 hz1 hz2
  have hA : Below w.heap.size w (w.alloc (.cells (madeCells #[.int .i64 0, .int .i64 0] (nt * 2)) 51)) := (Below.refl _ _).alloc (Nat.le_refl _) _
  have mk := made_pairs (B := w.heap.size) w nt 51 (Nat.le_refl _) (by omega)
  have hzA : (w.alloc (.cells (madeCells #[.int .i64 0, .int .i64 0] (nt * 2)) 51)).heap.size = w.heap.size + 1 := by simp
  obtain ⟨W3, hcp, hr3, hz3, _, hb3⟩ := copy_args _ vt args (t.at_.below hA) w.heap.size nt mk (by omega)
  have B3 : Below w.heap.size w W3 := hb3 hA (Nat.le_refl _)
  rw [hzA] at hz3
  clear hb3 hA mk
  have k3 := k.below B3
  obtain ⟨⟨u0, u1, u2, u3, u4⟩, _⟩ := five_cells k3.rn
  -- the box of the body
  have N4 : Below W3.heap.size W3 (W3.alloc (.cells #[.int .i64 a, .int .i64 0, .slice (some ⟨w.heap.size, 0, none⟩) nt nt, .slice none 0 0, .bool false] 143)) := (Below.refl _ _).alloc (Nat.le_refl _) _
  have r4 := five_new W3 143 (.int .i64 a) (.int .i64 0) (.slice (some ⟨w.heap.size, 0, none⟩) nt nt) (.slice none 0 0) (.bool false)
  have B4 : Below w.heap.size w (W3.alloc (.cells #[.int .i64 a, .int .i64 0, .slice (some ⟨w.heap.size, 0, none⟩) nt nt, .slice none 0 0, .bool false] 143)) := B3.trans (N4.mono (by omega))
  have HE4 := enter_any (cl := ⟨(a : Int), 0, args ++ List.replicate (nt - args.length) (0, 0), [], h.now, false⟩) k B4 hB (d := W3.heap.size) (by omega) (vt := .slice (some ⟨w.heap.size, 0, none⟩) nt nt) rfl rfl hnow hsd r4 ((hr3.below N4).mono hB) (fun q e => by have e' : some w.heap.size = some q := e; injection e' with e'; omega) hl
  have hmt := Tryz.go_enter bl
  have HFIN : Hid (∀ (w5 : World) (vcs' : Value) (C' D' : Nat → Nat) (T' : Nat → Value × Value), LV B w5 bl br (.slice (some ⟨pb, po, none⟩) ms.length cp) vcs' vsd C' D' T' { h with calls := h.calls ++ [⟨(a : Int), 0, args ++ List.replicate (nt - args.length) (0, 0), [], h.now, false⟩], now := (h.calls.length : Int) } → LGo B (LOwn bl br vcs vsd C D T h.calls.length) (LOwn bl br vcs' vsd C' D' T' (h.calls.length + 1)) w w5 → LEnd B bl br (.slice (some ⟨pb, po, none⟩) ms.length cp) (LOwn bl br vcs vsd C D T h.calls.length) w (callH ms h a args) (w5.setCell ⟨br, 2, none⟩ (.int .i64 (h.born + 1)))) := by
    intro w5 vcs' C' D' T' k5 g5
    have e : callH ms h a args = { h with calls := h.calls ++ [⟨(a : Int), 0, args ++ List.replicate (nt - args.length) (0, 0), [], h.now, false⟩], now := (h.calls.length : Int), born := h.born + 1 } := by
      unfold callH
      rw [if_neg (by omega), Int.toNat_natCast, getD_at ha, hnt, Int.toNat_natCast]
    rw [e]
    refine ⟨vcs', vsd, C', D', T', k5.num (i := 2) (x := h.born + 1) rfl rfl rfl (five_set2 k5.rn (.int .i64 (h.born + 1))), g5.trans ?_⟩
    have hl5 : (h.calls ++ [(⟨(a : Int), 0, args ++ List.replicate (nt - args.length) (0, 0), [], h.now, false⟩ : Cl)]).length = h.calls.length + 1 := by simp
    simp only [hl5]
    exact LGo.set (p := ⟨br, 2, none⟩) ⟨.run, trivial, rfl⟩ hbr.1 _
  have hwb : IntKind.i64.wrap (h.born + 1) = h.born + 1 := by rw [IntKind.wrap_i64]; omega
  obtain ⟨ta, tc, htv, _⟩ := id t.at_
  subst htv
  have hz3' : br < W3.heap.size := by omega
  clear k t hM k3 hsd r4 hr3 N4 B4 p0 p2 hnt hat hal hz3 hzA
  go_enter Tryz.func130, Tryz.ntmps130
  go_wp2_with (go_at_call 164; refine HE4.mono ?_; rintro e w5 ⟨rfl, vcs', C', D', T', k5, g5⟩; obtain ⟨⟨x0, x1, x2, x3, x4⟩, xf0, xf1, xf2, xf3, xf4⟩ := five_cells k5.rn)
  exact bodyPost_end (results_none rfl _ _ _) rfl ⟨rfl, HFIN.out _ _ _ _ _ k5 g5⟩
end Go.Proofs.YtfpodljalccpnaaGreatDoor

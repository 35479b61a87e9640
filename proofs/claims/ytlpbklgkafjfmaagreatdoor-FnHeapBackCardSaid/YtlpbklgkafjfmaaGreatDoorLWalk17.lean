/-
  The program's heap at work: operations are done, part nine: one goes on elsewhere, if it is nothing, or 0.
-/
import Derived.Test.YtlpbklgkafjfmaaGreatDoorVImpl5
import Derived.Test.YtlpbklgkafjfmaaGreatDoorVImpl
import Derived.Laws.IdiomCopy
import Derived.Test.YtlpbklgkafjfmaaGreatDoorRF
import Derived.Test.YtlpbklgkafjfmaaGreatDoorDHMem

namespace Go.Proofs.YtlpbklgkafjfmaaGreatDoor
open Go.RowKit
variable {B : Nat} {w w' : World} {bl br : Nat} {vp vcs vsd : Value} {C D : Nat → Nat} {T : Nat → Value × Value} {h h' : Hp}
set_option maxRecDepth 100000 in
set_option maxHeartbeats 2000000 in
theorem isZero_any (k n : Int) (w : World) :
    Calls Tryz.prog 108 #[.agg #[.int .i64 k, .int .i64 n]] w fun e w' => e = .returned (.bool (decide (n = 0 ∧ (k = 0 ∨ k = 1)))) ∧ Below w.heap.size w w' := by
  have hA : Below w.heap.size w (w.alloc (.cells #[.int .i64 k, .int .i64 n] 37)) := (Below.refl _ _).alloc (Nat.le_refl _) _
  have rx := two_new w 37 (.int .i64 k) (.int .i64 n)
  by_cases hz : k = 0 ∧ n = 0
  · obtain ⟨rfl, rfl⟩ := hz
    go_enter Tryz.func108, Tryz.ntmps108
    go_wp2_with fail
    go_region
    go_wp2
    go_ret
    exact ⟨ret_bool (by simp), hA.drew⟩
  by_cases hn : n = 0
  · subst hn
    have hk : (k == 0) = false := beq_eq_false_iff_ne.2 (fun q => hz ⟨q, rfl⟩)
    have hk0 : ¬ k = 0 := fun q => hz ⟨q, rfl⟩
    clear hz
    by_cases h1 : k = 1
    · subst h1
      clear hk hk0
      go_enter Tryz.func108, Tryz.ntmps108
      go_wp2_with fail
      go_region_with (go_at_call 106; refine (numVal_any _ _).mono ?_; rintro e w2 ⟨rfl, hb⟩; obtain ⟨⟨t0, t1⟩, _⟩ := two_cells (row_below hb rx))
      all_goals
        go_wp2
        go_ret
        exact ⟨ret_bool (by simp), hA.drew.trans (hb.mono hA.size)⟩
    · have h1' : (k == 1) = false := beq_eq_false_iff_ne.2 h1
      go_enter Tryz.func108, Tryz.ntmps108
      go_wp2_with fail
      go_region_with (go_at_call 106; refine (numVal_any _ _).mono ?_; rintro e w2 ⟨rfl, hb⟩; obtain ⟨⟨t0, t1⟩, _⟩ := two_cells (row_below hb rx))
      all_goals
        go_wp2
        go_ret
        exact ⟨ret_bool (by simp [hk0, h1]), hA.drew.trans (hb.mono hA.size)⟩
  · have hn' : (n == 0) = false := beq_eq_false_iff_ne.2 hn
    clear hz
    go_enter Tryz.func108, Tryz.ntmps108
    go_wp2_with fail
    go_region_with (go_at_call 106; refine (numVal_any _ _).mono ?_; rintro e w2 ⟨rfl, hb⟩; obtain ⟨⟨t0, t1⟩, _⟩ := two_cells (row_below hb rx))
    all_goals
      go_wp2
      go_ret
      exact ⟨ret_bool (by simp [hn]), hA.drew.trans (hb.mono hA.size)⟩
set_option maxRecDepth 100000 in
set_option maxHeartbeats 2000000 in
theorem doZero_any (k : LV B w bl br vp vcs vsd C D T h) {j : Nat} (hn : h.now = (j : Int)) (hj : j < h.calls.length) (hB : B ≤ w.heap.size) (a : Int) {vt : Value} {args : List (Int × Int)} (t : Tk (LOwn bl br vcs vsd C D T h.calls.length) w vt args) (h1 : 0 < args.length) :
    Calls Tryz.prog 92 #[.pointer (some ⟨br, 0, none⟩), .int .i64 a, vt] w fun e w' => e = .returned (.tuple #[]) ∧ LEnd B bl br vp (LOwn bl br vcs vsd C D T h.calls.length) w (if args[0].2 = 0 ∧ (args[0].1 = 0 ∨ args[0].1 = 1) then setH h { curC h with pc := a } else h) w' := by
  obtain ⟨b, o, cap, rfl, c0, c1⟩ := t.cell h1
  rw [Nat.zero_mul, Nat.add_zero] at c0 c1
  have hz : (0 : Int) < (args.length : Int) := by omega
  clear t
  generalize args[0] = x at *
  obtain ⟨x1, x2⟩ := x
  have hm := Tryz.go_running bl
  simp only at c0 c1 ⊢
  by_cases hx : x2 = 0 ∧ (x1 = 0 ∨ x1 = 1)
  · rw [if_pos hx]
    have HZ : ∀ w, Calls Tryz.prog 108 #[.agg #[.int .i64 x1, .int .i64 x2]] w fun e w' => e = .returned (.bool true) ∧ Below w.heap.size w w' := fun w => by
      have := isZero_any x1 x2 w
      rw [decide_eq_true hx] at this
      exact this
    have HJ : Hid (∀ w1, Below w.heap.size w w1 → Calls Tryz.prog 131 #[.pointer (some ⟨bl, 0, none⟩)] w1 fun e w' => e = .returned (.pointer (some ⟨D j, 0, none⟩)) ∧ w' = w1) := fun w1 hb => running_any (k.below hb) hn hj
    have HF : Hid (∀ w1, Below w.heap.size w w1 → ((w1.cell? ⟨br, 0, none⟩ = some vp ∧ w1.cell? ⟨br, 1, none⟩ = some (.iface 70 (.pointer (some ⟨bl, 0, none⟩)))) ∧ w1.cell? ⟨D j, 1, none⟩ = some (.int .i64 h.calls[j].pc) ∧ w1.frozen? ⟨D j, 1, none⟩ = false) ∧ LEnd B bl br vp (LOwn bl br vcs vsd C D T h.calls.length) w (setH h { curC h with pc := a }) (w1.setCell ⟨D j, 1, none⟩ (.int .i64 a))) := fun w1 hb => by
      have k1 := k.below hb
      obtain ⟨⟨y0, y1, _⟩, _⟩ := five_cells k1.rn
      obtain ⟨⟨_, z1, _⟩, _, zf1, _⟩ := five_cells (k1.bd j hj)
      refine ⟨⟨⟨y0, y1⟩, z1, zf1⟩, ?_⟩
      have e : setH h { curC h with pc := a } = { h with calls := h.calls.set j { h.calls[j] with pc := a } } := by
        unfold setH
        rw [cur_at hn hj, hn, Int.toNat_natCast]
      rw [e]
      obtain ⟨k2, g2⟩ := k1.pc hj a
      refine LEnd.first hb hB ⟨_, _, _, _, _, k2, ?_⟩
      simp only [List.length_set]
      exact g2
    clear k hx
    go_enter Tryz.func92, Tryz.ntmps92
    go_wp2_with (first
      | (go_at_call 108; refine (HZ _).mono ?_; rintro e w2 ⟨rfl, hb⟩; obtain ⟨⟨⟨y0, y1⟩, z1, zf1⟩, hE⟩ := HF.out _ hb)
      | (go_at_call 131; refine (HJ.out _ hb).mono ?_; rintro e w' ⟨rfl, hw⟩; obtain rfl := hw.symm))
    exact bodyPost_end (results_none rfl _ _ _) rfl ⟨rfl, hE⟩
  · rw [if_neg hx]
    have HZ : ∀ w, Calls Tryz.prog 108 #[.agg #[.int .i64 x1, .int .i64 x2]] w fun e w' => e = .returned (.bool false) ∧ Below w.heap.size w w' := fun w => by
      have := isZero_any x1 x2 w
      rw [decide_eq_false hx] at this
      exact this
    have HE : Hid (∀ w1, Below w.heap.size w w1 → LEnd B bl br vp (LOwn bl br vcs vsd C D T h.calls.length) w h w1) := fun w1 hb => ⟨_, _, _, _, _, k.below hb, LGo.of_below hB hb⟩
    clear k hx
    go_enter Tryz.func92, Tryz.ntmps92
    go_wp2_with (go_at_call 108; refine (HZ _).mono ?_; rintro e w2 ⟨rfl, hb⟩)
    exact bodyPost_end (results_none rfl _ _ _) rfl ⟨rfl, HE.out _ hb⟩
end Go.Proofs.YtlpbklgkafjfmaaGreatDoor

/-
  The program's heap at work: operations are done, part ten: a method is called.
-/
namespace Go.Proofs.YtlpbklgkafjfmaaGreatDoor
open Go.RowKit
variable {B : Nat} {w w' : World} {bl br : Nat} {vp vcs vsd : Value} {C D : Nat → Nat} {T : Nat → Value × Value} {h h' : Hp}
theorem run_copy_two {P : Program} (w : World) (dT sT ty elem : TypeId) (b o dLen dCap : Nat) (a : Addr) (sLen sCap : Nat) (cs : List Value)
    (hu : P.underlying dT = some (.slice elem)) (hs : (P.info? elem).map (·.size) = some 2) (hn : cs.length = Nat.min sLen dLen * 2)
    (hsrc : ∀ j v, cs[j]? = some v → w.cell? (a.add j) = some v) (hc : ∀ j, j < cs.length → (w.cell? ⟨b, o + j, none⟩).isSome = true) (hf : ∀ j, j < cs.length → w.frozen? ⟨b, o + j, none⟩ = false) (h1 : ∀ v ∈ cs, v.oneCell' = true) :
    (Builtin.copy_ #[dT, sT] ty #[.slice (some ⟨b, o, none⟩) dLen dCap, .slice (some a) sLen sCap]).run P w = .ok (goInt (Nat.min sLen dLen)) (w.setCells b o cs) := by
  have hl := run_loadCells_list (P := P) w a cs hsrc
  have hst := run_storeCells_cells (P := P) b o cs 0 w (by simpa using hc) (by simpa using hf) h1
  cases hq : P.info? elem with
  | none => simp [hq] at hs
  | some i =>
    have hi : i.size = 2 := by simpa [hq] using hs
    simp [Builtin.copy_, run_underlying hu, Builtin.lenOf, Builtin.firstCells, sizeOf, typeInfo, hq, hi, ← hn, hl, hst]
theorem run_copy_zero {P : Program} (w : World) (dT sT ty elem : TypeId) (d a : Option Addr) (dLen dCap sLen sCap : Nat) (hu : P.underlying dT = some (.slice elem)) (hs : (P.info? elem).map (·.size) = some 2) (hn : Nat.min sLen dLen = 0) :
    (Builtin.copy_ #[dT, sT] ty #[.slice d dLen dCap, .slice a sLen sCap]).run P w = .ok (goInt 0) w := by
  cases hq : P.info? elem with
  | none => simp [hq] at hs
  | some i =>
    have hl : ∀ (x : Addr), (loadCells x 0).run P w = .ok #[] w := fun x => by simpa using run_loadCells_list (P := P) w x [] (by simp)
    cases d <;> cases a <;> simp [Builtin.copy_, run_underlying hu, Builtin.lenOf, Builtin.firstCells, sizeOf, typeInfo, hq, hn, storeCells, hl]
theorem PairRow.over {B g n cap : Nat} : ∀ (ys pre zs : List (Int × Int)) {w : World}, PairRow B w (.slice (some ⟨g, 0, none⟩) n cap) (pre ++ zs) → ys.length ≤ zs.length → PairRow B (w.setCells g (pre.length * 2) (pcells ys)) (.slice (some ⟨g, 0, none⟩) n cap) (pre ++ ys ++ zs.drop ys.length)
  | [], pre, zs, _, h, _ => by simpa [pcells, World.setCells] using h
  | (x, y) :: t, pre, zs, w, h, hl => by
    obtain ⟨z, zs', rfl⟩ : ∃ z zs', zs = z :: zs' := by
      cases zs with
      | nil => simp at hl
      | cons z zs' => exact ⟨z, zs', rfl⟩
    have h1 := h.set pre.length (by simp) x y
    have e : (pre ++ z :: zs').set pre.length (x, y) = (pre ++ [(x, y)]) ++ zs' := by simp
    rw [e] at h1
    have h2 := PairRow.over t (pre ++ [(x, y)]) zs' h1 (by simpa using hl)
    simp only [Nat.zero_add] at h2
    have e2 : (pre ++ [(x, y)]).length * 2 = pre.length * 2 + 1 + 1 := by simp; omega
    rw [e2] at h2
    have e3 : pre ++ (x, y) :: t ++ (z :: zs').drop ((x, y) :: t).length = pre ++ [(x, y)] ++ t ++ zs'.drop t.length := by simp
    rw [e3]
    have e4 : pcells ((x, y) :: t) = .int .i64 x :: .int .i64 y :: pcells t := by simp [pcells]
    rw [e4]
    exact h2
theorem setCellsL_size (b : Nat) : ∀ (vs : List Value) (o : Nat) (w : World), (w.setCells b o vs).heap.size = w.heap.size
  | [], _, _ => rfl
  | v :: r, o, w => by rw [World.setCells, setCellsL_size b r]; simp [World.setCell]
theorem setCellsL_block (b : Nat) {q : Nat} (hq : q ≠ b) : ∀ (vs : List Value) (o : Nat) (w : World), (w.setCells b o vs).heap[q]? = w.heap[q]?
  | [], _, _ => rfl
  | v :: r, o, w => by rw [World.setCells, setCellsL_block b hq r]; exact Below.heap_setCell _ _ _ _ hq
theorem setCells_belowL {B b : Nat} {w : World} : ∀ (vs : List Value) (o : Nat) {W : World}, Below B w W → B ≤ b → Below B w (W.setCells b o vs)
  | [], _, _, h, _ => h
  | v :: vs, o, _, h, hB => setCells_belowL vs (o + 1) (h.setCell (p := ⟨b, o, none⟩) hB v) hB
theorem copy_args {B : Nat} (W : World) (vt : Value) (args : List (Int × Int)) (hM : OpsAt W vt args) (g nt : Nat) (hrow : PairRow B W (.slice (some ⟨g, 0, none⟩) nt nt) (List.replicate nt (0, 0))) (hn : args.length ≤ nt) :
    ∃ W', (Builtin.copy_ #[27, 27] 3 #[.slice (some ⟨g, 0, none⟩) nt nt, vt]).run Tryz.prog W = .ok (goInt args.length) W' ∧ PairRow B W' (.slice (some ⟨g, 0, none⟩) nt nt) (args ++ List.replicate (nt - args.length) (0, 0)) ∧ W'.heap.size = W.heap.size ∧ (∀ q, q ≠ g → W'.heap[q]? = W.heap[q]?) ∧ ∀ {B' : Nat} {w : World}, Below B' w W → B' ≤ g → Below B' w W' := by
  obtain ⟨i0, hi, hz0, hz1, hz2⟩ := info_parts Tryz.infoVal
  have hs : (Tryz.prog.info? 37).map (·.size) = some 2 := by rw [hi]; simp [hz1]
  obtain ⟨a, cap, rfl, hlm, hc⟩ := hM
  by_cases h0 : args.length = 0
  · have e : args = [] := List.eq_nil_of_length_eq_zero h0
    subst e
    refine ⟨W, run_copy_zero W _ _ _ _ _ _ _ _ _ _ Tryz.underlying27 hs (by simp), by simpa using hrow, rfl, fun _ _ => rfl, fun h _ => h⟩
  obtain ⟨b, o, rfl, _⟩ := hc 0 (by omega)
  have hc2 : ∀ i, (hi : i < args.length) → W.cell? ⟨b, o + i * 2, none⟩ = some (.int .i64 args[i].1) ∧ W.cell? ⟨b, o + i * 2 + 1, none⟩ = some (.int .i64 args[i].2) := fun i hi => by
    obtain ⟨b', o', hbo, q0, q1⟩ := hc i hi
    obtain ⟨rfl, rfl⟩ : b = b' ∧ o = o' := by injection hbo with e; injection e with e1 e2; exact ⟨e1, e2⟩
    exact ⟨q0, q1⟩
  have hmin : Nat.min args.length nt = args.length := Nat.min_eq_left hn
  have hsp : ∀ j, j < nt * 2 → (W.cell? ⟨g, 0 + j, none⟩).isSome = true ∧ W.frozen? ⟨g, 0 + j, none⟩ = false := by
    rcases hrow with ⟨q, _⟩ | ⟨g', off', cap', hv, _, _, _, _, hsp, _⟩
    · cases q
    · injection hv with e1 e2 e3
      injection e1 with e1
      injection e1 with e1 e4 _
      subst e1 e3 e4
      exact hsp
  have hr := run_copy_two (P := Tryz.prog) W 27 27 3 37 g 0 nt nt ⟨b, o, none⟩ args.length cap (pcells args) Tryz.underlying27 hs (by rw [pcells_length, hmin]) (fun j v hv => by
      have hj : j < (pcells args).length := (List.getElem?_eq_some_iff.1 hv).1
      rw [pcells_length] at hj
      rw [Addr.add_lit]
      have hj2 : j / 2 < args.length := by omega
      have hj3 : j / 2 * 2 ≤ j ∧ j < j / 2 * 2 + 2 := by omega
      have hp := pcells_at args (j / 2) hj2
      have hq := hc2 (j / 2) hj2
      generalize j / 2 = i at *
      by_cases e : j = i * 2
      · subst e
        rw [hp.1] at hv
        rw [← hv]
        exact hq.1
      · obtain rfl : j = i * 2 + 1 := by omega
        rw [hp.2] at hv
        rw [← hv]
        exact hq.2)
    (fun j hj => (hsp j (by rw [pcells_length] at hj; omega)).1) (fun j hj => (hsp j (by rw [pcells_length] at hj; omega)).2) (pcells_one args)
  rw [hmin] at hr
  refine ⟨_, hr, ?_, setCellsL_size _ _ _ _, fun q hq => setCellsL_block g hq _ _ _, fun hb hB => setCells_belowL _ _ hb hB⟩
  have := PairRow.over args [] (List.replicate nt (0, 0)) hrow (by simpa using hn)
  simpa using this
end Go.Proofs.YtlpbklgkafjfmaaGreatDoor

/-
  The program's heap at work: operations are done, part eleven: a method is called.
-/
namespace Go.Proofs.YtlpbklgkafjfmaaGreatDoor
open Go.RowKit
variable {B : Nat} {w w' : World} {bl br : Nat} {vp vcs vsd : Value} {C D : Nat → Nat} {T : Nat → Value × Value} {h h' : Hp}
set_option maxRecDepth 100000 in
set_option maxHeartbeats 4000000 in
theorem doCall_any (k : LV B w bl br vp vcs vsd C D T h) (hB : B ≤ w.heap.size) {ms : Ms} (hM : MethsAt w vp ms) (a : Nat) (ha : a < ms.length) {vt : Value} {args : List (Int × Int)} (t : Tk (LOwn bl br vcs vsd C D T h.calls.length) w vt args)
    (hal : (args.length : Int) = ms[a].1) (hat : ms[a].1 ≤ ms[a].2.1 ∧ ms[a].2.1 ≤ 4) (hnow : h.now < (h.calls.length : Int)) (hsd : ∀ i, (hi : i < h.calls.length) → h.calls[i].sender < (h.calls.length : Int)) (hl : h.calls.length ≤ 1000) (hbn : 0 ≤ h.born ∧ h.born ≤ 30) :
    Calls Tryz.prog 93 #[.pointer (some ⟨br, 0, none⟩), .int .i64 a, vt] w fun e w' => e = .returned (.tuple #[]) ∧ LEnd B bl br vp (LOwn bl br vcs vsd C D T h.calls.length) w (callH ms h a args) w' := by
  obtain ⟨⟨y0, y1, y2, y3, y4⟩, yf0, yf1, yf2, yf3, yf4⟩ := five_cells k.rn
  have hbr := (k.lo .run trivial br rfl)
  by_cases hb : h.born = 30
  · have HE : Hid (LEnd B bl br vp (LOwn bl br vcs vsd C D T h.calls.length) w (callH ms h a args) (w.setCell ⟨br, 4, none⟩ (.int .i64 3))) := by
      show LEnd _ _ _ _ _ _ _ _
      unfold callH
      rw [if_pos (by omega)]
      exact ⟨_, _, _, _, _, k.num (h' := codeH h 3) (i := 4) (x := 3) rfl rfl rfl (five_set4 k.rn (.int .i64 3)), LGo.set (p := ⟨br, 4, none⟩) ⟨.run, trivial, rfl⟩ hbr.1 _⟩
    rw [hb] at y2
    clear k t hM hsd
    go_enter Tryz.func93, Tryz.ntmps93
    go_wp2
    exact bodyPost_ret (results_none rfl _ _ _) rfl ⟨rfl, HE.out⟩
  have hb' : (h.born == 30) = false := beq_eq_false_iff_ne.2 hb
  obtain ⟨ap, cp, hvp, hlp, hms⟩ := id hM
  obtain ⟨pb, po, vo, hap, p0, p1, p2, p3⟩ := hms a ha
  subst hvp hap
  clear hms p3
  obtain ⟨nt, hnt⟩ := Int.eq_ofNat_of_zero_le (show 0 ≤ ms[a].2.1 by omega)
  rw [hnt] at p1
  have haz : (a : Int) < (ms.length : Int) := by omega
  obtain ⟨i0, hi, hz0, hz1, hz2⟩ := info_parts Tryz.infoVal
  have hnt4 : nt ≤ 4 := by omega
  have hmk : ∀ w : World, (Instr.makeSlice 27 (.int .i64 (nt : Int)) (.int .i64 (nt : Int))).run Tryz.prog w = .ok (.slice (some ⟨w.heap.size, 0, none⟩) nt nt) (w.alloc (.cells (madeCells #[.int .i64 0, .int .i64 0] (nt * 2)) 37)) := by
    intro w
    have := run_make (P := Tryz.prog) w 27 37 i0 _ Tryz.underlying27 hi hz0 .i64 .i64 nt nt (by omega) (Int.le_refl _) (by rw [hz2]; omega) (by omega)
    simpa [hz1, Value.cells] using this
  clear hi hz0 hz1 hz2
  have hA : Below w.heap.size w (w.alloc (.cells (madeCells #[.int .i64 0, .int .i64 0] (nt * 2)) 37)) := (Below.refl _ _).alloc (Nat.le_refl _) _
  have mk := made_pairs (B := w.heap.size) w nt 37 (Nat.le_refl _) (by omega)
  have hzA : (w.alloc (.cells (madeCells #[.int .i64 0, .int .i64 0] (nt * 2)) 37)).heap.size = w.heap.size + 1 := by simp
  obtain ⟨W3, hcp, hr3, hz3, _, hb3⟩ := copy_args _ vt args (t.at_.below hA) w.heap.size nt mk (by omega)
  have B3 : Below w.heap.size w W3 := hb3 hA (Nat.le_refl _)
  rw [hzA] at hz3
  clear hb3 hA mk
  have k3 := k.below B3
  obtain ⟨⟨u0, u1, u2, u3, u4⟩, _⟩ := five_cells k3.rn
  -- the box of the body
  have N4 : Below W3.heap.size W3 (W3.alloc (.cells #[.int .i64 a, .int .i64 0, .slice (some ⟨w.heap.size, 0, none⟩) nt nt, .slice none 0 0, .bool false] 113)) := (Below.refl _ _).alloc (Nat.le_refl _) _
  have r4 := five_new W3 113 (.int .i64 a) (.int .i64 0) (.slice (some ⟨w.heap.size, 0, none⟩) nt nt) (.slice none 0 0) (.bool false)
  have B4 : Below w.heap.size w (W3.alloc (.cells #[.int .i64 a, .int .i64 0, .slice (some ⟨w.heap.size, 0, none⟩) nt nt, .slice none 0 0, .bool false] 113)) := B3.trans (N4.mono (by omega))
  have HE4 := enter_any (cl := ⟨(a : Int), 0, args ++ List.replicate (nt - args.length) (0, 0), [], h.now, false⟩) k B4 hB (d := W3.heap.size) (by omega) (vt := .slice (some ⟨w.heap.size, 0, none⟩) nt nt) rfl rfl hnow hsd r4 ((hr3.below N4).mono hB) (fun q e => by have e' : some w.heap.size = some q := e; injection e' with e'; omega) hl
  have hmt := Tryz.go_enter bl
  have HFIN : Hid (∀ (w5 : World) (vcs' : Value) (C' D' : Nat → Nat) (T' : Nat → Value × Value), LV B w5 bl br (.slice (some ⟨pb, po, none⟩) ms.length cp) vcs' vsd C' D' T' { h with calls := h.calls ++ [⟨(a : Int), 0, args ++ List.replicate (nt - args.length) (0, 0), [], h.now, false⟩], now := (h.calls.length : Int) } → LGo B (LOwn bl br vcs vsd C D T h.calls.length) (LOwn bl br vcs' vsd C' D' T' (h.calls.length + 1)) w w5 → LEnd B bl br (.slice (some ⟨pb, po, none⟩) ms.length cp) (LOwn bl br vcs vsd C D T h.calls.length) w (callH ms h a args) (w5.setCell ⟨br, 2, none⟩ (.int .i64 (h.born + 1)))) := by
    intro w5 vcs' C' D' T' k5 g5
    have e : callH ms h a args = { h with calls := h.calls ++ [⟨(a : Int), 0, args ++ List.replicate (nt - args.length) (0, 0), [], h.now, false⟩], now := (h.calls.length : Int), born := h.born + 1 } := by
      unfold callH
      rw [if_neg (by omega), Int.toNat_natCast, getD_at ha, hnt, Int.toNat_natCast]
    rw [e]
    refine ⟨vcs', vsd, C', D', T', k5.num (i := 2) (x := h.born + 1) rfl rfl rfl (five_set2 k5.rn (.int .i64 (h.born + 1))), g5.trans ?_⟩
    have hl5 : (h.calls ++ [(⟨(a : Int), 0, args ++ List.replicate (nt - args.length) (0, 0), [], h.now, false⟩ : Cl)]).length = h.calls.length + 1 := by simp
    simp only [hl5]
    exact LGo.set (p := ⟨br, 2, none⟩) ⟨.run, trivial, rfl⟩ hbr.1 _
  have hwb : IntKind.i64.wrap (h.born + 1) = h.born + 1 := by rw [IntKind.wrap_i64]; omega
  obtain ⟨ta, tc, htv, _⟩ := id t.at_
  subst htv
  have hz3' : br < W3.heap.size := by omega
  clear k t hM k3 hsd r4 hr3 N4 B4 p0 p2 hnt hat hal hz3 hzA
  go_enter Tryz.func93, Tryz.ntmps93
  go_wp2_with (go_at_call 127; refine HE4.mono ?_; rintro e w5 ⟨rfl, vcs', C', D', T', k5, g5⟩; obtain ⟨⟨x0, x1, x2, x3, x4⟩, xf0, xf1, xf2, xf3, xf4⟩ := five_cells k5.rn)
  exact bodyPost_end (results_none rfl _ _ _) rfl ⟨rfl, HFIN.out _ _ _ _ _ k5 g5⟩
end Go.Proofs.YtlpbklgkafjfmaaGreatDoor

/-
  A region that draws its order and may write blocks from B on: what held of them ahead is known till one writes there.
-/
namespace Go.Proofs.YtlpbklgkafjfmaaGreatDoor
open Go.RowKit
theorem wp_region_fx {P : Program} {id : Nat} {ops : Array Oper} {Q : QT} {a0 : Act} {w0 : World} (B : Nat) (own0 : Nat → Nat) (inits : List (OpF w0 B)) (anc see wr : List (List Nat)) (fs : List (OpF w0 B)) (n : Nat) (hn : ops.size = n) (hm : P.follows .mixedOrders = true) (hp : (planOf anc see wr fs).ok ops a0.tmps.size = true)
    (hin : ∀ f ∈ inits, f.fact [] own0 w0.drew)
    (hstep : ∀ i, i < n → StepX P Q w0 B own0 inits a0 (planOf anc see wr fs) ops (factOf fs) i)
    (hend : ∀ a w val own, Below B w0 w → FrameOk ops a0 a → (∀ r, r < w0.heap.size → own r = own0 r) → (∀ i, i < n → Known ops (planOf anc see wr fs) (factOf fs) val own a w i) → (∀ f ∈ inits, (∀ k, k < n → ∀ x ∈ (planOf anc see wr fs).wr.getD k [], x ∉ f.dep) → f.fact [] own w) → Q .normal a w) :
    (Code.region id ops true).wp P Q a0 w0 := by
  subst hn
  refine wp_region_any hm (wpAny_plan (own0 := own0) (inits := inits) (planOf anc see wr fs) (factOf fs) hp (fs_stab anc see wr fs ops.size) hstep hend ops.size _ a0 _ (Nat.le_trans (List.length_filter_le _ _) (by simp)) ?_)
  refine ⟨by simp, ?_, (Below.refl _ w0).drew, ⟨rfl, rfl, fun _ _ => rfl⟩, fun _ => undef, own0, fun _ _ => rfl, ?_, fun f hf _ => hin f hf⟩
  · intro i o ho hl
    have hi : i < ops.size := (Array.getElem?_eq_some_iff.1 ho).1
    simp [hi] at hl
  · intro i hi hl
    simp [hi] at hl
def fKeep {W : World} {B : Nat} (k : Nat) (bs : Nat → Prop) (R : World → Prop) (hR : ∀ w w' : World, w.heap.size ≤ w'.heap.size → (∀ r, bs r → w'.heap[r]? = w.heap[r]?) → R w → R w') : OpF W B :=
  ⟨fun _ own w => (∀ r, bs r → own r = k ∧ r < w.heap.size) ∧ R w, [k], fun _ _ _ w w' hk ⟨h1, h2⟩ => ⟨fun r hr => ⟨(hk.mine r (h1 r hr).2).trans (h1 r hr).1, Nat.lt_of_lt_of_le (h1 r hr).2 hk.size⟩, hR w w' hk.size (fun r hr => hk.blk r (h1 r hr).2 (by rw [(h1 r hr).1]; simp)) h2⟩⟩
def fApp {W : World} {B : Nat} (k1 k2 n : Nat) (st : List (Int × Int)) : OpF W B :=
  ⟨fun l own w => ∃ y : Option Addr × Nat, l = [.slice y.1 n y.2] ∧ (∀ r, (Value.slice y.1 n y.2).ownBlock = some r → (own r = k1 ∨ own r = k2) ∧ r < w.heap.size) ∧ PairRow B w (.slice y.1 n y.2) st, [k1, k2],
    fun _ _ _ _ _ hk ⟨y, e, h1, h2⟩ => ⟨y, e, fun r hr => ⟨by rw [hk.mine r (h1 r hr).2]; exact (h1 r hr).1, Nat.lt_of_lt_of_le (h1 r hr).2 hk.size⟩, h2.kept hk.size fun r hr => hk.blk r (h1 r hr).2 (by rcases (h1 r hr).1 with x | x <;> rw [x] <;> simp)⟩⟩
def fSet {W : World} {B : Nat} (k gA : Nat) (w0 : World) (off : Nat) : OpF W B :=
  ⟨fun l own w => own gA = k ∧ gA < w.heap.size ∧ w.heap[gA]? = (w0.setCell ⟨gA, off, none⟩ (l.getD 0 undef)).heap[gA]?, [k], fun _ _ _ _ _ hk ⟨h1, h2, h3⟩ => ⟨(hk.mine gA h2).trans h1, Nat.lt_of_lt_of_le h2 hk.size, (hk.blk gA h2 (by rw [h1]; simp)).trans h3⟩⟩
def iRest {W : World} {B : Nat} (WC : World) (gA : Nat) (v : Value) : OpF W B :=
  fKeep 903 (fun r => r < WC.heap.size ∧ r ≠ gA ∧ v.ownBlock ≠ some r) (fun w => WC.heap.size ≤ w.heap.size ∧ ∀ r, r < WC.heap.size → r ≠ gA → v.ownBlock ≠ some r → w.heap[r]? = WC.heap[r]?)
    fun _ _ hs hb ⟨h1, h2⟩ => ⟨Nat.le_trans h1 hs, fun r a b c => (hb r ⟨a, b, c⟩).trans (h2 r a b c)⟩
def iRow {W : World} {B : Nat} (WC : World) (gA : Nat) : OpF W B := fKeep 902 (fun r => r = gA) (fun w => w.heap[gA]? = WC.heap[gA]?) fun _ _ _ hb h => (hb gA rfl).trans h
def iList {W : World} {B : Nat} (v : Value) (st : List (Int × Int)) : OpF W B := fKeep 901 (fun r => v.ownBlock = some r) (fun w => PairRow B w v st) fun _ _ hs hb h => h.kept hs fun r hr => hb r hr
theorem iRest_out {W WC w : World} {B gA : Nat} {v : Value} {l : List Value} {own : Nat → Nat} (h : (iRest (W := W) (B := B) WC gA v).fact l own w) : WC.heap.size ≤ w.heap.size ∧ ∀ r, r < WC.heap.size → r ≠ gA → v.ownBlock ≠ some r → w.heap[r]? = WC.heap[r]? := h.2
theorem iRow_out {W WC w : World} {B gA : Nat} {l : List Value} {own : Nat → Nat} (h : (iRow (W := W) (B := B) WC gA).fact l own w) : own gA = 902 ∧ gA < w.heap.size ∧ w.heap[gA]? = WC.heap[gA]? := ⟨(h.1 gA rfl).1, (h.1 gA rfl).2, h.2⟩
theorem iList_out {W w : World} {B : Nat} {v : Value} {st : List (Int × Int)} {l : List Value} {own : Nat → Nat} (h : (iList (W := W) (B := B) v st).fact l own w) : (∀ r, v.ownBlock = some r → own r = 901 ∧ r < w.heap.size) ∧ PairRow B w v st := h
theorem append_run {o : Oper} {act : Act} {w w' : World} {s x : Operand} {v xv v' : Value} (ho : o.op = .call { callee := .builtin .append, args := #[s, x], argTypes := #[27, 27] }) (hs : act.eval s = v) (hx : act.eval x = xv)
    (hr : (Builtin.append_ #[27, 27] o.type #[v, xv]).run Tryz.prog w = .ok v' w') : (execOp act.eval o).run Tryz.prog w = .ok (.value v') w' := by
  unfold execOp
  simp only [ho, resolve, invoke, builtin, Sem.run_bind, Sem.run_pure, Result.andThen_ok, List.map_toArray, List.map_cons, List.map_nil, hs, hx, hr]
theorem rfx_append {ops : Array Oper} {Q : QT} {W : World} {B : Nat} {p : Plan} {F : Nat → Fact} {a : Act} {w : World} {i : Nat} {val : Nat → Value} {own : Nat → Nat} {o : Oper} {s x : Operand} {v xv : Value} {L M : List (Int × Int)} (hBW : B ≤ W.heap.size) (hB : Below B W w) (ho : ops[i]? = some o) (hg : Region.wanted o (yielded ops a.tmps) = true)
    (hop : o.op = .call { callee := .builtin .append, args := #[s, x], argTypes := #[27, 27] }) (hs : a.eval s = v) (hx : a.eval x = xv) (hown : ∀ r, v.ownBlock = some r → own r = 901 ∧ r < w.heap.size) (hP : PairRow B w v L) (hM : OpsAt w xv M) (hL : L.length + M.length ≤ 3000000) (hi : p.wr.getD i [] = [901])
    (hF : ∀ y : Option Addr × Nat, ∀ w', (∀ r, (Value.slice y.1 (L ++ M).length y.2).ownBlock = some r → (ownBy own w i r = 901 ∨ ownBy own w i r = i) ∧ r < w'.heap.size) → PairRow B w' (.slice y.1 (L ++ M).length y.2) (L ++ M) → F i ((p.see.getD i []).map (upd val i (.slice y.1 (L ++ M).length y.2))) (ownBy own w i) w') :
    wpOp Tryz.prog ops Q i (fun a' w' => ∃ v, a' = a.put (dstOf ops i) v ∧ Does W B (p.wr.getD i []) own w w' ∧ F i ((p.see.getD i []).map (upd val i v)) (ownBy own w i) w') a w := by
  obtain ⟨v', w', hr, hrow, hgr, hbk⟩ := run_append_vals (ty := o.type) hP hM hL (Nat.le_trans hBW hB.size)
  obtain ⟨y1, y2, hv', _⟩ := hrow.slice
  subst hv'
  have hblk : ∀ r, r < w.heap.size → v.ownBlock ≠ some r → w'.heap[r]? = w.heap[r]? := fun r h1 h2 => hgr.block r h1 (Ne.symm h2)
  refine wpOp_val ho hg (append_run hop hs hx hr) ⟨_, by simp [dstOf, ho], ?_, hF (y1, y2) w' (fun r hr => ?_) hrow⟩
  · rw [hi]
    refine ⟨hB.grown hgr (Nat.le_trans hBW hB.size) (fun q e => (hP.lt q e).1), hgr.size, fun r h1 h2 => hblk r h1 fun e => h2 (by rw [(hown r e).1]; simp), fun g T n f h9 hrw => ⟨f, hrw.of_block (hblk g hrw.lt fun e => by have := (hown g e).1; omega)⟩⟩
  · have hlt := (hrow.lt r hr).2
    refine ⟨?_, hlt⟩
    rcases hbk with e | e
    · left
      have := hown r (by rw [← e]; exact hr)
      unfold ownBy
      rw [if_pos this.2]
      exact this.1
    · right
      have : r = w.heap.size := by have h' := hr.symm.trans e; injection h'
      subst this
      exact if_neg (Nat.lt_irrefl _)
theorem set_block {w w' : World} {g : Nat} (h : w.heap[g]? = w'.heap[g]?) (o : Nat) (v : Value) : (w.setCell ⟨g, o, none⟩ v).heap[g]? = (w'.setCell ⟨g, o, none⟩ v).heap[g]? := by
  simp only [World.setCell, Array.getElem?_modify, if_true]
  rw [h]
theorem put_stackB {B : Nat} {w w' : World} {g off cap n : Nat} {cs : List Cl} {V : Nat → Value × Value} (h : OwnCalls B w (.slice (some ⟨g, off, none⟩) n cap) cs V) {j : Nat} (hj : j < cs.length) (v' : Value) (st : List (Int × Int)) (hsz : w.heap.size ≤ w'.heap.size)
    (hgb : w'.heap[g]? = (w.setCell ⟨g, off + j * 6 + 3, none⟩ v').heap[g]?) (hbl : ∀ k, k < w.heap.size → k ≠ g → (V j).2.ownBlock ≠ some k → w'.heap[k]? = w.heap[k]?) (hr : PairRow B w' v' st) (hv : ∀ q, v'.ownBlock = some q → (V j).2.ownBlock = some q ∨ w.heap.size ≤ q) :
    Put B w w' g off j V { cs[j] with stack := st } (V j).1 v' := by
  have hgl : g < w.heap.size := (h.lt (g := g) (.inl rfl)).2
  obtain ⟨⟨c0, c1, c2, c3, c4, c5⟩, _⟩ := h.cells hj
  obtain ⟨a1, a2⟩ : (∀ q, (V j).1.ownBlock = some q → q ≠ g ∧ (V j).2.ownBlock ≠ some q) ∧ (∀ q, (V j).2.ownBlock = some q → q ≠ g) := by
    refine ⟨fun q e => ?_, fun q e eg => ?_⟩
    · obtain ⟨x1, x2⟩ := h.apart (j * 2) (by omega) q (by rw [lst_0]; exact e)
      have x3 := x2 (j * 2 + 1) (by omega) (by omega)
      rw [lst_1] at x3
      exact ⟨fun eg => x1 (by rw [eg]; rfl), x3⟩
    · exact (h.apart (j * 2 + 1) (by omega) q (by rw [lst_1]; exact e)).1 (by rw [eg]; rfl)
  have cg : ∀ o, w'.cell? ⟨g, o, none⟩ = (w.setCell ⟨g, off + j * 6 + 3, none⟩ v').cell? ⟨g, o, none⟩ := fun o => World.cell?_of_block (a := ⟨g, o, none⟩) hgb
  have fg : ∀ o, w'.frozen? ⟨g, o, none⟩ = w.frozen? ⟨g, o, none⟩ := fun o => (World.frozen?_of_block (a := ⟨g, o, none⟩) hgb).trans (World.frozen?_setCell _ _ _ _)
  have hoth : ∀ o, o ≠ off + j * 6 + 3 → w'.cell? ⟨g, o, none⟩ = w.cell? ⟨g, o, none⟩ := fun o ho => by
    rw [cg, World.cell?_setCell_other _ _ _ _ (fun q => ho (by have := congrArg Addr.off q; simpa using this.symm))]
  have ht := (h.lists j hj).1
  refine ⟨hsz, fg, fun o ho => hoth o (by omega), fun k hk hkg _ h2 => hbl k hk hkg h2, ?_, ?_, ?_, ?_, ?_, ?_, ?_, hr, fun q e => .inl e, fun q e => ?_, fun q e e2 => ?_⟩
  · rw [hoth _ (by omega)]; exact c0
  · rw [hoth _ (by omega)]; exact c1
  · rw [hoth _ (by omega)]; exact c2
  · rw [cg]; exact World.cell?_setCell_same _ _ _ c3
  · rw [hoth _ (by omega)]; exact c4
  · rw [hoth _ (by omega)]; exact c5
  · exact ht.kept hsz fun q e => hbl q (ht.lt q e).2 (a1 q e).1 (a1 q e).2
  · rcases hv q e with x | x
    · exact .inr (.inl x)
    · exact .inr (.inr x)
  · rcases hv q e2 with x | x
    · exact (a1 q e).2 x
    · have := (ht.lt q e).2; omega
end Go.Proofs.YtlpbklgkafjfmaaGreatDoor

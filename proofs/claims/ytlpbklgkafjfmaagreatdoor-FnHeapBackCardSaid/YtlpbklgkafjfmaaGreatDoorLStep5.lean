/-
  The program's heap at work: an operation is done, whichever it is.
-/
import Derived.Test.YtlpbklgkafjfmaaGreatDoorLWalk17
import Derived.Test.YtlpbklgkafjfmaaGreatDoorLStep4
import Derived.Test.YtlpbklgkafjfmaaGreatDoorVImpl
import Derived.Test.YtlpbklgkafjfmaaGreatDoorLLive2
import Derived.Deep.RegionHeld3

namespace Go.Proofs.YtlpbklgkafjfmaaGreatDoor
open Go.RowKit
variable {B : Nat} {w w' : World} {bl br : Nat} {vp vcs vsd : Value} {C D : Nat → Nat} {T : Nat → Value × Value} {h h' : Hp}
theorem kinds18L {k : Int} (h : 1 ≤ k ∧ k ≤ 18) : k = 1 ∨ k = 2 ∨ k = 3 ∨ k = 4 ∨ k = 5 ∨ k = 6 ∨ k = 7 ∨ k = 8 ∨ k = 9 ∨ k = 10 ∨ k = 11 ∨ k = 12 ∨ k = 13 ∨ k = 14 ∨ k = 15 ∨ k = 16 ∨ k = 17 ∨ k = 18 := by omega
theorem valOk_number {n a : Int} (h : valOk n 1 a = true) : 0 ≤ a ∧ a ≤ 999 := by
  unfold valOk at h
  rw [if_neg (by decide), if_pos rfl, inR_true] at h
  exact h
theorem valOk_zero {n a : Int} (h : valOk n 0 a = true) : a = 0 := by
  unfold valOk at h
  rw [if_pos rfl, beq_iff_eq] at h
  exact h
theorem Doing.len {ms : Ms} {j : Nat} {k a : Int} {args : List (Int × Int)} (d : Doing ms h j k a args) (h9 : k ≠ 9) : (args.length : Int) = tk k := by
  have := d.takes
  rw [takes_num h9] at this
  exact this
theorem Doing.temp {ms : Ms} {j : Nat} {k a : Int} {args : List (Int × Int)} (d : Doing ms h j k a args) (hk : k = 2 ∨ k = 3) : 0 ≤ a ∧ a < ((h.calls[j]'d.lt).temps.length : Int) := by
  obtain ⟨m, hm, hcm, hop⟩ := d.op
  unfold opOk at hop
  rw [if_neg (by omega), if_pos hk, inR_true] at hop
  have ht := (d.g.cl j d.lt).t
  rw [hcm, Int.toNat_natCast, getD_at hm] at ht
  omega
theorem Doing.peek {ms : Ms} {j : Nat} {k a : Int} {args : List (Int × Int)} (d : Doing ms h j k a args) (hk : k = 13 ∨ k = 14) : 0 ≤ a := by
  obtain ⟨m, hm, hcm, hop⟩ := d.op
  unfold opOk at hop
  rw [if_neg (by omega), if_neg (by omega), if_neg (by omega), if_neg (by omega), if_pos hk, inR_true] at hop
  omega
theorem Doing.meth {ms : Ms} {j : Nat} {a : Int} {args : List (Int × Int)} (d : Doing ms h j 9 a args) : 0 ≤ a ∧ a < (ms.length : Int) := by
  obtain ⟨m, hm, hcm, hop⟩ := d.op
  unfold opOk at hop
  rw [if_neg (by decide), if_neg (by decide), if_neg (by decide), if_pos rfl, inR_true] at hop
  omega
theorem Doing.backs {ms : Ms} {j : Nat} {a : Int} {args : List (Int × Int)} (d : Doing ms h j 15 a args) {i : Nat} (hi : i < h.calls.length) (hd : h.calls[i].dead = false) : (∃ l, Waits h.calls h.now l ∧ i ∈ l ∧ l.length ≤ h.calls.length) ∧ (backTo h.calls.length h i).now = (i : Int) ∧ (backTo h.calls.length h i).calls.length = h.calls.length ∧ ∀ hb : i < (backTo h.calls.length h i).calls.length, (backTo h.calls.length h i).calls[i].stack.length ≤ 1000 := by
  obtain ⟨l, hw⟩ := d.g.w
  have hbl : i ∈ l := hw.all _ hi hd
  have h6 : ∀ hb : i < h.calls.length, h.calls[i].stack.length < 6 := fun hb => by
    have hw2 := hw
    rw [d.now] at hw2
    obtain ⟨_, t, rfl, _⟩ := hw2.head
    rcases List.mem_cons.1 hbl with q | q
    · have := d.free (by rw [takes_num (by decide)]; rfl)
      simp only [q]
      exact this
    · exact hw.room _ (by simpa using q) hb
  obtain ⟨r1, _, r3, r4, r5⟩ := Good.back h.calls.length h _ l d.g d.code hw hbl hw.len h6
  exact ⟨⟨l, hw, hbl, hw.len⟩, r3, r4, fun hb => by have := (r5 hb).1; omega⟩
set_option maxRecDepth 100000 in
set_option maxHeartbeats 1000000 in
theorem doProg_any (k : LV B w bl br vp vcs vsd C D T h) (hB : B ≤ w.heap.size) {ms : Ms} (hM : MethsAt w vp ms) (hsl : h.said.length ≤ 2900000) {j : Nat} {kk a : Int} {vt : Value} {args : List (Int × Int)} (t : Tk (LOwn bl br vcs vsd C D T h.calls.length) w vt args) (d : Doing ms h j kk a args) :
    ∃ K, doers[kk.toNat]? = some (.func (.func K) #[] #[]) ∧ ∀ W, Below w.heap.size w W → Calls Tryz.prog K #[.pointer (some ⟨br, 0, none⟩), .int .i64 a, vt] W fun e w' => e = .returned (.tuple #[]) ∧ LEnd B bl br vp (LOwn bl br vcs vsd C D T h.calls.length) w (doH ms h kk a args) w' := by
  have hn := d.now
  have hj := d.lt
  have c := d.g.cl j hj
  have hst : h.calls[j].stack.length ≤ 1000 := by have := c.s; omega
  have hT : ∀ {W : World}, Below w.heap.size w W → Tk (LOwn bl br vcs vsd C D T h.calls.length) W vt args := fun hb => t.go (B := w.heap.size) (P' := LOwn bl br vcs vsd C D T h.calls.length) ⟨hb, fun g hg _ => hb.block g hg, fun _ e => .inl e⟩
  have hBW : ∀ {W : World}, Below w.heap.size w W → B ≤ W.heap.size := fun hb => by have := hb.size; omega
  have fin : ∀ {K : Nat} {W : World} {h2 : Hp}, Below w.heap.size w W → doH ms h kk a args = h2 → (Calls Tryz.prog K #[.pointer (some ⟨br, 0, none⟩), .int .i64 a, vt] W fun e w' => e = .returned (.tuple #[]) ∧ LEnd B bl br vp (LOwn bl br vcs vsd C D T h.calls.length) W h2 w') → Calls Tryz.prog K #[.pointer (some ⟨br, 0, none⟩), .int .i64 a, vt] W fun e w' => e = .returned (.tuple #[]) ∧ LEnd B bl br vp (LOwn bl br vcs vsd C D T h.calls.length) w (doH ms h kk a args) w' := fun hb he hc => by
    refine hc.mono ?_
    rintro e w' ⟨h1, h2⟩
    rw [he]
    exact ⟨h1, LEnd.first hb hB h2⟩
  rcases kinds18L d.kind with e | e | e | e | e | e | e | e | e | e | e | e | e | e | e | e | e | e
  · subst e
    exact ⟨_, rfl, fun W hb => fin hb rfl (doNum_any (k.below hb) hn hj (hBW hb) hst a vt)⟩
  · subst e
    obtain ⟨h0, h1⟩ := d.temp (.inl rfl)
    obtain ⟨q, rfl⟩ := Int.eq_ofNat_of_zero_le h0
    have hq : q < h.calls[j].temps.length := by omega
    refine ⟨_, rfl, fun W hb => fin hb ?_ (doTemp_any (k.below hb) hn hj (hBW hb) hst q hq vt)⟩
    show pushH h ((curC h).temps.getD (q : Int).toNat (0, 0)) = _
    rw [cur_at hn hj, Int.toNat_natCast, getD_at hq]
  · subst e
    have hl := d.len (by decide)
    have h0l : 0 < args.length := by have : tk 3 = 1 := rfl; omega
    obtain ⟨h0, h1⟩ := d.temp (.inr rfl)
    obtain ⟨q, rfl⟩ := Int.eq_ofNat_of_zero_le h0
    have hq : q < h.calls[j].temps.length := by omega
    refine ⟨_, rfl, fun W hb => fin hb ?_ (doSet_any (k.below hb) hn hj (hBW hb) (hT hb) h0l q hq)⟩
    show setH h { curC h with temps := (curC h).temps.set (q : Int).toNat (args.getD 0 (0, 0)) } = _
    rw [Int.toNat_natCast, getD_at h0l]
  · subst e
    exact ⟨_, rfl, fun W hb => fin hb rfl (doDrop_any (k.below hb) a vt)⟩
  · subst e
    have hl := d.len (by decide)
    have h1l : 1 < args.length := by have : tk 5 = 2 := rfl; omega
    have h0l : 0 < args.length := by omega
    have hk := d.kinds
    simp only [kindsOk, if_true, Bool.and_eq_true, beq_iff_eq] at hk
    rw [getD_at h0l, getD_at h1l] at hk
    have hx := d.first 0
    have hy := d.first 1
    rw [getD_at h0l, hk.1] at hx
    rw [getD_at h1l, hk.2] at hy
    refine ⟨_, rfl, fun W hb => fin hb ?_ (doAdd_any (k.below hb) hn hj (hBW hb) hst a (hT hb) h1l (valOk_number hx) (valOk_number hy))⟩
    show pushH h (1, ((args.getD 0 (0, 0)).2 + (args.getD 1 (0, 0)).2) % 1000) = _
    rw [getD_at h0l, getD_at h1l]
  · subst e
    have hl := d.len (by decide)
    have h1l : 1 < args.length := by have : tk 6 = 2 := rfl; omega
    have h0l : 0 < args.length := by omega
    refine ⟨_, rfl, fun W hb => fin hb ?_ (doSame_any (k.below hb) hn hj (hBW hb) hst a (hT hb) h1l)⟩
    show pushH h (bitV (decide (args.getD 0 (0, 0) = args.getD 1 (0, 0)))) = _
    rw [getD_at h0l, getD_at h1l]
  · subst e
    exact ⟨_, rfl, fun W hb => fin hb rfl (doJump_any (k.below hb) hn hj a vt)⟩
  · subst e
    have hl := d.len (by decide)
    have h0l : 0 < args.length := by have : tk 8 = 1 := rfl; omega
    have hx := d.first 0
    rw [getD_at h0l] at hx
    refine ⟨_, rfl, fun W hb => fin hb ?_ (doZero_any (k.below hb) hn hj (hBW hb) a (hT hb) h0l)⟩
    show (if (args.getD 0 (0, 0)).1 = 0 ∨ args.getD 0 (0, 0) = (1, 0) then setH h { curC h with pc := a } else h) = _
    rw [getD_at h0l]
    generalize args[0] = x at *
    obtain ⟨x1, x2⟩ := x
    simp only at hx ⊢
    have e : (x1 = 0 ∨ (x1, x2) = (1, 0)) ↔ (x2 = 0 ∧ (x1 = 0 ∨ x1 = 1)) := by
      rw [Prod.mk.injEq]
      constructor
      · rintro (q | ⟨q1, q2⟩)
        · subst q; exact ⟨valOk_zero hx, .inl rfl⟩
        · exact ⟨q2, .inr q1⟩
      · rintro ⟨q1, q2 | q2⟩
        · exact .inl q2
        · exact .inr ⟨q2, q1⟩
    by_cases q : x2 = 0 ∧ (x1 = 0 ∨ x1 = 1)
    · rw [if_pos (e.2 q), if_pos q]
    · rw [if_neg (fun z => q (e.1 z)), if_neg q]
  · subst e
    obtain ⟨h0, h1⟩ := d.meth
    obtain ⟨q, rfl⟩ := Int.eq_ofNat_of_zero_le h0
    have hq : q < ms.length := by omega
    have htk := d.takes
    rw [takesOf_call hq] at htk
    have hmp := prog_meth d.g.head.p hq
    have hbn := d.g.head.born
    have hfw := d.g.head.few
    exact ⟨_, rfl, fun W hb => fin hb rfl (doCall_any (k.below hb) (hBW hb) (hM.below hb) q hq (hT hb) htk ⟨hmp.temps.1, hmp.temps.2⟩ d.g.head.now.2 (fun i hi => (d.g.cl i hi).sd.2) (by omega) ⟨by omega, by omega⟩)⟩
  · subst e
    have hl := d.len (by decide)
    have h0l : 0 < args.length := by have : tk 10 = 1 := rfl; omega
    have hx := d.first 0
    rw [getD_at h0l] at hx
    refine ⟨_, rfl, fun W hb => fin hb ?_ (doRet_any (k.below hb) hn hj (hBW hb) hsl a (hT hb) h0l (fun q => by rw [q] at hx; exact valOk_ref' hx) c.sd.2 (fun i hi => by have := (d.g.cl i hi).s; omega))⟩
    show retH h (args.getD 0 (0, 0)) = _
    rw [getD_at h0l]
  · subst e
    exact ⟨_, rfl, fun W hb => fin hb rfl (doHere_any (k.below hb) hn hj (hBW hb) hst a vt)⟩
  · subst e
    have hl := d.len (by decide)
    have h0l : 0 < args.length := by have : tk 12 = 1 := rfl; omega
    obtain ⟨_, r0, r1⟩ := d.ref (by decide)
    rw [getD_at h0l] at r0 r1
    have hs := (d.g.cl _ r1).sd
    refine ⟨_, rfl, fun W hb => fin hb ?_ (doSender_any (k.below hb) hn hj (hBW hb) hst a (hT hb) h0l r1 (by omega) hs.2 hs.1)⟩
    show pushH h (lookV h 12 a (args.getD 0 (0, 0)).2.toNat) = _
    rw [getD_at h0l]
    unfold lookV
    simp only [if_true]
    rw [getD_at r1]
  · subst e
    have hl := d.len (by decide)
    have h0l : 0 < args.length := by have : tk 13 = 1 := rfl; omega
    obtain ⟨_, r0, r1⟩ := d.ref (by decide)
    rw [getD_at h0l] at r0 r1
    obtain ⟨q, rfl⟩ := Int.eq_ofNat_of_zero_le (d.peek (.inl rfl))
    refine ⟨_, rfl, fun W hb => fin hb ?_ (doPeek_any (k.below hb) hn hj (hBW hb) hst q (hT hb) h0l r1 (by omega))⟩
    show pushH h (lookV h 13 q (args.getD 0 (0, 0)).2.toNat) = _
    rw [getD_at h0l]
    unfold lookV
    simp only []
    rw [if_neg (by decide), if_pos trivial, getD_at r1, Int.toNat_natCast]
  · subst e
    have hl := d.len (by decide)
    have h1l : 1 < args.length := by have : tk 14 = 2 := rfl; omega
    have h0l : 0 < args.length := by omega
    obtain ⟨_, r0, r1⟩ := d.ref (by decide)
    rw [getD_at h0l] at r0 r1
    obtain ⟨q, rfl⟩ := Int.eq_ofNat_of_zero_le (d.peek (.inr rfl))
    refine ⟨_, rfl, fun W hb => fin hb ?_ (doPoke_any (k.below hb) (hBW hb) q (hT hb) h1l r1 (by omega))⟩
    show pokeH h (args.getD 0 (0, 0)).2.toNat q (args.getD 1 (0, 0)) = _
    rw [getD_at h0l, getD_at h1l]
  · subst e
    have hl := d.len (by decide)
    have h1l : 1 < args.length := by have : tk 15 = 2 := rfl; omega
    have h0l : 0 < args.length := by omega
    obtain ⟨_, r0, r1⟩ := d.ref (by decide)
    rw [getD_at h0l] at r0 r1
    refine ⟨_, rfl, fun W hb => fin hb ?_ (doBack_any (k.below hb) (hBW hb) a (hT hb) h1l r1 (by omega) (fun q => d.backs r1 q))⟩
    show backH h (args.getD 0 (0, 0)).2.toNat (args.getD 1 (0, 0)) = _
    rw [getD_at h0l, getD_at h1l]
  · subst e
    have hl := d.len (by decide)
    have h0l : 0 < args.length := by have : tk 16 = 1 := rfl; omega
    have hx := d.first 0
    rw [getD_at h0l] at hx
    refine ⟨_, rfl, fun W hb => fin hb ?_ (doSay_any (k.below hb) (hBW hb) hsl a (hT hb) h0l (fun q => by rw [q] at hx; exact valOk_ref' hx))⟩
    show sayH h (args.getD 0 (0, 0)) = _
    rw [getD_at h0l]
  · subst e
    have hl := d.len (by decide)
    have h0l : 0 < args.length := by have : tk 17 = 1 := rfl; omega
    obtain ⟨_, r0, r1⟩ := d.ref (by decide)
    rw [getD_at h0l] at r0 r1
    refine ⟨_, rfl, fun W hb => fin hb ?_ (doDead_any (k.below hb) hn hj (hBW hb) hst a (hT hb) h0l r1 (by omega))⟩
    show pushH h (lookV h 17 a (args.getD 0 (0, 0)).2.toNat) = _
    rw [getD_at h0l]
    unfold lookV
    simp only []
    rw [if_neg (by decide), if_neg (by decide), if_pos trivial, getD_at r1]
  · subst e
    have hl := d.len (by decide)
    have h0l : 0 < args.length := by have : tk 18 = 1 := rfl; omega
    obtain ⟨_, r0, r1⟩ := d.ref (by decide)
    rw [getD_at h0l] at r0 r1
    refine ⟨_, rfl, fun W hb => fin hb ?_ (doWhere_any (k.below hb) hn hj (hBW hb) hst a (hT hb) h0l r1 (by omega))⟩
    show pushH h (lookV h 18 a (args.getD 0 (0, 0)).2.toNat) = _
    rw [getD_at h0l]
    unfold lookV
    simp only []
    rw [if_neg (by decide), if_neg (by decide), if_neg (by decide), getD_at r1]
end Go.Proofs.YtlpbklgkafjfmaaGreatDoor

/-
  The program's step: the values that are left, who is asked to do it.
-/
namespace Go.Proofs.YtlpbklgkafjfmaaGreatDoor
open Go.RowKit
variable {B : Nat} {w w' : World} {bl br : Nat} {vp vcs vsd : Value} {C D : Nat → Nat} {T : Nat → Value × Value} {h h' : Hp}
theorem sliced_zero (sa : Option Addr) (L sc : Nat) : sliced sa 0 L sc 2 = .slice sa L sc := by
  unfold sliced
  cases sa with
  | none => simp
  | some a => by_cases e : sc = 0 <;> simp [e, Addr.add]
theorem LV.cut (k : LV B w bl br vp vcs vsd C D T h) {j : Nat} (hj : j < h.calls.length) (hB : B ≤ w.heap.size) {sa : Option Addr} {n sc L : Nat} (hV : (T j).2 = .slice sa n sc) (hL : L ≤ h.calls[j].stack.length) :
    LV B (w.setCell ⟨D j, 3, none⟩ (.slice sa L sc)) bl br vp vcs vsd C D (putV T j ((T j).1, .slice sa L sc)) { h with calls := h.calls.set j { h.calls[j] with stack := h.calls[j].stack.take L } } ∧ LGo B (LOwn bl br vcs vsd C D T h.calls.length) (LOwn bl br vcs vsd C D (putV T j ((T j).1, .slice sa L sc)) h.calls.length) w (w.setCell ⟨D j, 3, none⟩ (.slice sa L sc)) := by
  have hr := (k.ts j hj).2
  rw [hV] at hr
  exact k.push hj hB (Nat.le_refl _) (Below.refl _ _) (fun _ _ _ => rfl) (hr.cutTo hL) (fun q e => .inl (by rw [hV]; rw [← e]; cases sa <;> rfl))
set_option maxRecDepth 100000 in
theorem index_doers {kk : Int} (hk : 1 ≤ kk ∧ kk ≤ 18) {v : Value} (hv : doers[kk.toNat]? = some v) (W : World) : (Instr.index 121 (.agg doers.toArray) (.int .i64 kk)).run Tryz.prog W = .ok v W := by
  rcases kinds18L hk with rfl | rfl | rfl | rfl | rfl | rfl | rfl | rfl | rfl | rfl | rfl | rfl | rfl | rfl | rfl | rfl | rfl | rfl
  all_goals
    obtain rfl : _ = v := Option.some.inj hv
    kernel_rfl
set_option maxRecDepth 100000 in
theorem enter_doers {kk : Int} (hk : 1 ≤ kk ∧ kk ≤ 18) {K : Nat} (hv : doers[kk.toNat]? = some (.func (.func K) #[] #[])) (args : Array Value) (W : World) : (callFunc K args).run Tryz.prog W = .ok (.enter K args) W := by
  rcases kinds18L hk with rfl | rfl | rfl | rfl | rfl | rfl | rfl | rfl | rfl | rfl | rfl | rfl | rfl | rfl | rfl | rfl | rfl | rfl
  · have e := Option.some.inj hv
    injection e with e1
    injection e1 with e2
    subst e2
    exact Tryz.call85 args W
  · have e := Option.some.inj hv
    injection e with e1
    injection e1 with e2
    subst e2
    exact Tryz.call86 args W
  · have e := Option.some.inj hv
    injection e with e1
    injection e1 with e2
    subst e2
    exact Tryz.call87 args W
  · have e := Option.some.inj hv
    injection e with e1
    injection e1 with e2
    subst e2
    exact Tryz.call88 args W
  · have e := Option.some.inj hv
    injection e with e1
    injection e1 with e2
    subst e2
    exact Tryz.call89 args W
  · have e := Option.some.inj hv
    injection e with e1
    injection e1 with e2
    subst e2
    exact Tryz.call90 args W
  · have e := Option.some.inj hv
    injection e with e1
    injection e1 with e2
    subst e2
    exact Tryz.call91 args W
  · have e := Option.some.inj hv
    injection e with e1
    injection e1 with e2
    subst e2
    exact Tryz.call92 args W
  · have e := Option.some.inj hv
    injection e with e1
    injection e1 with e2
    subst e2
    exact Tryz.call93 args W
  · have e := Option.some.inj hv
    injection e with e1
    injection e1 with e2
    subst e2
    exact Tryz.call94 args W
  · have e := Option.some.inj hv
    injection e with e1
    injection e1 with e2
    subst e2
    exact Tryz.call95 args W
  · have e := Option.some.inj hv
    injection e with e1
    injection e1 with e2
    subst e2
    exact Tryz.call96 args W
  · have e := Option.some.inj hv
    injection e with e1
    injection e1 with e2
    subst e2
    exact Tryz.call97 args W
  · have e := Option.some.inj hv
    injection e with e1
    injection e1 with e2
    subst e2
    exact Tryz.call98 args W
  · have e := Option.some.inj hv
    injection e with e1
    injection e1 with e2
    subst e2
    exact Tryz.call99 args W
  · have e := Option.some.inj hv
    injection e with e1
    injection e1 with e2
    subst e2
    exact Tryz.call100 args W
  · have e := Option.some.inj hv
    injection e with e1
    injection e1 with e2
    subst e2
    exact Tryz.call101 args W
  · have e := Option.some.inj hv
    injection e with e1
    injection e1 with e2
    subst e2
    exact Tryz.call102 args W
theorem Tk.new {P : Nat → Prop} {v : Value} {args : List (Int × Int)} {b : Nat} (hr : PairRow b w v args) (hP : ∀ g, P g → g < b) : Tk P w v args :=
  ⟨hr.at, fun g e => ⟨(hr.lt g e).2, fun hg => by have := (hr.lt g e).1; have := hP g hg; omega⟩⟩
def LEnv (B : Nat) (w : World) (vp : Value) (ms : Ms) : Prop := ∃ w0 : World, w0.heap.size = B ∧ Below B w0 w ∧ MethsAt w0 vp ms ∧ TabAt w0
theorem LEnv.meths {ms : Ms} (e : LEnv B w vp ms) : MethsAt w vp ms := by
  obtain ⟨w0, rfl, hb, hM, _⟩ := e
  exact hM.below hb
theorem LEnv.tab {ms : Ms} (e : LEnv B w vp ms) : TabAt w := by
  obtain ⟨w0, rfl, hb, _, hT⟩ := e
  exact hT.below hb
theorem LEnv.go {ms : Ms} (e : LEnv B w vp ms) (h : Below B w w') : LEnv B w' vp ms := by
  obtain ⟨w0, hz, hb, hM, hT⟩ := e
  exact ⟨w0, hz, hb.trans h, hM, hT⟩
theorem LEnd.stays {P : Nat → Prop} (e : LEnd B bl br vp P w h w') {g : Nat} (hg : g < w.heap.size) (hn : ¬ P g) : w'.heap[g]? = w.heap[g]? := by
  obtain ⟨_, _, _, _, _, _, k⟩ := e
  exact k.keep g hg hn
end Go.Proofs.YtlpbklgkafjfmaaGreatDoor

/-
  The program's heap at work: one step.
-/
namespace Go.Proofs.YtlpbklgkafjfmaaGreatDoor
open Go.RowKit
variable {B : Nat} {w w' : World} {bl br : Nat} {vp vcs vsd : Value} {C D : Nat → Nat} {T : Nat → Value × Value} {h h' : Hp}
set_option maxRecDepth 100000 in
set_option maxHeartbeats 8000000 in
theorem stepProg_any (k : LV B w bl br vp vcs vsd C D T h) (hB : B ≤ w.heap.size) {ms : Ms} (hEnv : LEnv B w vp ms) (g : Good ms h) (hc : h.code = 0) (hsl : h.said.length ≤ 2900000) :
    Calls Tryz.prog 53 #[.pointer (some ⟨br, 0, none⟩)] w fun e w' => e = .returned (.tuple #[]) ∧ LEnd B bl br vp (LOwn bl br vcs vsd C D T h.calls.length) w (stepH ms h) w' := by
  have hM := hEnv.meths
  have hTB := hEnv.tab
  have HENV : Hid (LEnv B w vp ms) := hEnv
  clear hEnv
  have hn0 : 0 ≤ h.now := by
    by_cases q : h.now < 0
    · have := g.head.fin.2 q; omega
    · omega
  obtain ⟨j, hn⟩ : ∃ j : Nat, h.now = j := ⟨h.now.toNat, by omega⟩
  have hj : j < h.calls.length := by have := g.head.now; omega
  have c := g.cl j hj
  obtain ⟨m, hm⟩ := Int.eq_ofNat_of_zero_le c.m.1
  obtain ⟨pc, hpc⟩ := Int.eq_ofNat_of_zero_le c.pc.1
  have hml : m < ms.length := by have := c.m; omega
  have HR := running_any k hn hj
  have hm1 := Tryz.go_running bl
  obtain ⟨ap, cp, hvp, _⟩ := id hM
  subst hvp
  obtain ⟨⟨y0, y1, y2, y3, y4⟩, _⟩ := five_cells k.rn
  obtain ⟨⟨z0, z1, z2, z3, z4⟩, _⟩ := five_cells (k.bd j hj)
  rw [hm] at z0
  rw [hpc] at z1
  have hbrl : br < w.heap.size := (k.lo .run trivial br rfl).2
  have hDl : D j < w.heap.size := (k.lo (.body j) hj (D j) rfl).2
  obtain ⟨kk, a, ho⟩ : ∃ kk a, ms[m].2.2.getD pc (0, 0) = (kk, a) := ⟨_, _, rfl⟩
  obtain ⟨fd, hfd⟩ : ∃ fd, decide (pc < ms[m].2.2.length) = fd := ⟨_, rfl⟩
  have HOP : Hid (∀ W, Below w.heap.size w W → Calls Tryz.prog 66 #[.agg #[.slice ap ms.length cp], .int .i64 m, .int .i64 pc] W fun e w' => e = .returned (.tuple #[.agg #[.int .i64 kk, .int .i64 a], .bool fd]) ∧ Below W.heap.size W w') := fun W hb => by
    have := opAt_any (.slice ap ms.length cp) ms m pc W (hM.below hb) hml
    rw [ho, hfd] at this
    exact this
  have HK0 : Hid (LV B w bl br (.slice ap ms.length cp) vcs vsd C D T h) := k
  have HK : Hid (LV B w bl br (.slice ap ms.length cp) vcs vsd C D T h ∧ MethsAt w (.slice ap ms.length cp) ms ∧ TabAt w ∧ Good ms h ∧ ClP ms h.calls.length h.calls[j]) := ⟨k, hM, hTB, g, c⟩
  have HO : Hid (ms[m].2.2.getD pc (0, 0) = (kk, a) ∧ decide (pc < ms[m].2.2.length) = fd ∧ h.calls[j].m = m ∧ h.calls[j].pc = pc ∧ h.now = j ∧ h.code = 0) := ⟨ho, hfd, hm, hpc, hn, hc⟩
  clear k hM hTB g c ho hfd hm hpc hn hn0 hc
  go_enter Tryz.func53, Tryz.ntmps53
  go_upto_region 1 with (go_at_call 131; refine HR.mono ?_; rintro e w' ⟨rfl, hw⟩; obtain rfl := hw.symm)
  clear HR hm1
  have HS : ∀ w', Below w.heap.size w w' → (w'.cell? ⟨br, 0, none⟩ = some (.slice ap ms.length cp) ∧ w'.cell? ⟨D j, 0, none⟩ = some (.int .i64 m) ∧ w'.cell? ⟨D j, 1, none⟩ = some (.int .i64 pc) ∧ Below w.heap.size w w') := fun w' hB => ⟨cell_below hB y0, cell_below hB z0, cell_below hB z1, hB⟩
  go_region_held3 (fun w' => w'.cell? ⟨br, 0, none⟩ = some (.slice ap ms.length cp) ∧ w'.cell? ⟨D j, 0, none⟩ = some (.int .i64 m) ∧ w'.cell? ⟨D j, 1, none⟩ = some (.int .i64 pc) ∧ Below w.heap.size w w')
    ((refine HS _ ?_; first
      | (with_reducible exact (‹_ ∧ _ ∧ _ ∧ Below w.heap.size w _›).2.2.2)
      | (with_reducible exact (Below.refl _ _).drew)
      | (with_reducible exact hBC)
      | (with_reducible exact ((Below.refl _ _).alloc (Nat.le_refl _) _).drew)
      | (with_reducible exact hBC.alloc hBC.size _)
      | (with_reducible exact (hBC.setCell (p := ⟨_, 0, none⟩) (by first | omega | simp) _).setCell (p := ⟨_, 1, none⟩) (by first | omega | simp) _)))
    (first
      | (go_at_call 66; refine (HOP.out _ (‹_ ∧ _ ∧ _ ∧ Below w.heap.size w _›).2.2.2).mono ?_; rintro e wC ⟨rfl, hbC⟩; have hBC := Below.trans (‹_ ∧ _ ∧ _ ∧ Below w.heap.size w _›).2.2.2 (hbC.mono ((‹_ ∧ _ ∧ _ ∧ Below w.heap.size w _›).2.2.2).size); have hzC := hBC.size; first | (have rC := row_below hbC (show ((w.alloc (.cells #[.int .i64 0, .int .i64 0] 35)).drew).rowIs _ _ 2 _ from two_new w 35 (.int .i64 0) (.int .i64 0)); obtain ⟨⟨n0, n1⟩, l0, l1⟩ := two_cells rC) | skip))
  all_goals first
    | (have rb := two_new wC 35 (.int .i64 kk) (.int .i64 a);
       have BW := (‹_ ∧ _ ∧ _ ∧ Below w.heap.size w (wC.alloc _)›).2.2.2;
       have hbxw : w.heap.size ≤ wC.heap.size := hzC;
       clear HS HOP hbC hBC hzC;
       generalize wC.alloc (.cells #[.int .i64 kk, .int .i64 a] 35) = W at *;
       generalize wC.heap.size = bx at *)
    | (have rb : ((wC.setCell ⟨w.heap.size, 0, none⟩ (.int .i64 kk)).setCell ⟨w.heap.size, 1, none⟩ (.int .i64 a)).rowIs w.heap.size 35 2 (two (.int .i64 kk) (.int .i64 a)) := ((two_set0 rC (.int .i64 kk)).set 1 (.int .i64 a)).congr fun i hi => by match i, hi with | 0, _ => rfl | 1, _ => rfl;
       have BW := (‹_ ∧ _ ∧ _ ∧ Below w.heap.size w ((wC.setCell _ _).setCell _ _)›).2.2.2;
       clear HS HOP hbC hBC hzC rC n0 n1 l0 l1;
       generalize (wC.setCell ⟨w.heap.size, 0, none⟩ (.int .i64 kk)).setCell ⟨w.heap.size, 1, none⟩ (.int .i64 a) = W at *;
       obtain ⟨bx, hbx⟩ : ∃ bx, bx = w.heap.size := ⟨_, rfl⟩;
       rw [← hbx] at rb;
       rw [← hbx];
       have hbxw : w.heap.size ≤ bx := (by omega);
       clear hbx)
  all_goals
    obtain ⟨k0, M0, TB0, g0, c0⟩ := HK.out
    obtain ⟨ho, hfd, hm, hpc, hn, hc⟩ := HO.out
    have kW := k0.below BW
    have MW := M0.below ((BW).drew)
    have TW := TB0.below ((BW).drew)
    have hzW := BW.size
    have hs6 := c0.s
    obtain ⟨sa, sc, hVs, _⟩ := (kW.ts j hj).2.slice
    have hsr := (kW.ts j hj).2
    rw [hVs] at hsr
    clear y0 y1 y2 y3 y4 z0 z1 z2 z3 z4
    obtain ⟨⟨y0, y1, y2, y3, y4⟩, yf0, yf1, yf2, yf3, yf4⟩ := five_cells kW.rn
    obtain ⟨⟨z0, z1, z2, z3, z4⟩, zf0, zf1, zf2, zf3, zf4⟩ := five_cells (kW.bd j hj)
    obtain ⟨⟨q0, q1⟩, _⟩ := two_cells rb
    rw [hVs] at z3
    rw [hpc] at z1
    have hDW : D j < W.heap.size := by omega
    have hbrW : br < W.heap.size := by omega
    have hbxW : bx < W.heap.size := rb.lt
    have HS2 : ∀ w', Below W.heap.size W w' → (w'.cell? ⟨br, 0, none⟩ = some (.slice ap ms.length cp) ∧ w'.cell? ⟨bx, 0, none⟩ = some (.int .i64 kk) ∧ w'.cell? ⟨bx, 1, none⟩ = some (.int .i64 a) ∧ w'.cell? ⟨D j, 3, none⟩ = some (.slice sa h.calls[j].stack.length sc)) := fun w' hb => ⟨cell_below hb y0, cell_below hb q0, cell_below hb q1, cell_below hb z3⟩
    have HE2 : Hid (∀ w4, Below W.heap.size W w4 → stepH ms h = { h with code := 2 } → ((w4.cell? ⟨br, 4, none⟩ = some (.int .i64 h.code) ∧ w4.frozen? ⟨br, 4, none⟩ = false) ∧ LEnd B bl br (.slice ap ms.length cp) (LOwn bl br vcs vsd C D T h.calls.length) w (stepH ms h) (w4.setCell ⟨br, 4, none⟩ (.int .i64 2)))) := fun w4 hb e => by
      have k4 := kW.below hb
      refine ⟨⟨(five_cells k4.rn).1.2.2.2.2, (five_cells k4.rn).2.2.2.2.2⟩, ?_⟩
      rw [e]
      exact LEnd.first (BW.trans (hb.mono hzW)) hB ⟨_, _, _, _, _, k4.num (h' := { h with code := 2 }) (i := 4) (x := 2) rfl rfl rfl (five_set4 k4.rn (.int .i64 2)), LGo.set (p := ⟨br, 4, none⟩) ⟨.run, trivial, rfl⟩ (k0.lo .run trivial br rfl).1 _⟩
    cases fd
    · have hlp : ms[m].2.2.length ≤ pc := by simpa using hfd
      have e0 : ms[m].2.2.getD pc (0, 0) = (0, 0) := by rw [List.getD_eq_getElem?_getD, List.getElem?_eq_none hlp]; rfl
      rw [e0] at ho
      injection ho with ek ea
      have HR2 : Hid (stepH ms h = { h with code := 2 }) := stepH_past hn hj hm hpc hml hlp
      have HTKH : Hid (Calls Tryz.prog 67 #[.agg #[.slice ap ms.length cp], .agg #[.int .i64 kk, .int .i64 a], .slice sa h.calls[j].stack.length sc] W.drew fun e w' => ∃ v', e = .returned (.tuple #[v', .bool true]) ∧ PairRow W.drew.heap.size w' v' (h.calls[j].stack.drop h.calls[j].stack.length) ∧ Below W.drew.heap.size W.drew w') := by
        rw [← ek, ← ea]
        exact takenBy_yes (B := B) (.slice ap ms.length cp) ms g0.head.p 0 0 0 0 (by rw [takes_num (by decide)]; rfl) sa sc h.calls[j].stack W.drew MW TW hsr hs6 (L := h.calls[j].stack.length) (by omega) (by omega) (by rw [List.drop_length]; rfl)
      clear k0 M0 TB0 g0 c0 kW MW TW hsr HK HO ek ea e0 hlp hm hpc hn hc hVs hfd y1 y2 y3 y4 z0 z1 z2 z4 hs6
      go_upto_region 2 with fail
      go_region_held3 (fun w' => w'.cell? ⟨br, 0, none⟩ = some (.slice ap ms.length cp) ∧ w'.cell? ⟨bx, 0, none⟩ = some (.int .i64 kk) ∧ w'.cell? ⟨bx, 1, none⟩ = some (.int .i64 a) ∧ w'.cell? ⟨D j, 3, none⟩ = some (.slice sa h.calls[j].stack.length sc))
        ((refine HS2 _ ?_; first | (with_reducible exact (Below.refl _ _).drew) | (with_reducible exact hB4) | (with_reducible exact Below.refl _ _)))
        (first | (go_at_call 67; refine HTKH.out.mono ?_; rintro e w4 ⟨v4, rfl, hr4, hb4⟩; have hB4 : Below W.heap.size W w4 := (Below.refl _ _).drew.trans hb4))
      all_goals
        obtain ⟨⟨v0, vf0⟩, hE⟩ := HE2.out _ hB4 HR2.out
        go_wp2
        exact bodyPost_ret (results_none rfl _ _ _) rfl ⟨rfl, hE⟩
    · have hpl : pc < ms[m].2.2.length := by simpa using hfd
      rw [getD_at hpl] at ho
      obtain ⟨t, l, ht⟩ : ∃ t l, takesOf ms kk a = (t, l) := ⟨_, _, rfl⟩
      have HTB := takes_bound g0.head.p kk a
      rw [ht] at HTB
      simp only [] at HTB
      by_cases hbad : ((h.calls[j].stack.length : Int) - t < 0 ∨ 6 < (h.calls[j].stack.length : Int) - t + l) ∨ kindsOk kk (h.calls[j].stack.drop ((h.calls[j].stack.length : Int) - t).toNat) = false
      · have HTKH : Hid (Calls Tryz.prog 67 #[.agg #[.slice ap ms.length cp], .agg #[.int .i64 kk, .int .i64 a], .slice sa h.calls[j].stack.length sc] W.drew fun e w' => e = .returned (.tuple #[.slice none 0 0, .bool false]) ∧ Below W.drew.heap.size W.drew w') := takenBy_no (B := B) (.slice ap ms.length cp) ms g0.head.p kk a t l ht sa sc h.calls[j].stack W.drew MW TW hsr hs6 hbad
        have HR2 : Hid (stepH ms h = { h with code := 2 }) := by
          show _ = _
          rw [stepH_at hn hj hm hpc hml hpl ho ht]
          by_cases q : (h.calls[j].stack.length : Int) - t < 0 ∨ 6 < (h.calls[j].stack.length : Int) - t + l
          · rw [if_pos q]
          · rw [if_neg q]
            rcases hbad with hb | hb
            · exact absurd hb q
            · rw [if_pos hb]
        clear k0 M0 TB0 g0 c0 kW MW TW hsr HK HO ho ht HTB hbad hpl hm hpc hn hc hVs hfd y1 y2 y3 y4 z0 z1 z2 z4 hs6
        go_upto_region 2 with fail
        go_region_held3 (fun w' => w'.cell? ⟨br, 0, none⟩ = some (.slice ap ms.length cp) ∧ w'.cell? ⟨bx, 0, none⟩ = some (.int .i64 kk) ∧ w'.cell? ⟨bx, 1, none⟩ = some (.int .i64 a) ∧ w'.cell? ⟨D j, 3, none⟩ = some (.slice sa h.calls[j].stack.length sc))
          ((refine HS2 _ ?_; first | (with_reducible exact (Below.refl _ _).drew) | (with_reducible exact hB4) | (with_reducible exact Below.refl _ _)))
          (first | (go_at_call 67; refine HTKH.out.mono ?_; rintro e w4 ⟨rfl, hb4⟩; have hB4 : Below W.heap.size W w4 := (Below.refl _ _).drew.trans hb4))
        all_goals
          obtain ⟨⟨v0, vf0⟩, hE⟩ := HE2.out _ hB4 HR2.out
          go_wp2
          exact bodyPost_ret (results_none rfl _ _ _) rfl ⟨rfl, hE⟩
      · obtain ⟨hb2, hkb⟩ := not_or.1 hbad
        have hkb2 : kindsOk kk (h.calls[j].stack.drop ((h.calls[j].stack.length : Int) - t).toNat) = true := by simpa using hkb
        obtain ⟨L, hL⟩ : ∃ L : Nat, (h.calls[j].stack.length : Int) - t = (L : Int) := ⟨((h.calls[j].stack.length : Int) - t).toNat, by omega⟩
        have hLn : L ≤ h.calls[j].stack.length := by omega
        have d0 := doing_at g0 hc hn hj hm hpc hml hpl ho ht hb2 hkb2
        have HSE : Hid (stepH ms h = doH ms { h with calls := h.calls.set j { h.calls[j] with stack := h.calls[j].stack.take L, pc := (pc : Int) + 1 } } kk a (h.calls[j].stack.drop L)) := by
          show _ = _
          rw [stepH_at hn hj hm hpc hml hpl ho ht, if_neg hb2, hL, Int.toNat_natCast]
          rw [hL, Int.toNat_natCast] at hkb2
          rw [if_neg (by rw [hkb2]; decide)]
        rw [hL, Int.toNat_natCast] at hkb2 d0
        have HTKH : Hid (Calls Tryz.prog 67 #[.agg #[.slice ap ms.length cp], .agg #[.int .i64 kk, .int .i64 a], .slice sa h.calls[j].stack.length sc] W.drew fun e w' => ∃ v', e = .returned (.tuple #[v', .bool true]) ∧ PairRow W.drew.heap.size w' v' (h.calls[j].stack.drop L) ∧ Below W.drew.heap.size W.drew w') := takenBy_yes (B := B) (.slice ap ms.length cp) ms g0.head.p kk a t l ht sa sc h.calls[j].stack W.drew MW TW hsr hs6 hL (by omega) hkb2
        have hDRl : (h.calls[j].stack.drop L).length = h.calls[j].stack.length - L := by simp
        have hsc : L ≤ sc := (hsr.piece (l := 0) (k := L) (Nat.zero_le _) hLn).2
        have hto : ∀ W, (Instr.slice 27 (.slice sa h.calls[j].stack.length sc) none (some (.int .i64 (L : Int))) none).run Tryz.prog W = .ok (.slice sa L sc) W := fun W => by rw [← sliced_zero sa L sc]; exact val_to W sa _ sc L hsc
        have HD : Hid (Doing ms { h with calls := h.calls.set j { h.calls[j] with stack := h.calls[j].stack.take L, pc := (pc : Int) + 1 } } j kk a (h.calls[j].stack.drop L)) := d0
        have HN : Hid (pc + 1 ≤ 14 ∧ 1 ≤ kk ∧ kk ≤ 18) := ⟨by have := (prog_meth g0.head.p hml).few; omega, d0.kind⟩
        have HKW : Hid (LV B W bl br (.slice ap ms.length cp) vcs vsd C D T h ∧ MethsAt W (.slice ap ms.length cp) ms ∧ (T j).2 = .slice sa h.calls[j].stack.length sc ∧ h.calls[j].pc = pc) := ⟨kW, M0.below BW, hVs, hpc⟩
        generalize hDR : h.calls[j].stack.drop L = DR at *
        have hwl : IntKind.i64.wrap ((h.calls[j].stack.length : Int) - (DR.length : Int)) = (L : Int) := by rw [IntKind.wrap_i64]; omega
        clear k0 M0 TB0 g0 c0 kW MW TW hsr HK HO ho ht HTB hbad hpl hm hpc hn hc hVs hfd hkb hkb2 hb2 d0 hDR hsc hDRl
        go_upto_region 2 with fail
        go_region_held3 (fun w' => w'.cell? ⟨br, 0, none⟩ = some (.slice ap ms.length cp) ∧ w'.cell? ⟨bx, 0, none⟩ = some (.int .i64 kk) ∧ w'.cell? ⟨bx, 1, none⟩ = some (.int .i64 a) ∧ w'.cell? ⟨D j, 3, none⟩ = some (.slice sa h.calls[j].stack.length sc))
          ((refine HS2 _ ?_; first | (with_reducible exact (Below.refl _ _).drew) | (with_reducible exact hB4) | (with_reducible exact Below.refl _ _)))
          (first | (go_at_call 67; refine HTKH.out.mono ?_; rintro e w4 ⟨v4, rfl, hr4, hb4⟩; have hB4 : Below W.heap.size W w4 := (Below.refl _ _).drew.trans hb4; obtain ⟨a4, c4, hv4, _⟩ := hr4.slice; subst hv4))
        all_goals
          obtain ⟨kW, MW, hVs, hpc⟩ := HKW.out
          have k4 := kW.below hB4
          have hz4 := hB4.size
          clear y0 y1 y2 y3 y4 yf0 yf1 yf2 yf3 yf4 z0 z1 z2 z3 z4 zf0 zf1 zf2 zf3 zf4 q0 q1 HS2
          obtain ⟨⟨z0, z1, z2, z3, z4⟩, zf0, zf1, zf2, zf3, zf4⟩ := five_cells (k4.bd j hj)
          rw [hVs] at z3
          rw [hpc] at z1
          have hD4 : D j < w4.heap.size := by omega
          have hB44 : B ≤ w4.heap.size := by omega
          obtain ⟨k5, g5⟩ := k4.cut hj hB44 hVs hLn
          have hj5 : j < (h.calls.set j { h.calls[j] with stack := h.calls[j].stack.take L }).length := by simpa using hj
          obtain ⟨k6, g6⟩ := k5.pc hj5 ((pc : Int) + 1)
          simp only [List.getElem_set_self, List.set_set, List.length_set] at k6 g6
          have hwp : IntKind.i64.wrap ((pc : Int) + 1) = (pc : Int) + 1 := by rw [IntKind.wrap_i64]; have := HN.out.1; omega
          clear k5
          go_wp2_with fail
          go_region
          go_upto_region 7 with fail
          have hne : bx ≠ D j := by omega
          have rb7 : (((w4.setCell ⟨D j, 3, none⟩ (.slice sa L sc)).setCell ⟨D j, 1, none⟩ (.int .i64 ((pc : Int) + 1))).drew).rowIs bx 35 2 (two (.int .i64 kk) (.int .i64 a)) := ((row_below hB4 rb).of_block (Below.heap_setCell _ _ _ _ hne)).of_block (Below.heap_setCell _ _ _ _ hne)
          have k7 := k6.below ((Below.refl _ _).drew)
          have t4 : Tk (LOwn bl br vcs vsd C D T h.calls.length) w4 (.slice a4 DR.length c4) DR := Tk.new (b := W.heap.size) hr4 (fun g ⟨x, hx, e⟩ => (kW.lo x hx g e).2)
          have t6 := t4.go (g5.trans g6)
          have g7 := (LGo.of_below (P := LOwn bl br vcs vsd C D T h.calls.length) hB (BW.trans (hB4.mono hzW))).trans (g5.trans g6)
          have E7 := HENV.out.go g7.b
          have hb7 : B ≤ ((w4.setCell ⟨D j, 3, none⟩ (.slice sa L sc)).setCell ⟨D j, 1, none⟩ (.int .i64 ((pc : Int) + 1))).heap.size := by simp [World.setCell]; omega
          have hnb : ¬ LOwn bl br vcs vsd C D T h.calls.length bx := fun ⟨x, hx, e⟩ => by have := (HK0.out.lo x hx bx e).2; omega
          have hnb7 : ¬ LOwn bl br vcs vsd C D (putV (putV T j ((T j).1, .slice sa L sc)) j ((putV T j ((T j).1, .slice sa L sc) j).1, (putV T j ((T j).1, .slice sa L sc) j).2)) h.calls.length bx := fun e => by
            rcases (g5.trans g6).own bx e with q | q
            · exact hnb q
            · omega
          clear k4 k6 g5 g6 t4 kW MW
          generalize putV (putV T j ((T j).1, .slice sa L sc)) j ((putV T j ((T j).1, .slice sa L sc) j).1, (putV T j ((T j).1, .slice sa L sc) j).2) = T7 at *
          generalize (w4.setCell ⟨D j, 3, none⟩ (.slice sa L sc)).setCell ⟨D j, 1, none⟩ (.int .i64 ((pc : Int) + 1)) = W6 at *
          have hl7 : (h.calls.set j { h.calls[j] with stack := h.calls[j].stack.take L, pc := (pc : Int) + 1 }).length = h.calls.length := List.length_set
          have t7 : Tk (LOwn bl br vcs vsd C D T7 (h.calls.set j { h.calls[j] with stack := h.calls[j].stack.take L, pc := (pc : Int) + 1 }).length) W6.drew (.slice a4 DR.length c4) DR := by
            rw [hl7]
            exact ⟨t6.at_.below (Below.refl _ _).drew, t6.off⟩
          have hbx6 : bx < W6.drew.heap.size := rb7.lt
          obtain ⟨K, hK, HDo⟩ := doProg_any (h := { h with calls := h.calls.set j { h.calls[j] with stack := h.calls[j].stack.take L, pc := (pc : Int) + 1 } }) k7 hb7 (E7.meths.below (Below.refl _ _).drew) hsl t7 HD.out
          have hidx := index_doers HN.out.2 hK
          have hcall := enter_doers HN.out.2 hK
          have HFIN : Hid (∀ W, Below W6.drew.heap.size W6.drew W → Calls Tryz.prog K #[.pointer (some ⟨br, 0, none⟩), .int .i64 a, .slice a4 DR.length c4] W fun e w' => e = .returned (.tuple #[]) ∧ w'.heap[bx]? = W6.drew.heap[bx]? ∧ LEnd B bl br (.slice ap ms.length cp) (LOwn bl br vcs vsd C D T h.calls.length) w (stepH ms h) w') := fun W hbW => by
            refine (HDo W hbW).mono ?_
            rintro e w9 ⟨h1, h2⟩
            simp only [hl7] at h2
            refine ⟨h1, h2.stays hbx6 hnb7, ?_⟩
            obtain ⟨a1, a2, a3, a4', a5, a6, a7⟩ := h2
            rw [HSE.out]
            exact ⟨a1, a2, a3, a4', a5, a6, g7.trans ((LGo.of_below (P := LOwn bl br vcs vsd C D T7 h.calls.length) hb7 (Below.refl _ _).drew).trans a7)⟩
          have HS7 : ∀ w' : World, w'.heap[bx]? = W6.drew.heap[bx]? → (w'.cell? ⟨bx, 0, none⟩ = some (.int .i64 kk) ∧ w'.cell? ⟨bx, 1, none⟩ = some (.int .i64 a)) := fun w' hb => (two_cells (rb7.of_block hb)).1
          clear k7 t7 t6 g7 E7 HDo hK HD HSE HTKH HKW HE2 HN hto hwl hwp hr4 hB4 hb4 rb z0 z1 z2 z3 z4 zf0 zf1 zf2 zf3 zf4
          go_region_held3 (fun w' => w'.cell? ⟨bx, 0, none⟩ = some (.int .i64 kk) ∧ w'.cell? ⟨bx, 1, none⟩ = some (.int .i64 a))
            ((refine HS7 _ ?_; first | (with_reducible exact rfl) | (with_reducible exact hk9) | (with_reducible exact hB8.block _ hbx6) | rfl))
            (first
              | (go_at_call 68; refine (doings_any _).mono ?_; rintro e w8 ⟨rfl, hb8⟩; have hB8 : Below W6.drew.heap.size W6.drew w8 := (Below.refl _ _).drew.trans hb8)
              | (refine (HFIN.out _ hB8).mono ?_; rintro e w9 ⟨rfl, hk9, hE⟩))
          all_goals exact bodyPost_end (results_none rfl _ _ _) rfl ⟨rfl, hE⟩
end Go.Proofs.YtlpbklgkafjfmaaGreatDoor

/-
  The program's heap at work: many steps.
-/
namespace Go.Proofs.YtlpbklgkafjfmaaGreatDoor
open Go.RowKit
variable {B : Nat} {w w' : World} {bl br : Nat} {vp vcs vsd : Value} {C D : Nat → Nat} {T : Nat → Value × Value} {h h' : Hp}
set_option maxRecDepth 100000 in
set_option maxHeartbeats 4000000 in
theorem stepsProg_any (k : LV B w bl br vp vcs vsd C D T h) (hB : B ≤ w.heap.size) {ms : Ms} (hEnv : LEnv B w vp ms) (g : Good ms h) (n : Nat) (hsl : h.said.length + n ≤ 2900000) :
    Calls Tryz.prog 33 #[.pointer (some ⟨br, 0, none⟩), .int .i64 n] w fun e w' => e = .returned (.tuple #[]) ∧ LEnd B bl br vp (LOwn bl br vcs vsd C D T h.calls.length) w (runH ms n h) w' := by
  have HK : Hid (LEnv B w vp ms ∧ Good ms h) := ⟨hEnv, g⟩
  have HL : Hid (LEnd B bl br vp (LOwn bl br vcs vsd C D T h.calls.length) w (runH ms 0 h) w) := ⟨_, _, _, _, _, k, LGo.refl _ _ _⟩
  clear k hEnv g
  go_enter Tryz.func33, Tryz.ntmps33
  go_wp2
  go_loopg [4] n (fun gm i wr => ∃ q : Nat, q ≤ n ∧ gm = n - q ∧ i = .int .i64 q ∧ LEnd B bl br vp (LOwn bl br vcs vsd C D T h.calls.length) w (runH ms q h) wr)
  case atStart => exact ⟨0, Nat.zero_le _, rfl, rfl, HL.out⟩
  case round =>
    obtain ⟨q, hq, rfl, rfl, hE⟩ := hrel
    obtain ⟨vcs', vsd', C', D', T', k', g'⟩ := hE
    have gq := Good.run q h HK.out.2
    have hzr := g'.b.size
    obtain ⟨⟨_, _, _, _, y4⟩, _⟩ := five_cells k'.rn
    by_cases hlt : q < n
    · have hqz : (q : Int) < (n : Int) := by omega
      by_cases hc : (runH ms q h).code = 0
      · have HS := stepProg_any k' (by omega) (HK.out.1.go g'.b) gq hc (by have := said_run ms q h; omega)
        have HQ : Hid (∀ w2, LEnd B bl br vp (LOwn bl br vcs' vsd' C' D' T' (runH ms q h).calls.length) wr (stepH ms (runH ms q h)) w2 → LEnd B bl br vp (LOwn bl br vcs vsd C D T h.calls.length) w (runH ms (q + 1) h) w2) := fun w2 hE2 => by
          obtain ⟨a1, a2, a3, a4, a5, a6, a7⟩ := hE2
          rw [run_snoc ms q h hc]
          exact ⟨a1, a2, a3, a4, a5, a6, g'.trans a7⟩
        rw [hc] at y4
        clear k' gq hc g'
        go_wp2_with (go_at_call 53; refine HS.mono ?_; rintro e w2 ⟨rfl, hE2⟩)
        go_roundg (n - (q + 1))
        case measure => omega
        case rel => exact ⟨q + 1, by omega, rfl, by go_num, HQ.out _ hE2⟩
      · have hc' : ((runH ms q h).code == 0) = false := beq_eq_false_iff_ne.2 hc
        have HF : Hid (LEnd B bl br vp (LOwn bl br vcs vsd C D T h.calls.length) w (runH ms n h) wr) := by
          show LEnd _ _ _ _ _ _ _ _
          rw [run_stay ms n q h hq hc]
          exact ⟨_, _, _, _, _, k', g'⟩
        clear k' gq hc g'
        go_wp2
        exact bodyPost_end (results_none rfl _ _ _) rfl ⟨rfl, HF.out⟩
    · obtain rfl : q = n := by omega
      have HF : Hid (LEnd B bl br vp (LOwn bl br vcs vsd C D T h.calls.length) w (runH ms q h) wr) := ⟨_, _, _, _, _, k', g'⟩
      clear k' gq g'
      go_wp2
      exact bodyPost_end (results_none rfl _ _ _) rfl ⟨rfl, HF.out⟩
end Go.Proofs.YtlpbklgkafjfmaaGreatDoor

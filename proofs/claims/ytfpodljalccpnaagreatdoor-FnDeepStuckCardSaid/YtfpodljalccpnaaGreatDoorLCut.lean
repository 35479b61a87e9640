/-
  The program's heap at work: an operation is done, whichever it is.
-/
import Derived.Test.YtfpodljalccpnaaGreatDoorLWalk16
import Derived.Test.YtfpodljalccpnaaGreatDoorLStep4
import Derived.Test.YtfpodljalccpnaaGreatDoorVImpl

namespace Go.Proofs.YtfpodljalccpnaaGreatDoor
open Go.RowKit
variable {B : Nat} {w w' : World} {bl br : Nat} {vp vcs vsd : Value} {C D : Nat → Nat} {T : Nat → Value × Value} {h h' : Hp}
theorem kinds18L {k : Int} (h : 1 ≤ k ∧ k ≤ 18) : k = 1 ∨ k = 2 ∨ k = 3 ∨ k = 4 ∨ k = 5 ∨ k = 6 ∨ k = 7 ∨ k = 8 ∨ k = 9 ∨ k = 10 ∨ k = 11 ∨ k = 12 ∨ k = 13 ∨ k = 14 ∨ k = 15 ∨ k = 16 ∨ k = 17 ∨ k = 18 := by omega
theorem valOk_number {n a : Int} (h : valOk n 1 a = true) : 0 ≤ a ∧ a ≤ 999 := by
  unfold valOk at h
  rw [if_neg (by decide), if_pos rfl, inR_true] at h
  exact h
theorem valOk_zero {n a : Int} (h : valOk n 0 a = true) : a = 0 := by
  unfold valOk at h
  rw [if_pos rfl, beq_iff_eq] at h
  exact h
theorem Doing.len {ms : Ms} {j : Nat} {k a : Int} {args : List (Int × Int)} (d : Doing ms h j k a args) (h9 : k ≠ 9) : (args.length : Int) = tk k := by
  have := d.takes
  rw [takes_num h9] at this
  exact this
theorem Doing.temp {ms : Ms} {j : Nat} {k a : Int} {args : List (Int × Int)} (d : Doing ms h j k a args) (hk : k = 2 ∨ k = 3) : 0 ≤ a ∧ a < ((h.calls[j]'d.lt).temps.length : Int) := by
  obtain ⟨m, hm, hcm, hop⟩ := d.op
  unfold opOk at hop
  rw [if_neg (by omega), if_pos hk, inR_true] at hop
  have ht := (d.g.cl j d.lt).t
  rw [hcm, Int.toNat_natCast, getD_at hm] at ht
  omega
theorem Doing.peek {ms : Ms} {j : Nat} {k a : Int} {args : List (Int × Int)} (d : Doing ms h j k a args) (hk : k = 13 ∨ k = 14) : 0 ≤ a := by
  obtain ⟨m, hm, hcm, hop⟩ := d.op
  unfold opOk at hop
  rw [if_neg (by omega), if_neg (by omega), if_neg (by omega), if_neg (by omega), if_pos hk, inR_true] at hop
  omega
theorem Doing.meth {ms : Ms} {j : Nat} {a : Int} {args : List (Int × Int)} (d : Doing ms h j 9 a args) : 0 ≤ a ∧ a < (ms.length : Int) := by
  obtain ⟨m, hm, hcm, hop⟩ := d.op
  unfold opOk at hop
  rw [if_neg (by decide), if_neg (by decide), if_neg (by decide), if_pos rfl, inR_true] at hop
  omega
theorem Doing.backs {ms : Ms} {j : Nat} {a : Int} {args : List (Int × Int)} (d : Doing ms h j 15 a args) {i : Nat} (hi : i < h.calls.length) (hd : h.calls[i].dead = false) : (∃ l, Waits h.calls h.now l ∧ i ∈ l ∧ l.length ≤ h.calls.length) ∧ (backTo h.calls.length h i).now = (i : Int) ∧ (backTo h.calls.length h i).calls.length = h.calls.length ∧ ∀ hb : i < (backTo h.calls.length h i).calls.length, (backTo h.calls.length h i).calls[i].stack.length ≤ 1000 := by
  obtain ⟨l, hw⟩ := d.g.w
  have hbl : i ∈ l := hw.all _ hi hd
  have h6 : ∀ hb : i < h.calls.length, h.calls[i].stack.length < 6 := fun hb => by
    have hw2 := hw
    rw [d.now] at hw2
    obtain ⟨_, t, rfl, _⟩ := hw2.head
    rcases List.mem_cons.1 hbl with q | q
    · have := d.free (by rw [takes_num (by decide)]; rfl)
      simp only [q]
      exact this
    · exact hw.room _ (by simpa using q) hb
  obtain ⟨r1, _, r3, r4, r5⟩ := Good.back h.calls.length h _ l d.g d.code hw hbl hw.len h6
  exact ⟨⟨l, hw, hbl, hw.len⟩, r3, r4, fun hb => by have := (r5 hb).1; omega⟩
set_option maxRecDepth 100000 in
set_option maxHeartbeats 1000000 in
theorem doProg_any (k : LV B w bl br vp vcs vsd C D T h) (hB : B ≤ w.heap.size) {ms : Ms} (hM : MethsAt w vp ms) (hsl : h.said.length ≤ 2900000) {j : Nat} {kk a : Int} {vt : Value} {args : List (Int × Int)} (t : Tk (LOwn bl br vcs vsd C D T h.calls.length) w vt args) (d : Doing ms h j kk a args) :
    ∃ K, doers[kk.toNat]? = some (.func (.func K) #[] #[]) ∧ ∀ W, Below w.heap.size w W → Calls Tryz.prog K #[.pointer (some ⟨br, 0, none⟩), .int .i64 a, vt] W fun e w' => e = .returned (.tuple #[]) ∧ LEnd B bl br vp (LOwn bl br vcs vsd C D T h.calls.length) w (doH ms h kk a args) w' := by
  have hn := d.now
  have hj := d.lt
  have c := d.g.cl j hj
  have hst : h.calls[j].stack.length ≤ 1000 := by have := c.s; omega
  have hT : ∀ {W : World}, Below w.heap.size w W → Tk (LOwn bl br vcs vsd C D T h.calls.length) W vt args := fun hb => t.go (B := w.heap.size) (P' := LOwn bl br vcs vsd C D T h.calls.length) ⟨hb, fun g hg _ => hb.block g hg, fun _ e => .inl e⟩
  have hBW : ∀ {W : World}, Below w.heap.size w W → B ≤ W.heap.size := fun hb => by have := hb.size; omega
  have fin : ∀ {K : Nat} {W : World} {h2 : Hp}, Below w.heap.size w W → doH ms h kk a args = h2 → (Calls Tryz.prog K #[.pointer (some ⟨br, 0, none⟩), .int .i64 a, vt] W fun e w' => e = .returned (.tuple #[]) ∧ LEnd B bl br vp (LOwn bl br vcs vsd C D T h.calls.length) W h2 w') → Calls Tryz.prog K #[.pointer (some ⟨br, 0, none⟩), .int .i64 a, vt] W fun e w' => e = .returned (.tuple #[]) ∧ LEnd B bl br vp (LOwn bl br vcs vsd C D T h.calls.length) w (doH ms h kk a args) w' := fun hb he hc => by
    refine hc.mono ?_
    rintro e w' ⟨h1, h2⟩
    rw [he]
    exact ⟨h1, LEnd.first hb hB h2⟩
  rcases kinds18L d.kind with e | e | e | e | e | e | e | e | e | e | e | e | e | e | e | e | e | e
  · subst e
    exact ⟨_, rfl, fun W hb => fin hb rfl (doNum_any (k.below hb) hn hj (hBW hb) hst a vt)⟩
  · subst e
    obtain ⟨h0, h1⟩ := d.temp (.inl rfl)
    obtain ⟨q, rfl⟩ := Int.eq_ofNat_of_zero_le h0
    have hq : q < h.calls[j].temps.length := by omega
    refine ⟨_, rfl, fun W hb => fin hb ?_ (doTemp_any (k.below hb) hn hj (hBW hb) hst q hq vt)⟩
    show pushH h ((curC h).temps.getD (q : Int).toNat (0, 0)) = _
    rw [cur_at hn hj, Int.toNat_natCast, getD_at hq]
  · subst e
    have hl := d.len (by decide)
    have h0l : 0 < args.length := by have : tk 3 = 1 := rfl; omega
    obtain ⟨h0, h1⟩ := d.temp (.inr rfl)
    obtain ⟨q, rfl⟩ := Int.eq_ofNat_of_zero_le h0
    have hq : q < h.calls[j].temps.length := by omega
    refine ⟨_, rfl, fun W hb => fin hb ?_ (doSet_any (k.below hb) hn hj (hBW hb) (hT hb) h0l q hq)⟩
    show setH h { curC h with temps := (curC h).temps.set (q : Int).toNat (args.getD 0 (0, 0)) } = _
    rw [Int.toNat_natCast, getD_at h0l]
  · subst e
    exact ⟨_, rfl, fun W hb => fin hb rfl (doDrop_any (k.below hb) a vt)⟩
  · subst e
    have hl := d.len (by decide)
    have h1l : 1 < args.length := by have : tk 5 = 2 := rfl; omega
    have h0l : 0 < args.length := by omega
    have hk := d.kinds
    simp only [kindsOk, if_true, Bool.and_eq_true, beq_iff_eq] at hk
    rw [getD_at h0l, getD_at h1l] at hk
    have hx := d.first 0
    have hy := d.first 1
    rw [getD_at h0l, hk.1] at hx
    rw [getD_at h1l, hk.2] at hy
    refine ⟨_, rfl, fun W hb => fin hb ?_ (doAdd_any (k.below hb) hn hj (hBW hb) hst a (hT hb) h1l (valOk_number hx) (valOk_number hy))⟩
    show pushH h (1, ((args.getD 0 (0, 0)).2 + (args.getD 1 (0, 0)).2) % 1000) = _
    rw [getD_at h0l, getD_at h1l]
  · subst e
    have hl := d.len (by decide)
    have h1l : 1 < args.length := by have : tk 6 = 2 := rfl; omega
    have h0l : 0 < args.length := by omega
    refine ⟨_, rfl, fun W hb => fin hb ?_ (doSame_any (k.below hb) hn hj (hBW hb) hst a (hT hb) h1l)⟩
    show pushH h (bitV (decide (args.getD 0 (0, 0) = args.getD 1 (0, 0)))) = _
    rw [getD_at h0l, getD_at h1l]
  · subst e
    exact ⟨_, rfl, fun W hb => fin hb rfl (doJump_any (k.below hb) hn hj a vt)⟩
  · subst e
    have hl := d.len (by decide)
    have h0l : 0 < args.length := by have : tk 8 = 1 := rfl; omega
    have hx := d.first 0
    rw [getD_at h0l] at hx
    refine ⟨_, rfl, fun W hb => fin hb ?_ (doZero_any (k.below hb) hn hj (hBW hb) a (hT hb) h0l)⟩
    show (if (args.getD 0 (0, 0)).1 = 0 ∨ args.getD 0 (0, 0) = (1, 0) then setH h { curC h with pc := a } else h) = _
    rw [getD_at h0l]
    generalize args[0] = x at *
    obtain ⟨x1, x2⟩ := x
    simp only at hx ⊢
    have e : (x1 = 0 ∨ (x1, x2) = (1, 0)) ↔ (x2 = 0 ∧ (x1 = 0 ∨ x1 = 1)) := by
      rw [Prod.mk.injEq]
      constructor
      · rintro (q | ⟨q1, q2⟩)
        · subst q; exact ⟨valOk_zero hx, .inl rfl⟩
        · exact ⟨q2, .inr q1⟩
      · rintro ⟨q1, q2 | q2⟩
        · exact .inl q2
        · exact .inr ⟨q2, q1⟩
    by_cases q : x2 = 0 ∧ (x1 = 0 ∨ x1 = 1)
    · rw [if_pos (e.2 q), if_pos q]
    · rw [if_neg (fun z => q (e.1 z)), if_neg q]
  · subst e
    obtain ⟨h0, h1⟩ := d.meth
    obtain ⟨q, rfl⟩ := Int.eq_ofNat_of_zero_le h0
    have hq : q < ms.length := by omega
    have htk := d.takes
    rw [takesOf_call hq] at htk
    have hmp := prog_meth d.g.head.p hq
    have hbn := d.g.head.born
    have hfw := d.g.head.few
    exact ⟨_, rfl, fun W hb => fin hb rfl (doCall_any (k.below hb) (hBW hb) (hM.below hb) q hq (hT hb) htk ⟨hmp.temps.1, hmp.temps.2⟩ d.g.head.now.2 (fun i hi => (d.g.cl i hi).sd.2) (by omega) ⟨by omega, by omega⟩)⟩
  · subst e
    have hl := d.len (by decide)
    have h0l : 0 < args.length := by have : tk 10 = 1 := rfl; omega
    have hx := d.first 0
    rw [getD_at h0l] at hx
    refine ⟨_, rfl, fun W hb => fin hb ?_ (doRet_any (k.below hb) hn hj (hBW hb) hsl a (hT hb) h0l (fun q => by rw [q] at hx; exact valOk_ref' hx) c.sd.2 (fun i hi => by have := (d.g.cl i hi).s; omega))⟩
    show retH h (args.getD 0 (0, 0)) = _
    rw [getD_at h0l]
  · subst e
    exact ⟨_, rfl, fun W hb => fin hb rfl (doHere_any (k.below hb) hn hj (hBW hb) hst a vt)⟩
  · subst e
    have hl := d.len (by decide)
    have h0l : 0 < args.length := by have : tk 12 = 1 := rfl; omega
    obtain ⟨_, r0, r1⟩ := d.ref (by decide)
    rw [getD_at h0l] at r0 r1
    have hs := (d.g.cl _ r1).sd
    refine ⟨_, rfl, fun W hb => fin hb ?_ (doSender_any (k.below hb) hn hj (hBW hb) hst a (hT hb) h0l r1 (by omega) hs.2 hs.1)⟩
    show pushH h (lookV h 12 a (args.getD 0 (0, 0)).2.toNat) = _
    rw [getD_at h0l]
    unfold lookV
    simp only [if_true]
    rw [getD_at r1]
  · subst e
    have hl := d.len (by decide)
    have h0l : 0 < args.length := by have : tk 13 = 1 := rfl; omega
    obtain ⟨_, r0, r1⟩ := d.ref (by decide)
    rw [getD_at h0l] at r0 r1
    obtain ⟨q, rfl⟩ := Int.eq_ofNat_of_zero_le (d.peek (.inl rfl))
    refine ⟨_, rfl, fun W hb => fin hb ?_ (doPeek_any (k.below hb) hn hj (hBW hb) hst q (hT hb) h0l r1 (by omega))⟩
    show pushH h (lookV h 13 q (args.getD 0 (0, 0)).2.toNat) = _
    rw [getD_at h0l]
    unfold lookV
    simp only []
    rw [if_neg (by decide), if_pos trivial, getD_at r1, Int.toNat_natCast]
  · subst e
    have hl := d.len (by decide)
    have h1l : 1 < args.length := by have : tk 14 = 2 := rfl; omega
    have h0l : 0 < args.length := by omega
    obtain ⟨_, r0, r1⟩ := d.ref (by decide)
    rw [getD_at h0l] at r0 r1
    obtain ⟨q, rfl⟩ := Int.eq_ofNat_of_zero_le (d.peek (.inr rfl))
    refine ⟨_, rfl, fun W hb => fin hb ?_ (doPoke_any (k.below hb) (hBW hb) q (hT hb) h1l r1 (by omega))⟩
    show pokeH h (args.getD 0 (0, 0)).2.toNat q (args.getD 1 (0, 0)) = _
    rw [getD_at h0l, getD_at h1l]
  · subst e
    have hl := d.len (by decide)
    have h1l : 1 < args.length := by have : tk 15 = 2 := rfl; omega
    have h0l : 0 < args.length := by omega
    obtain ⟨_, r0, r1⟩ := d.ref (by decide)
    rw [getD_at h0l] at r0 r1
    refine ⟨_, rfl, fun W hb => fin hb ?_ (doBack_any (k.below hb) (hBW hb) a (hT hb) h1l r1 (by omega) (fun q => d.backs r1 q))⟩
    show backH h (args.getD 0 (0, 0)).2.toNat (args.getD 1 (0, 0)) = _
    rw [getD_at h0l, getD_at h1l]
  · subst e
    have hl := d.len (by decide)
    have h0l : 0 < args.length := by have : tk 16 = 1 := rfl; omega
    have hx := d.first 0
    rw [getD_at h0l] at hx
    refine ⟨_, rfl, fun W hb => fin hb ?_ (doSay_any (k.below hb) (hBW hb) hsl a (hT hb) h0l (fun q => by rw [q] at hx; exact valOk_ref' hx))⟩
    show sayH h (args.getD 0 (0, 0)) = _
    rw [getD_at h0l]
  · subst e
    have hl := d.len (by decide)
    have h0l : 0 < args.length := by have : tk 17 = 1 := rfl; omega
    obtain ⟨_, r0, r1⟩ := d.ref (by decide)
    rw [getD_at h0l] at r0 r1
    refine ⟨_, rfl, fun W hb => fin hb ?_ (doDead_any (k.below hb) hn hj (hBW hb) hst a (hT hb) h0l r1 (by omega))⟩
    show pushH h (lookV h 17 a (args.getD 0 (0, 0)).2.toNat) = _
    rw [getD_at h0l]
    unfold lookV
    simp only []
    rw [if_neg (by decide), if_neg (by decide), if_pos trivial, getD_at r1]
  · subst e
    have hl := d.len (by decide)
    have h0l : 0 < args.length := by have : tk 18 = 1 := rfl; omega
    obtain ⟨_, r0, r1⟩ := d.ref (by decide)
    rw [getD_at h0l] at r0 r1
    refine ⟨_, rfl, fun W hb => fin hb ?_ (doWhere_any (k.below hb) hn hj (hBW hb) hst a (hT hb) h0l r1 (by omega))⟩
    show pushH h (lookV h 18 a (args.getD 0 (0, 0)).2.toNat) = _
    rw [getD_at h0l]
    unfold lookV
    simp only []
    rw [if_neg (by decide), if_neg (by decide), if_neg (by decide), getD_at r1]
end Go.Proofs.YtfpodljalccpnaaGreatDoor

/-
  The program's step: the values that are left, who is asked to do it.
-/
namespace Go.Proofs.YtfpodljalccpnaaGreatDoor
open Go.RowKit
variable {B : Nat} {w w' : World} {bl br : Nat} {vp vcs vsd : Value} {C D : Nat → Nat} {T : Nat → Value × Value} {h h' : Hp}
theorem sliced_zero (sa : Option Addr) (L sc : Nat) : sliced sa 0 L sc 2 = .slice sa L sc := by
  unfold sliced
  cases sa with
  | none => simp
  | some a => by_cases e : sc = 0 <;> simp [e, Addr.add]
theorem LV.cut (k : LV B w bl br vp vcs vsd C D T h) {j : Nat} (hj : j < h.calls.length) (hB : B ≤ w.heap.size) {sa : Option Addr} {n sc L : Nat} (hV : (T j).2 = .slice sa n sc) (hL : L ≤ h.calls[j].stack.length) :
    LV B (w.setCell ⟨D j, 3, none⟩ (.slice sa L sc)) bl br vp vcs vsd C D (putV T j ((T j).1, .slice sa L sc)) { h with calls := h.calls.set j { h.calls[j] with stack := h.calls[j].stack.take L } } ∧ LGo B (LOwn bl br vcs vsd C D T h.calls.length) (LOwn bl br vcs vsd C D (putV T j ((T j).1, .slice sa L sc)) h.calls.length) w (w.setCell ⟨D j, 3, none⟩ (.slice sa L sc)) := by
  have hr := (k.ts j hj).2
  rw [hV] at hr
  exact k.push hj hB (Nat.le_refl _) (Below.refl _ _) (fun _ _ _ => rfl) (hr.cutTo hL) (fun q e => .inl (by rw [hV]; rw [← e]; cases sa <;> rfl))
set_option maxRecDepth 100000 in
theorem index_doers {kk : Int} (hk : 1 ≤ kk ∧ kk ≤ 18) {v : Value} (hv : doers[kk.toNat]? = some v) (W : World) : (Instr.index 151 (.agg doers.toArray) (.int .i64 kk)).run Tryz.prog W = .ok v W := by
  rcases kinds18L hk with rfl | rfl | rfl | rfl | rfl | rfl | rfl | rfl | rfl | rfl | rfl | rfl | rfl | rfl | rfl | rfl | rfl | rfl
  all_goals
    obtain rfl : _ = v := Option.some.inj hv
    kernel_rfl
set_option maxRecDepth 100000 in
theorem enter_doers {kk : Int} (hk : 1 ≤ kk ∧ kk ≤ 18) {K : Nat} (hv : doers[kk.toNat]? = some (.func (.func K) #[] #[])) (args : Array Value) (W : World) : (callFunc K args).run Tryz.prog W = .ok (.enter K args) W := by
  rcases kinds18L hk with rfl | rfl | rfl | rfl | rfl | rfl | rfl | rfl | rfl | rfl | rfl | rfl | rfl | rfl | rfl | rfl | rfl | rfl
  · have e := Option.some.inj hv
    injection e with e1
    injection e1 with e2
    subst e2
    exact Tryz.call122 args W
  · have e := Option.some.inj hv
    injection e with e1
    injection e1 with e2
    subst e2
    exact Tryz.call123 args W
  · have e := Option.some.inj hv
    injection e with e1
    injection e1 with e2
    subst e2
    exact Tryz.call124 args W
  · have e := Option.some.inj hv
    injection e with e1
    injection e1 with e2
    subst e2
    exact Tryz.call125 args W
  · have e := Option.some.inj hv
    injection e with e1
    injection e1 with e2
    subst e2
    exact Tryz.call126 args W
  · have e := Option.some.inj hv
    injection e with e1
    injection e1 with e2
    subst e2
    exact Tryz.call127 args W
  · have e := Option.some.inj hv
    injection e with e1
    injection e1 with e2
    subst e2
    exact Tryz.call128 args W
  · have e := Option.some.inj hv
    injection e with e1
    injection e1 with e2
    subst e2
    exact Tryz.call129 args W
  · have e := Option.some.inj hv
    injection e with e1
    injection e1 with e2
    subst e2
    exact Tryz.call130 args W
  · have e := Option.some.inj hv
    injection e with e1
    injection e1 with e2
    subst e2
    exact Tryz.call131 args W
  · have e := Option.some.inj hv
    injection e with e1
    injection e1 with e2
    subst e2
    exact Tryz.call132 args W
  · have e := Option.some.inj hv
    injection e with e1
    injection e1 with e2
    subst e2
    exact Tryz.call133 args W
  · have e := Option.some.inj hv
    injection e with e1
    injection e1 with e2
    subst e2
    exact Tryz.call134 args W
  · have e := Option.some.inj hv
    injection e with e1
    injection e1 with e2
    subst e2
    exact Tryz.call135 args W
  · have e := Option.some.inj hv
    injection e with e1
    injection e1 with e2
    subst e2
    exact Tryz.call136 args W
  · have e := Option.some.inj hv
    injection e with e1
    injection e1 with e2
    subst e2
    exact Tryz.call137 args W
  · have e := Option.some.inj hv
    injection e with e1
    injection e1 with e2
    subst e2
    exact Tryz.call138 args W
  · have e := Option.some.inj hv
    injection e with e1
    injection e1 with e2
    subst e2
    exact Tryz.call139 args W
theorem Tk.new {P : Nat → Prop} {v : Value} {args : List (Int × Int)} {b : Nat} (hr : PairRow b w v args) (hP : ∀ g, P g → g < b) : Tk P w v args :=
  ⟨hr.at, fun g e => ⟨(hr.lt g e).2, fun hg => by have := (hr.lt g e).1; have := hP g hg; omega⟩⟩
def LEnv (B : Nat) (w : World) (vp : Value) (ms : Ms) : Prop := ∃ w0 : World, w0.heap.size = B ∧ Below B w0 w ∧ MethsAt w0 vp ms ∧ TabAt w0
theorem LEnv.meths {ms : Ms} (e : LEnv B w vp ms) : MethsAt w vp ms := by
  obtain ⟨w0, rfl, hb, hM, _⟩ := e
  exact hM.below hb
theorem LEnv.tab {ms : Ms} (e : LEnv B w vp ms) : TabAt w := by
  obtain ⟨w0, rfl, hb, _, hT⟩ := e
  exact hT.below hb
theorem LEnv.go {ms : Ms} (e : LEnv B w vp ms) (h : Below B w w') : LEnv B w' vp ms := by
  obtain ⟨w0, hz, hb, hM, hT⟩ := e
  exact ⟨w0, hz, hb.trans h, hM, hT⟩
theorem LEnd.stays {P : Nat → Prop} (e : LEnd B bl br vp P w h w') {g : Nat} (hg : g < w.heap.size) (hn : ¬ P g) : w'.heap[g]? = w.heap[g]? := by
  obtain ⟨_, _, _, _, _, _, k⟩ := e
  exact k.keep g hg hn
end Go.Proofs.YtfpodljalccpnaaGreatDoor

/-
  The calls that wait for one another: the chain, in plain words, and the document's model of it (l11Chain).
-/
import Derived.Test.YtldiccheboipeaaHSpecOk
import Derived.Test.YtldiccheboipeaaInts
import Derived.Deep.RegionWith
import Derived.Test.YtldiccheboipeaaLmHeap
import Derived.Test.YtldiccheboipeaaIntsM
import Derived.Test.YtldiccheboipeaaQB
import Derived.BigQuiet
import Derived.Deep.DeepCutAuto
import Derived.Deep.RegionHeld3

namespace Go.Proofs.Ytldiccheboipeaa
open Go.RowKit
def walkC (cs : List Cl) : Nat → Int → Option (List Nat)
  | 0, a => if a < 0 then some [] else none
  | f + 1, a => if a < 0 then some [] else if h : a.toNat < cs.length then (if cs[a.toNat].dead then none else (walkC cs f cs[a.toNat].sender).map (a.toNat :: ·)) else none
def chainOf (cs : List Cl) (now : Int) : List Nat := (walkC cs cs.length now).getD []
def nums (l : List Nat) : List Int := l.map fun (k : Nat) => (k : Int)
theorem nums_len (l : List Nat) : (nums l).length = l.length := by simp [nums]
theorem nums_snoc (l : List Nat) (k : Nat) : nums l ++ [(k : Int)] = nums (l ++ [k]) := by simp [nums]
theorem Try.infoInt2 : (Try.prog.info? 3).map (fun i => (i.zero, i.size, i.bytes)) = some (some (.int .i64 0), 1, 8) := by kernel_rfl
end Go.Proofs.Ytldiccheboipeaa

/-
  The document's model of HeapOk, the end of it: l11Wait.
-/
namespace Go.Proofs.Ytldiccheboipeaa
open Go.RowKit
def roomP (cs : List Cl) (ch : List Nat) : Bool := (ch.drop 1).all fun k => decide ((cs.getD k Cl.none).stack.length < 6)
end Go.Proofs.Ytldiccheboipeaa

/-
  The document's model of HeapOk, walked: it answers the plain function heapOk, and writes to nothing that was there.
-/
namespace Go.Proofs.Ytldiccheboipeaa
open Go.RowKit
def headOk (ms : List (Int × Int × List (Int × Int))) (h : Hp) : Bool :=
  progOk ms && inR h.now (-1) ((h.calls.length : Int) - 1) && inR h.born 1 30 && decide ((h.calls.length : Int) ≤ h.born) && inR h.code 0 3 && valsOk ms.length h.said && ((h.code == 1) == decide (h.now < 0))
def liveN (cs : List Cl) : Nat := (cs.filter fun c => !c.dead).length
def endOk (h : Hp) : Bool := (decide (h.now < 0) || !(h.calls.getD h.now.toNat Cl.none).dead) && ((chainOf h.calls h.now).length == liveN h.calls) && roomP h.calls (chainOf h.calls h.now)
def heapOk (ms : List (Int × Int × List (Int × Int))) (h : Hp) : Bool := headOk ms h && h.calls.all (clOk ms h.calls.length) && endOk h
theorem liveN_step {cs : List Cl} {k : Nat} (hk : k < cs.length) : liveN (cs.take (k + 1)) = liveN (cs.take k) + (if cs[k].dead then 0 else 1) := by
  unfold liveN
  rw [List.take_succ_eq_append_getElem hk, List.filter_append, List.length_append]
  congr 1
  by_cases e : cs[k].dead = true <;> simp [e]
end Go.Proofs.Ytldiccheboipeaa

/-
  The program's HeapDeep: how many calls there are from Now on by Sender.
-/
namespace Go.Proofs.Ytldiccheboipeaa
open Go.RowKit
def deepC (cs : List Cl) : Nat → Int → Option Nat
  | 0, a => if 0 ≤ a ∧ a.toNat < cs.length then none else some 0
  | f + 1, a => if h : 0 ≤ a ∧ a.toNat < cs.length then (if (cs[a.toNat]'h.2).dead then none else (deepC cs f (cs[a.toNat]'h.2).sender).map (· + 1)) else some 0
theorem deepC_out {cs : List Cl} {f : Nat} {a : Int} (h : ¬ (0 ≤ a ∧ a < (cs.length : Int))) : deepC cs f a = some 0 := by
  have h' : ¬ (0 ≤ a ∧ a.toNat < cs.length) := by omega
  cases f
  · simp only [deepC, if_neg h']
  · simp only [deepC, dif_neg h']
theorem deepC_zero {cs : List Cl} {a : Nat} (h : a < cs.length) : deepC cs 0 (a : Int) = none := by
  simp only [deepC]
  rw [if_pos (by simp; exact h)]
theorem deepC_dead {cs : List Cl} {f : Nat} {a : Nat} (h : a < cs.length) (hd : cs[a].dead = true) : deepC cs f (a : Int) = none := by
  cases f with
  | zero => exact deepC_zero h
  | succ f =>
    simp only [deepC, Int.toNat_natCast]
    rw [dif_pos ⟨by omega, h⟩, if_pos hd]
theorem deepC_step {cs : List Cl} {f : Nat} {a : Nat} (h : a < cs.length) (hd : cs[a].dead = false) : deepC cs (f + 1) (a : Int) = (deepC cs f cs[a].sender).map (· + 1) := by
  simp only [deepC, Int.toNat_natCast]
  rw [dif_pos ⟨by omega, h⟩, hd]
  rfl
def deepOf (cs : List Cl) (now : Int) : Nat := (deepC cs cs.length now).getD 0
set_option maxRecDepth 100000 in
set_option maxHeartbeats 4000000 in
theorem implHeapDeep_any (vc vs : Value) (h : Hp) (w : World) (hh : HeapAt w vc vs h) (hn : h.calls.length ≤ 900000) :
    Calls Try.prog 96 #[.agg (hpCells vc vs h)] w fun e w' => e = .returned (.int .i64 (deepOf h.calls h.now : Nat)) ∧ Below w.heap.size w w' := by
  unfold hpCells
  obtain ⟨cs, now, born, said, code⟩ := h
  obtain ⟨hhc, hhs⟩ := hh
  simp only [] at hhc hhs hn ⊢
  obtain ⟨aD, kD, hvs⟩ := hhs.shape
  subst hvs
  obtain ⟨ac, kc, rfl, _, hcl⟩ := hhc
  have hA := (Below.refl w.heap.size w).alloc (Nat.le_refl _) (.cells #[.slice ac cs.length kc, .int .i64 now, .int .i64 born, .slice aD said.length kD, .int .i64 code] 39)
  have b0 : (w.alloc (.cells #[.slice ac cs.length kc, .int .i64 now, .int .i64 born, .slice aD said.length kD, .int .i64 code] 39)).cell? ⟨w.heap.size, 0, none⟩ = some (.slice ac cs.length kc) := by simp [go_sem]
  have b1 : (w.alloc (.cells #[.slice ac cs.length kc, .int .i64 now, .int .i64 born, .slice aD said.length kD, .int .i64 code] 39)).cell? ⟨w.heap.size, 1, none⟩ = some (.int .i64 now) := by simp [go_sem]
  go_enter Try.func96, Try.ntmps96
  go_upto_region 1 with fail
  generalize w.alloc (.cells #[.slice ac cs.length kc, .int .i64 now, .int .i64 born, .slice aD said.length kD, .int .i64 code] 39) = W0 at *
  have HW : Hid (deepC cs cs.length now = (deepC cs (cs.length - 0) now).map (· + 0)) := by
    show _ = _
    simp
  clear hhs
  go_wp2_with fail
  go_loopg [3, 4] cs.length (fun d v at_ wr => ∃ (k : Nat) (a : Int), k ≤ cs.length ∧ d = cs.length - k ∧ v = .int .i64 (k : Nat) ∧ at_ = .int .i64 a ∧ wr.cell? ⟨w.heap.size, 0, none⟩ = some (.slice ac cs.length kc) ∧ Below w.heap.size w wr ∧ deepC cs cs.length now = (deepC cs (cs.length - k) a).map (· + k))
  case atStart => exact ⟨0, now, Nat.zero_le _, rfl, rfl, rfl, b0, hA, HW.out⟩
  case round =>
    obtain ⟨k, a, hk, rfl, rfl, rfl, br, hb, hwalk⟩ := hrel
    have HK : Hid (deepC cs cs.length now = (deepC cs (cs.length - k) a).map (· + k)) := hwalk
    clear hwalk HW b0 b1 hA
    have hsz := hb.size
    by_cases ha : ¬ (0 ≤ a ∧ a < (cs.length : Int))
    · have HI : Hid (inR a 0 ((cs.length : Int) - 1) = false) := inR_false.2 (by omega)
      have HE : Hid (deepOf cs now = k) := by
        show _ = _
        unfold deepOf
        rw [HK.out, deepC_out ha]
        simp
      go_wp2_with (go_at_call 56; refine (isPlace_any _ _ _).mono ?_; rintro e w' ⟨rfl, hw⟩; obtain rfl := hw.symm; rw [HI.out])
      go_ret
      exact ⟨by rw [HE.out]; rfl, hb⟩
    have ha := Decidable.not_not.1 ha
    have HI : Hid (inR a 0 ((cs.length : Int) - 1) = true) := inR_true.2 (by omega)
    obtain ⟨an, rfl⟩ := Int.eq_ofNat_of_zero_le ha.1
    have han : an < cs.length := by omega
    have hanz : (an : Int) < (cs.length : Int) := by omega
    obtain ⟨b, o, vt, vs, rfl, hc⟩ := hcl an han
    have d4 := cell_below hb hc.c4
    have d5 := cell_below hb hc.c5
    have HN : Hid (deepC cs (cs.length - k) (an : Int) = none → deepOf cs now = 0) := fun e => by
      unfold deepOf
      rw [HK.out, e]
      rfl
    clear hcl hc ha
    rcases hdd : cs[an].dead with _ | _
    · rw [hdd] at d5
      by_cases hf : cs.length ≤ k
      · have HE : Hid (deepOf cs now = 0) := HN.out (by rw [show cs.length - k = 0 by omega]; exact deepC_zero han)
        have hkk : ((k : Int) == (cs.length : Int)) = true := by simp; omega
        obtain rfl : k = cs.length := by omega
        clear HN HK hdd
        go_wp2_with (go_at_call 56; refine (isPlace_any _ _ _).mono ?_; rintro e w' ⟨rfl, hw⟩; obtain rfl := hw.symm; rw [HI.out])
        go_ret
        exact ⟨by rw [HE.out]; rfl, hb⟩
      · have HS : Hid (deepC cs cs.length now = (deepC cs (cs.length - (k + 1)) cs[an].sender).map (· + (k + 1))) := by
          show _ = _
          rw [HK.out, show cs.length - k = (cs.length - (k + 1)) + 1 by omega, deepC_step han hdd]
          cases deepC cs (cs.length - (k + 1)) cs[an].sender with
          | none => rfl
          | some q => simp; omega
        have hkk : ((k : Int) == (cs.length : Int)) = false := by simp; omega
        have hkl : (k : Int) < (cs.length : Int) := by omega
        clear HN HK hdd
        go_wp2_with (go_at_call 56; refine (isPlace_any _ _ _).mono ?_; rintro e w' ⟨rfl, hw⟩; obtain rfl := hw.symm; rw [HI.out])
        go_roundg (cs.length - (k + 1))
        case measure => omega
        case rel => exact ⟨k + 1, cs[an].sender, by omega, rfl, by go_num, rfl, br, hb, HS.out⟩
    · rw [hdd] at d5
      have HE : Hid (deepOf cs now = 0) := HN.out (deepC_dead han hdd)
      clear HN HK hdd
      go_wp2_with (go_at_call 56; refine (isPlace_any _ _ _).mono ?_; rintro e w' ⟨rfl, hw⟩; obtain rfl := hw.symm; rw [HI.out])
      go_ret
      exact ⟨by rw [HE.out]; rfl, hb⟩
end Go.Proofs.Ytldiccheboipeaa

/-
  The comparison that the drawn laws make of machines: lmInts, lmFrames, lmMach answer true where both hold the same; they write to nothing that was there. (Written by mklm.py.)
-/
namespace Go.Proofs.Ytldiccheboipeaa
open Go.RowKit
set_option maxRecDepth 100000 in
set_option maxHeartbeats 4000000 in
theorem lmIntsA_same (v v' : Value) (f : List Int) (w : World) (h : IntsAt w v f) (h' : IntsAt w v' f) :
    Calls Try.prog 38 #[v, v'] w fun e w' => e = .returned (.bool true) ∧ Below w.heap.size w w' := by
  obtain ⟨a1, c1, rfl, hl, hc⟩ := h
  obtain ⟨a2, c2, rfl, _, hc'⟩ := h'
  unfold maxLen at hl
  go_enter Try.func38, Try.ntmps38
  go_wp2
  go_loopg [5] f.length (fun d i wr => ∃ k : Nat, k ≤ f.length ∧ d = f.length - k ∧ i = .int .i64 k ∧ Below w.heap.size w wr)
  case atStart => exact ⟨0, Nat.zero_le _, rfl, rfl, Below.refl _ _⟩
  case round =>
    obtain ⟨k, hk, rfl, rfl, hb⟩ := hrel
    by_cases hlt : k < f.length
    · have hkz : (k : Int) < (f.length : Int) := by omega
      obtain ⟨g1, o1, e1, q1⟩ := hc k hlt
      subst e1
      obtain ⟨g2, o2, e2, q2⟩ := hc' k hlt
      subst e2
      have d1 := cell_below hb q1
      have d2 := cell_below hb q2
      clear hc hc' q1 q2
      go_wp2_with fail
      go_region
      all_goals
        go_wp2
        go_roundg (f.length - (k + 1))
        case measure => omega
        case rel => exact ⟨k + 1, by omega, rfl, by go_num, hb.drew⟩
    · obtain rfl : k = f.length := by omega
      go_wp2
      go_ret
      exact ⟨rfl, hb⟩
set_option maxRecDepth 100000 in
set_option maxHeartbeats 4000000 in
theorem lmFrames_same (v v' : Value) (fs : List Fr) (w : World) (h : FramesAt w v fs) (h' : FramesAt w v' fs) :
    Calls Try.prog 40 #[v, v'] w fun e w' => e = .returned (.bool true) ∧ Below w.heap.size w w' := by
  obtain ⟨a1, c1, rfl, hl, hc⟩ := h
  obtain ⟨a2, c2, rfl, _, hc'⟩ := h'
  unfold maxLen at hl
  go_enter Try.func40, Try.ntmps40
  go_wp2
  go_loopg [5] fs.length (fun d i wr => ∃ k : Nat, k ≤ fs.length ∧ d = fs.length - k ∧ i = .int .i64 k ∧ Below w.heap.size w wr)
  case atStart => exact ⟨0, Nat.zero_le _, rfl, rfl, Below.refl _ _⟩
  case round =>
    obtain ⟨k, hk, rfl, rfl, hb⟩ := hrel
    by_cases hlt : k < fs.length
    · have hkz : (k : Int) < (fs.length : Int) := by omega
      obtain ⟨b1, o1, t1, s1, e1, q1⟩ := hc k hlt
      subst e1
      obtain ⟨b2, o2, t2, s2, e2, q2⟩ := hc' k hlt
      subst e2
      obtain ⟨d0, d1, d2, d3, d4, dt, ds⟩ := q1.below hb
      obtain ⟨f0, f1, f2, f3, f4, ft, fs'⟩ := q2.below hb
      obtain ⟨F, hF⟩ : ∃ F, fs[k] = F := ⟨_, rfl⟩
      rw [hF] at d0 d1 d2 dt ds f0 f1 f2 ft fs'
      have zb := hb.size
      clear hc hc' q1 q2 hF
      go_wp2_with fail
      have D0 := Gr.cell d0
      have D1 := Gr.cell d1
      have D2 := Gr.cell d2
      have D3 := Gr.cell d3
      have D4 := Gr.cell d4
      have F0 := Gr.cell f0
      have F1 := Gr.cell f1
      have F2 := Gr.cell f2
      have F3 := Gr.cell f3
      have F4 := Gr.cell f4
      obtain ⟨p1, p2, p3⟩ := dt.shape
      obtain ⟨p4, p5, p6⟩ := ds.shape
      obtain ⟨p7, p8, p9⟩ := ft.shape
      obtain ⟨p10, p11, p12⟩ := fs'.shape
      subst p3 p6 p9 p12
      have HT := quiet_of_below (W := wr) fun W' (hW : Below wr.heap.size wr W') => lmVals_same _ _ F.temps W' (dt.below hW) (ft.below hW)
      have HS := quiet_of_below (W := wr) fun W' (hW : Below wr.heap.size wr W') => lmVals_same _ _ F.stack W' (ds.below hW) (fs'.below hW)
      clear d0 d1 d2 d3 d4 f0 f1 f2 f3 f4 dt ds ft fs'
      refine WQ.region (by kernel_rfl) (by kernel_rfl) ?_
      iterate 65 (refine WQ.step (fun K hK => ?_); go_simp; first
        | (with_reducible refine hK _ ?_; clear hK K)
        | (with_reducible refine quiet_eq ?_; refine hK _ ?_; clear hK K)
        | (simp (contextual := true) only [D0, D1, D2, D3, D4, F0, F1, F2, F3, F4, Result.andThen_ok, true_and]; with_reducible refine quiet_eq ?_; refine hK _ ?_; clear hK K)
        | (with_reducible refine quiet_call HT ?_; refine hK _ ?_; clear hK K)
        | (with_reducible refine quiet_call HS ?_; refine hK _ ?_; clear hK K))
      refine WQ.nil ?_
      intro W3 hG3
      have hb2 := hb.trans (hG3.to.mono zb)
      clear hG3 HT HS D0 D1 D2 D3 D4 F0 F1 F2 F3 F4
      go_wp2
      go_roundg (fs.length - (k + 1))
      case measure => omega
      case rel => exact ⟨k + 1, by omega, rfl, by go_num, hb2⟩
    · obtain rfl : k = fs.length := by omega
      go_wp2
      go_ret
      exact ⟨rfl, hb⟩
set_option maxRecDepth 100000 in
set_option maxHeartbeats 4000000 in
theorem lmMach_same (vp vo vt vs vp' vo' vt' vs' : Value) (m : Mc) (w : World) (h : MachAt w vp vo vt vs m) (h' : MachAt w vp' vo' vt' vs' m) :
    Calls Try.prog 10 #[.agg (mcCells vp vo vt vs m).toArray, .agg (mcCells vp' vo' vt' vs' m).toArray] w fun e w' => e = .returned (.bool true) ∧ Below w.heap.size w w' := by
  obtain ⟨ap, cp, hvp, hlp, hcp⟩ := id h.p
  obtain ⟨ao, co, hvo, hlo, hco⟩ := id h.o
  obtain ⟨at', ct, hvt, hlt', hct⟩ := id h.t
  obtain ⟨as', cs, hvs⟩ := h.s.shape
  subst hvp hvo hvt hvs
  unfold mcCells
  obtain ⟨bp, dp, hvp', _, hcp'⟩ := id h'.p
  obtain ⟨bo, dq, hvo', _, hco'⟩ := id h'.o
  obtain ⟨bt, dr, hvt', _, hct'⟩ := id h'.t
  obtain ⟨bs, dz, hvs'⟩ := h'.s.shape
  subst hvp' hvo' hvt' hvs'
  unfold maxLen at hlp hlt'
  go_enter Try.func10, Try.ntmps10
  go_upto_region 1 with fail
  refine wp_gen (fun W => Below w.heap.size w W ∧ Bx W w.heap.size 33 [.int .i64 m.cells, .slice ap m.pages.length cp, .slice ao m.order.length co, .int .i64 m.now, .slice at' m.twins.length ct, .int .i64 m.born, .slice as' m.said.length cs, .int .i64 m.code] ∧ Bx W (w.heap.size + 1) 33 [.int .i64 m.cells, .slice bp m.pages.length dp, .slice bo m.order.length dq, .int .i64 m.now, .slice bt m.twins.length dr, .int .i64 m.born, .slice bs m.said.length dz, .int .i64 m.code]) ⟨((Below.refl _ _).alloc (Nat.le_refl _) _).alloc (by simp) _, (Bx.new w _ _).alloc _, Bx.newAt _ _ _ (by simp)⟩ ?_
  rintro W ⟨hb, hm, hn⟩
  obtain ⟨⟨m0, m1, m2, m3, m4, m5, m6, m7⟩, _⟩ := bx8 hm
  obtain ⟨⟨n0, n1, n2, n3, n4, n5, n6, n7⟩, _⟩ := bx8 hn
  have zb := hb.size
  clear hco hco'
  have HO := lmIntsA_same _ _ m.order W (h.o.below hb) (h'.o.below hb)
  go_wp2_with fail
  refine HO.mono ?_
  rintro e W2 ⟨rfl, t2⟩
  have hb2 := hb.trans (t2.mono zb)
  have hm2 := hm.below t2
  have hn2 := hn.below t2
  have z2 := hb2.size
  clear t2 hm hn HO m0 m1 m2 m3 m4 m5 m6 m7 n0 n1 n2 n3 n4 n5 n6 n7
  obtain ⟨⟨m0, m1, m2, m3, m4, m5, m6, m7⟩, _⟩ := bx8 hm2
  obtain ⟨⟨n0, n1, n2, n3, n4, n5, n6, n7⟩, _⟩ := bx8 hn2
  have HS := lmVals_same _ _ m.said W2 (h.s.below hb2) (h'.s.below hb2)
  go_wp2_with fail
  refine HS.mono ?_
  rintro e W3 ⟨rfl, t3⟩
  have hb3 := hb2.trans (t3.mono z2)
  have hm3 := hm2.below t3
  have hn3 := hn2.below t3
  clear t3 HS hm2 hn2 hb2 z2 hb zb m0 m1 m2 m3 m4 m5 m6 m7 n0 n1 n2 n3 n4 n5 n6 n7
  obtain ⟨⟨m0, m1, m2, m3, m4, m5, m6, m7⟩, _⟩ := bx8 hm3
  obtain ⟨⟨n0, n1, n2, n3, n4, n5, n6, n7⟩, _⟩ := bx8 hn3
  go_wp2_with fail
  go_loopg [5] m.pages.length (fun d i wr => ∃ k : Nat, k ≤ m.pages.length ∧ d = m.pages.length - k ∧ i = .int .i64 k ∧ Below w.heap.size w wr ∧ Below W3.heap.size W3 wr)
  case atStart => exact ⟨0, Nat.zero_le _, rfl, rfl, hb3, Below.refl _ _⟩
  case round =>
    obtain ⟨k, hk, rfl, rfl, hbr, hbW⟩ := hrel
    have zr := hbr.size
    have zW := hbW.size
    have hmr := hm3.below hbW
    have hnr := hn3.below hbW
    clear m0 m1 m2 m3 m4 m5 m6 m7 n0 n1 n2 n3 n4 n5 n6 n7
    obtain ⟨⟨m0, m1, m2, m3, m4, m5, m6, m7⟩, _⟩ := bx8 hmr
    obtain ⟨⟨n0, n1, n2, n3, n4, n5, n6, n7⟩, _⟩ := bx8 hnr
    by_cases hlt : k < m.pages.length
    · have hkz : (k : Int) < (m.pages.length : Int) := by omega
      obtain ⟨b1, o1, v1, e1, q1⟩ := hcp k hlt
      subst e1
      obtain ⟨b2, o2, v2, e2, q2⟩ := hcp' k hlt
      subst e2
      obtain ⟨p1, p2, p3⟩ := q1.f.shape
      obtain ⟨p4, p5, p6⟩ := q2.f.shape
      subst p3 p6
      obtain ⟨d0, d1, df⟩ := q1.below hbr
      obtain ⟨f0, f1, ff⟩ := q2.below hbr
      obtain ⟨P, hP⟩ : ∃ P, m.pages[k] = P := ⟨_, rfl⟩
      rw [hP] at d0 d1 df f0 f1 ff
      clear hcp hcp' q1 q2 hP
      go_wp2_with fail
      have L1 := Gr.cell m1
      have E1 := Gr.cell n1
      have D0 := Gr.cell d0
      have D1 := Gr.cell d1
      have F0 := Gr.cell f0
      have F1 := Gr.cell f1
      have HF := quiet_of_below (W := wr) fun W' (hW : Below wr.heap.size wr W') => lmFrames_same _ _ P.frames W' (df.below hW) (ff.below hW)
      clear d0 d1 f0 f1 df ff m0 m1 m2 m3 m4 m5 m6 m7 n0 n1 n2 n3 n4 n5 n6 n7
      refine WQ.region (by kernel_rfl) (by kernel_rfl) ?_
      iterate 29 (refine WQ.step (fun K hK => ?_); go_simp; first
        | (with_reducible refine hK _ ?_; clear hK K)
        | (with_reducible refine quiet_eq ?_; refine hK _ ?_; clear hK K)
        | (simp (contextual := true) only [L1, E1, D0, D1, F0, F1, Result.andThen_ok, true_and]; with_reducible refine quiet_eq ?_; refine hK _ ?_; clear hK K)
        | (with_reducible refine quiet_call HF ?_; refine hK _ ?_; clear hK K))
      refine WQ.nil ?_
      intro W4 hG4
      have hb4 := hbr.trans (hG4.to.mono zr)
      have hb5 := hbW.trans (hG4.to.mono zW)
      clear hG4 L1 E1 HF D0 D1 F0 F1
      go_wp2
      go_roundg (m.pages.length - (k + 1))
      case measure => omega
      case rel => exact ⟨k + 1, by omega, rfl, by go_num, hb4, hb5⟩
    · obtain rfl : k = m.pages.length := by omega
      clear hcp hcp'
      go_wp2_with fail
      go_loopg [6] m.twins.length (fun d i wt => ∃ k : Nat, k ≤ m.twins.length ∧ d = m.twins.length - k ∧ i = .int .i64 k ∧ Below w.heap.size w wt ∧ Below wr.heap.size wr wt)
      case atStart => exact ⟨0, Nat.zero_le _, rfl, rfl, hbr, Below.refl _ _⟩
      case round =>
        obtain ⟨k, hk, rfl, rfl, hbt, hbT⟩ := hrel
        have zt := hbt.size
        have zT := hbT.size
        have hmt := hmr.below hbT
        have hnt := hnr.below hbT
        clear m0 m1 m2 m3 m4 m5 m6 m7 n0 n1 n2 n3 n4 n5 n6 n7
        obtain ⟨⟨m0, m1, m2, m3, m4, m5, m6, m7⟩, _⟩ := bx8 hmt
        obtain ⟨⟨n0, n1, n2, n3, n4, n5, n6, n7⟩, _⟩ := bx8 hnt
        by_cases hlt : k < m.twins.length
        · have hkz : (k : Int) < (m.twins.length : Int) := by omega
          obtain ⟨b1, o1, t1, s1, e1, q1⟩ := hct k hlt
          subst e1
          obtain ⟨b2, o2, t2, s2, e2, q2⟩ := hct' k hlt
          subst e2
          obtain ⟨d0, d1, d2, d3, d4, d5, d6, d7, dt, ds⟩ := q1.below hbt
          obtain ⟨f0, f1, f2, f3, f4, f5, f6, f7, ft, fs⟩ := q2.below hbt
          obtain ⟨p1, p2, p3⟩ := dt.shape
          obtain ⟨p4, p5, p6⟩ := ds.shape
          obtain ⟨p7, p8, p9⟩ := ft.shape
          obtain ⟨p10, p11, p12⟩ := fs.shape
          subst p3 p6 p9 p12
          obtain ⟨T, hT⟩ : ∃ T, m.twins[k] = T := ⟨_, rfl⟩
          rw [hT] at d0 d1 d2 d3 d4 d5 d6 d7 dt ds f0 f1 f2 f3 f4 f5 f6 f7 ft fs
          clear hct hct' q1 q2 hT
          go_wp2_with fail
          have L4 := Gr.cell m4
          have E4 := Gr.cell n4
          have D0 := Gr.cell d0
          have F0 := Gr.cell f0
          have D1 := Gr.cell d1
          have F1 := Gr.cell f1
          have D2 := Gr.cell d2
          have F2 := Gr.cell f2
          have D3 := Gr.cell d3
          have F3 := Gr.cell f3
          have D4 := Gr.cell d4
          have F4 := Gr.cell f4
          have D5 := Gr.cell d5
          have F5 := Gr.cell f5
          have D6 := Gr.cell d6
          have F6 := Gr.cell f6
          have D7 := Gr.cell d7
          have F7 := Gr.cell f7
          have HC := quiet_of_below (W := wr) fun W' (hW : Below wr.heap.size wr W') => lmCall_same T.left _ _ _ _ W' (dt.below hW) (ds.below hW) (ft.below hW) (fs.below hW)
          unfold clCells at HC
          clear d0 d1 d2 d3 d4 d5 d6 d7 f0 f1 f2 f3 f4 f5 f6 f7 dt ds ft fs m0 m1 m2 m3 m4 m5 m6 m7 n0 n1 n2 n3 n4 n5 n6 n7
          refine WQ.region (by kernel_rfl) (by kernel_rfl) ?_
          iterate 44 (refine WQ.step (fun K hK => ?_); go_simp; first
            | (with_reducible refine hK _ ?_; clear hK K)
            | (with_reducible refine quiet_eq ?_; refine hK _ ?_; clear hK K)
            | (simp (contextual := true) only [L4, E4, D0, D1, D2, D3, D4, D5, D6, D7, F0, F1, F2, F3, F4, F5, F6, F7, Result.andThen_ok, true_and]; with_reducible refine quiet_eq ?_; refine hK _ ?_; clear hK K)
            | (with_reducible refine quiet_call HC ?_; refine hK _ ?_; clear hK K))
          refine WQ.nil ?_
          intro W4 hG4
          have hb4 := hbt.trans (hG4.to.mono zt)
          have hb5 := hbT.trans (hG4.to.mono zT)
          clear hG4 L4 E4 HC D0 D1 D2 D3 D4 D5 D6 D7 F0 F1 F2 F3 F4 F5 F6 F7
          go_wp2
          go_roundg (m.twins.length - (k + 1))
          case measure => omega
          case rel => exact ⟨k + 1, by omega, rfl, by go_num, hb4, hb5⟩
        · obtain rfl : k = m.twins.length := by omega
          go_wp2
          go_ret
          exact ⟨rfl, hbt⟩
end Go.Proofs.Ytldiccheboipeaa

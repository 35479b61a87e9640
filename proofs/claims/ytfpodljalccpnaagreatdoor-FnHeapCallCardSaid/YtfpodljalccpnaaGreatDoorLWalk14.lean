/-
  The program's heap at work: operations are done, part five: a temp is set.
-/
import Derived.Test.YtfpodljalccpnaaGreatDoorLWalk8
import Derived.Deep.RegionWith
import Derived.Test.YtfpodljalccpnaaGreatDoorSMem4
import Derived.Laws.IdiomCopy
import Derived.Test.YtfpodljalccpnaaGreatDoorLLive2
import Derived.Test.YtfpodljalccpnaaGreatDoorLmWith
import Derived.Test.YtfpodljalccpnaaGreatDoorOwn
import Derived.Test.YtfpodljalccpnaaGreatDoorCRow
import Derived.Test.YtfpodljalccpnaaGreatDoorHChain
import Derived.Deep.RegionLaw
import Derived.Test.YtfpodljalccpnaaGreatDoorVSpec2
import Derived.Deep.RegionHeld3
import Derived.Test.YtfpodljalccpnaaGreatDoorSMem
import Derived.Test.YtfpodljalccpnaaGreatDoorRF
import Derived.Test.YtfpodljalccpnaaGreatDoorLmRow

namespace Go.Proofs.YtfpodljalccpnaaGreatDoor
open Go.RowKit
variable {B : Nat} {w w' : World} {bl br : Nat} {vp vcs vsd : Value} {C D : Nat → Nat} {T : Nat → Value × Value} {h h' : Hp}
theorem LV.temp (k : LV B w bl br vp vcs vsd C D T h) {j : Nat} (hj : j < h.calls.length) {gt ot m ct : Nat} (hT : (T j).1 = .slice (some ⟨gt, ot, none⟩) m ct) (q : Nat) (hq : q < h.calls[j].temps.length) (x y : Int) :
    LV B ((w.setCell ⟨gt, ot + q * 2, none⟩ (.int .i64 x)).setCell ⟨gt, ot + q * 2 + 1, none⟩ (.int .i64 y)) bl br vp vcs vsd C D (putV T j ((T j).1, (T j).2)) { h with calls := h.calls.set j { h.calls[j] with temps := h.calls[j].temps.set q (x, y) } } ∧
    LGo B (LOwn bl br vcs vsd C D T h.calls.length) (LOwn bl br vcs vsd C D (putV T j ((T j).1, (T j).2)) h.calls.length) w ((w.setCell ⟨gt, ot + q * 2, none⟩ (.int .i64 x)).setCell ⟨gt, ot + q * 2 + 1, none⟩ (.int .i64 y)) := by
  have hown : (T j).1.ownBlock = some gt := by rw [hT]; rfl
  have hgl := k.lo (.temps j) hj gt hown
  have hTS : ∀ g, (T j).1.ownBlock = some g → (T j).2.ownBlock ≠ some g := fun g e e2 => by have := k.ap (.temps j) (.stack j) hj hj g e e2; cases this
  have hgD : gt ≠ D j := fun e => by have := k.ap (.temps j) (.body j) hj hj gt hown (by rw [e]; rfl); cases this
  have hset : ∀ g, g ≠ gt → ((w.setCell ⟨gt, ot + q * 2, none⟩ (.int .i64 x)).setCell ⟨gt, ot + q * 2 + 1, none⟩ (.int .i64 y)).heap[g]? = w.heap[g]? := fun g h2 => (Below.heap_setCell _ _ _ _ (fun e => h2 e)).trans (Below.heap_setCell _ _ _ _ (fun e => h2 e))
  have hbl : ∀ g, g < w.heap.size → g ≠ D j → (T j).1.ownBlock ≠ some g → (T j).2.ownBlock ≠ some g → ((w.setCell ⟨gt, ot + q * 2, none⟩ (.int .i64 x)).setCell ⟨gt, ot + q * 2 + 1, none⟩ (.int .i64 y)).heap[g]? = w.heap[g]? := fun g _ _ h3 _ => hset g (fun e => h3 (by rw [e]; exact hown))
  have ht := (k.ts j hj).1
  rw [hT] at ht
  have ht' := ht.set q hq x y
  rw [← hT] at ht'
  have hs' := (((k.ts j hj).2.set_other (p := ⟨gt, ot + q * 2, none⟩) (.int .i64 x) (hTS gt hown)).set_other (p := ⟨gt, ot + q * 2 + 1, none⟩) (.int .i64 y) (hTS gt hown))
  exact ⟨k.turn hj rfl (by simp [World.setCell]) hbl ((k.bd j hj).of_block (hset (D j) (Ne.symm hgD))) ht' hs' (fun g e => .inl e) (fun g e => .inr (.inl e)) hTS, LV.turn_go hj ((Below.refl _ _ |>.setCell (p := ⟨gt, ot + q * 2, none⟩) hgl.1 _).setCell (p := ⟨gt, ot + q * 2 + 1, none⟩) hgl.1 _) hbl (fun g e => .inl e) (fun g e => .inr (.inl e))⟩
set_option maxRecDepth 100000 in
set_option maxHeartbeats 2000000 in
theorem doSet_any (k : LV B w bl br vp vcs vsd C D T h) {j : Nat} (hn : h.now = (j : Int)) (hj : j < h.calls.length) (_hB : B ≤ w.heap.size) {vt : Value} {args : List (Int × Int)} (t : Tk (LOwn bl br vcs vsd C D T h.calls.length) w vt args) (h1 : 0 < args.length) (q : Nat) (hq : q < h.calls[j].temps.length) :
    Calls Tryz.prog 124 #[.pointer (some ⟨br, 0, none⟩), .int .i64 q, vt] w fun e w' => e = .returned (.tuple #[]) ∧ LEnd B bl br vp (LOwn bl br vcs vsd C D T h.calls.length) w (setH h { curC h with temps := (curC h).temps.set q args[0] }) w' := by
  have kd := k.below ((Below.refl _ _).drew)
  have HR := running_any kd hn hj
  have hm := Tryz.go_running bl
  obtain ⟨⟨y0, y1, y2, y3, y4⟩, _⟩ := five_cells k.rn
  obtain ⟨⟨z0, z1, z2, z3, z4⟩, _⟩ := five_cells (k.bd j hj)
  have ht := (k.ts j hj).1
  obtain ⟨gt, ot, ct, hT, _⟩ := ht.form (by omega)
  have HE : LEnd B bl br vp (LOwn bl br vcs vsd C D T h.calls.length) w (setH h { curC h with temps := (curC h).temps.set q args[0] }) ((w.setCell ⟨gt, ot + q * 2, none⟩ (.int .i64 args[0].1)).setCell ⟨gt, ot + q * 2 + 1, none⟩ (.int .i64 args[0].2)).drew := by
    have e : setH h { curC h with temps := (curC h).temps.set q args[0] } = { h with calls := h.calls.set j { h.calls[j] with temps := h.calls[j].temps.set q (args[0].1, args[0].2) } } := by
      unfold setH
      rw [cur_at hn hj, hn, Int.toNat_natCast]
    rw [e]
    obtain ⟨k2, g2⟩ := k.temp hj hT q hq args[0].1 args[0].2
    refine ⟨_, _, _, _, _, k2.below ((Below.refl _ _).drew), ?_⟩
    simp only [List.length_set]
    exact g2.trans ⟨(Below.refl _ _).drew, fun _ _ _ => rfl, fun _ e => .inl e⟩
  rw [hT] at ht z2
  obtain ⟨⟨c0, c1⟩, cf0, cf1⟩ := ht.cell hq
  obtain ⟨b, o, cap, hvt, e0, e1⟩ := t.cell h1
  subst hvt
  rw [Nat.zero_mul, Nat.add_zero] at e0 e1
  have hz : (0 : Int) < (args.length : Int) := by omega
  have hqz : (q : Int) < (h.calls[j].temps.length : Int) := by omega
  have HEH : Hid _ := HE
  clear k kd ht t HE
  go_enter Tryz.func124, Tryz.ntmps124
  go_wp2_with fail
  go_region_law (go_simp; go_at_call 168; refine HR.mono ?_; rintro e w' ⟨rfl, hw⟩; obtain rfl := hw.symm)
  all_goals exact bodyPost_end (results_none rfl _ _ _) rfl ⟨rfl, HEH.out⟩
theorem pokeH_at {h : Hp} {i : Nat} (hi : i < h.calls.length) (q : Nat) (v : Int × Int) : pokeH h i (q : Int) v = { h with calls := h.calls.set i { h.calls[i] with temps := h.calls[i].temps.set q v } } := by
  unfold pokeH
  rw [getD_at hi, Int.toNat_natCast]
theorem pokeH_none {h : Hp} {i : Nat} (hi : i < h.calls.length) {q : Nat} (hq : ¬ q < h.calls[i].temps.length) (v : Int × Int) : pokeH h i (q : Int) v = h := by
  have e : h.calls[i].temps.set q v = h.calls[i].temps := List.set_eq_of_length_le (by omega)
  have e2 : h.calls.set i h.calls[i] = h.calls := List.set_getElem_self hi
  rw [pokeH_at hi, e]
  show ({ h with calls := h.calls.set i h.calls[i] } : Hp) = h
  rw [e2]
end Go.Proofs.YtfpodljalccpnaaGreatDoor

/-
  The program's heap at work: operations are done, part six: a temp of any call is set.
-/
namespace Go.Proofs.YtfpodljalccpnaaGreatDoor
open Go.RowKit
variable {B : Nat} {w w' : World} {bl br : Nat} {vp vcs vsd : Value} {C D : Nat → Nat} {T : Nat → Value × Value} {h h' : Hp}
set_option maxRecDepth 100000 in
set_option maxHeartbeats 2000000 in
theorem doPoke_any (k : LV B w bl br vp vcs vsd C D T h) (hB : B ≤ w.heap.size) (q : Nat) {vt : Value} {args : List (Int × Int)} (t : Tk (LOwn bl br vcs vsd C D T h.calls.length) w vt args) (h1 : 1 < args.length) {i : Nat} (hi : i < h.calls.length) (hv : args[0].2 = (i : Int)) :
    Calls Tryz.prog 135 #[.pointer (some ⟨br, 0, none⟩), .int .i64 q, vt] w fun e w' => e = .returned (.tuple #[]) ∧ LEnd B bl br vp (LOwn bl br vcs vsd C D T h.calls.length) w (pokeH h i q args[1]) w' := by
  have kd := k.below ((Below.refl _ _).drew)
  have HL := looked_any kd hi
  have hm1 := Tryz.go_looked bl
  obtain ⟨⟨y0, y1, y2, y3, y4⟩, _⟩ := five_cells k.rn
  obtain ⟨⟨z0, z1, z2, z3, z4⟩, _⟩ := five_cells (k.bd i hi)
  obtain ⟨b, o, cap, hvt, c0, c1⟩ := t.cell (i := 0) (by omega)
  obtain ⟨b', o', cap', hvt', d0, d1⟩ := t.cell h1
  subst hvt
  cases hvt'
  rw [Nat.zero_mul, Nat.add_zero] at c0 c1
  rw [Nat.one_mul] at d0 d1
  rw [hv] at c1
  have hz : (1 : Int) < (args.length : Int) := by omega
  have hz0 : 0 < args.length := by omega
  have ht := (k.ts i hi).1
  obtain ⟨at_, ct, hT, _⟩ := ht.slice
  by_cases hq : q < h.calls[i].temps.length
  · obtain ⟨gt, ot, ct', hT', _⟩ := ht.form (by omega)
    have HE : LEnd B bl br vp (LOwn bl br vcs vsd C D T h.calls.length) w (pokeH h i q args[1]) ((w.setCell ⟨gt, ot + q * 2, none⟩ (.int .i64 args[1].1)).setCell ⟨gt, ot + q * 2 + 1, none⟩ (.int .i64 args[1].2)).drew := by
      rw [pokeH_at hi]
      obtain ⟨k2, g2⟩ := k.temp hi hT' q hq args[1].1 args[1].2
      refine ⟨_, _, _, _, _, k2.below ((Below.refl _ _).drew), ?_⟩
      simp only [List.length_set]
      exact g2.trans ⟨(Below.refl _ _).drew, fun _ _ _ => rfl, fun _ e => .inl e⟩
    rw [hT'] at ht z2
    obtain ⟨⟨u0, u1⟩, uf0, uf1⟩ := ht.cell hq
    have hqz : (q : Int) < (h.calls[i].temps.length : Int) := by omega
    have hq0 : (0 : Int) ≤ (q : Int) := by omega
    have HEH : Hid _ := HE
    clear k kd ht t HE hT
    go_enter Tryz.func135, Tryz.ntmps135
    go_wp2_with fail
    go_region_law (go_simp; go_at_call 167; refine HL.mono ?_; rintro e w' ⟨rfl, hw⟩; obtain rfl := hw.symm)
    all_goals
      go_wp2_with (go_at_call 64; refine (isPlace_any _ _ _).mono ?_; rintro e w' ⟨rfl, hw⟩; obtain rfl := hw.symm; rw [inR_true.2 ⟨hq0, by omega⟩])
      exact bodyPost_end (results_none rfl _ _ _) rfl ⟨rfl, HEH.out⟩
  · have hE : LEnd B bl br vp (LOwn bl br vcs vsd C D T h.calls.length) w (pokeH h i q args[1]) w.drew := by
      rw [pokeH_none hi hq]
      exact ⟨_, _, _, _, _, kd, LGo.of_below hB ((Below.refl _ _).drew)⟩
    rw [hT] at z2
    have hEH : Hid _ := hE
    clear k kd ht t hE
    generalize h.calls[i].temps.length = nt at *
    go_enter Tryz.func135, Tryz.ntmps135
    go_wp2_with fail
    go_region_law (go_simp; go_at_call 167; refine HL.mono ?_; rintro e w' ⟨rfl, hw⟩; obtain rfl := hw.symm)
    all_goals
      go_wp2_with (go_at_call 64; refine (isPlace_any _ _ _).mono ?_; rintro e w' ⟨rfl, hw⟩; obtain rfl := hw.symm; rw [inR_false.2 (by omega)])
      exact bodyPost_end (results_none rfl _ _ _) rfl ⟨rfl, hEH.out⟩
end Go.Proofs.YtfpodljalccpnaaGreatDoor

/-
  The program's heap at work: operations are done, part seven: a temp of any call is seen.
-/
namespace Go.Proofs.YtfpodljalccpnaaGreatDoor
open Go.RowKit
variable {B : Nat} {w w' : World} {bl br : Nat} {vp vcs vsd : Value} {C D : Nat → Nat} {T : Nat → Value × Value} {h h' : Hp}
set_option maxRecDepth 100000 in
set_option maxHeartbeats 2000000 in
theorem doPeek_any (k : LV B w bl br vp vcs vsd C D T h) {j : Nat} (hn : h.now = (j : Int)) (hj : j < h.calls.length) (hB : B ≤ w.heap.size) (hl : h.calls[j].stack.length ≤ 1000) (q : Nat) {vt : Value} {args : List (Int × Int)} (t : Tk (LOwn bl br vcs vsd C D T h.calls.length) w vt args) (h1 : 0 < args.length) {i : Nat} (hi : i < h.calls.length) (hv : args[0].2 = (i : Int)) :
    Calls Tryz.prog 134 #[.pointer (some ⟨br, 0, none⟩), .int .i64 q, vt] w fun e w' => e = .returned (.tuple #[]) ∧ LEnd B bl br vp (LOwn bl br vcs vsd C D T h.calls.length) w (pushH h (h.calls[i].temps.getD q (0, 0))) w' := by
  have kd := k.below ((Below.refl _ _).drew)
  have HL := looked_any kd hi
  have hm1 := Tryz.go_looked bl
  obtain ⟨⟨y0, y1, y2, y3, y4⟩, _⟩ := five_cells k.rn
  obtain ⟨⟨z0, z1, z2, z3, z4⟩, _⟩ := five_cells (k.bd i hi)
  obtain ⟨b, o, cap, hvt, c0, c1⟩ := t.cell h1
  subst hvt
  rw [Nat.zero_mul, Nat.add_zero] at c0 c1
  rw [hv] at c1
  have hz : (0 : Int) < (args.length : Int) := by omega
  have ht := (k.ts i hi).1
  obtain ⟨at_, ct, hT, _⟩ := ht.slice
  have hbd : Below w.heap.size w w.drew := (Below.refl _ _).drew
  by_cases hq : q < h.calls[i].temps.length
  · rw [getD_at hq]
    obtain ⟨gt, ot, ct', hT', _⟩ := ht.form (by omega)
    have HP := put_end k hn hj hB hl h.calls[i].temps[q].1 h.calls[i].temps[q].2
    rw [hT'] at ht z2
    obtain ⟨⟨u0, u1⟩, uf0, uf1⟩ := ht.cell hq
    have hqz : (q : Int) < (h.calls[i].temps.length : Int) := by omega
    have hq0 : (0 : Int) ≤ (q : Int) := by omega
    have HPH : Hid _ := HP
    clear k kd ht t HP hT
    generalize h.calls[i].temps[q] = x at *
    obtain ⟨x1, x2⟩ := x
    generalize h.calls[i].temps.length = nt at *
    go_enter Tryz.func134, Tryz.ntmps134
    go_wp2_with fail
    go_region_law (go_simp; go_at_call 167; refine HL.mono ?_; rintro e w' ⟨rfl, hw⟩; obtain rfl := hw.symm)
    all_goals
      go_wp2_with (first
        | (go_at_call 64; refine (isPlace_any _ _ _).mono ?_; rintro e w' ⟨rfl, hw⟩; obtain rfl := hw.symm; rw [inR_true.2 ⟨hq0, by omega⟩])
        | (go_at_call 142; refine (HPH.out _ hbd).mono ?_; rintro e w3 ⟨rfl, hE⟩))
      exact bodyPost_end (results_none rfl _ _ _) rfl ⟨rfl, hE⟩
  · have hg : h.calls[i].temps.getD q (0, 0) = (0, 0) := by rw [List.getD_eq_getElem?_getD, List.getElem?_eq_none (by omega)]; rfl
    rw [hg]
    have HP := put_end k hn hj hB hl 0 0
    rw [hT] at z2
    have HPH : Hid _ := HP
    clear k kd ht t HP hg
    generalize h.calls[i].temps.length = nt at *
    go_enter Tryz.func134, Tryz.ntmps134
    go_wp2_with fail
    go_region_law (go_simp; go_at_call 167; refine HL.mono ?_; rintro e w' ⟨rfl, hw⟩; obtain rfl := hw.symm)
    all_goals
      go_wp2_with (first
        | (go_at_call 64; refine (isPlace_any _ _ _).mono ?_; rintro e w' ⟨rfl, hw⟩; obtain rfl := hw.symm; rw [inR_false.2 (by omega)])
        | (go_at_call 142; refine (HPH.out _ hbd).mono ?_; rintro e w3 ⟨rfl, hE⟩))
      exact bodyPost_ret (results_none rfl _ _ _) rfl ⟨rfl, hE⟩
end Go.Proofs.YtfpodljalccpnaaGreatDoor

/-
  The program's heap at work: operations are done, part eight: two numbers are added, two values are held against one another, one goes on elsewhere.
-/
namespace Go.Proofs.YtfpodljalccpnaaGreatDoor
open Go.RowKit
variable {B : Nat} {w w' : World} {bl br : Nat} {vp vcs vsd : Value} {C D : Nat → Nat} {T : Nat → Value × Value} {h h' : Hp}
theorem Tk.cells2 {P : Nat → Prop} {v : Value} {args : List (Int × Int)} (t : Tk P w v args) (h1 : 1 < args.length) : ∃ b o cap, v = .slice (some ⟨b, o, none⟩) args.length cap ∧ (w.cell? ⟨b, o, none⟩ = some (.int .i64 args[0].1) ∧ w.cell? ⟨b, o + 1, none⟩ = some (.int .i64 args[0].2)) ∧ w.cell? ⟨b, o + 2, none⟩ = some (.int .i64 args[1].1) ∧ w.cell? ⟨b, o + 2 + 1, none⟩ = some (.int .i64 args[1].2) := by
  obtain ⟨b, o, cap, hvt, c0, c1⟩ := t.cell (i := 0) (by omega)
  obtain ⟨b', o', cap', hvt', d0, d1⟩ := t.cell h1
  subst hvt
  obtain ⟨rfl, rfl, rfl⟩ : b = b' ∧ o = o' ∧ cap = cap' := by
    injection hvt' with e1 _ e3
    injection e1 with e1
    injection e1 with e1 e2 _
    exact ⟨e1, e2, e3⟩
  rw [Nat.zero_mul, Nat.add_zero] at c0 c1
  rw [Nat.one_mul] at d0 d1
  exact ⟨b, o, cap, rfl, ⟨c0, c1⟩, d0, d1⟩
set_option maxRecDepth 100000 in
set_option maxHeartbeats 2000000 in
theorem doAdd_any (k : LV B w bl br vp vcs vsd C D T h) {j : Nat} (hn : h.now = (j : Int)) (hj : j < h.calls.length) (hB : B ≤ w.heap.size) (hl : h.calls[j].stack.length ≤ 1000) (a : Int) {vt : Value} {args : List (Int × Int)} (t : Tk (LOwn bl br vcs vsd C D T h.calls.length) w vt args) (h1 : 1 < args.length) (b0 : 0 ≤ args[0].2 ∧ args[0].2 ≤ 999) (b1 : 0 ≤ args[1].2 ∧ args[1].2 ≤ 999) :
    Calls Tryz.prog 126 #[.pointer (some ⟨br, 0, none⟩), .int .i64 a, vt] w fun e w' => e = .returned (.tuple #[]) ∧ LEnd B bl br vp (LOwn bl br vcs vsd C D T h.calls.length) w (pushH h (1, (args[0].2 + args[1].2) % 1000)) w' := by
  obtain ⟨b, o, cap, hvt, ⟨c0, c1⟩, d0, d1⟩ := t.cells2 h1
  subst hvt
  have hz : (1 : Int) < (args.length : Int) := by omega
  have hz0 : (0 : Int) < (args.length : Int) := by omega
  have HPH : Hid (∀ (w1 : World), Below w.heap.size w w1 → Calls Tryz.prog 142 #[.pointer (some ⟨br, 0, none⟩), .agg #[.int .i64 1, .int .i64 ((args[0].2 + args[1].2).tmod 1000)]] w1 fun e w' => e = .returned (.tuple #[]) ∧ LEnd B bl br vp (LOwn bl br vcs vsd C D T h.calls.length) w (pushH h (1, (args[0].2 + args[1].2) % 1000)) w') := by
    rw [show (args[0].2 + args[1].2).tmod 1000 = (args[0].2 + args[1].2) % 1000 from Int.tmod_eq_emod_of_nonneg (by omega)]
    exact put_end k hn hj hB hl 1 ((args[0].2 + args[1].2) % 1000)
  clear k t c0 d0
  generalize args[0].2 = X at *
  generalize args[1].2 = Y at *
  have hw1 : IntKind.i64.wrap (X + Y) = X + Y := by rw [IntKind.wrap_i64]; omega
  generalize args.length = na at *
  go_enter Tryz.func126, Tryz.ntmps126
  go_wp2_with fail
  go_region_with (first
    | (go_at_call 143; refine (numVal_any _ _).mono ?_; rintro e w2 ⟨rfl, hb⟩; have hb' : Below w.heap.size w w2 := (Below.refl _ _).drew.trans hb)
    | (go_at_call 142; refine (HPH.out _ hb').mono ?_; rintro e w3 ⟨rfl, hE⟩))
  all_goals exact bodyPost_end (results_none rfl _ _ _) rfl ⟨rfl, hE⟩
set_option maxRecDepth 100000 in
set_option maxHeartbeats 2000000 in
theorem doSame_any (k : LV B w bl br vp vcs vsd C D T h) {j : Nat} (hn : h.now = (j : Int)) (hj : j < h.calls.length) (hB : B ≤ w.heap.size) (hl : h.calls[j].stack.length ≤ 1000) (a : Int) {vt : Value} {args : List (Int × Int)} (t : Tk (LOwn bl br vcs vsd C D T h.calls.length) w vt args) (h1 : 1 < args.length) :
    Calls Tryz.prog 127 #[.pointer (some ⟨br, 0, none⟩), .int .i64 a, vt] w fun e w' => e = .returned (.tuple #[]) ∧ LEnd B bl br vp (LOwn bl br vcs vsd C D T h.calls.length) w (pushH h (bitV (decide (args[0] = args[1])))) w' := by
  obtain ⟨b, o, cap, hvt, ⟨c0, c1⟩, d0, d1⟩ := t.cells2 h1
  subst hvt
  have hz : (1 : Int) < (args.length : Int) := by omega
  have hz0 : (0 : Int) < (args.length : Int) := by omega
  have HPH : Hid (∀ (x : Bool) (w1 : World), Below w.heap.size w w1 → Calls Tryz.prog 142 #[.pointer (some ⟨br, 0, none⟩), .agg #[.int .i64 1, .int .i64 (if x then 1 else 0)]] w1 fun e w' => e = .returned (.tuple #[]) ∧ LEnd B bl br vp (LOwn bl br vcs vsd C D T h.calls.length) w (pushH h (1, (if x then 1 else 0))) w') := fun x => put_end k hn hj hB hl 1 (if x then 1 else 0)
  clear k t
  unfold bitV
  generalize args[0] = x at *
  generalize args[1] = y at *
  obtain ⟨x1, x2⟩ := x
  obtain ⟨y1, y2⟩ := y
  simp only at c0 c1 d0 d1
  generalize args.length = na at *
  by_cases e1 : x1 = y1
  · subst e1
    by_cases e2 : x2 = y2
    · subst e2
      rw [decide_eq_true (rfl : (x1, x2) = (x1, x2))]
      go_enter Tryz.func127, Tryz.ntmps127
      go_wp2_with fail
      go_region_with (first
        | (go_at_call 144; refine (truthVal_any true _).mono ?_; rintro e w2 ⟨rfl, hb⟩; have hb' : Below w.heap.size w w2 := (Below.refl _ _).drew.trans hb)
        | (go_at_call 142; refine (HPH.out true _ hb').mono ?_; rintro e w3 ⟨rfl, hE⟩))
      all_goals exact bodyPost_end (results_none rfl _ _ _) rfl ⟨rfl, hE⟩
    · rw [decide_eq_false (show ¬ (x1, x2) = (x1, y2) from fun q => e2 (Prod.mk.inj q).2)]
      have e2' : (x2 == y2) = false := beq_eq_false_iff_ne.2 e2
      clear e2
      go_enter Tryz.func127, Tryz.ntmps127
      go_wp2_with fail
      go_region_with (first
        | (go_at_call 144; refine (truthVal_any false _).mono ?_; rintro e w2 ⟨rfl, hb⟩; have hb' : Below w.heap.size w w2 := (Below.refl _ _).drew.trans hb)
        | (go_at_call 142; refine (HPH.out false _ hb').mono ?_; rintro e w3 ⟨rfl, hE⟩))
      all_goals exact bodyPost_end (results_none rfl _ _ _) rfl ⟨rfl, hE⟩
  · rw [decide_eq_false (show ¬ (x1, x2) = (y1, y2) from fun q => e1 (Prod.mk.inj q).1)]
    have e1' : (x1 == y1) = false := beq_eq_false_iff_ne.2 e1
    clear e1
    go_enter Tryz.func127, Tryz.ntmps127
    go_wp2_with fail
    go_region_with (first
      | (go_at_call 144; refine (truthVal_any false _).mono ?_; rintro e w2 ⟨rfl, hb⟩; have hb' : Below w.heap.size w w2 := (Below.refl _ _).drew.trans hb)
      | (go_at_call 142; refine (HPH.out false _ hb').mono ?_; rintro e w3 ⟨rfl, hE⟩))
    all_goals exact bodyPost_end (results_none rfl _ _ _) rfl ⟨rfl, hE⟩
end Go.Proofs.YtfpodljalccpnaaGreatDoor

/-
  The program's heap at work: operations are done, part nine: one goes on elsewhere, if it is nothing, or 0.
-/
namespace Go.Proofs.YtfpodljalccpnaaGreatDoor
open Go.RowKit
variable {B : Nat} {w w' : World} {bl br : Nat} {vp vcs vsd : Value} {C D : Nat → Nat} {T : Nat → Value × Value} {h h' : Hp}
set_option maxRecDepth 100000 in
set_option maxHeartbeats 2000000 in
theorem isZero_any (k n : Int) (w : World) :
    Calls Tryz.prog 145 #[.agg #[.int .i64 k, .int .i64 n]] w fun e w' => e = .returned (.bool (decide (n = 0 ∧ (k = 0 ∨ k = 1)))) ∧ Below w.heap.size w w' := by
  have hA : Below w.heap.size w (w.alloc (.cells #[.int .i64 k, .int .i64 n] 51)) := (Below.refl _ _).alloc (Nat.le_refl _) _
  have rx := two_new w 51 (.int .i64 k) (.int .i64 n)
  by_cases hz : k = 0 ∧ n = 0
  · obtain ⟨rfl, rfl⟩ := hz
    go_enter Tryz.func145, Tryz.ntmps145
    go_wp2_with fail
    go_region
    go_wp2
    go_ret
    exact ⟨ret_bool (by simp), hA.drew⟩
  by_cases hn : n = 0
  · subst hn
    have hk : (k == 0) = false := beq_eq_false_iff_ne.2 (fun q => hz ⟨q, rfl⟩)
    have hk0 : ¬ k = 0 := fun q => hz ⟨q, rfl⟩
    clear hz
    by_cases h1 : k = 1
    · subst h1
      clear hk hk0
      go_enter Tryz.func145, Tryz.ntmps145
      go_wp2_with fail
      go_region_with (go_at_call 143; refine (numVal_any _ _).mono ?_; rintro e w2 ⟨rfl, hb⟩; obtain ⟨⟨t0, t1⟩, _⟩ := two_cells (row_below hb rx))
      all_goals
        go_wp2
        go_ret
        exact ⟨ret_bool (by simp), hA.drew.trans (hb.mono hA.size)⟩
    · have h1' : (k == 1) = false := beq_eq_false_iff_ne.2 h1
      go_enter Tryz.func145, Tryz.ntmps145
      go_wp2_with fail
      go_region_with (go_at_call 143; refine (numVal_any _ _).mono ?_; rintro e w2 ⟨rfl, hb⟩; obtain ⟨⟨t0, t1⟩, _⟩ := two_cells (row_below hb rx))
      all_goals
        go_wp2
        go_ret
        exact ⟨ret_bool (by simp [hk0, h1]), hA.drew.trans (hb.mono hA.size)⟩
  · have hn' : (n == 0) = false := beq_eq_false_iff_ne.2 hn
    clear hz
    go_enter Tryz.func145, Tryz.ntmps145
    go_wp2_with fail
    go_region_with (go_at_call 143; refine (numVal_any _ _).mono ?_; rintro e w2 ⟨rfl, hb⟩; obtain ⟨⟨t0, t1⟩, _⟩ := two_cells (row_below hb rx))
    all_goals
      go_wp2
      go_ret
      exact ⟨ret_bool (by simp [hn]), hA.drew.trans (hb.mono hA.size)⟩
set_option maxRecDepth 100000 in
set_option maxHeartbeats 2000000 in
theorem doZero_any (k : LV B w bl br vp vcs vsd C D T h) {j : Nat} (hn : h.now = (j : Int)) (hj : j < h.calls.length) (hB : B ≤ w.heap.size) (a : Int) {vt : Value} {args : List (Int × Int)} (t : Tk (LOwn bl br vcs vsd C D T h.calls.length) w vt args) (h1 : 0 < args.length) :
    Calls Tryz.prog 129 #[.pointer (some ⟨br, 0, none⟩), .int .i64 a, vt] w fun e w' => e = .returned (.tuple #[]) ∧ LEnd B bl br vp (LOwn bl br vcs vsd C D T h.calls.length) w (if args[0].2 = 0 ∧ (args[0].1 = 0 ∨ args[0].1 = 1) then setH h { curC h with pc := a } else h) w' := by
  obtain ⟨b, o, cap, rfl, c0, c1⟩ := t.cell h1
  rw [Nat.zero_mul, Nat.add_zero] at c0 c1
  have hz : (0 : Int) < (args.length : Int) := by omega
  clear t
  generalize args[0] = x at *
  obtain ⟨x1, x2⟩ := x
  have hm := Tryz.go_running bl
  simp only at c0 c1 ⊢
  by_cases hx : x2 = 0 ∧ (x1 = 0 ∨ x1 = 1)
  · rw [if_pos hx]
    have HZ : ∀ w, Calls Tryz.prog 145 #[.agg #[.int .i64 x1, .int .i64 x2]] w fun e w' => e = .returned (.bool true) ∧ Below w.heap.size w w' := fun w => by
      have := isZero_any x1 x2 w
      rw [decide_eq_true hx] at this
      exact this
    have HJ : Hid (∀ w1, Below w.heap.size w w1 → Calls Tryz.prog 168 #[.pointer (some ⟨bl, 0, none⟩)] w1 fun e w' => e = .returned (.pointer (some ⟨D j, 0, none⟩)) ∧ w' = w1) := fun w1 hb => running_any (k.below hb) hn hj
    have HF : Hid (∀ w1, Below w.heap.size w w1 → ((w1.cell? ⟨br, 0, none⟩ = some vp ∧ w1.cell? ⟨br, 1, none⟩ = some (.iface 78 (.pointer (some ⟨bl, 0, none⟩)))) ∧ w1.cell? ⟨D j, 1, none⟩ = some (.int .i64 h.calls[j].pc) ∧ w1.frozen? ⟨D j, 1, none⟩ = false) ∧ LEnd B bl br vp (LOwn bl br vcs vsd C D T h.calls.length) w (setH h { curC h with pc := a }) (w1.setCell ⟨D j, 1, none⟩ (.int .i64 a))) := fun w1 hb => by
      have k1 := k.below hb
      obtain ⟨⟨y0, y1, _⟩, _⟩ := five_cells k1.rn
      obtain ⟨⟨_, z1, _⟩, _, zf1, _⟩ := five_cells (k1.bd j hj)
      refine ⟨⟨⟨y0, y1⟩, z1, zf1⟩, ?_⟩
      have e : setH h { curC h with pc := a } = { h with calls := h.calls.set j { h.calls[j] with pc := a } } := by
        unfold setH
        rw [cur_at hn hj, hn, Int.toNat_natCast]
      rw [e]
      obtain ⟨k2, g2⟩ := k1.pc hj a
      refine LEnd.first hb hB ⟨_, _, _, _, _, k2, ?_⟩
      simp only [List.length_set]
      exact g2
    clear k hx
    go_enter Tryz.func129, Tryz.ntmps129
    go_wp2_with (first
      | (go_at_call 145; refine (HZ _).mono ?_; rintro e w2 ⟨rfl, hb⟩; obtain ⟨⟨⟨y0, y1⟩, z1, zf1⟩, hE⟩ := HF.out _ hb)
      | (go_at_call 168; refine (HJ.out _ hb).mono ?_; rintro e w' ⟨rfl, hw⟩; obtain rfl := hw.symm))
    exact bodyPost_end (results_none rfl _ _ _) rfl ⟨rfl, hE⟩
  · rw [if_neg hx]
    have HZ : ∀ w, Calls Tryz.prog 145 #[.agg #[.int .i64 x1, .int .i64 x2]] w fun e w' => e = .returned (.bool false) ∧ Below w.heap.size w w' := fun w => by
      have := isZero_any x1 x2 w
      rw [decide_eq_false hx] at this
      exact this
    have HE : Hid (∀ w1, Below w.heap.size w w1 → LEnd B bl br vp (LOwn bl br vcs vsd C D T h.calls.length) w h w1) := fun w1 hb => ⟨_, _, _, _, _, k.below hb, LGo.of_below hB hb⟩
    clear k hx
    go_enter Tryz.func129, Tryz.ntmps129
    go_wp2_with (go_at_call 145; refine (HZ _).mono ?_; rintro e w2 ⟨rfl, hb⟩)
    exact bodyPost_end (results_none rfl _ _ _) rfl ⟨rfl, HE.out _ hb⟩
end Go.Proofs.YtfpodljalccpnaaGreatDoor

/-
  The program's heap at work: operations are done, part ten: a method is called.
-/
namespace Go.Proofs.YtfpodljalccpnaaGreatDoor
open Go.RowKit
variable {B : Nat} {w w' : World} {bl br : Nat} {vp vcs vsd : Value} {C D : Nat → Nat} {T : Nat → Value × Value} {h h' : Hp}
theorem run_copy_two {P : Program} (w : World) (dT sT ty elem : TypeId) (b o dLen dCap : Nat) (a : Addr) (sLen sCap : Nat) (cs : List Value)
    (hu : P.underlying dT = some (.slice elem)) (hs : (P.info? elem).map (·.size) = some 2) (hn : cs.length = Nat.min sLen dLen * 2)
    (hsrc : ∀ j v, cs[j]? = some v → w.cell? (a.add j) = some v) (hc : ∀ j, j < cs.length → (w.cell? ⟨b, o + j, none⟩).isSome = true) (hf : ∀ j, j < cs.length → w.frozen? ⟨b, o + j, none⟩ = false) (h1 : ∀ v ∈ cs, v.oneCell' = true) :
    (Builtin.copy_ #[dT, sT] ty #[.slice (some ⟨b, o, none⟩) dLen dCap, .slice (some a) sLen sCap]).run P w = .ok (goInt (Nat.min sLen dLen)) (w.setCells b o cs) := by
  have hl := run_loadCells_list (P := P) w a cs hsrc
  have hst := run_storeCells_cells (P := P) b o cs 0 w (by simpa using hc) (by simpa using hf) h1
  cases hq : P.info? elem with
  | none => simp [hq] at hs
  | some i =>
    have hi : i.size = 2 := by simpa [hq] using hs
    simp [Builtin.copy_, run_underlying hu, Builtin.lenOf, Builtin.firstCells, sizeOf, typeInfo, hq, hi, ← hn, hl, hst]
theorem run_copy_zero {P : Program} (w : World) (dT sT ty elem : TypeId) (d a : Option Addr) (dLen dCap sLen sCap : Nat) (hu : P.underlying dT = some (.slice elem)) (hs : (P.info? elem).map (·.size) = some 2) (hn : Nat.min sLen dLen = 0) :
    (Builtin.copy_ #[dT, sT] ty #[.slice d dLen dCap, .slice a sLen sCap]).run P w = .ok (goInt 0) w := by
  cases hq : P.info? elem with
  | none => simp [hq] at hs
  | some i =>
    have hl : ∀ (x : Addr), (loadCells x 0).run P w = .ok #[] w := fun x => by simpa using run_loadCells_list (P := P) w x [] (by simp)
    cases d <;> cases a <;> simp [Builtin.copy_, run_underlying hu, Builtin.lenOf, Builtin.firstCells, sizeOf, typeInfo, hq, hn, storeCells, hl]
theorem PairRow.over {B g n cap : Nat} : ∀ (ys pre zs : List (Int × Int)) {w : World}, PairRow B w (.slice (some ⟨g, 0, none⟩) n cap) (pre ++ zs) → ys.length ≤ zs.length → PairRow B (w.setCells g (pre.length * 2) (pcells ys)) (.slice (some ⟨g, 0, none⟩) n cap) (pre ++ ys ++ zs.drop ys.length)
  | [], pre, zs, _, h, _ => by simpa [pcells, World.setCells] using h
  | (x, y) :: t, pre, zs, w, h, hl => by
    obtain ⟨z, zs', rfl⟩ : ∃ z zs', zs = z :: zs' := by
      cases zs with
      | nil => simp at hl
      | cons z zs' => exact ⟨z, zs', rfl⟩
    have h1 := h.set pre.length (by simp) x y
    have e : (pre ++ z :: zs').set pre.length (x, y) = (pre ++ [(x, y)]) ++ zs' := by simp
    rw [e] at h1
    have h2 := PairRow.over t (pre ++ [(x, y)]) zs' h1 (by simpa using hl)
    simp only [Nat.zero_add] at h2
    have e2 : (pre ++ [(x, y)]).length * 2 = pre.length * 2 + 1 + 1 := by simp; omega
    rw [e2] at h2
    have e3 : pre ++ (x, y) :: t ++ (z :: zs').drop ((x, y) :: t).length = pre ++ [(x, y)] ++ t ++ zs'.drop t.length := by simp
    rw [e3]
    have e4 : pcells ((x, y) :: t) = .int .i64 x :: .int .i64 y :: pcells t := by simp [pcells]
    rw [e4]
    exact h2
theorem setCellsL_size (b : Nat) : ∀ (vs : List Value) (o : Nat) (w : World), (w.setCells b o vs).heap.size = w.heap.size
  | [], _, _ => rfl
  | v :: r, o, w => by rw [World.setCells, setCellsL_size b r]; simp [World.setCell]
theorem setCellsL_block (b : Nat) {q : Nat} (hq : q ≠ b) : ∀ (vs : List Value) (o : Nat) (w : World), (w.setCells b o vs).heap[q]? = w.heap[q]?
  | [], _, _ => rfl
  | v :: r, o, w => by rw [World.setCells, setCellsL_block b hq r]; exact Below.heap_setCell _ _ _ _ hq
theorem setCells_belowL {B b : Nat} {w : World} : ∀ (vs : List Value) (o : Nat) {W : World}, Below B w W → B ≤ b → Below B w (W.setCells b o vs)
  | [], _, _, h, _ => h
  | v :: vs, o, _, h, hB => setCells_belowL vs (o + 1) (h.setCell (p := ⟨b, o, none⟩) hB v) hB
theorem copy_args {B : Nat} (W : World) (vt : Value) (args : List (Int × Int)) (hM : OpsAt W vt args) (g nt : Nat) (hrow : PairRow B W (.slice (some ⟨g, 0, none⟩) nt nt) (List.replicate nt (0, 0))) (hn : args.length ≤ nt) :
    ∃ W', (Builtin.copy_ #[27, 27] 3 #[.slice (some ⟨g, 0, none⟩) nt nt, vt]).run Tryz.prog W = .ok (goInt args.length) W' ∧ PairRow B W' (.slice (some ⟨g, 0, none⟩) nt nt) (args ++ List.replicate (nt - args.length) (0, 0)) ∧ W'.heap.size = W.heap.size ∧ (∀ q, q ≠ g → W'.heap[q]? = W.heap[q]?) ∧ ∀ {B' : Nat} {w : World}, Below B' w W → B' ≤ g → Below B' w W' := by
  obtain ⟨i0, hi, hz0, hz1, hz2⟩ := info_parts Tryz.infoVal
  have hs : (Tryz.prog.info? 51).map (·.size) = some 2 := by rw [hi]; simp [hz1]
  obtain ⟨a, cap, rfl, hlm, hc⟩ := hM
  by_cases h0 : args.length = 0
  · have e : args = [] := List.eq_nil_of_length_eq_zero h0
    subst e
    refine ⟨W, run_copy_zero W _ _ _ _ _ _ _ _ _ _ Tryz.underlying27 hs (by simp), by simpa using hrow, rfl, fun _ _ => rfl, fun h _ => h⟩
  obtain ⟨b, o, rfl, _⟩ := hc 0 (by omega)
  have hc2 : ∀ i, (hi : i < args.length) → W.cell? ⟨b, o + i * 2, none⟩ = some (.int .i64 args[i].1) ∧ W.cell? ⟨b, o + i * 2 + 1, none⟩ = some (.int .i64 args[i].2) := fun i hi => by
    obtain ⟨b', o', hbo, q0, q1⟩ := hc i hi
    obtain ⟨rfl, rfl⟩ : b = b' ∧ o = o' := by injection hbo with e; injection e with e1 e2; exact ⟨e1, e2⟩
    exact ⟨q0, q1⟩
  have hmin : Nat.min args.length nt = args.length := Nat.min_eq_left hn
  have hsp : ∀ j, j < nt * 2 → (W.cell? ⟨g, 0 + j, none⟩).isSome = true ∧ W.frozen? ⟨g, 0 + j, none⟩ = false := by
    rcases hrow with ⟨q, _⟩ | ⟨g', off', cap', hv, _, _, _, _, hsp, _⟩
    · cases q
    · injection hv with e1 e2 e3
      injection e1 with e1
      injection e1 with e1 e4 _
      subst e1 e3 e4
      exact hsp
  have hr := run_copy_two (P := Tryz.prog) W 27 27 3 51 g 0 nt nt ⟨b, o, none⟩ args.length cap (pcells args) Tryz.underlying27 hs (by rw [pcells_length, hmin]) (fun j v hv => by
      have hj : j < (pcells args).length := (List.getElem?_eq_some_iff.1 hv).1
      rw [pcells_length] at hj
      rw [Addr.add_lit]
      have hj2 : j / 2 < args.length := by omega
      have hj3 : j / 2 * 2 ≤ j ∧ j < j / 2 * 2 + 2 := by omega
      have hp := pcells_at args (j / 2) hj2
      have hq := hc2 (j / 2) hj2
      generalize j / 2 = i at *
      by_cases e : j = i * 2
      · subst e
        rw [hp.1] at hv
        rw [← hv]
        exact hq.1
      · obtain rfl : j = i * 2 + 1 := by omega
        rw [hp.2] at hv
        rw [← hv]
        exact hq.2)
    (fun j hj => (hsp j (by rw [pcells_length] at hj; omega)).1) (fun j hj => (hsp j (by rw [pcells_length] at hj; omega)).2) (pcells_one args)
  rw [hmin] at hr
  refine ⟨_, hr, ?_, setCellsL_size _ _ _ _, fun q hq => setCellsL_block g hq _ _ _, fun hb hB => setCells_belowL _ _ hb hB⟩
  have := PairRow.over args [] (List.replicate nt (0, 0)) hrow (by simpa using hn)
  simpa using this
end Go.Proofs.YtfpodljalccpnaaGreatDoor

/-
  The program's heap at work: operations are done, part eleven: a method is called.
-/
namespace Go.Proofs.YtfpodljalccpnaaGreatDoor
open Go.RowKit
variable {B : Nat} {w w' : World} {bl br : Nat} {vp vcs vsd : Value} {C D : Nat → Nat} {T : Nat → Value × Value} {h h' : Hp}
set_option maxRecDepth 100000 in
set_option maxHeartbeats 4000000 in
theorem doCall_any (k : LV B w bl br vp vcs vsd C D T h) (hB : B ≤ w.heap.size) {ms : Ms} (hM : MethsAt w vp ms) (a : Nat) (ha : a < ms.length) {vt : Value} {args : List (Int × Int)} (t : Tk (LOwn bl br vcs vsd C D T h.calls.length) w vt args)
    (hal : (args.length : Int) = ms[a].1) (hat : ms[a].1 ≤ ms[a].2.1 ∧ ms[a].2.1 ≤ 4) (hnow : h.now < (h.calls.length : Int)) (hsd : ∀ i, (hi : i < h.calls.length) → h.calls[i].sender < (h.calls.length : Int)) (hl : h.calls.length ≤ 1000) (hbn : 0 ≤ h.born ∧ h.born ≤ 30) :
    Calls Tryz.prog 130 #[.pointer (some ⟨br, 0, none⟩), .int .i64 a, vt] w fun e w' => e = .returned (.tuple #[]) ∧ LEnd B bl br vp (LOwn bl br vcs vsd C D T h.calls.length) w (callH ms h a args) w' := by
  obtain ⟨⟨y0, y1, y2, y3, y4⟩, yf0, yf1, yf2, yf3, yf4⟩ := five_cells k.rn
  have hbr := (k.lo .run trivial br rfl)
  by_cases hb : h.born = 30
  · have HE : Hid (LEnd B bl br vp (LOwn bl br vcs vsd C D T h.calls.length) w (callH ms h a args) (w.setCell ⟨br, 4, none⟩ (.int .i64 3))) := by
      show LEnd _ _ _ _ _ _ _ _
      unfold callH
      rw [if_pos (by omega)]
      exact ⟨_, _, _, _, _, k.num (h' := codeH h 3) (i := 4) (x := 3) rfl rfl rfl (five_set4 k.rn (.int .i64 3)), LGo.set (p := ⟨br, 4, none⟩) ⟨.run, trivial, rfl⟩ hbr.1 _⟩
    rw [hb] at y2
    clear k t hM hsd
    go_enter Tryz.func130, Tryz.ntmps130
    go_wp2
    exact bodyPost_ret (results_none rfl _ _ _) rfl ⟨rfl, HE.out⟩
  have hb' : (h.born == 30) = false := beq_eq_false_iff_ne.2 hb
  obtain ⟨ap, cp, hvp, hlp, hms⟩ := id hM
  obtain ⟨pb, po, vo, hap, p0, p1, p2, p3⟩ := hms a ha
  subst hvp hap
  clear hms p3
  obtain ⟨nt, hnt⟩ := Int.eq_ofNat_of_zero_le (show 0 ≤ ms[a].2.1 by omega)
  rw [hnt] at p1
  have haz : (a : Int) < (ms.length : Int) := by omega
  obtain ⟨i0, hi, hz0, hz1, hz2⟩ := info_parts Tryz.infoVal
  have hnt4 : nt ≤ 4 := by omega
  have hmk : ∀ w : World, (Instr.makeSlice 27 (.int .i64 (nt : Int)) (.int .i64 (nt : Int))).run Tryz.prog w = .ok (.slice (some ⟨w.heap.size, 0, none⟩) nt nt) (w.alloc (.cells (madeCells #[.int .i64 0, .int .i64 0] (nt * 2)) 51)) := by
    intro w
    have := run_make (P := Tryz.prog) w 27 51 i0 _ Tryz.underlying27 hi hz0 .i64 .i64 nt nt (by omega) (Int.le_refl _) (by rw [hz2]; omega) (by omega)
    simpa [hz1, Value.cells] using this
  clear hi hz0 hz1 hz2
  have hA : Below w.heap.size w (w.alloc (.cells (madeCells #[.int .i64 0, .int .i64 0] (nt * 2)) 51)) := (Below.refl _ _).alloc (Nat.le_refl _) _
  have mk := made_pairs (B := w.heap.size) w nt 51 (Nat.le_refl _) (by omega)
  have hzA : (w.alloc (.cells (madeCells #[.int .i64 0, .int .i64 0] (nt * 2)) 51)).heap.size = w.heap.size + 1 := by simp
  obtain ⟨W3, hcp, hr3, hz3, _, hb3⟩ := copy_args _ vt args (t.at_.below hA) w.heap.size nt mk (by omega)
  have B3 : Below w.heap.size w W3 := hb3 hA (Nat.le_refl _)
  rw [hzA] at hz3
  clear hb3 hA mk
  have k3 := k.below B3
  obtain ⟨⟨u0, u1, u2, u3, u4⟩, _⟩ := five_cells k3.rn
  -- the box of the body
  have N4 : Below W3.heap.size W3 (W3.alloc (.cells #[.int .i64 a, .int .i64 0, .slice (some ⟨w.heap.size, 0, none⟩) nt nt, .slice none 0 0, .bool false] 143)) := (Below.refl _ _).alloc (Nat.le_refl _) _
  have r4 := five_new W3 143 (.int .i64 a) (.int .i64 0) (.slice (some ⟨w.heap.size, 0, none⟩) nt nt) (.slice none 0 0) (.bool false)
  have B4 : Below w.heap.size w (W3.alloc (.cells #[.int .i64 a, .int .i64 0, .slice (some ⟨w.heap.size, 0, none⟩) nt nt, .slice none 0 0, .bool false] 143)) := B3.trans (N4.mono (by omega))
  have HE4 := enter_any (cl := ⟨(a : Int), 0, args ++ List.replicate (nt - args.length) (0, 0), [], h.now, false⟩) k B4 hB (d := W3.heap.size) (by omega) (vt := .slice (some ⟨w.heap.size, 0, none⟩) nt nt) rfl rfl hnow hsd r4 ((hr3.below N4).mono hB) (fun q e => by have e' : some w.heap.size = some q := e; injection e' with e'; omega) hl
  have hmt := Tryz.go_enter bl
  have HFIN : Hid (∀ (w5 : World) (vcs' : Value) (C' D' : Nat → Nat) (T' : Nat → Value × Value), LV B w5 bl br (.slice (some ⟨pb, po, none⟩) ms.length cp) vcs' vsd C' D' T' { h with calls := h.calls ++ [⟨(a : Int), 0, args ++ List.replicate (nt - args.length) (0, 0), [], h.now, false⟩], now := (h.calls.length : Int) } → LGo B (LOwn bl br vcs vsd C D T h.calls.length) (LOwn bl br vcs' vsd C' D' T' (h.calls.length + 1)) w w5 → LEnd B bl br (.slice (some ⟨pb, po, none⟩) ms.length cp) (LOwn bl br vcs vsd C D T h.calls.length) w (callH ms h a args) (w5.setCell ⟨br, 2, none⟩ (.int .i64 (h.born + 1)))) := by
    intro w5 vcs' C' D' T' k5 g5
    have e : callH ms h a args = { h with calls := h.calls ++ [⟨(a : Int), 0, args ++ List.replicate (nt - args.length) (0, 0), [], h.now, false⟩], now := (h.calls.length : Int), born := h.born + 1 } := by
      unfold callH
      rw [if_neg (by omega), Int.toNat_natCast, getD_at ha, hnt, Int.toNat_natCast]
    rw [e]
    refine ⟨vcs', vsd, C', D', T', k5.num (i := 2) (x := h.born + 1) rfl rfl rfl (five_set2 k5.rn (.int .i64 (h.born + 1))), g5.trans ?_⟩
    have hl5 : (h.calls ++ [(⟨(a : Int), 0, args ++ List.replicate (nt - args.length) (0, 0), [], h.now, false⟩ : Cl)]).length = h.calls.length + 1 := by simp
    simp only [hl5]
    exact LGo.set (p := ⟨br, 2, none⟩) ⟨.run, trivial, rfl⟩ hbr.1 _
  have hwb : IntKind.i64.wrap (h.born + 1) = h.born + 1 := by rw [IntKind.wrap_i64]; omega
  obtain ⟨ta, tc, htv, _⟩ := id t.at_
  subst htv
  have hz3' : br < W3.heap.size := by omega
  clear k t hM k3 hsd r4 hr3 N4 B4 p0 p2 hnt hat hal hz3 hzA
  go_enter Tryz.func130, Tryz.ntmps130
  go_wp2_with (go_at_call 164; refine HE4.mono ?_; rintro e w5 ⟨rfl, vcs', C', D', T', k5, g5⟩; obtain ⟨⟨x0, x1, x2, x3, x4⟩, xf0, xf1, xf2, xf3, xf4⟩ := five_cells k5.rn)
  exact bodyPost_end (results_none rfl _ _ _) rfl ⟨rfl, HFIN.out _ _ _ _ _ k5 g5⟩
end Go.Proofs.YtfpodljalccpnaaGreatDoor

/-
  An ok heap's calls, made by the program: a call by its place; lists of calls whose callers are told later.
-/
namespace Go.Proofs.YtfpodljalccpnaaGreatDoor
open Go.RowKit
variable {B : Nat} {w w' : World} {bl br : Nat} {vp vcs vsd : Value} {C D : Nat → Nat} {T : Nat → Value × Value} {cs : List Cl} {now : Int}
def noS (c : Cl) : Cl := { c with sender := -1 }
theorem take_noS (cs : List Cl) {q : Nat} (hq : q < cs.length) : (cs.take (q + 1)).map noS = (cs.take q).map noS ++ [noS cs[q]] := by
  rw [← List.take_append_getElem hq, List.map_append]
  rfl
def lateS (cs : List Cl) (q : Nat) : List Cl := (List.range cs.length).map fun i => if i < q then cs.getD i Cl.none else noS (cs.getD i Cl.none)
theorem lateS_len (cs : List Cl) (q : Nat) : (lateS cs q).length = cs.length := by simp [lateS]
theorem lateS_at (cs : List Cl) (q : Nat) {i : Nat} (hi : i < cs.length) : (lateS cs q)[i]'(by rw [lateS_len]; exact hi) = if i < q then cs[i] else noS cs[i] := by
  simp [lateS, hi]
theorem lateS_full (cs : List Cl) : lateS cs cs.length = cs := by
  refine List.ext_getElem (lateS_len _ _) fun i h1 h2 => ?_
  rw [lateS_at cs _ h2, if_pos h2]
theorem lateS_zero (cs : List Cl) : cs.map noS = lateS cs 0 := by
  refine List.ext_getElem (by rw [lateS_len]; simp) fun i h1 h2 => ?_
  have hi : i < cs.length := by simpa using h1
  rw [lateS_at cs 0 hi, if_neg (Nat.not_lt_zero _)]
  simp
theorem lateS_set (cs : List Cl) {q : Nat} (hq : q < cs.length) : (lateS cs q).set q { (lateS cs q)[q]'(by rw [lateS_len]; exact hq) with sender := cs[q].sender } = lateS cs (q + 1) := by
  refine List.ext_getElem (by rw [List.length_set, lateS_len, lateS_len]) fun i h1 h2 => ?_
  have hi : i < cs.length := by rw [lateS_len] at h2; exact h2
  rw [lateS_at cs (q + 1) hi]
  by_cases e : q = i
  · subst e
    rw [List.getElem_set_self, lateS_at cs q hi, if_neg (Nat.lt_irrefl _), if_pos (Nat.lt_succ_self _)]
    rfl
  · rw [List.getElem_set_ne e, lateS_at cs q hi]
    by_cases e2 : i < q
    · rw [if_pos e2, if_pos (by omega)]
    · rw [if_neg e2, if_neg (by omega)]
theorem LH.ptr (k : LH B w bl vcs C D T cs now) (hp : 0 < cs.length) : ∃ g off cap, vcs = .slice (some ⟨g, off, none⟩) cs.length cap ∧ cs.length ≤ cap ∧ ∀ i, i < cs.length → w.cell? ⟨g, off + i, none⟩ = some (.pointer (some ⟨C i, 0, none⟩)) := by
  obtain ⟨_, hr⟩ := k.row
  rcases hr with ⟨_, e⟩ | ⟨g, off, cap, hv, _, _, hl, _, _, hx⟩
  · omega
  · refine ⟨g, off, cap, hv, hl, fun i hi => ?_⟩
    have := hx i (by simp [ptrs]; exact hi)
    simpa [ptrs] using this
set_option maxRecDepth 100000 in
theorem callAt_any (k : LH B w bl vcs C D T cs now) (a : Int) (h0 : -1 ≤ a) (h1 : a < (cs.length : Int)) :
    Calls Tryz.prog 80 #[.pointer (some ⟨bl, 0, none⟩), .int .i64 a] w fun e w' => e = .returned (ptrN C a) ∧ w' = w := by
  by_cases ha : a = -1
  · subst ha
    rw [ptrN_neg (by decide)]
    go_enter Tryz.func80, Tryz.ntmps80
    go_wp2
    go_ret
    exact ⟨rfl, rfl⟩
  · obtain ⟨j, rfl⟩ := Int.eq_ofNat_of_zero_le (show 0 ≤ a by omega)
    have hj : j < cs.length := by omega
    have hne : ((j : Int) == -1) = false := beq_eq_false_iff_ne.2 ha
    rw [ptrN_at]
    obtain ⟨⟨x0, x1⟩, _⟩ := two_cells k.hp
    obtain ⟨g, off, cap, hv, hl, hx⟩ := k.ptr (by omega)
    subst hv
    have z := hx j hj
    clear hx k
    go_enter Tryz.func80, Tryz.ntmps80
    go_wp2
    go_ret
    exact ⟨rfl, rfl⟩
end Go.Proofs.YtfpodljalccpnaaGreatDoor

/-
  slices.Repeat of the one number -1, at most 30 times, as the program calls it: a row of its own.
-/
namespace Go.Proofs.YtfpodljalccpnaaGreatDoor
open Go.RowKit
end Go.Proofs.YtfpodljalccpnaaGreatDoor

/-
  What is seen of a heap, by the program: orderOf.
-/
namespace Go.Proofs.YtfpodljalccpnaaGreatDoor
open Go.RowKit
end Go.Proofs.YtfpodljalccpnaaGreatDoor

/-
  What is seen of a heap, by the program: view, HeapView.
-/
namespace Go.Proofs.YtfpodljalccpnaaGreatDoor
open Go.RowKit
end Go.Proofs.YtfpodljalccpnaaGreatDoor

/-
  What is seen of a heap, by the program: HeapView.
-/
namespace Go.Proofs.YtfpodljalccpnaaGreatDoor
open Go.RowKit
theorem OwnCalls.mono {B B' : Nat} {w : World} {v : Value} {cs : List Cl} {V : Nat → Value × Value} (h : OwnCalls B w v cs V) (hB : B' ≤ B) : OwnCalls B' w v cs V := by
  refine ⟨?_, fun i hi => ⟨(h.lists i hi).1.mono hB, (h.lists i hi).2.mono hB⟩, h.apart⟩
  rcases h.row with h0 | ⟨g, off, cap, hv, hg, r⟩
  · exact .inl h0
  · exact .inr ⟨g, off, cap, hv, by omega, r⟩
end Go.Proofs.YtfpodljalccpnaaGreatDoor

/-
  A region that draws its order and may write blocks from B on: what held of them ahead is known till one writes there.
-/
namespace Go.Proofs.YtfpodljalccpnaaGreatDoor
open Go.RowKit
end Go.Proofs.YtfpodljalccpnaaGreatDoor

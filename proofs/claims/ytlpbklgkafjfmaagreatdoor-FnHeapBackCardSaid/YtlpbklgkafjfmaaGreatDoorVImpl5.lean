/-
  An ok heap's calls, made by the program: a call by its place; lists of calls whose callers are told later.
-/
import Derived.Test.YtlpbklgkafjfmaaGreatDoorLLive2
import Derived.Test.YtlpbklgkafjfmaaGreatDoorLWalk6
import Derived.Test.YtlpbklgkafjfmaaGreatDoorLWalk8
import Derived.Deep.RegionWith
import Derived.Test.YtlpbklgkafjfmaaGreatDoorOwn
import Derived.Test.YtlpbklgkafjfmaaGreatDoorCRow
import Derived.Test.YtlpbklgkafjfmaaGreatDoorHImpl3
import Derived.Laws.IdiomCopy
import Derived.Deep.RegionLaw
import Derived.Test.YtlpbklgkafjfmaaGreatDoorVImpl
import Derived.Deep.RegionHeld3
import Derived.Test.YtlpbklgkafjfmaaGreatDoorVApart

namespace Go.Proofs.YtlpbklgkafjfmaaGreatDoor
open Go.RowKit
variable {B : Nat} {w w' : World} {bl br : Nat} {vp vcs vsd : Value} {C D : Nat → Nat} {T : Nat → Value × Value} {cs : List Cl} {now : Int}
def noS (c : Cl) : Cl := { c with sender := -1 }
theorem take_noS (cs : List Cl) {q : Nat} (hq : q < cs.length) : (cs.take (q + 1)).map noS = (cs.take q).map noS ++ [noS cs[q]] := by
  rw [← List.take_append_getElem hq, List.map_append]
  rfl
def lateS (cs : List Cl) (q : Nat) : List Cl := (List.range cs.length).map fun i => if i < q then cs.getD i Cl.none else noS (cs.getD i Cl.none)
theorem lateS_len (cs : List Cl) (q : Nat) : (lateS cs q).length = cs.length := by simp [lateS]
theorem lateS_at (cs : List Cl) (q : Nat) {i : Nat} (hi : i < cs.length) : (lateS cs q)[i]'(by rw [lateS_len]; exact hi) = if i < q then cs[i] else noS cs[i] := by
  simp [lateS, hi]
theorem lateS_full (cs : List Cl) : lateS cs cs.length = cs := by
  refine List.ext_getElem (lateS_len _ _) fun i h1 h2 => ?_
  rw [lateS_at cs _ h2, if_pos h2]
theorem lateS_zero (cs : List Cl) : cs.map noS = lateS cs 0 := by
  refine List.ext_getElem (by rw [lateS_len]; simp) fun i h1 h2 => ?_
  have hi : i < cs.length := by simpa using h1
  rw [lateS_at cs 0 hi, if_neg (Nat.not_lt_zero _)]
  simp
theorem lateS_set (cs : List Cl) {q : Nat} (hq : q < cs.length) : (lateS cs q).set q { (lateS cs q)[q]'(by rw [lateS_len]; exact hq) with sender := cs[q].sender } = lateS cs (q + 1) := by
  refine List.ext_getElem (by rw [List.length_set, lateS_len, lateS_len]) fun i h1 h2 => ?_
  have hi : i < cs.length := by rw [lateS_len] at h2; exact h2
  rw [lateS_at cs (q + 1) hi]
  by_cases e : q = i
  · subst e
    rw [List.getElem_set_self, lateS_at cs q hi, if_neg (Nat.lt_irrefl _), if_pos (Nat.lt_succ_self _)]
    rfl
  · rw [List.getElem_set_ne e, lateS_at cs q hi]
    by_cases e2 : i < q
    · rw [if_pos e2, if_pos (by omega)]
    · rw [if_neg e2, if_neg (by omega)]
theorem LH.ptr (k : LH B w bl vcs C D T cs now) (hp : 0 < cs.length) : ∃ g off cap, vcs = .slice (some ⟨g, off, none⟩) cs.length cap ∧ cs.length ≤ cap ∧ ∀ i, i < cs.length → w.cell? ⟨g, off + i, none⟩ = some (.pointer (some ⟨C i, 0, none⟩)) := by
  obtain ⟨_, hr⟩ := k.row
  rcases hr with ⟨_, e⟩ | ⟨g, off, cap, hv, _, _, hl, _, _, hx⟩
  · omega
  · refine ⟨g, off, cap, hv, hl, fun i hi => ?_⟩
    have := hx i (by simp [ptrs]; exact hi)
    simpa [ptrs] using this
set_option maxRecDepth 100000 in
theorem callAt_any (k : LH B w bl vcs C D T cs now) (a : Int) (h0 : -1 ≤ a) (h1 : a < (cs.length : Int)) :
    Calls Tryz.prog 52 #[.pointer (some ⟨bl, 0, none⟩), .int .i64 a] w fun e w' => e = .returned (ptrN C a) ∧ w' = w := by
  by_cases ha : a = -1
  · subst ha
    rw [ptrN_neg (by decide)]
    go_enter Tryz.func52, Tryz.ntmps52
    go_wp2
    go_ret
    exact ⟨rfl, rfl⟩
  · obtain ⟨j, rfl⟩ := Int.eq_ofNat_of_zero_le (show 0 ≤ a by omega)
    have hj : j < cs.length := by omega
    have hne : ((j : Int) == -1) = false := beq_eq_false_iff_ne.2 ha
    rw [ptrN_at]
    obtain ⟨⟨x0, x1⟩, _⟩ := two_cells k.hp
    obtain ⟨g, off, cap, hv, hl, hx⟩ := k.ptr (by omega)
    subst hv
    have z := hx j hj
    clear hx k
    go_enter Tryz.func52, Tryz.ntmps52
    go_wp2
    go_ret
    exact ⟨rfl, rfl⟩
end Go.Proofs.YtlpbklgkafjfmaaGreatDoor

/-
  The program's heap at work: operations are done, part five: a temp is set.
-/
namespace Go.Proofs.YtlpbklgkafjfmaaGreatDoor
open Go.RowKit
variable {B : Nat} {w w' : World} {bl br : Nat} {vp vcs vsd : Value} {C D : Nat → Nat} {T : Nat → Value × Value} {h h' : Hp}
theorem LV.temp (k : LV B w bl br vp vcs vsd C D T h) {j : Nat} (hj : j < h.calls.length) {gt ot m ct : Nat} (hT : (T j).1 = .slice (some ⟨gt, ot, none⟩) m ct) (q : Nat) (hq : q < h.calls[j].temps.length) (x y : Int) :
    LV B ((w.setCell ⟨gt, ot + q * 2, none⟩ (.int .i64 x)).setCell ⟨gt, ot + q * 2 + 1, none⟩ (.int .i64 y)) bl br vp vcs vsd C D (putV T j ((T j).1, (T j).2)) { h with calls := h.calls.set j { h.calls[j] with temps := h.calls[j].temps.set q (x, y) } } ∧
    LGo B (LOwn bl br vcs vsd C D T h.calls.length) (LOwn bl br vcs vsd C D (putV T j ((T j).1, (T j).2)) h.calls.length) w ((w.setCell ⟨gt, ot + q * 2, none⟩ (.int .i64 x)).setCell ⟨gt, ot + q * 2 + 1, none⟩ (.int .i64 y)) := by
  have hown : (T j).1.ownBlock = some gt := by rw [hT]; rfl
  have hgl := k.lo (.temps j) hj gt hown
  have hTS : ∀ g, (T j).1.ownBlock = some g → (T j).2.ownBlock ≠ some g := fun g e e2 => by have := k.ap (.temps j) (.stack j) hj hj g e e2; cases this
  have hgD : gt ≠ D j := fun e => by have := k.ap (.temps j) (.body j) hj hj gt hown (by rw [e]; rfl); cases this
  have hset : ∀ g, g ≠ gt → ((w.setCell ⟨gt, ot + q * 2, none⟩ (.int .i64 x)).setCell ⟨gt, ot + q * 2 + 1, none⟩ (.int .i64 y)).heap[g]? = w.heap[g]? := fun g h2 => (Below.heap_setCell _ _ _ _ (fun e => h2 e)).trans (Below.heap_setCell _ _ _ _ (fun e => h2 e))
  have hbl : ∀ g, g < w.heap.size → g ≠ D j → (T j).1.ownBlock ≠ some g → (T j).2.ownBlock ≠ some g → ((w.setCell ⟨gt, ot + q * 2, none⟩ (.int .i64 x)).setCell ⟨gt, ot + q * 2 + 1, none⟩ (.int .i64 y)).heap[g]? = w.heap[g]? := fun g _ _ h3 _ => hset g (fun e => h3 (by rw [e]; exact hown))
  have ht := (k.ts j hj).1
  rw [hT] at ht
  have ht' := ht.set q hq x y
  rw [← hT] at ht'
  have hs' := (((k.ts j hj).2.set_other (p := ⟨gt, ot + q * 2, none⟩) (.int .i64 x) (hTS gt hown)).set_other (p := ⟨gt, ot + q * 2 + 1, none⟩) (.int .i64 y) (hTS gt hown))
  exact ⟨k.turn hj rfl (by simp [World.setCell]) hbl ((k.bd j hj).of_block (hset (D j) (Ne.symm hgD))) ht' hs' (fun g e => .inl e) (fun g e => .inr (.inl e)) hTS, LV.turn_go hj ((Below.refl _ _ |>.setCell (p := ⟨gt, ot + q * 2, none⟩) hgl.1 _).setCell (p := ⟨gt, ot + q * 2 + 1, none⟩) hgl.1 _) hbl (fun g e => .inl e) (fun g e => .inr (.inl e))⟩
set_option maxRecDepth 100000 in
set_option maxHeartbeats 2000000 in
theorem doSet_any (k : LV B w bl br vp vcs vsd C D T h) {j : Nat} (hn : h.now = (j : Int)) (hj : j < h.calls.length) (_hB : B ≤ w.heap.size) {vt : Value} {args : List (Int × Int)} (t : Tk (LOwn bl br vcs vsd C D T h.calls.length) w vt args) (h1 : 0 < args.length) (q : Nat) (hq : q < h.calls[j].temps.length) :
    Calls Tryz.prog 87 #[.pointer (some ⟨br, 0, none⟩), .int .i64 q, vt] w fun e w' => e = .returned (.tuple #[]) ∧ LEnd B bl br vp (LOwn bl br vcs vsd C D T h.calls.length) w (setH h { curC h with temps := (curC h).temps.set q args[0] }) w' := by
  have kd := k.below ((Below.refl _ _).drew)
  have HR := running_any kd hn hj
  have hm := Tryz.go_running bl
  obtain ⟨⟨y0, y1, y2, y3, y4⟩, _⟩ := five_cells k.rn
  obtain ⟨⟨z0, z1, z2, z3, z4⟩, _⟩ := five_cells (k.bd j hj)
  have ht := (k.ts j hj).1
  obtain ⟨gt, ot, ct, hT, _⟩ := ht.form (by omega)
  have HE : LEnd B bl br vp (LOwn bl br vcs vsd C D T h.calls.length) w (setH h { curC h with temps := (curC h).temps.set q args[0] }) ((w.setCell ⟨gt, ot + q * 2, none⟩ (.int .i64 args[0].1)).setCell ⟨gt, ot + q * 2 + 1, none⟩ (.int .i64 args[0].2)).drew := by
    have e : setH h { curC h with temps := (curC h).temps.set q args[0] } = { h with calls := h.calls.set j { h.calls[j] with temps := h.calls[j].temps.set q (args[0].1, args[0].2) } } := by
      unfold setH
      rw [cur_at hn hj, hn, Int.toNat_natCast]
    rw [e]
    obtain ⟨k2, g2⟩ := k.temp hj hT q hq args[0].1 args[0].2
    refine ⟨_, _, _, _, _, k2.below ((Below.refl _ _).drew), ?_⟩
    simp only [List.length_set]
    exact g2.trans ⟨(Below.refl _ _).drew, fun _ _ _ => rfl, fun _ e => .inl e⟩
  rw [hT] at ht z2
  obtain ⟨⟨c0, c1⟩, cf0, cf1⟩ := ht.cell hq
  obtain ⟨b, o, cap, hvt, e0, e1⟩ := t.cell h1
  subst hvt
  rw [Nat.zero_mul, Nat.add_zero] at e0 e1
  have hz : (0 : Int) < (args.length : Int) := by omega
  have hqz : (q : Int) < (h.calls[j].temps.length : Int) := by omega
  have HEH : Hid _ := HE
  clear k kd ht t HE
  go_enter Tryz.func87, Tryz.ntmps87
  go_wp2_with fail
  go_region_law (go_simp; go_at_call 131; refine HR.mono ?_; rintro e w' ⟨rfl, hw⟩; obtain rfl := hw.symm)
  all_goals exact bodyPost_end (results_none rfl _ _ _) rfl ⟨rfl, HEH.out⟩
theorem pokeH_at {h : Hp} {i : Nat} (hi : i < h.calls.length) (q : Nat) (v : Int × Int) : pokeH h i (q : Int) v = { h with calls := h.calls.set i { h.calls[i] with temps := h.calls[i].temps.set q v } } := by
  unfold pokeH
  rw [getD_at hi, Int.toNat_natCast]
theorem pokeH_none {h : Hp} {i : Nat} (hi : i < h.calls.length) {q : Nat} (hq : ¬ q < h.calls[i].temps.length) (v : Int × Int) : pokeH h i (q : Int) v = h := by
  have e : h.calls[i].temps.set q v = h.calls[i].temps := List.set_eq_of_length_le (by omega)
  have e2 : h.calls.set i h.calls[i] = h.calls := List.set_getElem_self hi
  rw [pokeH_at hi, e]
  show ({ h with calls := h.calls.set i h.calls[i] } : Hp) = h
  rw [e2]
end Go.Proofs.YtlpbklgkafjfmaaGreatDoor

/-
  The program's heap at work: operations are done, part six: a temp of any call is set.
-/
namespace Go.Proofs.YtlpbklgkafjfmaaGreatDoor
open Go.RowKit
variable {B : Nat} {w w' : World} {bl br : Nat} {vp vcs vsd : Value} {C D : Nat → Nat} {T : Nat → Value × Value} {h h' : Hp}
set_option maxRecDepth 100000 in
set_option maxHeartbeats 2000000 in
theorem doPoke_any (k : LV B w bl br vp vcs vsd C D T h) (hB : B ≤ w.heap.size) (q : Nat) {vt : Value} {args : List (Int × Int)} (t : Tk (LOwn bl br vcs vsd C D T h.calls.length) w vt args) (h1 : 1 < args.length) {i : Nat} (hi : i < h.calls.length) (hv : args[0].2 = (i : Int)) :
    Calls Tryz.prog 98 #[.pointer (some ⟨br, 0, none⟩), .int .i64 q, vt] w fun e w' => e = .returned (.tuple #[]) ∧ LEnd B bl br vp (LOwn bl br vcs vsd C D T h.calls.length) w (pokeH h i q args[1]) w' := by
  have kd := k.below ((Below.refl _ _).drew)
  have HL := looked_any kd hi
  have hm1 := Tryz.go_looked bl
  obtain ⟨⟨y0, y1, y2, y3, y4⟩, _⟩ := five_cells k.rn
  obtain ⟨⟨z0, z1, z2, z3, z4⟩, _⟩ := five_cells (k.bd i hi)
  obtain ⟨b, o, cap, hvt, c0, c1⟩ := t.cell (i := 0) (by omega)
  obtain ⟨b', o', cap', hvt', d0, d1⟩ := t.cell h1
  subst hvt
  cases hvt'
  rw [Nat.zero_mul, Nat.add_zero] at c0 c1
  rw [Nat.one_mul] at d0 d1
  rw [hv] at c1
  have hz : (1 : Int) < (args.length : Int) := by omega
  have hz0 : 0 < args.length := by omega
  have ht := (k.ts i hi).1
  obtain ⟨at_, ct, hT, _⟩ := ht.slice
  by_cases hq : q < h.calls[i].temps.length
  · obtain ⟨gt, ot, ct', hT', _⟩ := ht.form (by omega)
    have HE : LEnd B bl br vp (LOwn bl br vcs vsd C D T h.calls.length) w (pokeH h i q args[1]) ((w.setCell ⟨gt, ot + q * 2, none⟩ (.int .i64 args[1].1)).setCell ⟨gt, ot + q * 2 + 1, none⟩ (.int .i64 args[1].2)).drew := by
      rw [pokeH_at hi]
      obtain ⟨k2, g2⟩ := k.temp hi hT' q hq args[1].1 args[1].2
      refine ⟨_, _, _, _, _, k2.below ((Below.refl _ _).drew), ?_⟩
      simp only [List.length_set]
      exact g2.trans ⟨(Below.refl _ _).drew, fun _ _ _ => rfl, fun _ e => .inl e⟩
    rw [hT'] at ht z2
    obtain ⟨⟨u0, u1⟩, uf0, uf1⟩ := ht.cell hq
    have hqz : (q : Int) < (h.calls[i].temps.length : Int) := by omega
    have hq0 : (0 : Int) ≤ (q : Int) := by omega
    have HEH : Hid _ := HE
    clear k kd ht t HE hT
    go_enter Tryz.func98, Tryz.ntmps98
    go_wp2_with fail
    go_region_law (go_simp; go_at_call 130; refine HL.mono ?_; rintro e w' ⟨rfl, hw⟩; obtain rfl := hw.symm)
    all_goals
      go_wp2_with (go_at_call 63; refine (isPlace_any _ _ _).mono ?_; rintro e w' ⟨rfl, hw⟩; obtain rfl := hw.symm; rw [inR_true.2 ⟨hq0, by omega⟩])
      exact bodyPost_end (results_none rfl _ _ _) rfl ⟨rfl, HEH.out⟩
  · have hE : LEnd B bl br vp (LOwn bl br vcs vsd C D T h.calls.length) w (pokeH h i q args[1]) w.drew := by
      rw [pokeH_none hi hq]
      exact ⟨_, _, _, _, _, kd, LGo.of_below hB ((Below.refl _ _).drew)⟩
    rw [hT] at z2
    have hEH : Hid _ := hE
    clear k kd ht t hE
    generalize h.calls[i].temps.length = nt at *
    go_enter Tryz.func98, Tryz.ntmps98
    go_wp2_with fail
    go_region_law (go_simp; go_at_call 130; refine HL.mono ?_; rintro e w' ⟨rfl, hw⟩; obtain rfl := hw.symm)
    all_goals
      go_wp2_with (go_at_call 63; refine (isPlace_any _ _ _).mono ?_; rintro e w' ⟨rfl, hw⟩; obtain rfl := hw.symm; rw [inR_false.2 (by omega)])
      exact bodyPost_end (results_none rfl _ _ _) rfl ⟨rfl, hEH.out⟩
end Go.Proofs.YtlpbklgkafjfmaaGreatDoor

/-
  The program's heap at work: operations are done, part seven: a temp of any call is seen.
-/
namespace Go.Proofs.YtlpbklgkafjfmaaGreatDoor
open Go.RowKit
variable {B : Nat} {w w' : World} {bl br : Nat} {vp vcs vsd : Value} {C D : Nat → Nat} {T : Nat → Value × Value} {h h' : Hp}
set_option maxRecDepth 100000 in
set_option maxHeartbeats 2000000 in
theorem doPeek_any (k : LV B w bl br vp vcs vsd C D T h) {j : Nat} (hn : h.now = (j : Int)) (hj : j < h.calls.length) (hB : B ≤ w.heap.size) (hl : h.calls[j].stack.length ≤ 1000) (q : Nat) {vt : Value} {args : List (Int × Int)} (t : Tk (LOwn bl br vcs vsd C D T h.calls.length) w vt args) (h1 : 0 < args.length) {i : Nat} (hi : i < h.calls.length) (hv : args[0].2 = (i : Int)) :
    Calls Tryz.prog 97 #[.pointer (some ⟨br, 0, none⟩), .int .i64 q, vt] w fun e w' => e = .returned (.tuple #[]) ∧ LEnd B bl br vp (LOwn bl br vcs vsd C D T h.calls.length) w (pushH h (h.calls[i].temps.getD q (0, 0))) w' := by
  have kd := k.below ((Below.refl _ _).drew)
  have HL := looked_any kd hi
  have hm1 := Tryz.go_looked bl
  obtain ⟨⟨y0, y1, y2, y3, y4⟩, _⟩ := five_cells k.rn
  obtain ⟨⟨z0, z1, z2, z3, z4⟩, _⟩ := five_cells (k.bd i hi)
  obtain ⟨b, o, cap, hvt, c0, c1⟩ := t.cell h1
  subst hvt
  rw [Nat.zero_mul, Nat.add_zero] at c0 c1
  rw [hv] at c1
  have hz : (0 : Int) < (args.length : Int) := by omega
  have ht := (k.ts i hi).1
  obtain ⟨at_, ct, hT, _⟩ := ht.slice
  have hbd : Below w.heap.size w w.drew := (Below.refl _ _).drew
  by_cases hq : q < h.calls[i].temps.length
  · rw [getD_at hq]
    obtain ⟨gt, ot, ct', hT', _⟩ := ht.form (by omega)
    have HP := put_end k hn hj hB hl h.calls[i].temps[q].1 h.calls[i].temps[q].2
    rw [hT'] at ht z2
    obtain ⟨⟨u0, u1⟩, uf0, uf1⟩ := ht.cell hq
    have hqz : (q : Int) < (h.calls[i].temps.length : Int) := by omega
    have hq0 : (0 : Int) ≤ (q : Int) := by omega
    have HPH : Hid _ := HP
    clear k kd ht t HP hT
    generalize h.calls[i].temps[q] = x at *
    obtain ⟨x1, x2⟩ := x
    generalize h.calls[i].temps.length = nt at *
    go_enter Tryz.func97, Tryz.ntmps97
    go_wp2_with fail
    go_region_law (go_simp; go_at_call 130; refine HL.mono ?_; rintro e w' ⟨rfl, hw⟩; obtain rfl := hw.symm)
    all_goals
      go_wp2_with (first
        | (go_at_call 63; refine (isPlace_any _ _ _).mono ?_; rintro e w' ⟨rfl, hw⟩; obtain rfl := hw.symm; rw [inR_true.2 ⟨hq0, by omega⟩])
        | (go_at_call 105; refine (HPH.out _ hbd).mono ?_; rintro e w3 ⟨rfl, hE⟩))
      exact bodyPost_end (results_none rfl _ _ _) rfl ⟨rfl, hE⟩
  · have hg : h.calls[i].temps.getD q (0, 0) = (0, 0) := by rw [List.getD_eq_getElem?_getD, List.getElem?_eq_none (by omega)]; rfl
    rw [hg]
    have HP := put_end k hn hj hB hl 0 0
    rw [hT] at z2
    have HPH : Hid _ := HP
    clear k kd ht t HP hg
    generalize h.calls[i].temps.length = nt at *
    go_enter Tryz.func97, Tryz.ntmps97
    go_wp2_with fail
    go_region_law (go_simp; go_at_call 130; refine HL.mono ?_; rintro e w' ⟨rfl, hw⟩; obtain rfl := hw.symm)
    all_goals
      go_wp2_with (first
        | (go_at_call 63; refine (isPlace_any _ _ _).mono ?_; rintro e w' ⟨rfl, hw⟩; obtain rfl := hw.symm; rw [inR_false.2 (by omega)])
        | (go_at_call 105; refine (HPH.out _ hbd).mono ?_; rintro e w3 ⟨rfl, hE⟩))
      exact bodyPost_ret (results_none rfl _ _ _) rfl ⟨rfl, hE⟩
end Go.Proofs.YtlpbklgkafjfmaaGreatDoor

/-
  The program's heap at work: operations are done, part eight: two numbers are added, two values are held against one another, one goes on elsewhere.
-/
namespace Go.Proofs.YtlpbklgkafjfmaaGreatDoor
open Go.RowKit
variable {B : Nat} {w w' : World} {bl br : Nat} {vp vcs vsd : Value} {C D : Nat → Nat} {T : Nat → Value × Value} {h h' : Hp}
theorem Tk.cells2 {P : Nat → Prop} {v : Value} {args : List (Int × Int)} (t : Tk P w v args) (h1 : 1 < args.length) : ∃ b o cap, v = .slice (some ⟨b, o, none⟩) args.length cap ∧ (w.cell? ⟨b, o, none⟩ = some (.int .i64 args[0].1) ∧ w.cell? ⟨b, o + 1, none⟩ = some (.int .i64 args[0].2)) ∧ w.cell? ⟨b, o + 2, none⟩ = some (.int .i64 args[1].1) ∧ w.cell? ⟨b, o + 2 + 1, none⟩ = some (.int .i64 args[1].2) := by
  obtain ⟨b, o, cap, hvt, c0, c1⟩ := t.cell (i := 0) (by omega)
  obtain ⟨b', o', cap', hvt', d0, d1⟩ := t.cell h1
  subst hvt
  obtain ⟨rfl, rfl, rfl⟩ : b = b' ∧ o = o' ∧ cap = cap' := by
    injection hvt' with e1 _ e3
    injection e1 with e1
    injection e1 with e1 e2 _
    exact ⟨e1, e2, e3⟩
  rw [Nat.zero_mul, Nat.add_zero] at c0 c1
  rw [Nat.one_mul] at d0 d1
  exact ⟨b, o, cap, rfl, ⟨c0, c1⟩, d0, d1⟩
set_option maxRecDepth 100000 in
set_option maxHeartbeats 2000000 in
theorem doAdd_any (k : LV B w bl br vp vcs vsd C D T h) {j : Nat} (hn : h.now = (j : Int)) (hj : j < h.calls.length) (hB : B ≤ w.heap.size) (hl : h.calls[j].stack.length ≤ 1000) (a : Int) {vt : Value} {args : List (Int × Int)} (t : Tk (LOwn bl br vcs vsd C D T h.calls.length) w vt args) (h1 : 1 < args.length) (b0 : 0 ≤ args[0].2 ∧ args[0].2 ≤ 999) (b1 : 0 ≤ args[1].2 ∧ args[1].2 ≤ 999) :
    Calls Tryz.prog 89 #[.pointer (some ⟨br, 0, none⟩), .int .i64 a, vt] w fun e w' => e = .returned (.tuple #[]) ∧ LEnd B bl br vp (LOwn bl br vcs vsd C D T h.calls.length) w (pushH h (1, (args[0].2 + args[1].2) % 1000)) w' := by
  obtain ⟨b, o, cap, hvt, ⟨c0, c1⟩, d0, d1⟩ := t.cells2 h1
  subst hvt
  have hz : (1 : Int) < (args.length : Int) := by omega
  have hz0 : (0 : Int) < (args.length : Int) := by omega
  have HPH : Hid (∀ (w1 : World), Below w.heap.size w w1 → Calls Tryz.prog 105 #[.pointer (some ⟨br, 0, none⟩), .agg #[.int .i64 1, .int .i64 ((args[0].2 + args[1].2).tmod 1000)]] w1 fun e w' => e = .returned (.tuple #[]) ∧ LEnd B bl br vp (LOwn bl br vcs vsd C D T h.calls.length) w (pushH h (1, (args[0].2 + args[1].2) % 1000)) w') := by
    rw [show (args[0].2 + args[1].2).tmod 1000 = (args[0].2 + args[1].2) % 1000 from Int.tmod_eq_emod_of_nonneg (by omega)]
    exact put_end k hn hj hB hl 1 ((args[0].2 + args[1].2) % 1000)
  clear k t c0 d0
  generalize args[0].2 = X at *
  generalize args[1].2 = Y at *
  have hw1 : IntKind.i64.wrap (X + Y) = X + Y := by rw [IntKind.wrap_i64]; omega
  generalize args.length = na at *
  go_enter Tryz.func89, Tryz.ntmps89
  go_wp2_with fail
  go_region_with (first
    | (go_at_call 106; refine (numVal_any _ _).mono ?_; rintro e w2 ⟨rfl, hb⟩; have hb' : Below w.heap.size w w2 := (Below.refl _ _).drew.trans hb)
    | (go_at_call 105; refine (HPH.out _ hb').mono ?_; rintro e w3 ⟨rfl, hE⟩))
  all_goals exact bodyPost_end (results_none rfl _ _ _) rfl ⟨rfl, hE⟩
set_option maxRecDepth 100000 in
set_option maxHeartbeats 2000000 in
theorem doSame_any (k : LV B w bl br vp vcs vsd C D T h) {j : Nat} (hn : h.now = (j : Int)) (hj : j < h.calls.length) (hB : B ≤ w.heap.size) (hl : h.calls[j].stack.length ≤ 1000) (a : Int) {vt : Value} {args : List (Int × Int)} (t : Tk (LOwn bl br vcs vsd C D T h.calls.length) w vt args) (h1 : 1 < args.length) :
    Calls Tryz.prog 90 #[.pointer (some ⟨br, 0, none⟩), .int .i64 a, vt] w fun e w' => e = .returned (.tuple #[]) ∧ LEnd B bl br vp (LOwn bl br vcs vsd C D T h.calls.length) w (pushH h (bitV (decide (args[0] = args[1])))) w' := by
  obtain ⟨b, o, cap, hvt, ⟨c0, c1⟩, d0, d1⟩ := t.cells2 h1
  subst hvt
  have hz : (1 : Int) < (args.length : Int) := by omega
  have hz0 : (0 : Int) < (args.length : Int) := by omega
  have HPH : Hid (∀ (x : Bool) (w1 : World), Below w.heap.size w w1 → Calls Tryz.prog 105 #[.pointer (some ⟨br, 0, none⟩), .agg #[.int .i64 1, .int .i64 (if x then 1 else 0)]] w1 fun e w' => e = .returned (.tuple #[]) ∧ LEnd B bl br vp (LOwn bl br vcs vsd C D T h.calls.length) w (pushH h (1, (if x then 1 else 0))) w') := fun x => put_end k hn hj hB hl 1 (if x then 1 else 0)
  clear k t
  unfold bitV
  generalize args[0] = x at *
  generalize args[1] = y at *
  obtain ⟨x1, x2⟩ := x
  obtain ⟨y1, y2⟩ := y
  simp only at c0 c1 d0 d1
  generalize args.length = na at *
  by_cases e1 : x1 = y1
  · subst e1
    by_cases e2 : x2 = y2
    · subst e2
      rw [decide_eq_true (rfl : (x1, x2) = (x1, x2))]
      go_enter Tryz.func90, Tryz.ntmps90
      go_wp2_with fail
      go_region_with (first
        | (go_at_call 107; refine (truthVal_any true _).mono ?_; rintro e w2 ⟨rfl, hb⟩; have hb' : Below w.heap.size w w2 := (Below.refl _ _).drew.trans hb)
        | (go_at_call 105; refine (HPH.out true _ hb').mono ?_; rintro e w3 ⟨rfl, hE⟩))
      all_goals exact bodyPost_end (results_none rfl _ _ _) rfl ⟨rfl, hE⟩
    · rw [decide_eq_false (show ¬ (x1, x2) = (x1, y2) from fun q => e2 (Prod.mk.inj q).2)]
      have e2' : (x2 == y2) = false := beq_eq_false_iff_ne.2 e2
      clear e2
      go_enter Tryz.func90, Tryz.ntmps90
      go_wp2_with fail
      go_region_with (first
        | (go_at_call 107; refine (truthVal_any false _).mono ?_; rintro e w2 ⟨rfl, hb⟩; have hb' : Below w.heap.size w w2 := (Below.refl _ _).drew.trans hb)
        | (go_at_call 105; refine (HPH.out false _ hb').mono ?_; rintro e w3 ⟨rfl, hE⟩))
      all_goals exact bodyPost_end (results_none rfl _ _ _) rfl ⟨rfl, hE⟩
  · rw [decide_eq_false (show ¬ (x1, x2) = (y1, y2) from fun q => e1 (Prod.mk.inj q).1)]
    have e1' : (x1 == y1) = false := beq_eq_false_iff_ne.2 e1
    clear e1
    go_enter Tryz.func90, Tryz.ntmps90
    go_wp2_with fail
    go_region_with (first
      | (go_at_call 107; refine (truthVal_any false _).mono ?_; rintro e w2 ⟨rfl, hb⟩; have hb' : Below w.heap.size w w2 := (Below.refl _ _).drew.trans hb)
      | (go_at_call 105; refine (HPH.out false _ hb').mono ?_; rintro e w3 ⟨rfl, hE⟩))
    all_goals exact bodyPost_end (results_none rfl _ _ _) rfl ⟨rfl, hE⟩
end Go.Proofs.YtlpbklgkafjfmaaGreatDoor

/-
  slices.Repeat of the one number -1, at most 30 times, as the program calls it: a row of its own.
-/
namespace Go.Proofs.YtlpbklgkafjfmaaGreatDoor
open Go.RowKit
end Go.Proofs.YtlpbklgkafjfmaaGreatDoor

/-
  What is seen of a heap, by the program: orderOf.
-/
namespace Go.Proofs.YtlpbklgkafjfmaaGreatDoor
open Go.RowKit
end Go.Proofs.YtlpbklgkafjfmaaGreatDoor

/-
  What is seen of a heap, by the program: view, HeapView.
-/
namespace Go.Proofs.YtlpbklgkafjfmaaGreatDoor
open Go.RowKit
end Go.Proofs.YtlpbklgkafjfmaaGreatDoor

/-
  What is seen of a heap, by the program: HeapView.
-/
namespace Go.Proofs.YtlpbklgkafjfmaaGreatDoor
open Go.RowKit
theorem OwnCalls.mono {B B' : Nat} {w : World} {v : Value} {cs : List Cl} {V : Nat → Value × Value} (h : OwnCalls B w v cs V) (hB : B' ≤ B) : OwnCalls B' w v cs V := by
  refine ⟨?_, fun i hi => ⟨(h.lists i hi).1.mono hB, (h.lists i hi).2.mono hB⟩, h.apart⟩
  rcases h.row with h0 | ⟨g, off, cap, hv, hg, r⟩
  · exact .inl h0
  · exact .inr ⟨g, off, cap, hv, by omega, r⟩
end Go.Proofs.YtlpbklgkafjfmaaGreatDoor

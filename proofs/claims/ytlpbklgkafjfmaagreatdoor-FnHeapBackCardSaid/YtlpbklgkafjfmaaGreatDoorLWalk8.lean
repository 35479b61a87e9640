/-
  The program hands out its calls: a call's body as a call.
-/
import Derived.Test.YtlpbklgkafjfmaaGreatDoorLWalk6
import Derived.Test.YtlpbklgkafjfmaaGreatDoorVApart
import Derived.BigRegion

namespace Go.Proofs.YtlpbklgkafjfmaaGreatDoor
open Go.RowKit
set_option maxRecDepth 100000 in
set_option maxHeartbeats 4000000 in
theorem bodyCall_any (w : World) (d : Nat) (m pc s : Int) (at_ as_ : Option Addr) (nt ct ns cs : Nat) (dead : Bool) (hr : w.rowIs d 113 5 (five (.int .i64 m) (.int .i64 pc) (.slice at_ nt ct) (.slice as_ ns cs) (.bool dead))) :
    Calls Tryz.prog 54 #[.pointer (some ⟨d, 0, none⟩), .int .i64 s] w fun e w' => e = .returned (.agg #[.int .i64 m, .int .i64 pc, .slice at_ nt ct, .slice as_ ns cs, .int .i64 s, .bool dead]) ∧ Below w.heap.size w w' := by
  have hA : Below w.heap.size w (w.alloc (.cells #[.int .i64 0, .int .i64 0, .slice none 0 0, .slice none 0 0, .int .i64 0, .bool false] 48)) := (Below.refl _ _).alloc (Nat.le_refl _) _
  have r1 := six_new w 48 (.int .i64 0) (.int .i64 0) (.slice none 0 0) (.slice none 0 0) (.int .i64 0) (.bool false)
  have rd := row_below hA hr
  have hdl := hr.lt
  clear hr
  go_enter Tryz.func54, Tryz.ntmps54
  go_upto_region 1 with fail
  generalize w.alloc (.cells #[.int .i64 0, .int .i64 0, .slice none 0 0, .slice none 0 0, .int .i64 0, .bool false] 48) = W at *
  obtain ⟨⟨z0, z1, z2, z3, z4⟩, _⟩ := five_cells rd
  obtain ⟨⟨x0, x1, x2, x3, x4, x5⟩, xf0, xf1, xf2, xf3, xf4, xf5⟩ := six_cells r1
  have R9 := six_set5 (six_set4 (six_set3 (six_set2 (six_set1 (six_set0 r1 (.int .i64 m)) (.int .i64 pc)) (.slice at_ nt ct)) (.slice as_ ns cs)) (.int .i64 s)) (.bool dead)
  have B9 := (((((hA.setCell (p := ⟨w.heap.size, 0, none⟩) (Nat.le_refl _) (.int .i64 m)).setCell (p := ⟨w.heap.size, 1, none⟩) (Nat.le_refl _) (.int .i64 pc)).setCell (p := ⟨w.heap.size, 2, none⟩) (Nat.le_refl _) (.slice at_ nt ct)).setCell (p := ⟨w.heap.size, 3, none⟩) (Nat.le_refl _) (.slice as_ ns cs)).setCell (p := ⟨w.heap.size, 4, none⟩) (Nat.le_refl _) (.int .i64 s)).setCell (p := ⟨w.heap.size, 5, none⟩) (Nat.le_refl _) (.bool dead)
  clear rd
  go_region
  all_goals
    go_wp2
    obtain ⟨⟨q0, q1, q2, q3, q4, q5⟩, _⟩ := six_cells R9
    generalize (((((W.setCell ⟨w.heap.size, 0, none⟩ (.int .i64 m)).setCell ⟨w.heap.size, 1, none⟩ (.int .i64 pc)).setCell ⟨w.heap.size, 2, none⟩ (.slice at_ nt ct)).setCell ⟨w.heap.size, 3, none⟩ (.slice as_ ns cs)).setCell ⟨w.heap.size, 4, none⟩ (.int .i64 s)).setCell ⟨w.heap.size, 5, none⟩ (.bool dead) = W9 at *
    exact bodyPost_ret (v := .agg #[.int .i64 m, .int .i64 pc, .slice at_ nt ct, .slice as_ ns cs, .int .i64 s, .bool dead]) (by simp [results, Tryz.results54, go_sem, q0, q1, q2, q3, q4, q5]) rfl ⟨rfl, B9.drew⟩
theorem step_callL {ops : Array Oper} {o : Oper} {act : Act} {K : Act → World → Prop} {Q : Exit → Act → World → Prop} {E : Prop} (w : World) (hgd : o.guard = none) (s y : Operand)
    (ho : o.op = .call { callee := .builtin .append, args := #[s, y], argTypes := #[26, 26] }) (B : Nat) (v : Value) (L : List (Cl × Value × Value)) (x : Cl × Value × Value) (hs : act.eval s = v) (H c : Nat) (hy : act.eval y = .slice (some ⟨H, 0, none⟩) 1 c) (hown : CallRow B w v L)
    (h1 : x.2.1.oneCell' = true) (h2 : x.2.2.oneCell' = true) (hx : ∀ j u, (cells6 x)[j]? = some u → w.cell? ⟨H, j, none⟩ = some u) (hL : L.length ≤ 900000) (hB : B ≤ w.heap.size)
    (h : ∀ v' w', CallRow B w' v' (L ++ [x]) → w.grownBy w' v.ownBlock → (v'.ownBlock = v.ownBlock ∨ v'.ownBlock = some w.heap.size) → K (act.put o.dst v') w') :
    if Region.wanted o (yielded ops act.tmps) = true then Oper.wp Tryz.prog o act w K Q else E := by
  obtain ⟨v', w', hr, h3, h4, h5⟩ := run_append_call (ty := o.type) hown x h1 h2 H c hx hL hB
  rw [if_pos (by simp [Region.wanted, hgd])]
  unfold Oper.wp execOp
  simp only [ho, resolve, invoke, builtin, Sem.run_bind, Sem.run_pure, Result.andThen_ok, List.map_toArray, List.map_cons, List.map_nil, hs, hy, hr]
  exact h v' w' h3 h4 h5
end Go.Proofs.YtlpbklgkafjfmaaGreatDoor

/-
  The program's heap at work: operations are done, part one: those that put a value.
-/
namespace Go.Proofs.YtlpbklgkafjfmaaGreatDoor
open Go.RowKit
variable {B : Nat} {w w' : World} {bl br : Nat} {vp vcs vsd : Value} {C D : Nat → Nat} {T : Nat → Value × Value} {h h' : Hp}
def LEnd (B bl br : Nat) (vp : Value) (P : Nat → Prop) (w0 : World) (h : Hp) (w' : World) : Prop := ∃ vcs vsd C D T, LV B w' bl br vp vcs vsd C D T h ∧ LGo B P (LOwn bl br vcs vsd C D T h.calls.length) w0 w'
theorem LEnd.first {P : Nat → Prop} {w0 w1 : World} (hb : Below w0.heap.size w0 w1) (hB : B ≤ w0.heap.size) (h1 : LEnd B bl br vp P w1 h w') : LEnd B bl br vp P w0 h w' := by
  obtain ⟨a, b, c, d, e, k, g⟩ := h1
  exact ⟨a, b, c, d, e, k, (LGo.of_below hB hb).trans g⟩
structure Tk (P : Nat → Prop) (w : World) (v : Value) (args : List (Int × Int)) : Prop where
  at_ : OpsAt w v args
  off : ∀ g, v.ownBlock = some g → g < w.heap.size ∧ ¬ P g
theorem Tk.go {P P' : Nat → Prop} {v : Value} {args : List (Int × Int)} (t : Tk P w v args) (g : LGo B P P' w w') : Tk P' w' v args := by
  refine ⟨?_, fun q e => ⟨Nat.lt_of_lt_of_le (t.off q e).1 g.b.size, fun hq => ?_⟩⟩
  · obtain ⟨a, cap, rfl, hl, hc⟩ := t.at_
    refine ⟨a, cap, rfl, hl, fun i hi => ?_⟩
    obtain ⟨b, o, rfl, h0, h1⟩ := hc i hi
    have ho := t.off b rfl
    have e := g.keep b ho.1 ho.2
    exact ⟨b, o, rfl, (World.cell?_of_block (a := ⟨b, _, none⟩) e).trans h0, (World.cell?_of_block (a := ⟨b, _, none⟩) e).trans h1⟩
  · rcases g.own q hq with x | x
    · exact (t.off q e).2 x
    · have := (t.off q e).1; omega
theorem Tk.cell {P : Nat → Prop} {v : Value} {args : List (Int × Int)} (t : Tk P w v args) {i : Nat} (hi : i < args.length) : ∃ b o cap, v = .slice (some ⟨b, o, none⟩) args.length cap ∧ w.cell? ⟨b, o + i * 2, none⟩ = some (.int .i64 args[i].1) ∧ w.cell? ⟨b, o + i * 2 + 1, none⟩ = some (.int .i64 args[i].2) := by
  obtain ⟨a, cap, rfl, hl, hc⟩ := t.at_
  obtain ⟨b, o, rfl, h0, h1⟩ := hc i hi
  exact ⟨b, o, cap, rfl, h0, h1⟩
set_option maxRecDepth 100000 in
theorem numVal_any (n : Int) (w : World) :
    Calls Tryz.prog 106 #[.int .i64 n] w fun e w' => e = .returned (.agg #[.int .i64 1, .int .i64 n]) ∧ Below w.heap.size w w' := by
  go_enter Tryz.func106, Tryz.ntmps106
  go_wp2
  exact bodyPost_ret (v := .agg #[.int .i64 1, .int .i64 n]) (by simp [results, Tryz.results106, go_sem]) rfl ⟨rfl, (Below.refl _ _).alloc (Nat.le_refl _) _⟩
set_option maxRecDepth 100000 in
theorem truthVal_any (t : Bool) (w : World) :
    Calls Tryz.prog 107 #[.bool t] w fun e w' => e = .returned (.agg #[.int .i64 1, .int .i64 (if t then 1 else 0)]) ∧ Below w.heap.size w w' := by
  have hA : Below w.heap.size w (w.alloc (.cells #[.int .i64 0, .int .i64 0] 37)) := (Below.refl _ _).alloc (Nat.le_refl _) _
  have rx := two_new w 37 (.int .i64 0) (.int .i64 0)
  cases t
  · go_enter Tryz.func107, Tryz.ntmps107
    go_wp2_with (go_at_call 106; refine (numVal_any 0 _).mono ?_; rintro e w2 ⟨rfl, hb⟩; have r2 := row_below hb rx; obtain ⟨⟨t0, t1⟩, tf0, tf1⟩ := two_cells r2)
    obtain ⟨W9, hW9, q0, q1, B9⟩ := val_box (hA.trans (hb.mono hA.size)) r2 1 0
    rw [← hW9]
    exact bodyPost_ret (v := .agg #[.int .i64 1, .int .i64 0]) (by simp [results, Tryz.results107, go_sem, q0, q1]) rfl ⟨rfl, B9⟩
  · go_enter Tryz.func107, Tryz.ntmps107
    go_wp2_with (go_at_call 106; refine (numVal_any 1 _).mono ?_; rintro e w2 ⟨rfl, hb⟩; have r2 := row_below hb rx; obtain ⟨⟨t0, t1⟩, tf0, tf1⟩ := two_cells r2)
    obtain ⟨W9, hW9, q0, q1, B9⟩ := val_box (hA.trans (hb.mono hA.size)) r2 1 1
    rw [← hW9]
    exact bodyPost_ret (v := .agg #[.int .i64 1, .int .i64 1]) (by simp [results, Tryz.results107, go_sem, q0, q1]) rfl ⟨rfl, B9⟩
theorem put_end (k : LV B w bl br vp vcs vsd C D T h) {j : Nat} (hn : h.now = (j : Int)) (hj : j < h.calls.length) (hB : B ≤ w.heap.size) (hl : h.calls[j].stack.length ≤ 1000) (a b : Int) (w1 : World) (hb : Below w.heap.size w w1) :
    Calls Tryz.prog 105 #[.pointer (some ⟨br, 0, none⟩), .agg #[.int .i64 a, .int .i64 b]] w1 fun e w' => e = .returned (.tuple #[]) ∧ LEnd B bl br vp (LOwn bl br vcs vsd C D T h.calls.length) w (pushH h (a, b)) w' := by
  refine (runPut_any (k.below hb) hn hj (by have := hb.size; omega) a b hl).mono ?_
  rintro e w' ⟨he, T', k', g'⟩
  refine ⟨he, LEnd.first hb hB ⟨vcs, vsd, C, D, T', k', ?_⟩⟩
  rw [len_push]
  exact g'
set_option maxRecDepth 100000 in
theorem doNum_any (k : LV B w bl br vp vcs vsd C D T h) {j : Nat} (hn : h.now = (j : Int)) (hj : j < h.calls.length) (hB : B ≤ w.heap.size) (hl : h.calls[j].stack.length ≤ 1000) (a : Int) (vt : Value) :
    Calls Tryz.prog 85 #[.pointer (some ⟨br, 0, none⟩), .int .i64 a, vt] w fun e w' => e = .returned (.tuple #[]) ∧ LEnd B bl br vp (LOwn bl br vcs vsd C D T h.calls.length) w (pushH h (1, a)) w' := by
  have HP := put_end k hn hj hB hl 1 a
  have HPH : Hid _ := HP
  clear HP k
  go_enter Tryz.func85, Tryz.ntmps85
  go_wp2_with (first
    | (go_at_call 106; refine (numVal_any a _).mono ?_; rintro e w2 ⟨rfl, hb⟩)
    | (go_at_call 105; refine (HPH.out _ hb).mono ?_; rintro e w3 ⟨rfl, hE⟩))
  exact bodyPost_end (results_none rfl _ _ _) rfl ⟨rfl, hE⟩
set_option maxRecDepth 100000 in
theorem doHere_any (k : LV B w bl br vp vcs vsd C D T h) {j : Nat} (hn : h.now = (j : Int)) (hj : j < h.calls.length) (hB : B ≤ w.heap.size) (hl : h.calls[j].stack.length ≤ 1000) (a : Int) (vt : Value) :
    Calls Tryz.prog 95 #[.pointer (some ⟨br, 0, none⟩), .int .i64 a, vt] w fun e w' => e = .returned (.tuple #[]) ∧ LEnd B bl br vp (LOwn bl br vcs vsd C D T h.calls.length) w (pushH h (2, h.now)) w' := by
  have HP := put_end k hn hj hB hl 2 j
  have HH := here_any k hn hj
  obtain ⟨⟨y0, y1, y2, y3, y4⟩, _⟩ := five_cells k.rn
  have hm := Tryz.go_here bl
  have HPH : Hid _ := HP
  rw [hn]
  clear HP k
  go_enter Tryz.func95, Tryz.ntmps95
  go_wp2_with (first
    | (go_at_call 128; refine HH.mono ?_; rintro e w2 ⟨rfl, hb⟩)
    | (go_at_call 105; refine (HPH.out _ hb).mono ?_; rintro e w3 ⟨rfl, hE⟩))
  exact bodyPost_end (results_none rfl _ _ _) rfl ⟨rfl, hE⟩
set_option maxRecDepth 100000 in
theorem doDrop_any (k : LV B w bl br vp vcs vsd C D T h) (a : Int) (vt : Value) :
    Calls Tryz.prog 88 #[.pointer (some ⟨br, 0, none⟩), .int .i64 a, vt] w fun e w' => e = .returned (.tuple #[]) ∧ LEnd B bl br vp (LOwn bl br vcs vsd C D T h.calls.length) w h w' := by
  go_enter Tryz.func88, Tryz.ntmps88
  go_wp2
  exact bodyPost_end (results_none rfl _ _ _) rfl ⟨rfl, _, _, _, _, _, k, LGo.refl _ _ _⟩
set_option maxRecDepth 100000 in
theorem doSay_any (k : LV B w bl br vp vcs vsd C D T h) (hB : B ≤ w.heap.size) (hsl : h.said.length ≤ 2900000) (a : Int) {vt : Value} {args : List (Int × Int)} (t : Tk (LOwn bl br vcs vsd C D T h.calls.length) w vt args) (h1 : 0 < args.length) (hv : args[0].1 = 2 → 0 ≤ args[0].2 ∧ args[0].2 < (h.calls.length : Int)) :
    Calls Tryz.prog 100 #[.pointer (some ⟨br, 0, none⟩), .int .i64 a, vt] w fun e w' => e = .returned (.tuple #[]) ∧ LEnd B bl br vp (LOwn bl br vcs vsd C D T h.calls.length) w (sayH h args[0]) w' := by
  obtain ⟨b, o, cap, rfl, c0, c1⟩ := t.cell h1
  rw [Nat.zero_mul, Nat.add_zero] at c0 c1
  have hz : (0 : Int) < (args.length : Int) := by omega
  clear t
  generalize args[0] = x at *
  obtain ⟨x1, x2⟩ := x
  have HS := runSay_any k hB x1 x2 hv hsl
  clear k
  go_enter Tryz.func100, Tryz.ntmps100
  go_wp2_with (go_at_call 109; refine HS.mono ?_; rintro e w3 ⟨rfl, vsd', k3, g3⟩)
  exact bodyPost_end (results_none rfl _ _ _) rfl ⟨rfl, _, vsd', _, _, _, k3, g3⟩
end Go.Proofs.YtlpbklgkafjfmaaGreatDoor

/-
  The program's heap at work: operations are done, part two: what is taken is looked at.
-/
namespace Go.Proofs.YtlpbklgkafjfmaaGreatDoor
open Go.RowKit
variable {B : Nat} {w w' : World} {bl br : Nat} {vp vcs vsd : Value} {C D : Nat → Nat} {T : Nat → Value × Value} {h h' : Hp}
set_option maxRecDepth 100000 in
set_option maxHeartbeats 2000000 in
theorem doSender_any (k : LV B w bl br vp vcs vsd C D T h) {j : Nat} (hn : h.now = (j : Int)) (hj : j < h.calls.length) (hB : B ≤ w.heap.size) (hl : h.calls[j].stack.length ≤ 1000) (a : Int) {vt : Value} {args : List (Int × Int)} (t : Tk (LOwn bl br vcs vsd C D T h.calls.length) w vt args) (h1 : 0 < args.length) {i : Nat} (hi : i < h.calls.length) (hv : args[0].2 = (i : Int)) (hsr : h.calls[i].sender < (h.calls.length : Int)) (hs1 : -1 ≤ h.calls[i].sender) :
    Calls Tryz.prog 96 #[.pointer (some ⟨br, 0, none⟩), .int .i64 a, vt] w fun e w' => e = .returned (.tuple #[]) ∧ LEnd B bl br vp (LOwn bl br vcs vsd C D T h.calls.length) w (pushH h (if 0 ≤ h.calls[i].sender then (2, h.calls[i].sender) else (0, 0))) w' := by
  obtain ⟨b, o, cap, rfl, c0, c1⟩ := t.cell h1
  rw [Nat.zero_mul, Nat.add_zero] at c0 c1
  rw [hv] at c1
  have hz : (0 : Int) < (args.length : Int) := by omega
  have kd := k.below ((Below.refl _ _).drew)
  obtain ⟨⟨y0, y1, y2, y3, y4⟩, _⟩ := five_cells k.rn
  have hm := Tryz.go_sender bl
  by_cases hs : 0 ≤ h.calls[i].sender
  · obtain ⟨q, hq⟩ := Int.eq_ofNat_of_zero_le hs
    rw [if_pos hs, hq]
    have HS := sender_at kd hi hq (by omega)
    have HP := put_end k hn hj hB hl 2 q
    have HPH : Hid _ := HP
    clear HP k kd t
    go_enter Tryz.func96, Tryz.ntmps96
    go_wp2_with fail
    go_region_law (first
      | (go_simp; go_at_call 132; refine HS.mono ?_; rintro e w2 ⟨rfl, hb⟩; have hb' : Below w.heap.size w w2 := (Below.refl _ _).drew.trans hb)
      | (go_simp; go_at_call 105; refine (HPH.out _ hb').mono ?_; rintro e w3 ⟨rfl, hE⟩))
    all_goals exact bodyPost_end (results_none rfl _ _ _) rfl ⟨rfl, hE⟩
  · rw [if_neg hs]
    have HS := sender_none kd hi (by omega)
    have HP := put_end k hn hj hB hl 0 0
    have HPH : Hid _ := HP
    clear HP k kd t
    go_enter Tryz.func96, Tryz.ntmps96
    go_wp2_with fail
    go_region_law (first
      | (go_simp; go_at_call 132; refine HS.mono ?_; rintro e w2 ⟨rfl, hb⟩; have hb' : Below w.heap.size w w2 := (Below.refl _ _).drew.trans hb)
      | (go_simp; go_at_call 105; refine (HPH.out _ hb').mono ?_; rintro e w3 ⟨rfl, hE⟩))
    all_goals exact bodyPost_end (results_none rfl _ _ _) rfl ⟨rfl, hE⟩
set_option maxRecDepth 100000 in
set_option maxHeartbeats 2000000 in
theorem doDead_any (k : LV B w bl br vp vcs vsd C D T h) {j : Nat} (hn : h.now = (j : Int)) (hj : j < h.calls.length) (hB : B ≤ w.heap.size) (hl : h.calls[j].stack.length ≤ 1000) (a : Int) {vt : Value} {args : List (Int × Int)} (t : Tk (LOwn bl br vcs vsd C D T h.calls.length) w vt args) (h1 : 0 < args.length) {i : Nat} (hi : i < h.calls.length) (hv : args[0].2 = (i : Int)) :
    Calls Tryz.prog 101 #[.pointer (some ⟨br, 0, none⟩), .int .i64 a, vt] w fun e w' => e = .returned (.tuple #[]) ∧ LEnd B bl br vp (LOwn bl br vcs vsd C D T h.calls.length) w (pushH h (bitV h.calls[i].dead)) w' := by
  obtain ⟨b, o, cap, rfl, c0, c1⟩ := t.cell h1
  rw [Nat.zero_mul, Nat.add_zero] at c0 c1
  rw [hv] at c1
  have hz : (0 : Int) < (args.length : Int) := by omega
  have kd := k.below ((Below.refl _ _).drew)
  obtain ⟨⟨y0, y1, y2, y3, y4⟩, _⟩ := five_cells k.rn
  have hm := Tryz.go_looked bl
  obtain ⟨⟨z0, z1, z2, z3, z4⟩, _⟩ := five_cells (k.bd i hi)
  have HL := looked_any kd hi
  have HPH : Hid (∀ (x : Bool) (w1 : World), Below w.heap.size w w1 → Calls Tryz.prog 105 #[.pointer (some ⟨br, 0, none⟩), .agg #[.int .i64 1, .int .i64 (if x then 1 else 0)]] w1 fun e w' => e = .returned (.tuple #[]) ∧ LEnd B bl br vp (LOwn bl br vcs vsd C D T h.calls.length) w (pushH h (1, (if x then 1 else 0))) w') := fun x => put_end k hn hj hB hl 1 (if x then 1 else 0)
  unfold bitV
  generalize h.calls[i].dead = x at *
  clear k kd t
  go_enter Tryz.func101, Tryz.ntmps101
  go_wp2_with fail
  go_region_law (first
    | (go_simp; go_at_call 130; refine HL.mono ?_; rintro e w' ⟨rfl, hw⟩; obtain rfl := hw.symm)
    | (go_simp; go_at_call 107; refine (truthVal_any x _).mono ?_; rintro e w2 ⟨rfl, hb⟩; have hb' : Below w.heap.size w w2 := (Below.refl _ _).drew.trans hb)
    | (go_simp; go_at_call 105; refine (HPH.out x _ hb').mono ?_; rintro e w3 ⟨rfl, hE⟩))
  all_goals exact bodyPost_end (results_none rfl _ _ _) rfl ⟨rfl, hE⟩
set_option maxRecDepth 100000 in
set_option maxHeartbeats 2000000 in
theorem doWhere_any (k : LV B w bl br vp vcs vsd C D T h) {j : Nat} (hn : h.now = (j : Int)) (hj : j < h.calls.length) (hB : B ≤ w.heap.size) (hl : h.calls[j].stack.length ≤ 1000) (a : Int) {vt : Value} {args : List (Int × Int)} (t : Tk (LOwn bl br vcs vsd C D T h.calls.length) w vt args) (h1 : 0 < args.length) {i : Nat} (hi : i < h.calls.length) (hv : args[0].2 = (i : Int)) :
    Calls Tryz.prog 102 #[.pointer (some ⟨br, 0, none⟩), .int .i64 a, vt] w fun e w' => e = .returned (.tuple #[]) ∧ LEnd B bl br vp (LOwn bl br vcs vsd C D T h.calls.length) w (pushH h (1, h.calls[i].pc)) w' := by
  obtain ⟨b, o, cap, rfl, c0, c1⟩ := t.cell h1
  rw [Nat.zero_mul, Nat.add_zero] at c0 c1
  rw [hv] at c1
  have hz : (0 : Int) < (args.length : Int) := by omega
  have kd := k.below ((Below.refl _ _).drew)
  obtain ⟨⟨y0, y1, y2, y3, y4⟩, _⟩ := five_cells k.rn
  have hm := Tryz.go_looked bl
  obtain ⟨⟨z0, z1, z2, z3, z4⟩, _⟩ := five_cells (k.bd i hi)
  have HL := looked_any kd hi
  have HPH : Hid (∀ (x : Int) (w1 : World), Below w.heap.size w w1 → Calls Tryz.prog 105 #[.pointer (some ⟨br, 0, none⟩), .agg #[.int .i64 1, .int .i64 x]] w1 fun e w' => e = .returned (.tuple #[]) ∧ LEnd B bl br vp (LOwn bl br vcs vsd C D T h.calls.length) w (pushH h (1, x)) w') := fun x => put_end k hn hj hB hl 1 x
  skip
  generalize h.calls[i].pc = x at *
  clear k kd t
  go_enter Tryz.func102, Tryz.ntmps102
  go_wp2_with fail
  go_region_law (first
    | (go_simp; go_at_call 130; refine HL.mono ?_; rintro e w' ⟨rfl, hw⟩; obtain rfl := hw.symm)
    | (go_simp; go_at_call 106; refine (numVal_any x _).mono ?_; rintro e w2 ⟨rfl, hb⟩; have hb' : Below w.heap.size w w2 := (Below.refl _ _).drew.trans hb)
    | (go_simp; go_at_call 105; refine (HPH.out x _ hb').mono ?_; rintro e w3 ⟨rfl, hE⟩))
  all_goals exact bodyPost_end (results_none rfl _ _ _) rfl ⟨rfl, hE⟩
set_option maxRecDepth 100000 in
set_option maxHeartbeats 2000000 in
theorem doTemp_any (k : LV B w bl br vp vcs vsd C D T h) {j : Nat} (hn : h.now = (j : Int)) (hj : j < h.calls.length) (hB : B ≤ w.heap.size) (hl : h.calls[j].stack.length ≤ 1000) (q : Nat) (hq : q < h.calls[j].temps.length) (vt : Value) :
    Calls Tryz.prog 86 #[.pointer (some ⟨br, 0, none⟩), .int .i64 q, vt] w fun e w' => e = .returned (.tuple #[]) ∧ LEnd B bl br vp (LOwn bl br vcs vsd C D T h.calls.length) w (pushH h h.calls[j].temps[q]) w' := by
  have HR := running_any k hn hj
  have hm := Tryz.go_running bl
  obtain ⟨⟨y0, y1, y2, y3, y4⟩, _⟩ := five_cells k.rn
  obtain ⟨⟨z0, z1, z2, z3, z4⟩, _⟩ := five_cells (k.bd j hj)
  have ht := (k.ts j hj).1
  obtain ⟨gt, ot, ct, hT, _⟩ := ht.form (by omega)
  rw [hT] at ht z2
  obtain ⟨⟨c0, c1⟩, _⟩ := ht.cell hq
  have HP := put_end k hn hj hB hl h.calls[j].temps[q].1 h.calls[j].temps[q].2
  have HPH : Hid _ := HP
  have hqz : (q : Int) < (h.calls[j].temps.length : Int) := by omega
  clear HP k ht
  generalize h.calls[j].temps[q] = x at *
  obtain ⟨x1, x2⟩ := x
  generalize h.calls[j].temps.length = nt at *
  go_enter Tryz.func86, Tryz.ntmps86
  go_wp2_with (first
    | (go_at_call 131; refine HR.mono ?_; rintro e w' ⟨rfl, hw⟩; obtain rfl := hw.symm)
    | (go_at_call 105; refine (HPH.out _ (Below.refl _ _)).mono ?_; rintro e w3 ⟨rfl, hE⟩))
  exact bodyPost_end (results_none rfl _ _ _) rfl ⟨rfl, hE⟩
theorem LV.pc (k : LV B w bl br vp vcs vsd C D T h) {j : Nat} (hj : j < h.calls.length) (x : Int) : LV B (w.setCell ⟨D j, 1, none⟩ (.int .i64 x)) bl br vp vcs vsd C D (putV T j ((T j).1, (T j).2)) { h with calls := h.calls.set j { h.calls[j] with pc := x } } ∧
    LGo B (LOwn bl br vcs vsd C D T h.calls.length) (LOwn bl br vcs vsd C D (putV T j ((T j).1, (T j).2)) h.calls.length) w (w.setCell ⟨D j, 1, none⟩ (.int .i64 x)) := by
  have hDl := k.lo (.body j) hj (D j) rfl
  have hDt : (T j).1.ownBlock ≠ some (D j) := fun e => by have := k.ap (.temps j) (.body j) hj hj (D j) e rfl; cases this
  have hDs : (T j).2.ownBlock ≠ some (D j) := fun e => by have := k.ap (.stack j) (.body j) hj hj (D j) e rfl; cases this
  have hTS : ∀ q, (T j).1.ownBlock = some q → (T j).2.ownBlock ≠ some q := fun q e e2 => by have := k.ap (.temps j) (.stack j) hj hj q e e2; cases this
  have hbl : ∀ g, g < w.heap.size → g ≠ D j → (T j).1.ownBlock ≠ some g → (T j).2.ownBlock ≠ some g → (w.setCell ⟨D j, 1, none⟩ (.int .i64 x)).heap[g]? = w.heap[g]? := fun g _ h2 _ _ => Below.heap_setCell _ _ _ _ (fun e => h2 e)
  exact ⟨k.turn hj rfl (by simp [World.setCell]) hbl (five_set1 (k.bd j hj) (.int .i64 x)) ((k.ts j hj).1.set_other _ hDt) ((k.ts j hj).2.set_other _ hDs) (fun q e => .inl e) (fun q e => .inr (.inl e)) hTS, LV.turn_go hj ((Below.refl _ _).setCell (p := ⟨D j, 1, none⟩) hDl.1 _) hbl (fun q e => .inl e) (fun q e => .inr (.inl e))⟩
set_option maxRecDepth 100000 in
set_option maxHeartbeats 2000000 in
theorem doJump_any (k : LV B w bl br vp vcs vsd C D T h) {j : Nat} (hn : h.now = (j : Int)) (hj : j < h.calls.length) (a : Int) (vt : Value) :
    Calls Tryz.prog 91 #[.pointer (some ⟨br, 0, none⟩), .int .i64 a, vt] w fun e w' => e = .returned (.tuple #[]) ∧ LEnd B bl br vp (LOwn bl br vcs vsd C D T h.calls.length) w (setH h { curC h with pc := a }) w' := by
  have HR := running_any k hn hj
  have hm := Tryz.go_running bl
  obtain ⟨⟨y0, y1, y2, y3, y4⟩, _⟩ := five_cells k.rn
  obtain ⟨⟨z0, z1, z2, z3, z4⟩, zf0, zf1, zf2, zf3, zf4⟩ := five_cells (k.bd j hj)
  have hE : LEnd B bl br vp (LOwn bl br vcs vsd C D T h.calls.length) w (setH h { curC h with pc := a }) (w.setCell ⟨D j, 1, none⟩ (.int .i64 a)) := by
    have e : setH h { curC h with pc := a } = { h with calls := h.calls.set j { h.calls[j] with pc := a } } := by
      unfold setH
      rw [cur_at hn hj, hn, Int.toNat_natCast]
    rw [e]
    obtain ⟨k2, g2⟩ := k.pc hj a
    refine ⟨_, _, _, _, _, k2, ?_⟩
    simp only [List.length_set]
    exact g2
  clear k
  go_enter Tryz.func91, Tryz.ntmps91
  go_wp2_with (go_at_call 131; refine HR.mono ?_; rintro e w' ⟨rfl, hw⟩; obtain rfl := hw.symm)
  exact bodyPost_end (results_none rfl _ _ _) rfl ⟨rfl, hE⟩
end Go.Proofs.YtlpbklgkafjfmaaGreatDoor

/-
  The program's heap at work: operations are done, part three: a value is returned.
-/
namespace Go.Proofs.YtlpbklgkafjfmaaGreatDoor
open Go.RowKit
variable {B : Nat} {w w' : World} {bl br : Nat} {vp vcs vsd : Value} {C D : Nat → Nat} {T : Nat → Value × Value} {h h' : Hp}
set_option maxRecDepth 100000 in
set_option maxHeartbeats 4000000 in
theorem doRet_any (k : LV B w bl br vp vcs vsd C D T h) {j : Nat} (hn : h.now = (j : Int)) (hj : j < h.calls.length) (hB : B ≤ w.heap.size) (hsl : h.said.length ≤ 2900000) (a : Int) {vt : Value} {args : List (Int × Int)} (t : Tk (LOwn bl br vcs vsd C D T h.calls.length) w vt args) (h1 : 0 < args.length)
    (hv : args[0].1 = 2 → 0 ≤ args[0].2 ∧ args[0].2 < (h.calls.length : Int)) (hsr : h.calls[j].sender < (h.calls.length : Int)) (hst : ∀ i, (hi : i < h.calls.length) → h.calls[i].stack.length ≤ 1000) :
    Calls Tryz.prog 94 #[.pointer (some ⟨br, 0, none⟩), .int .i64 a, vt] w fun e w' => e = .returned (.tuple #[]) ∧ LEnd B bl br vp (LOwn bl br vcs vsd C D T h.calls.length) w (retH h args[0]) w' := by
  have HL := leave_any k hn hj
  have hm1 := Tryz.go_leave bl
  have hm2 := Tryz.go_running bl
  obtain ⟨⟨y0, y1, y2, y3, y4⟩, _⟩ := five_cells k.rn
  obtain ⟨e1, e2, e3⟩ := leave_at hn hj
  have hll : (leaveH h).calls.length = h.calls.length := len_leave h
  have hcur : (curC h).sender = h.calls[j].sender := by rw [cur_at hn hj]
  have hsd : (leaveH h).said = h.said := rfl
  have hstl : ∀ i, (hi : i < (leaveH h).calls.length) → (leaveH h).calls[i].stack.length ≤ 1000 := fun i hi => by
    have hi' : i < h.calls.length := by rw [← hll]; exact hi
    have hq : (leaveH h).calls[i] = (h.calls.set j (dieC h.calls[j]))[i]'(by rw [List.length_set]; exact hi') := by simp only [e1]
    rw [hq]
    by_cases e : j = i
    · subst e; simp [dieC]
    · rw [List.getElem_set_ne e]; exact hst i hi'
  have HT : Hid (Tk (LOwn bl br vcs vsd C D T h.calls.length) w vt args) := t
  have HST : Hid _ := hstl
  have hz : (0 : Int) < (args.length : Int) := by omega
  obtain ⟨b, o, cap, hvt, _⟩ := t.cell h1
  subst hvt
  clear t k hst hstl
  obtain ⟨x, hx⟩ : ∃ x, args[0] = x := ⟨_, rfl⟩
  have HX : Hid (args[0] = x) := hx
  rw [hx] at hv ⊢
  clear hx
  obtain ⟨x1, x2⟩ := x
  unfold retH
  by_cases hs : h.calls[j].sender < 0
  · rw [if_pos (by rw [hcur]; exact hs)]
    go_enter Tryz.func94, Tryz.ntmps94
    go_wp2_with fail
    refine HL.mono ?_
    rintro e w2 ⟨rfl, T2, k2, g2⟩
    have t2 := HT.out.go g2
    obtain ⟨b', o', cap', hvt', c0, c1⟩ := t2.cell h1
    obtain ⟨rfl, rfl, rfl⟩ : b = b' ∧ o = o' ∧ cap = cap' := by
      injection hvt' with q1 _ q3
      injection q1 with q1
      injection q1 with q1 q2 _
      exact ⟨q1, q2, q3⟩
    rw [HX.out, Nat.zero_mul, Nat.add_zero] at c0 c1
    have HR := running_none k2 (by rw [e2]; exact hs)
    have HS := runSay_any k2 (by have := g2.b.size; omega) x1 x2 (by rw [hll]; exact hv) (by rw [hsd]; exact hsl)
    obtain ⟨⟨u0, u1, u2, u3, u4⟩, _⟩ := five_cells k2.rn
    clear y0 y1 y2 y3 y4 k2 t2
    go_wp2_with (first
      | (go_at_call 131; refine HR.mono ?_; rintro e w' ⟨rfl, hw⟩; obtain rfl := hw.symm)
      | (go_at_call 109; refine HS.mono ?_; rintro e w3 ⟨rfl, vsd', k3, g3⟩; obtain ⟨⟨v0, v1, v2, v3, v4⟩, vf0, vf1, vf2, vf3, vf4⟩ := five_cells k3.rn))
    have k4 := k3.num (h' := codeH (sayH (leaveH h) (x1, x2)) 1) (i := 4) (x := 1) rfl rfl rfl (five_set4 k3.rn (.int .i64 1))
    rw [hll] at g3
    have g4 := (g2.trans g3).trans (LGo.set (P := LOwn bl br vcs vsd' C D T2 h.calls.length) (w := w3) (p := ⟨br, 4, none⟩) ⟨.run, trivial, rfl⟩ (k3.lo .run trivial br rfl).1 (.int .i64 1))
    have hlc : (codeH (sayH (leaveH h) (x1, x2)) 1).calls.length = h.calls.length := hll
    have hE : LEnd B bl br vp (LOwn bl br vcs vsd C D T h.calls.length) w (codeH (sayH (leaveH h) (x1, x2)) 1) (w3.setCell ⟨br, 4, none⟩ (.int .i64 1)) := ⟨_, _, _, _, _, k4, by rw [hlc]; exact g4⟩
    exact bodyPost_ret (results_none rfl _ _ _) rfl ⟨rfl, hE⟩
  · rw [if_neg (by rw [hcur]; exact hs)]
    obtain ⟨s, hse⟩ := Int.eq_ofNat_of_zero_le (show 0 ≤ h.calls[j].sender by omega)
    have hsl2 : s < (leaveH h).calls.length := by rw [hll]; omega
    go_enter Tryz.func94, Tryz.ntmps94
    go_wp2_with fail
    refine HL.mono ?_
    rintro e w2 ⟨rfl, T2, k2, g2⟩
    have t2 := HT.out.go g2
    obtain ⟨b', o', cap', hvt', c0, c1⟩ := t2.cell h1
    obtain ⟨rfl, rfl, rfl⟩ : b = b' ∧ o = o' ∧ cap = cap' := by
      injection hvt' with q1 _ q3
      injection q1 with q1
      injection q1 with q1 q2 _
      exact ⟨q1, q2, q3⟩
    rw [HX.out, Nat.zero_mul, Nat.add_zero] at c0 c1
    have hn2 : (leaveH h).now = (s : Int) := by rw [e2]; exact hse
    have HR := running_any k2 hn2 hsl2
    have HP := runPut_any k2 hn2 hsl2 (by have := g2.b.size; omega) x1 x2 (HST.out s hsl2)
    obtain ⟨⟨u0, u1, u2, u3, u4⟩, _⟩ := five_cells k2.rn
    clear y0 y1 y2 y3 y4 k2 t2
    go_wp2_with (first
      | (go_at_call 131; refine HR.mono ?_; rintro e w' ⟨rfl, hw⟩; obtain rfl := hw.symm)
      | (go_at_call 105; refine HP.mono ?_; rintro e w3 ⟨rfl, T3, k3, g3⟩))
    rw [hll] at g3
    have hlc : (pushH (leaveH h) (x1, x2)).calls.length = h.calls.length := (len_push _ _).trans hll
    have hE : LEnd B bl br vp (LOwn bl br vcs vsd C D T h.calls.length) w (pushH (leaveH h) (x1, x2)) w3 := ⟨_, _, _, _, _, k3, by rw [hlc]; exact g2.trans g3⟩
    exact bodyPost_end (results_none rfl _ _ _) rfl ⟨rfl, hE⟩
end Go.Proofs.YtlpbklgkafjfmaaGreatDoor

/-
  The program's heap at work: operations are done, part four: one goes back.
-/
namespace Go.Proofs.YtlpbklgkafjfmaaGreatDoor
open Go.RowKit
variable {B : Nat} {w w' : World} {bl br : Nat} {vp vcs vsd : Value} {C D : Nat → Nat} {T : Nat → Value × Value} {h h' : Hp}
set_option maxRecDepth 100000 in
set_option maxHeartbeats 4000000 in
theorem doBack_any (k : LV B w bl br vp vcs vsd C D T h) (hB : B ≤ w.heap.size) (a : Int) {vt : Value} {args : List (Int × Int)} (t : Tk (LOwn bl br vcs vsd C D T h.calls.length) w vt args) (h1 : 1 < args.length) {i : Nat} (hi : i < h.calls.length) (hv : args[0].2 = (i : Int))
    (hback : h.calls[i].dead = false → (∃ l, Waits h.calls h.now l ∧ i ∈ l ∧ l.length ≤ h.calls.length) ∧ (backTo h.calls.length h i).now = (i : Int) ∧ (backTo h.calls.length h i).calls.length = h.calls.length ∧ ∀ hb : i < (backTo h.calls.length h i).calls.length, (backTo h.calls.length h i).calls[i].stack.length ≤ 1000) :
    Calls Tryz.prog 99 #[.pointer (some ⟨br, 0, none⟩), .int .i64 a, vt] w fun e w' => e = .returned (.tuple #[]) ∧ LEnd B bl br vp (LOwn bl br vcs vsd C D T h.calls.length) w (backH h i args[1]) w' := by
  have kd := k.below ((Below.refl _ _).drew)
  have HL := looked_any kd hi
  have hm1 := Tryz.go_looked bl
  have hm2 := Tryz.go_backTo bl
  obtain ⟨⟨y0, y1, y2, y3, y4⟩, yf0, yf1, yf2, yf3, yf4⟩ := five_cells k.rn
  obtain ⟨⟨z0, z1, z2, z3, z4⟩, _⟩ := five_cells (k.bd i hi)
  obtain ⟨b, o, cap, hvt, c0, c1⟩ := t.cell (i := 0) (by omega)
  subst hvt
  rw [Nat.zero_mul, Nat.add_zero] at c0 c1
  rw [hv] at c1
  have hz : (1 : Int) < (args.length : Int) := by omega
  have hz0 : 0 < args.length := by omega
  unfold backH
  rw [getD_at hi]
  cases hd : h.calls[i].dead
  · rw [hd] at z4
    obtain ⟨⟨l, hw, hil, hll⟩, hRn, hRl, hRs⟩ := hback hd
    have HB := backTo_any (kd.below ((Below.refl _ _).drew)) hw hil hll
    have gd : LGo B (LOwn bl br vcs vsd C D T h.calls.length) (LOwn bl br vcs vsd C D T h.calls.length) w w.drew.drew := LGo.of_below hB ((Below.refl _ _).drew.drew)
    have HT : Hid (Tk (LOwn bl br vcs vsd C D T h.calls.length) w.drew.drew (.slice (some ⟨b, o, none⟩) args.length cap) args) := t.go gd
    have HG : Hid (∀ w2 T2, LV B w2 bl br vp vcs vsd C D T2 (backTo h.calls.length h i) → LGo B (LOwn bl br vcs vsd C D T h.calls.length) (LOwn bl br vcs vsd C D T2 h.calls.length) w.drew.drew w2 → Calls Tryz.prog 105 #[.pointer (some ⟨br, 0, none⟩), .agg #[.int .i64 args[1].1, .int .i64 args[1].2]] w2 fun e w' => e = .returned (.tuple #[]) ∧ LEnd B bl br vp (LOwn bl br vcs vsd C D T h.calls.length) w (pushH (backTo h.calls.length h i) args[1]) w') := fun w2 T2 k2 g2 => by
      have hi2 : i < (backTo h.calls.length h i).calls.length := by rw [hRl]; exact hi
      refine (runPut_any k2 hRn hi2 (by have := g2.b.size; have hq : w.drew.drew.heap.size = w.heap.size := rfl; omega) args[1].1 args[1].2 (hRs hi2)).mono ?_
      rintro e w' ⟨he, T3, k3, g3⟩
      rw [hRl] at g3
      refine ⟨he, _, _, _, _, T3, k3, ?_⟩
      rw [len_push, hRl]
      exact (gd.trans g2).trans g3
    generalize backTo h.calls.length h i = R at *
    clear k kd t hback hRn hRl hRs hw hil hll
    rw [if_neg (by decide)]
    go_enter Tryz.func99, Tryz.ntmps99
    go_wp2_with fail
    go_region_law (go_simp; go_at_call 130; refine HL.mono ?_; rintro e w' ⟨rfl, hw⟩; obtain rfl := hw.symm)
    all_goals
      go_wp2_with fail
      go_region_law (go_simp; go_at_call 126; refine HB.mono ?_; rintro e w2 ⟨rfl, T2, k2, g2⟩; have HP := HG.out w2 T2 k2 g2; obtain ⟨b', o', cap', hvt', e0, e1⟩ := (HT.out.go g2).cell h1; cases hvt'; rw [Nat.one_mul] at e0 e1; clear k2 g2)
      all_goals
        go_wp2_with (go_at_call 105; refine HP.mono ?_; rintro e w3 ⟨rfl, hE⟩)
        exact bodyPost_end (results_none rfl _ _ _) rfl ⟨rfl, hE⟩
  · rw [hd] at z4
    have k4 := (k.num (h' := codeH h 2) (i := 4) (x := 2) rfl rfl rfl (five_set4 k.rn (.int .i64 2))).below ((Below.refl _ _).drew)
    have g4 : LGo B (LOwn bl br vcs vsd C D T h.calls.length) (LOwn bl br vcs vsd C D T h.calls.length) w (w.setCell ⟨br, 4, none⟩ (.int .i64 2)).drew := (LGo.set (P := LOwn bl br vcs vsd C D T h.calls.length) (w := w) (p := ⟨br, 4, none⟩) ⟨.run, trivial, rfl⟩ (k.lo .run trivial br rfl).1 (.int .i64 2)).trans ⟨(Below.refl _ _).drew, fun _ _ _ => rfl, fun _ e => .inl e⟩
    have hE : LEnd B bl br vp (LOwn bl br vcs vsd C D T h.calls.length) w (codeH h 2) (w.setCell ⟨br, 4, none⟩ (.int .i64 2)).drew := ⟨_, _, _, _, _, k4, g4⟩
    clear k kd t hback k4 g4
    rw [if_pos rfl]
    go_enter Tryz.func99, Tryz.ntmps99
    go_wp2_with fail
    go_region_law (go_simp; go_at_call 130; refine HL.mono ?_; rintro e w' ⟨rfl, hw⟩; obtain rfl := hw.symm)
    all_goals
      go_wp2
      exact bodyPost_ret (results_none rfl _ _ _) rfl ⟨rfl, hE⟩
end Go.Proofs.YtlpbklgkafjfmaaGreatDoor

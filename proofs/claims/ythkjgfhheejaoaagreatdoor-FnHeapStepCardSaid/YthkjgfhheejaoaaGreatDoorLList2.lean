import Derived.Test.YthkjgfhheejaoaaGreatDoorLWalk6
import Derived.Test.YthkjgfhheejaoaaGreatDoorVApart
import Derived.BigRegion
import Derived.Test.YthkjgfhheejaoaaGreatDoorLMem2
import Derived.Deep.RegionHeld3
import Derived.Deep.DrawnRows

/-
  The program hands out its calls: a call's body as a call.
-/
namespace Go.Proofs.YthkjgfhheejaoaaGreatDoor
open Go.RowKit

set_option maxRecDepth 100000 in
set_option maxHeartbeats 4000000 in
theorem bodyCall_any (w : World) (d : Nat) (m pc s : Int) (at_ as_ : Option Addr) (nt ct ns cs : Nat) (dead : Bool) (hr : w.rowIs d 111 5 (five (.int .i64 m) (.int .i64 pc) (.slice at_ nt ct) (.slice as_ ns cs) (.bool dead))) :
    Calls Tryz.prog 59 #[.pointer (some ⟨d, 0, none⟩), .int .i64 s] w fun e w' => e = .returned (.agg #[.int .i64 m, .int .i64 pc, .slice at_ nt ct, .slice as_ ns cs, .int .i64 s, .bool dead]) ∧ Below w.heap.size w w' := by
  have hA : Below w.heap.size w (w.alloc (.cells #[.int .i64 0, .int .i64 0, .slice none 0 0, .slice none 0 0, .int .i64 0, .bool false] 48)) := (Below.refl _ _).alloc (Nat.le_refl _) _
  have r1 := six_new w 48 (.int .i64 0) (.int .i64 0) (.slice none 0 0) (.slice none 0 0) (.int .i64 0) (.bool false)
  have rd := row_below hA hr
  have hdl := hr.lt
  clear hr
  go_enter Tryz.func59, Tryz.ntmps59
  go_upto_region 1 with fail
  generalize w.alloc (.cells #[.int .i64 0, .int .i64 0, .slice none 0 0, .slice none 0 0, .int .i64 0, .bool false] 48) = W at *
  obtain ⟨⟨z0, z1, z2, z3, z4⟩, _⟩ := five_cells rd
  obtain ⟨⟨x0, x1, x2, x3, x4, x5⟩, xf0, xf1, xf2, xf3, xf4, xf5⟩ := six_cells r1
  have R9 := six_set5 (six_set4 (six_set3 (six_set2 (six_set1 (six_set0 r1 (.int .i64 m)) (.int .i64 pc)) (.slice at_ nt ct)) (.slice as_ ns cs)) (.int .i64 s)) (.bool dead)
  have B9 := (((((hA.setCell (p := ⟨w.heap.size, 0, none⟩) (Nat.le_refl _) (.int .i64 m)).setCell (p := ⟨w.heap.size, 1, none⟩) (Nat.le_refl _) (.int .i64 pc)).setCell (p := ⟨w.heap.size, 2, none⟩) (Nat.le_refl _) (.slice at_ nt ct)).setCell (p := ⟨w.heap.size, 3, none⟩) (Nat.le_refl _) (.slice as_ ns cs)).setCell (p := ⟨w.heap.size, 4, none⟩) (Nat.le_refl _) (.int .i64 s)).setCell (p := ⟨w.heap.size, 5, none⟩) (Nat.le_refl _) (.bool dead)
  clear rd
  go_region
  all_goals
    go_wp2
    obtain ⟨⟨q0, q1, q2, q3, q4, q5⟩, _⟩ := six_cells R9
    generalize (((((W.setCell ⟨w.heap.size, 0, none⟩ (.int .i64 m)).setCell ⟨w.heap.size, 1, none⟩ (.int .i64 pc)).setCell ⟨w.heap.size, 2, none⟩ (.slice at_ nt ct)).setCell ⟨w.heap.size, 3, none⟩ (.slice as_ ns cs)).setCell ⟨w.heap.size, 4, none⟩ (.int .i64 s)).setCell ⟨w.heap.size, 5, none⟩ (.bool dead) = W9 at *
    exact bodyPost_ret (v := .agg #[.int .i64 m, .int .i64 pc, .slice at_ nt ct, .slice as_ ns cs, .int .i64 s, .bool dead]) (by simp [results, Tryz.results59, go_sem, q0, q1, q2, q3, q4, q5]) rfl ⟨rfl, B9.drew⟩

/-- a call is appended, in a region that draws -/
theorem step_callL {ops : Array Oper} {o : Oper} {act : Act} {K : Act → World → Prop} {Q : Exit → Act → World → Prop} {E : Prop} (w : World) (hgd : o.guard = none) (s y : Operand)
    (ho : o.op = .call { callee := .builtin .append, args := #[s, y], argTypes := #[26, 26] }) (B : Nat) (v : Value) (L : List (Cl × Value × Value)) (x : Cl × Value × Value) (hs : act.eval s = v) (H c : Nat) (hy : act.eval y = .slice (some ⟨H, 0, none⟩) 1 c) (hown : CallRow B w v L)
    (h1 : x.2.1.oneCell' = true) (h2 : x.2.2.oneCell' = true) (hx : ∀ j u, (cells6 x)[j]? = some u → w.cell? ⟨H, j, none⟩ = some u) (hL : L.length ≤ 900000) (hB : B ≤ w.heap.size)
    (h : ∀ v' w', CallRow B w' v' (L ++ [x]) → w.grownBy w' v.ownBlock → (v'.ownBlock = v.ownBlock ∨ v'.ownBlock = some w.heap.size) → K (act.put o.dst v') w') :
    if Region.wanted o (yielded ops act.tmps) = true then Oper.wp Tryz.prog o act w K Q else E := by
  obtain ⟨v', w', hr, h3, h4, h5⟩ := run_append_call (ty := o.type) hown x h1 h2 H c hx hL hB
  rw [if_pos (by simp [Region.wanted, hgd])]
  unfold Oper.wp execOp
  simp only [ho, resolve, invoke, builtin, Sem.run_bind, Sem.run_pure, Result.andThen_ok, List.map_toArray, List.map_cons, List.map_nil, hs, hy, hr]
  exact h v' w' h3 h4 h5

end Go.Proofs.YthkjgfhheejaoaaGreatDoor

/-
  The program hands out its calls: list.
-/
namespace Go.Proofs.YthkjgfhheejaoaaGreatDoor
open Go.RowKit

attribute [local go_sem ↓] Go.wp_at_zero Go.wp_at_succ

variable {B : Nat} {w w' : World} {bl br : Nat} {vp vcs vsd : Value} {C D : Nat → Nat} {T : Nat → Value × Value} {h h' : Hp}

/-- the first q calls with their lists -/
def outL (h : Hp) (T : Nat → Value × Value) (q : Nat) : List (Cl × Value × Value) := (List.range q).map fun i => (h.calls.getD i Cl.none, T i)
theorem outL_len (h : Hp) (T : Nat → Value × Value) (q : Nat) : (outL h T q).length = q := by simp [outL]
theorem outL_snoc (h : Hp) (T : Nat → Value × Value) {q : Nat} (hq : q < h.calls.length) : outL h T (q + 1) = outL h T q ++ [(h.calls[q], T q)] := by
  unfold outL
  rw [List.range_succ, List.map_append]
  simp [hq]
theorem outL_at (h : Hp) (T : Nat → Value × Value) {q i : Nat} (hi : i < q) (hq : q ≤ h.calls.length) : (outL h T q)[i]'(by rw [outL_len]; exact hi) = (h.calls[i], T i) := by
  have : i < h.calls.length := by omega
  simp [outL, this]

set_option maxRecDepth 100000 in
set_option maxHeartbeats 4000000 in
theorem list_any (k : LV B w bl br vp vcs vsd C D T h) (hl : h.calls.length ≤ 1000) (hsd : ∀ i, (hi : i < h.calls.length) → -1 ≤ h.calls[i].sender ∧ h.calls[i].sender < (h.calls.length : Int)) :
    Calls Tryz.prog 35 #[.pointer (some ⟨bl, 0, none⟩)] w fun e w' => ∃ v, e = .returned v ∧ CallRow w.heap.size w' v (outL h T h.calls.length) ∧ Below w.heap.size w w' := by
  have HK : Hid (LV B w bl br vp vcs vsd C D T h) := k
  have HSD : Hid (∀ i, (hi : i < h.calls.length) → -1 ≤ h.calls[i].sender ∧ h.calls[i].sender < (h.calls.length : Int)) := hsd
  obtain ⟨⟨x0, x1⟩, _⟩ := two_cells k.hp
  obtain ⟨av, cv, hv⟩ := k.row.form1
  have HV : Hid (vcs = .slice av h.calls.length cv) := hv
  rw [hv] at x0
  clear k hsd hv
  go_enter Tryz.func35, Tryz.ntmps35
  go_wp2
  clear x0 x1
  go_loopg [3, 11] h.calls.length (fun gm o i wr => ∃ q : Nat, q ≤ h.calls.length ∧ gm = h.calls.length - q ∧ i = .int .i64 q ∧ CallRow w.heap.size wr o (outL h T q) ∧ Below w.heap.size w wr)
  case atStart => exact ⟨0, Nat.zero_le _, rfl, rfl, CallRow.nil _ _, Below.refl _ _⟩
  case round =>
    obtain ⟨q, hq, rfl, rfl, hrow, hb⟩ := hrel
    obtain ⟨ao, co, ho, _⟩ := hrow.slice
    rw [outL_len] at ho
    subst ho
    by_cases hlt : q < h.calls.length
    · have hqz : (q : Int) < (h.calls.length : Int) := by omega
      have kr := HK.out.below hb
      obtain ⟨g, off, cap, hvv, _, hx⟩ := kr.ptr (by omega)
      have hav : av = some ⟨g, off, none⟩ := by
        have := HV.out.symm.trans hvv
        injection this
      subst hav
      have z := hx q hlt
      clear hx hvv
      obtain ⟨⟨u0, u1, u2⟩, _⟩ := trio_cells (kr.cl q hlt)
      have hsq := HSD.out q hlt
      obtain ⟨at_, ct, hT1, _⟩ := (kr.ts q hlt).1.slice
      obtain ⟨as_, cs_, hT2, _⟩ := (kr.ts q hlt).2.slice
      have rd := kr.bd q hlt
      rw [hT1, hT2] at rd
      have HBC : Hid (∀ W, Below wr.heap.size wr W → Calls Tryz.prog 59 #[.pointer (some ⟨D q, 0, none⟩), .int .i64 h.calls[q].sender] W fun e w' => e = .returned (.agg #[.int .i64 h.calls[q].m, .int .i64 h.calls[q].pc, .slice at_ h.calls[q].temps.length ct, .slice as_ h.calls[q].stack.length cs_, .int .i64 h.calls[q].sender, .bool h.calls[q].dead]) ∧ Below W.heap.size W w') := fun W hW => bodyCall_any W (D q) _ _ _ at_ as_ _ ct _ cs_ _ (row_below hW rd)
      obtain ⟨pq, hpq⟩ : ∃ pq, ptrN C h.calls[q].sender = .pointer pq := by
        unfold ptrN
        split
        · exact ⟨_, rfl⟩
        · exact ⟨_, rfl⟩
      have HPL : Calls Tryz.prog 36 #[ptrN C h.calls[q].sender] wr.drew fun e w' => e = .returned (.int .i64 h.calls[q].sender) ∧ w' = wr.drew := by
        by_cases hs : h.calls[q].sender = -1
        · rw [hs, ptrN_neg (by decide)]
          exact placeOf_none _
        · obtain ⟨i, hi⟩ := Int.eq_ofNat_of_zero_le (show 0 ≤ h.calls[q].sender by omega)
          have hil : i < h.calls.length := by omega
          rw [hi, ptrN_at]
          exact placeOf_at (C i) i _ (trio_cells (kr.cl i hil)).1.2.1
      rw [hpq] at u2 HPL
      have HX : Hid (T q = (.slice at_ h.calls[q].temps.length ct, .slice as_ h.calls[q].stack.length cs_)) := by
        show T q = _
        rw [← hT1, ← hT2]
      have HFIN : Hid (∀ w3 : World, Below wr.heap.size wr w3 → CallRow w.heap.size (w3.alloc (.cells #[.int .i64 h.calls[q].m, .int .i64 h.calls[q].pc, .slice at_ h.calls[q].temps.length ct, .slice as_ h.calls[q].stack.length cs_, .int .i64 h.calls[q].sender, .bool h.calls[q].dead] 48)) (.slice ao q co) (outL h T q) ∧ (∀ j u, (cells6 (h.calls[q], .slice at_ h.calls[q].temps.length ct, .slice as_ h.calls[q].stack.length cs_))[j]? = some u → (w3.alloc (.cells #[.int .i64 h.calls[q].m, .int .i64 h.calls[q].pc, .slice at_ h.calls[q].temps.length ct, .slice as_ h.calls[q].stack.length cs_, .int .i64 h.calls[q].sender, .bool h.calls[q].dead] 48)).cell? ⟨w3.heap.size, j, none⟩ = some u) ∧ Below w.heap.size w (w3.alloc (.cells #[.int .i64 h.calls[q].m, .int .i64 h.calls[q].pc, .slice at_ h.calls[q].temps.length ct, .slice as_ h.calls[q].stack.length cs_, .int .i64 h.calls[q].sender, .bool h.calls[q].dead] 48))) := fun w3 hb3 => by
        have N := (Below.refl w3.heap.size w3).alloc (Nat.le_refl _) (.cells #[.int .i64 h.calls[q].m, .int .i64 h.calls[q].pc, .slice at_ h.calls[q].temps.length ct, .slice as_ h.calls[q].stack.length cs_, .int .i64 h.calls[q].sender, .bool h.calls[q].dead] 48)
        have hz := hb3.size
        have hzb := hb.size
        exact ⟨(hrow.below hb3).below N, cells6_of (x := (h.calls[q], .slice at_ h.calls[q].temps.length ct, .slice as_ h.calls[q].stack.length cs_)) (six_new w3 48 _ _ _ _ _ _), (hb.trans (hb3.mono hzb)).trans (N.mono (by omega))⟩
      have S1 : wr.drew.cell? ⟨C q, 0, none⟩ = some (.pointer (some ⟨D q, 0, none⟩)) ∧ wr.drew.cell? ⟨C q, 2, none⟩ = some (.pointer pq) := ⟨u0, u2⟩
      have HSX : ∀ w' : World, w'.heap[C q]? = wr.heap[C q]? → (w'.cell? ⟨C q, 0, none⟩ = some (.pointer (some ⟨D q, 0, none⟩)) ∧ w'.cell? ⟨C q, 2, none⟩ = some (.pointer pq)) := fun w' e => ⟨(World.cell?_of_block (a := ⟨C q, 0, none⟩) e).trans u0, (World.cell?_of_block (a := ⟨C q, 2, none⟩) e).trans u2⟩
      have hCl : C q < wr.heap.size := (kr.lo (.call q) hlt (C q) rfl).2
      have hCo : (Value.slice ao q co).ownBlock ≠ some (C q) := fun e => by
        have q1 := (hrow.lt _ e).1
        have q2 := (HK.out.lo (.call q) hlt (C q) rfl).2
        omega
      clear kr rd hpq hT1 hT2
      go_upto_region 5 with fail
      go_region_held3 (fun w' => w'.cell? ⟨C q, 0, none⟩ = some (.pointer (some ⟨D q, 0, none⟩)) ∧ w'.cell? ⟨C q, 2, none⟩ = some (.pointer pq))
        (first | with_reducible exact S1 | (refine HSX _ ?_; first | (with_reducible exact hk5) | (with_reducible exact hkA) | (with_reducible exact hb3'.block _ hCl)))
        (first
          | (go_at_call 36; refine HPL.mono ?_; rintro e w2 ⟨rfl, hw⟩; obtain rfl := hw.symm)
          | (go_at_call 59; refine (HBC.out _ (Below.refl _ _).drew).mono ?_; rintro e w3 ⟨rfl, hb3⟩; have hb3' : Below wr.heap.size wr w3 := (Below.refl _ _).drew.trans hb3; obtain ⟨row3, cells3, bA3⟩ := HFIN.out _ hb3'; have hkA : (w3.alloc (.cells #[.int .i64 h.calls[q].m, .int .i64 h.calls[q].pc, .slice at_ h.calls[q].temps.length ct, .slice as_ h.calls[q].stack.length cs_, .int .i64 h.calls[q].sender, .bool h.calls[q].dead] 48)).heap[C q]? = wr.heap[C q]? := (((Below.refl w3.heap.size w3).alloc (Nat.le_refl _) _).block _ (by have := hb3'.size; omega)).trans (hb3'.block _ hCl))
          | (refine step_callL _ (by rfl) _ _ (by rfl) w.heap.size _ (outL h T q) (h.calls[q], .slice at_ h.calls[q].temps.length ct, .slice as_ h.calls[q].stack.length cs_) (by rfl) w3.heap.size 1 (by rfl) row3 rfl rfl cells3 (by rw [outL_len]; omega) bA3.size ?_; intro v' w5 hrow5 hg5 hbk5; obtain ⟨a5, c5, hv5, _⟩ := hrow5.slice; subst hv5; have hk5 := (hg5.block _ (by have := hb3'.size; simp; omega) (fun e => hCo e.symm)).trans hkA))
      all_goals
        have hrow6 : CallRow w.heap.size w5 (.slice a5 (outL h T q ++ [(h.calls[q], Value.slice at_ h.calls[q].temps.length ct, Value.slice as_ h.calls[q].stack.length cs_)]).length c5) (outL h T (q + 1)) := by
          rw [outL_snoc h T hlt, HX.out]
          exact hrow5
        have b5 : Below w.heap.size w w5 := bA3.grown hg5 bA3.size (fun g e => (row3.lt g e).1)
        clear hrow5 hg5 row3 cells3 HFIN HBC HPL
        go_wp2
        go_roundg (h.calls.length - (q + 1))
        case measure => omega
        case rel => exact ⟨q + 1, by omega, rfl, by go_num, by simpa using hrow6, b5⟩
    · obtain rfl : q = h.calls.length := by omega
      go_wp2
      go_ret
      exact ⟨_, rfl, hrow, hb⟩

end Go.Proofs.YthkjgfhheejaoaaGreatDoor

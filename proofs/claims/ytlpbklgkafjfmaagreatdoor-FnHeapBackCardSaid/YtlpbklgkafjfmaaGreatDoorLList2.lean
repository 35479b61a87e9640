/-
  The program hands out its calls: list.
-/
import Derived.Test.YtlpbklgkafjfmaaGreatDoorLWalk8
import Derived.Test.YtlpbklgkafjfmaaGreatDoorLStep1
import Derived.Deep.RegionHeld3
import Derived.Deep.DrawnRows
import Derived.Test.YtlpbklgkafjfmaaGreatDoorVImpl5

namespace Go.Proofs.YtlpbklgkafjfmaaGreatDoor
open Go.RowKit
attribute [local go_sem ↓] Go.wp_at_zero Go.wp_at_succ
variable {B : Nat} {w w' : World} {bl br : Nat} {vp vcs vsd : Value} {C D : Nat → Nat} {T : Nat → Value × Value} {h h' : Hp}
def outL (h : Hp) (T : Nat → Value × Value) (q : Nat) : List (Cl × Value × Value) := (List.range q).map fun i => (h.calls.getD i Cl.none, T i)
theorem outL_len (h : Hp) (T : Nat → Value × Value) (q : Nat) : (outL h T q).length = q := by simp [outL]
theorem outL_snoc (h : Hp) (T : Nat → Value × Value) {q : Nat} (hq : q < h.calls.length) : outL h T (q + 1) = outL h T q ++ [(h.calls[q], T q)] := by
  unfold outL
  rw [List.range_succ, List.map_append]
  simp [hq]
theorem outL_at (h : Hp) (T : Nat → Value × Value) {q i : Nat} (hi : i < q) (hq : q ≤ h.calls.length) : (outL h T q)[i]'(by rw [outL_len]; exact hi) = (h.calls[i], T i) := by
  have : i < h.calls.length := by omega
  simp [outL, this]
set_option maxRecDepth 100000 in
set_option maxHeartbeats 4000000 in
theorem list_any (k : LV B w bl br vp vcs vsd C D T h) (hl : h.calls.length ≤ 1000) (hsd : ∀ i, (hi : i < h.calls.length) → -1 ≤ h.calls[i].sender ∧ h.calls[i].sender < (h.calls.length : Int)) :
    Calls Tryz.prog 34 #[.pointer (some ⟨bl, 0, none⟩)] w fun e w' => ∃ v, e = .returned v ∧ CallRow w.heap.size w' v (outL h T h.calls.length) ∧ Below w.heap.size w w' := by
  have HK : Hid (LV B w bl br vp vcs vsd C D T h) := k
  have HSD : Hid (∀ i, (hi : i < h.calls.length) → -1 ≤ h.calls[i].sender ∧ h.calls[i].sender < (h.calls.length : Int)) := hsd
  obtain ⟨⟨x0, x1⟩, _⟩ := two_cells k.hp
  obtain ⟨av, cv, hv⟩ := k.row.form1
  have HV : Hid (vcs = .slice av h.calls.length cv) := hv
  rw [hv] at x0
  clear k hsd hv
  go_enter Tryz.func34, Tryz.ntmps34
  go_wp2
  clear x0 x1
  go_loopg [3, 11] h.calls.length (fun gm o i wr => ∃ q : Nat, q ≤ h.calls.length ∧ gm = h.calls.length - q ∧ i = .int .i64 q ∧ CallRow w.heap.size wr o (outL h T q) ∧ Below w.heap.size w wr)
  case atStart => exact ⟨0, Nat.zero_le _, rfl, rfl, CallRow.nil _ _, Below.refl _ _⟩
  case round =>
    obtain ⟨q, hq, rfl, rfl, hrow, hb⟩ := hrel
    obtain ⟨ao, co, ho, _⟩ := hrow.slice
    rw [outL_len] at ho
    subst ho
    by_cases hlt : q < h.calls.length
    · have hqz : (q : Int) < (h.calls.length : Int) := by omega
      have kr := HK.out.below hb
      obtain ⟨g, off, cap, hvv, _, hx⟩ := kr.ptr (by omega)
      have hav : av = some ⟨g, off, none⟩ := by
        have := HV.out.symm.trans hvv
        injection this
      subst hav
      have z := hx q hlt
      clear hx hvv
      obtain ⟨⟨u0, u1, u2⟩, _⟩ := trio_cells (kr.cl q hlt)
      have hsq := HSD.out q hlt
      obtain ⟨at_, ct, hT1, _⟩ := (kr.ts q hlt).1.slice
      obtain ⟨as_, cs_, hT2, _⟩ := (kr.ts q hlt).2.slice
      have rd := kr.bd q hlt
      rw [hT1, hT2] at rd
      have HBC : Hid (∀ W, Below wr.heap.size wr W → Calls Tryz.prog 54 #[.pointer (some ⟨D q, 0, none⟩), .int .i64 h.calls[q].sender] W fun e w' => e = .returned (.agg #[.int .i64 h.calls[q].m, .int .i64 h.calls[q].pc, .slice at_ h.calls[q].temps.length ct, .slice as_ h.calls[q].stack.length cs_, .int .i64 h.calls[q].sender, .bool h.calls[q].dead]) ∧ Below W.heap.size W w') := fun W hW => bodyCall_any W (D q) _ _ _ at_ as_ _ ct _ cs_ _ (row_below hW rd)
      obtain ⟨pq, hpq⟩ : ∃ pq, ptrN C h.calls[q].sender = .pointer pq := by
        unfold ptrN
        split
        · exact ⟨_, rfl⟩
        · exact ⟨_, rfl⟩
      have HPL : Calls Tryz.prog 35 #[ptrN C h.calls[q].sender] wr.drew fun e w' => e = .returned (.int .i64 h.calls[q].sender) ∧ w' = wr.drew := by
        by_cases hs : h.calls[q].sender = -1
        · rw [hs, ptrN_neg (by decide)]
          exact placeOf_none _
        · obtain ⟨i, hi⟩ := Int.eq_ofNat_of_zero_le (show 0 ≤ h.calls[q].sender by omega)
          have hil : i < h.calls.length := by omega
          rw [hi, ptrN_at]
          exact placeOf_at (C i) i _ (trio_cells (kr.cl i hil)).1.2.1
      rw [hpq] at u2 HPL
      have HX : Hid (T q = (.slice at_ h.calls[q].temps.length ct, .slice as_ h.calls[q].stack.length cs_)) := by
        show T q = _
        rw [← hT1, ← hT2]
      have HFIN : Hid (∀ w3 : World, Below wr.heap.size wr w3 → CallRow w.heap.size (w3.alloc (.cells #[.int .i64 h.calls[q].m, .int .i64 h.calls[q].pc, .slice at_ h.calls[q].temps.length ct, .slice as_ h.calls[q].stack.length cs_, .int .i64 h.calls[q].sender, .bool h.calls[q].dead] 48)) (.slice ao q co) (outL h T q) ∧ (∀ j u, (cells6 (h.calls[q], .slice at_ h.calls[q].temps.length ct, .slice as_ h.calls[q].stack.length cs_))[j]? = some u → (w3.alloc (.cells #[.int .i64 h.calls[q].m, .int .i64 h.calls[q].pc, .slice at_ h.calls[q].temps.length ct, .slice as_ h.calls[q].stack.length cs_, .int .i64 h.calls[q].sender, .bool h.calls[q].dead] 48)).cell? ⟨w3.heap.size, j, none⟩ = some u) ∧ Below w.heap.size w (w3.alloc (.cells #[.int .i64 h.calls[q].m, .int .i64 h.calls[q].pc, .slice at_ h.calls[q].temps.length ct, .slice as_ h.calls[q].stack.length cs_, .int .i64 h.calls[q].sender, .bool h.calls[q].dead] 48))) := fun w3 hb3 => by
        have N := (Below.refl w3.heap.size w3).alloc (Nat.le_refl _) (.cells #[.int .i64 h.calls[q].m, .int .i64 h.calls[q].pc, .slice at_ h.calls[q].temps.length ct, .slice as_ h.calls[q].stack.length cs_, .int .i64 h.calls[q].sender, .bool h.calls[q].dead] 48)
        have hz := hb3.size
        have hzb := hb.size
        exact ⟨(hrow.below hb3).below N, cells6_of (x := (h.calls[q], .slice at_ h.calls[q].temps.length ct, .slice as_ h.calls[q].stack.length cs_)) (six_new w3 48 _ _ _ _ _ _), (hb.trans (hb3.mono hzb)).trans (N.mono (by omega))⟩
      have S1 : wr.drew.cell? ⟨C q, 0, none⟩ = some (.pointer (some ⟨D q, 0, none⟩)) ∧ wr.drew.cell? ⟨C q, 2, none⟩ = some (.pointer pq) := ⟨u0, u2⟩
      have HSX : ∀ w' : World, w'.heap[C q]? = wr.heap[C q]? → (w'.cell? ⟨C q, 0, none⟩ = some (.pointer (some ⟨D q, 0, none⟩)) ∧ w'.cell? ⟨C q, 2, none⟩ = some (.pointer pq)) := fun w' e => ⟨(World.cell?_of_block (a := ⟨C q, 0, none⟩) e).trans u0, (World.cell?_of_block (a := ⟨C q, 2, none⟩) e).trans u2⟩
      have hCl : C q < wr.heap.size := (kr.lo (.call q) hlt (C q) rfl).2
      have hCo : (Value.slice ao q co).ownBlock ≠ some (C q) := fun e => by
        have q1 := (hrow.lt _ e).1
        have q2 := (HK.out.lo (.call q) hlt (C q) rfl).2
        omega
      clear kr rd hpq hT1 hT2
      go_upto_region 5 with fail
      go_region_held3 (fun w' => w'.cell? ⟨C q, 0, none⟩ = some (.pointer (some ⟨D q, 0, none⟩)) ∧ w'.cell? ⟨C q, 2, none⟩ = some (.pointer pq))
        (first | with_reducible exact S1 | (refine HSX _ ?_; first | (with_reducible exact hk5) | (with_reducible exact hkA) | (with_reducible exact hb3'.block _ hCl)))
        (first
          | (go_at_call 35; refine HPL.mono ?_; rintro e w2 ⟨rfl, hw⟩; obtain rfl := hw.symm)
          | (go_at_call 54; refine (HBC.out _ (Below.refl _ _).drew).mono ?_; rintro e w3 ⟨rfl, hb3⟩; have hb3' : Below wr.heap.size wr w3 := (Below.refl _ _).drew.trans hb3; obtain ⟨row3, cells3, bA3⟩ := HFIN.out _ hb3'; have hkA : (w3.alloc (.cells #[.int .i64 h.calls[q].m, .int .i64 h.calls[q].pc, .slice at_ h.calls[q].temps.length ct, .slice as_ h.calls[q].stack.length cs_, .int .i64 h.calls[q].sender, .bool h.calls[q].dead] 48)).heap[C q]? = wr.heap[C q]? := (((Below.refl w3.heap.size w3).alloc (Nat.le_refl _) _).block _ (by have := hb3'.size; omega)).trans (hb3'.block _ hCl))
          | (refine step_callL _ (by rfl) _ _ (by rfl) w.heap.size _ (outL h T q) (h.calls[q], .slice at_ h.calls[q].temps.length ct, .slice as_ h.calls[q].stack.length cs_) (by rfl) w3.heap.size 1 (by rfl) row3 rfl rfl cells3 (by rw [outL_len]; omega) bA3.size ?_; intro v' w5 hrow5 hg5 hbk5; obtain ⟨a5, c5, hv5, _⟩ := hrow5.slice; subst hv5; have hk5 := (hg5.block _ (by have := hb3'.size; simp; omega) (fun e => hCo e.symm)).trans hkA))
      all_goals
        have hrow6 : CallRow w.heap.size w5 (.slice a5 (outL h T q ++ [(h.calls[q], Value.slice at_ h.calls[q].temps.length ct, Value.slice as_ h.calls[q].stack.length cs_)]).length c5) (outL h T (q + 1)) := by
          rw [outL_snoc h T hlt, HX.out]
          exact hrow5
        have b5 : Below w.heap.size w w5 := bA3.grown hg5 bA3.size (fun g e => (row3.lt g e).1)
        clear hrow5 hg5 row3 cells3 HFIN HBC HPL
        go_wp2
        go_roundg (h.calls.length - (q + 1))
        case measure => omega
        case rel => exact ⟨q + 1, by omega, rfl, by go_num, by simpa using hrow6, b5⟩
    · obtain rfl : q = h.calls.length := by omega
      go_wp2
      go_ret
      exact ⟨_, rfl, hrow, hb⟩
end Go.Proofs.YtlpbklgkafjfmaaGreatDoor

/-
  An ok heap's calls, made by the program: liveOf.
-/
namespace Go.Proofs.YtlpbklgkafjfmaaGreatDoor
open Go.RowKit
attribute [local go_sem ↓] Go.wp_at_zero Go.wp_at_succ
variable {B : Nat} {w w' : World} {bl br : Nat} {vp vcs vsd : Value} {C D : Nat → Nat} {T : Nat → Value × Value} {cs : List Cl} {now : Int}
theorem LH.put {W1 w2 w5 : World} (k : LH B W1 bl vcs C D T cs (-1)) (hB : B ≤ W1.heap.size) {d : Nat} {vt vs : Value} {c : Cl} (hsd : ∀ i, (hi : i < cs.length) → cs[i].sender = -1) (hN : BodyNew W1.heap.size w2 d vt vs c) (hb : Below W1.heap.size W1 w2) {v' : Value}
    (hr : CRow B 1 w5 v' (cs.length + 1) (ptrs C cs.length ++ [.pointer (some ⟨w2.heap.size, 0, none⟩)]))
    (hg : ((w2.alloc (.cells #[.pointer (some ⟨d, 0, none⟩), .int .i64 cs.length, .pointer none] 98)).alloc (.cells #[.pointer (some ⟨w2.heap.size, 0, none⟩)] 81)).grownBy w5 vcs.ownBlock)
    (hv : v'.ownBlock = vcs.ownBlock ∨ v'.ownBlock = some ((w2.alloc (.cells #[.pointer (some ⟨d, 0, none⟩), .int .i64 cs.length, .pointer none] 98)).alloc (.cells #[.pointer (some ⟨w2.heap.size, 0, none⟩)] 81)).heap.size) :
    (w5.cell? ⟨bl, 0, none⟩ = some vcs ∧ w5.frozen? ⟨bl, 0, none⟩ = false) ∧ (∀ g, g < W1.heap.size → g ≠ bl → vcs.ownBlock ≠ some g → (w5.setCell ⟨bl, 0, none⟩ v').heap[g]? = W1.heap[g]?) ∧ Below B W1 (w5.setCell ⟨bl, 0, none⟩ v') ∧
    LH B (w5.setCell ⟨bl, 0, none⟩ v') bl v' (updN C cs.length w2.heap.size) (updN D cs.length d) (putV T cs.length (vt, vs)) (cs ++ [noS c]) (-1) := by
  obtain ⟨rd, pt, ps, hd, h1, h2⟩ := hN
  have hblL := k.lo .heap trivial trivial bl rfl
  have hz := hb.size
  have hdl := rd.lt
  have N3 : Below w2.heap.size w2 (w2.alloc (.cells #[.pointer (some ⟨d, 0, none⟩), .int .i64 cs.length, .pointer none] 98)) := (Below.refl _ _).alloc (Nat.le_refl _) _
  have rc3 := trio_new w2 98 (.pointer (some ⟨d, 0, none⟩)) (.int .i64 cs.length) (.pointer none)
  have hz3 : (w2.alloc (.cells #[.pointer (some ⟨d, 0, none⟩), .int .i64 cs.length, .pointer none] 98)).heap.size = w2.heap.size + 1 := by simp
  have N4 : Below w2.heap.size w2 ((w2.alloc (.cells #[.pointer (some ⟨d, 0, none⟩), .int .i64 cs.length, .pointer none] 98)).alloc (.cells #[.pointer (some ⟨w2.heap.size, 0, none⟩)] 81)) := N3.alloc (by omega) _
  have rc4 := rc3.alloc (.cells #[.pointer (some ⟨w2.heap.size, 0, none⟩)] 81)
  have hz4 : ((w2.alloc (.cells #[.pointer (some ⟨d, 0, none⟩), .int .i64 cs.length, .pointer none] 98)).alloc (.cells #[.pointer (some ⟨w2.heap.size, 0, none⟩)] 81)).heap.size = w2.heap.size + 2 := by simp
  rw [hz4] at hv
  generalize (w2.alloc (.cells #[.pointer (some ⟨d, 0, none⟩), .int .i64 cs.length, .pointer none] 98)).alloc (.cells #[.pointer (some ⟨w2.heap.size, 0, none⟩)] 81) = W4 at *
  have hgz := hg.size
  have hrl : ∀ g, vcs.ownBlock = some g → g < W1.heap.size ∧ g ≠ bl := fun g e => ⟨(k.lo .row trivial trivial g e).2, fun e2 => by have := k.ap .row .heap trivial trivial trivial trivial g e (by rw [e2]; rfl); cases this⟩
  have hbw : ∀ g, g < W4.heap.size → vcs.ownBlock ≠ some g → w5.heap[g]? = W4.heap[g]? := fun g q1 q2 => hg.block g q1 (fun e => q2 e.symm)
  have hb1 : ∀ g, g < W1.heap.size → vcs.ownBlock ≠ some g → w5.heap[g]? = W1.heap[g]? := fun g q1 q2 => (hbw g (by omega) q2).trans ((N4.block g (by omega)).trans (hb.block g q1))
  have hnr : ∀ g, W1.heap.size ≤ g → vcs.ownBlock ≠ some g := fun g q1 e => by have := (hrl g e).1; omega
  have hblr : vcs.ownBlock ≠ some bl := fun e => (hrl bl e).2 rfl
  have hp5 := k.hp.of_block (hb1 bl hblL.2 hblr)
  rw [ptrN_neg (by decide)] at hp5
  obtain ⟨⟨c0, _⟩, cf0, _⟩ := two_cells hp5
  have hvb : v'.ownBlock ≠ some bl := fun e => by
    rcases hv with x | x
    · exact hblr (by rw [← x]; exact e)
    · rw [x] at e; injection e with e; omega
  have nv : ∀ g, v'.ownBlock = some g → vcs.ownBlock = some g ∨ (W1.heap.size ≤ g ∧ g ≠ w2.heap.size ∧ g ≠ d) := fun g e => by
    rcases hv with x | x
    · exact .inl (by rw [← x]; exact e)
    · rw [x] at e; injection e with e; exact .inr ⟨by omega, by omega, by omega⟩
  have hvn : ∀ g, W1.heap.size ≤ g → g < w2.heap.size + 2 → v'.ownBlock ≠ some g := fun g q1 q2 e => by
    rcases hv with x | x
    · exact hnr g q1 (by rw [← x]; exact e)
    · rw [x] at e; injection e with e; omega
  have hF : ∀ g, g < W4.heap.size → g ≠ bl → vcs.ownBlock ≠ some g → (w5.setCell ⟨bl, 0, none⟩ v').heap[g]? = W4.heap[g]? := fun g q1 q2 q3 => (Below.heap_setCell _ _ _ _ (fun e => q2 e)).trans (hbw g q1 q3)
  have hF1 : ∀ g, g < W1.heap.size → g ≠ bl → vcs.ownBlock ≠ some g → (w5.setCell ⟨bl, 0, none⟩ v').heap[g]? = W1.heap[g]? := fun g q1 q2 q3 => (Below.heap_setCell _ _ _ _ (fun e => q2 e)).trans (hb1 g q1 q3)
  have hsz5 : W4.heap.size ≤ (w5.setCell ⟨bl, 0, none⟩ v').heap.size := by simp [World.setCell]; omega
  have hbF : Below B W1 (w5.setCell ⟨bl, 0, none⟩ v') := (((hb.mono hB).trans (N4.mono (by omega))).grown hg (by omega) (fun g e => (k.lo .row trivial trivial g e).1)).setCell (p := ⟨bl, 0, none⟩) hblL.1 v'
  have pt5 : PairRow B (w5.setCell ⟨bl, 0, none⟩ v') vt c.temps := (pt.kept (by omega) fun g e => by have q := pt.lt g e; exact (hF g (by omega) (by omega) (hnr g (by omega))).trans (N4.block g q.2)).mono hB
  have ps5 : PairRow B (w5.setCell ⟨bl, 0, none⟩ v') vs c.stack := (ps.kept (by omega) fun g e => by have q := ps.lt g e; exact (hF g (by omega) (by omega) (hnr g (by omega))).trans (N4.block g q.2)).mono hB
  have hrw : CRow B 1 (w5.setCell ⟨bl, 0, none⟩ v') v' (cs.length + 1) (ptrs C cs.length ++ [.pointer (some ⟨w2.heap.size, 0, none⟩)]) := hr.kept (by simp [World.setCell]) fun g e => Below.heap_setCell _ _ _ _ (fun e2 => hvb (by have e3 : g = bl := e2; rw [← e3]; exact e))
  refine ⟨⟨c0, cf0⟩, hF1, hbF, k.push (cl := noS c) rfl hsd hB (by omega) hd (by omega) (by omega) hF1 (two_set0 hp5 v') hrw (rc4.of_block (hF _ (by omega) (by omega) (hnr _ (by omega)))) (rd.of_block ((hF d (by omega) (by omega) (hnr d hd)).trans (N4.block d hdl))) pt5 ps5 nv (fun g e => ?_) (fun g e => ?_)⟩
  · have q := pt.lt g e
    exact ⟨q.1, by omega, (h1 g e).1, hvn g q.1 (by omega), (h1 g e).2⟩
  · have q := ps.lt g e
    exact ⟨q.1, by omega, h2 g e, hvn g q.1 (by omega)⟩
theorem LH.lower {B' : Nat} (k : LH B w bl vcs C D T cs now) (h : B' ≤ B) : LH B' w bl vcs C D T cs now :=
  ⟨k.hp, by
    obtain ⟨h0, h1⟩ := k.row
    refine ⟨h0, ?_⟩
    rcases h1 with h1 | ⟨g, off, cap, hv, hg, r⟩
    · exact .inl h1
    · exact .inr ⟨g, off, cap, hv, by omega, r⟩, k.cl, k.bd, fun i hi => ⟨(k.ts i hi).1.mono h, (k.ts i hi).2.mono h⟩, fun x mx hx g hg => by have := k.lo x mx hx g hg; omega, k.ap⟩
end Go.Proofs.YtlpbklgkafjfmaaGreatDoor

/-
  An ok heap's calls, made by the program: liveOf, walked.
-/
namespace Go.Proofs.YtlpbklgkafjfmaaGreatDoor
open Go.RowKit
attribute [local go_sem ↓] Go.wp_at_zero Go.wp_at_succ
set_option maxRecDepth 100000 in
set_option maxHeartbeats 8000000 in
theorem liveOf_any (vc vs : Value) (h : Hp) (w : World) (hh : HeapAt w vc vs h) (hn : h.calls.length ≤ 1000) (hsh : ∀ i, (hi : i < h.calls.length) → h.calls[i].temps.length ≤ 1000 ∧ h.calls[i].stack.length ≤ 1000) (hnow : -1 ≤ h.now ∧ h.now < (h.calls.length : Int)) (hsd : ∀ i, (hi : i < h.calls.length) → -1 ≤ h.calls[i].sender ∧ h.calls[i].sender < (h.calls.length : Int)) :
    Calls Tryz.prog 31 #[.agg (hpCells vc vs h)] w fun e w' => ∃ (bl : Nat) (vcs : Value) (C D : Nat → Nat) (T : Nat → Value × Value), e = .returned (.pointer (some ⟨bl, 0, none⟩)) ∧ LH w.heap.size w' bl vcs C D T h.calls h.now ∧ Below w.heap.size w w' := by
  unfold hpCells
  obtain ⟨ac, kc, hvc⟩ := hh.c.shape
  obtain ⟨aD, kD, hvs⟩ := hh.s.shape
  subst hvc hvs
  have hA : Below w.heap.size w ((w.alloc (.cells #[.slice ac h.calls.length kc, .int .i64 h.now, .int .i64 h.born, .slice aD h.said.length kD, .int .i64 h.code] 29)).alloc (.cells #[.slice none 0 0, .pointer none] 83)) := ((Below.refl _ _).alloc (Nat.le_refl _) _).alloc (by simp) _
  have bh := (five_new w 29 (.slice ac h.calls.length kc) (.int .i64 h.now) (.int .i64 h.born) (.slice aD h.said.length kD) (.int .i64 h.code)).alloc (.cells #[.slice none 0 0, .pointer none] 83)
  have bo := two_new (w.alloc (.cells #[.slice ac h.calls.length kc, .int .i64 h.now, .int .i64 h.born, .slice aD h.said.length kD, .int .i64 h.code] 29)) 83 (.slice none 0 0) (.pointer none)
  simp only [World.size_alloc] at bo
  have hcz : (h.calls.length : Int) ≤ 1000 := by omega
  have HH : Hid (CallsAt w (.slice ac h.calls.length kc) h.calls ∧ ∀ i, (hi : i < h.calls.length) → h.calls[i].temps.length ≤ 1000 ∧ h.calls[i].stack.length ≤ 1000) := ⟨hh.c, hsh⟩
  have HSD : Hid (∀ i, (hi : i < h.calls.length) → -1 ≤ h.calls[i].sender ∧ h.calls[i].sender < (h.calls.length : Int)) := hsd
  clear hh hsh hsd
  go_enter Tryz.func31, Tryz.ntmps31
  go_upto_region 2 with fail
  generalize (w.alloc (.cells #[.slice ac h.calls.length kc, .int .i64 h.now, .int .i64 h.born, .slice aD h.said.length kD, .int .i64 h.code] 29)).alloc (.cells #[.slice none 0 0, .pointer none] 83) = W0 at *
  have L0 := LH.start (B := w.heap.size + 1) bo (Nat.le_refl _) (fun _ => 0) (fun _ => 0) (fun _ => (.slice none 0 0, .slice none 0 0))
  obtain ⟨⟨x0, x1, x2, x3, x4⟩, _⟩ := five_cells bh
  go_wp2
  go_loopg [13] h.calls.length (fun gm i wr => ∃ (q : Nat) (vcs : Value) (C D : Nat → Nat) (T : Nat → Value × Value), q ≤ h.calls.length ∧ gm = h.calls.length - q ∧ i = .int .i64 q ∧ LH (w.heap.size + 1) wr (w.heap.size + 1) vcs C D T ((h.calls.take q).map noS) (-1) ∧ wr.rowIs w.heap.size 29 5 (five (.slice ac h.calls.length kc) (.int .i64 h.now) (.int .i64 h.born) (.slice aD h.said.length kD) (.int .i64 h.code)) ∧ Below w.heap.size w wr)
  case atStart => exact ⟨0, _, _, _, _, Nat.zero_le _, rfl, rfl, L0, bh, hA⟩
  case round =>
    obtain ⟨q, vcs, C, D, T, hq, rfl, rfl, k, rb, hb⟩ := hrel
    clear x0 x1 x2 x3 x4 bh bo L0 hA
    by_cases hlt : q < h.calls.length
    · have hqz : (q : Int) < (h.calls.length : Int) := by omega
      obtain ⟨_, _, hve, _, hcl⟩ := HH.out.1.below hb
      cases hve
      obtain ⟨b, o, vt, vs, hbo, hcq⟩ := hcl q hlt
      subst hbo
      clear hcl
      obtain ⟨at_, ct, hvt⟩ := hcq.t.shape
      obtain ⟨as_, cs_, hvs⟩ := hcq.s.shape
      subst hvt hvs
      obtain ⟨d0, d1, d2, d3, d4, d5, dt, ds⟩ := id hcq
      have hlen : ((h.calls.take q).map noS).length = q := by simp; omega
      have N1 : Below wr.heap.size wr (wr.alloc (.cells #[.int .i64 h.calls[q].m, .int .i64 h.calls[q].pc, .slice at_ h.calls[q].temps.length ct, .slice as_ h.calls[q].stack.length cs_, .int .i64 h.calls[q].sender, .bool h.calls[q].dead] 48)) := (Below.refl _ _).alloc (Nat.le_refl _) _
      have r6 := six_new wr 48 (.int .i64 h.calls[q].m) (.int .i64 h.calls[q].pc) (.slice at_ h.calls[q].temps.length ct) (.slice as_ h.calls[q].stack.length cs_) (.int .i64 h.calls[q].sender) (.bool h.calls[q].dead)
      have k1 := k.below N1
      have rb1 := row_below N1 rb
      have b1 : Below w.heap.size w (wr.alloc (.cells #[.int .i64 h.calls[q].m, .int .i64 h.calls[q].pc, .slice at_ h.calls[q].temps.length ct, .slice as_ h.calls[q].stack.length cs_, .int .i64 h.calls[q].sender, .bool h.calls[q].dead] 48)) := hb.trans (N1.mono hb.size)
      have dt1 := dt.below N1
      have ds1 := ds.below N1
      go_upto_region 5 with fail
      clear k rb hb N1 dt ds d0 d1 d2 d3 d4 d5 hcq
      generalize wr.alloc (.cells #[.int .i64 h.calls[q].m, .int .i64 h.calls[q].pc, .slice at_ h.calls[q].temps.length ct, .slice as_ h.calls[q].stack.length cs_, .int .i64 h.calls[q].sender, .bool h.calls[q].dead] 48) = W1 at *
      generalize wr.heap.size = bc at *
      obtain ⟨⟨e0, e1, e2, e3, e4, e5⟩, _⟩ := six_cells r6
      have hB1 := b1.size
      have hbc := r6.lt
      have hrow1 := k1.row
      obtain ⟨av, cv, hv⟩ := hrow1.form1
      rw [hlen] at hv hrow1
      subst hv
      obtain ⟨⟨y0, y1⟩, yf0, yf1⟩ := two_cells k1.hp
      have hblL := (k1.lo .heap trivial trivial _ rfl).2
      have HBO : Hid (∀ W', Below W1.heap.size W1 W' → Calls Tryz.prog 51 #[.agg #[.int .i64 h.calls[q].m, .int .i64 h.calls[q].pc, .slice at_ h.calls[q].temps.length ct, .slice as_ h.calls[q].stack.length cs_, .int .i64 h.calls[q].sender, .bool h.calls[q].dead]] W' fun e w' => ∃ (d : Nat) (vt' vs' : Value), e = .returned (.pointer (some ⟨d, 0, none⟩)) ∧ BodyNew W'.heap.size w' d vt' vs' h.calls[q] ∧ Below W'.heap.size W' w') := fun W' hb' => bodyOf_any h.calls[q] _ _ W' (dt1.below hb') (ds1.below hb') (HH.out.2 q hlt)
      have HFIN : Hid (∀ (w2 : World) (d : Nat) (vt' vs' : Value), BodyNew W1.heap.size w2 d vt' vs' h.calls[q] → Below W1.heap.size W1 w2 → ∀ (v' : Value) (w5 : World), CRow (w.heap.size + 1) 1 w5 v' (q + 1) (ptrs C q ++ [.pointer (some ⟨w2.heap.size, 0, none⟩)]) → ((w2.alloc (.cells #[.pointer (some ⟨d, 0, none⟩), .int .i64 q, .pointer none] 98)).alloc (.cells #[.pointer (some ⟨w2.heap.size, 0, none⟩)] 81)).grownBy w5 (Value.slice av q cv).ownBlock → (v'.ownBlock = (Value.slice av q cv).ownBlock ∨ v'.ownBlock = some ((w2.alloc (.cells #[.pointer (some ⟨d, 0, none⟩), .int .i64 q, .pointer none] 98)).alloc (.cells #[.pointer (some ⟨w2.heap.size, 0, none⟩)] 81)).heap.size) → ((w5.cell? ⟨w.heap.size + 1, 0, none⟩ = some (.slice av q cv) ∧ w5.frozen? ⟨w.heap.size + 1, 0, none⟩ = false) ∧ ∃ (vcs : Value) (C D : Nat → Nat) (T : Nat → Value × Value), LH (w.heap.size + 1) (w5.setCell ⟨w.heap.size + 1, 0, none⟩ v') (w.heap.size + 1) vcs C D T ((h.calls.take (q + 1)).map noS) (-1) ∧ (w5.setCell ⟨w.heap.size + 1, 0, none⟩ v').rowIs w.heap.size 29 5 (five (.slice (some ⟨b, o, none⟩) h.calls.length kc) (.int .i64 h.now) (.int .i64 h.born) (.slice aD h.said.length kD) (.int .i64 h.code)) ∧ Below w.heap.size w (w5.setCell ⟨w.heap.size + 1, 0, none⟩ v'))) := by
        intro w2 d vt' vs' hN hb2 v' w5 hr hg hv
        have hP := k1.put (c := h.calls[q]) (v' := v') (w5 := w5) (by have := rb1.lt; omega) (fun i hi => by simp [noS]) hN hb2
        rw [hlen] at hP
        obtain ⟨hc5, hF1, hb5, k5⟩ := hP hr hg hv
        rw [← take_noS h.calls hlt] at k5
        refine ⟨hc5, v', _, _, _, k5, rb1.of_block (hF1 _ rb1.lt (by omega) (fun e => by have := (k1.lo .row trivial trivial _ e).1; omega)), b1.trans (hb5.mono (by omega))⟩
      have hsz1 : w.heap.size + 1 < W1.heap.size := hblL
      clear k1 rb1 dt1 ds1 b1 r6
      go_region_law (first
        | (go_simp; go_at_call 51; refine (HBO.out _ (Below.refl _ _).drew).mono ?_; rintro e w2 ⟨d, vt2, vs2, rfl, hN2, hb2⟩; have hB2 : Below W1.heap.size W1 w2 := (Below.refl _ _).drew.trans hb2; have hz2 := hB2.size; have hbl2 : w.heap.size + 1 < w2.heap.size := (by omega); have y02 := cell_below hB2 y0; have y03 : (w2.alloc (.cells #[.pointer (some ⟨d, 0, none⟩), .int .i64 q, .pointer none] 98)).cell? ⟨w.heap.size + 1, 0, none⟩ = some (.slice av q cv) := cell_below ((Below.refl _ _).alloc (Nat.le_refl _) _) y02; have y04 : ((w2.alloc (.cells #[.pointer (some ⟨d, 0, none⟩), .int .i64 q, .pointer none] 98)).alloc (.cells #[.pointer (some ⟨w2.heap.size, 0, none⟩)] 81)).cell? ⟨w.heap.size + 1, 0, none⟩ = some (.slice av q cv) := cell_below (((Below.refl _ _).alloc (Nat.le_refl _) _).alloc (by simp) _) y02; have row2 : CRow (w.heap.size + 1) 1 ((w2.alloc (.cells #[.pointer (some ⟨d, 0, none⟩), .int .i64 q, .pointer none] 98)).alloc (.cells #[.pointer (some ⟨w2.heap.size, 0, none⟩)] 81)) (.slice av q cv) q (ptrs C q) := (hrow1.below hB2).below (((Below.refl _ _).alloc (Nat.le_refl _) _).alloc (by simp) _); have s2 : Src Tryz.prog 1 80 (.slice (some ⟨w2.heap.size + 1, 0, none⟩) 1 1) 1 [.pointer (some ⟨w2.heap.size, 0, none⟩)] ((w2.alloc (.cells #[.pointer (some ⟨d, 0, none⟩), .int .i64 q, .pointer none] 98)).alloc (.cells #[.pointer (some ⟨w2.heap.size, 0, none⟩)] 81)) := src_ptr (by simp [go_sem]); have hBA : w.heap.size + 1 ≤ ((w2.alloc (.cells #[.pointer (some ⟨d, 0, none⟩), .int .i64 q, .pointer none] 98)).alloc (.cells #[.pointer (some ⟨w2.heap.size, 0, none⟩)] 81)).heap.size := (by simp; omega))
        | (refine step_ptrs _ (by rfl) _ _ (by rfl) (w.heap.size + 1) _ _ q (ptrs C q) (.pointer (some ⟨w2.heap.size, 0, none⟩)) (by rfl) (by rfl) row2 s2 (by omega) (by first | exact hBA | (simp; omega)) ?_; intro v' w5 hrow hg hbk; obtain ⟨a', c', hv'⟩ := hrow.form1; subst hv'; obtain ⟨⟨z4, f4⟩, hLV⟩ := HFIN.out _ _ _ _ hN2 hB2 _ w5 hrow hg hbk))
      all_goals
        obtain ⟨vcs2, C2, D2, T2, k2, rb2, b2⟩ := hLV
        go_wp2
        go_roundg (h.calls.length - (q + 1))
        case measure => omega
        case rel => exact ⟨q + 1, vcs2, C2, D2, T2, by omega, rfl, by go_num, k2, rb2, b2⟩
    · obtain rfl : q = h.calls.length := by omega
      rw [List.take_length, lateS_zero] at k
      have HK0 : Hid (LH (w.heap.size + 1) wr (w.heap.size + 1) vcs C D T (lateS h.calls 0) (-1) ∧ Below w.heap.size w wr) := ⟨k, hb⟩
      have HRB : Hid (wr.rowIs w.heap.size 29 5 (five (.slice ac h.calls.length kc) (.int .i64 h.now) (.int .i64 h.born) (.slice aD h.said.length kD) (.int .i64 h.code))) := rb
      obtain ⟨⟨x0, x1, x2, x3, x4⟩, _⟩ := five_cells rb
      clear k hb rb
      go_wp2
      clear x0 x1 x2 x3 x4
      go_loopg [36] h.calls.length (fun gm i wr2 => ∃ q : Nat, q ≤ h.calls.length ∧ gm = h.calls.length - q ∧ i = .int .i64 q ∧ LH (w.heap.size + 1) wr2 (w.heap.size + 1) vcs C D T (lateS h.calls q) (-1) ∧ wr2.rowIs w.heap.size 29 5 (five (.slice ac h.calls.length kc) (.int .i64 h.now) (.int .i64 h.born) (.slice aD h.said.length kD) (.int .i64 h.code)) ∧ Below w.heap.size w wr2)
      case atStart => exact ⟨0, Nat.zero_le _, rfl, rfl, HK0.out.1, HRB.out, HK0.out.2⟩
      case round =>
        obtain ⟨q, hq, rfl, rfl, k, rb, hb⟩ := hrel
        clear HK0 HRB
        by_cases hlt : q < h.calls.length
        · have hqz : (q : Int) < (h.calls.length : Int) := by omega
          have hlen := lateS_len h.calls q
          obtain ⟨_, _, hve, _, hcl⟩ := HH.out.1.below hb
          cases hve
          obtain ⟨b, o, vt, vs, hbo, hcq⟩ := hcl q hlt
          subst hbo
          clear hcl
          obtain ⟨at_, ct, hvt⟩ := hcq.t.shape
          obtain ⟨as_, cs_, hvs⟩ := hcq.s.shape
          subst hvt hvs
          obtain ⟨d0, d1, d2, d3, d4, d5, dt, ds⟩ := id hcq
          have N1 : Below wr.heap.size wr (wr.alloc (.cells #[.int .i64 h.calls[q].m, .int .i64 h.calls[q].pc, .slice at_ h.calls[q].temps.length ct, .slice as_ h.calls[q].stack.length cs_, .int .i64 h.calls[q].sender, .bool h.calls[q].dead] 48)) := (Below.refl _ _).alloc (Nat.le_refl _) _
          have r6 := six_new wr 48 (.int .i64 h.calls[q].m) (.int .i64 h.calls[q].pc) (.slice at_ h.calls[q].temps.length ct) (.slice as_ h.calls[q].stack.length cs_) (.int .i64 h.calls[q].sender) (.bool h.calls[q].dead)
          have k1 := k.below N1
          have rb1 := row_below N1 rb
          have b1 : Below w.heap.size w (wr.alloc (.cells #[.int .i64 h.calls[q].m, .int .i64 h.calls[q].pc, .slice at_ h.calls[q].temps.length ct, .slice as_ h.calls[q].stack.length cs_, .int .i64 h.calls[q].sender, .bool h.calls[q].dead] 48)) := hb.trans (N1.mono hb.size)
          have hCbc : C q < wr.heap.size := (k.lo (.call q) trivial (by show q < _; omega) (C q) rfl).2
          go_upto_region 10 with fail
          clear k rb hb N1 dt ds d0 d1 d2 d3 d4 d5 hcq
          generalize wr.alloc (.cells #[.int .i64 h.calls[q].m, .int .i64 h.calls[q].pc, .slice at_ h.calls[q].temps.length ct, .slice as_ h.calls[q].stack.length cs_, .int .i64 h.calls[q].sender, .bool h.calls[q].dead] 48) = W1 at *
          generalize wr.heap.size = bc at *
          obtain ⟨⟨e0, e1, e2, e3, e4, e5⟩, _⟩ := six_cells r6
          obtain ⟨g, off, cap, hv, hl, hx⟩ := k1.ptr (by omega)
          rw [hlen] at hv hx hl
          subst hv
          have z := hx q hlt
          clear hx
          obtain ⟨⟨y0, y1⟩, _⟩ := two_cells k1.hp
          have hq' : q < (lateS h.calls q).length := by omega
          obtain ⟨⟨u0, u1, u2⟩, uf0, uf1, uf2⟩ := trio_cells (k1.cl q hq')
          have hsq := HSD.out q hlt
          have HCA := callAt_any (k1.below (Below.refl _ _).drew) h.calls[q].sender hsq.1 (by rw [hlen]; exact hsq.2)
          have hns : ((lateS h.calls q)[q]'hq').sender = -1 := by rw [lateS_at h.calls q hlt, if_neg (Nat.lt_irrefl _)]; rfl
          rw [hns, ptrN_neg (by decide)] at u2
          have k2 := k1.snd hq' h.calls[q].sender (ptrN C h.calls[q].sender) rfl
          rw [lateS_set h.calls hlt] at k2
          have hCq := k1.lo (.call q) trivial hq' (C q) rfl
          have rb2 : (W1.setCell ⟨C q, 2, none⟩ (ptrN C h.calls[q].sender)).rowIs w.heap.size 29 5 (five (.slice (some ⟨b, o, none⟩) h.calls.length kc) (.int .i64 h.now) (.int .i64 h.born) (.slice aD h.said.length kD) (.int .i64 h.code)) := rb1.of_block (Below.heap_setCell _ _ _ _ (by show w.heap.size ≠ C q; omega))
          have b2 := b1.setCell (p := ⟨C q, 2, none⟩) (by show w.heap.size ≤ C q; omega) (ptrN C h.calls[q].sender)
          obtain ⟨pq, hpq⟩ : ∃ pq, ptrN C h.calls[q].sender = .pointer pq := by
            unfold ptrN
            split
            · exact ⟨_, rfl⟩
            · exact ⟨_, rfl⟩
          rw [hpq] at k2 rb2 b2 HCA
          have HF : Hid (LH (w.heap.size + 1) (W1.setCell ⟨C q, 2, none⟩ (.pointer pq)) (w.heap.size + 1) (.slice (some ⟨g, off, none⟩) h.calls.length cap) C D T (lateS h.calls (q + 1)) (-1) ∧ (W1.setCell ⟨C q, 2, none⟩ (.pointer pq)).rowIs w.heap.size 29 5 (five (.slice (some ⟨b, o, none⟩) h.calls.length kc) (.int .i64 h.now) (.int .i64 h.born) (.slice aD h.said.length kD) (.int .i64 h.code)) ∧ Below w.heap.size w (W1.setCell ⟨C q, 2, none⟩ (.pointer pq))) := ⟨k2, rb2, b2⟩
          have n1 : w.heap.size + 1 ≠ C q := fun e => by have := k1.ap .heap (.call q) trivial trivial trivial hq' (C q) (by rw [← e]; rfl) rfl; cases this
          have n2 : g ≠ C q := fun e => by have := k1.ap .row (.call q) trivial trivial trivial hq' (C q) (by rw [← e]; rfl) rfl; cases this
          have S2 : (W1.setCell ⟨C q, 2, none⟩ (.pointer pq)).drew.cell? ⟨w.heap.size + 1, 0, none⟩ = some (.slice (some ⟨g, off, none⟩) h.calls.length cap) ∧ (W1.setCell ⟨C q, 2, none⟩ (.pointer pq)).drew.cell? ⟨g, off + q, none⟩ = some (.pointer (some ⟨C q, 0, none⟩)) ∧ (W1.setCell ⟨C q, 2, none⟩ (.pointer pq)).drew.cell? ⟨bc, 4, none⟩ = some (.int .i64 h.calls[q].sender) :=
            ⟨(World.cell?_of_block (a := ⟨w.heap.size + 1, 0, none⟩) (Below.heap_setCell _ _ _ _ n1)).trans y0, (World.cell?_of_block (a := ⟨g, off + q, none⟩) (Below.heap_setCell _ _ _ _ n2)).trans z, (World.cell?_of_block (a := ⟨bc, 4, none⟩) (Below.heap_setCell _ _ _ _ (show bc ≠ C q by omega))).trans e4⟩
          clear k1 k2 rb1 rb2 b1 b2 r6 hns hpq
          go_region_held3 (fun w' => w'.cell? ⟨w.heap.size + 1, 0, none⟩ = some (.slice (some ⟨g, off, none⟩) h.calls.length cap) ∧ w'.cell? ⟨g, off + q, none⟩ = some (.pointer (some ⟨C q, 0, none⟩)) ∧ w'.cell? ⟨bc, 4, none⟩ = some (.int .i64 h.calls[q].sender))
            (first | with_reducible exact S2 | with_reducible exact ⟨y0, z, e4⟩ | exact ⟨y0, z, e4⟩ | go_keep)
            (first | (go_at_call 52; refine HCA.mono ?_; rintro e w2 ⟨rfl, hw⟩; obtain rfl := hw.symm))
          all_goals
            go_wp2
            go_roundg (h.calls.length - (q + 1))
            case measure => omega
            case rel => exact ⟨q + 1, by omega, rfl, by go_num, HF.out.1.below (Below.refl _ _).drew, row_below (Below.refl _ _).drew HF.out.2.1, HF.out.2.2.drew⟩
        · obtain rfl : q = h.calls.length := by omega
          rw [lateS_full] at k
          obtain ⟨⟨x0, x1, x2, x3, x4⟩, _⟩ := five_cells rb
          obtain ⟨⟨y0, y1⟩, yf0, yf1⟩ := two_cells k.hp
          rw [ptrN_neg (by decide)] at y1
          have HCA := callAt_any k h.now hnow.1 hnow.2
          have k2 := k.turnNow h.now (ptrN C h.now) rfl
          have b2 := hb.setCell (p := ⟨w.heap.size + 1, 1, none⟩) (by show w.heap.size ≤ w.heap.size + 1; omega) (ptrN C h.now)
          obtain ⟨pq, hpq⟩ : ∃ pq, ptrN C h.now = .pointer pq := by
            unfold ptrN
            split
            · exact ⟨_, rfl⟩
            · exact ⟨_, rfl⟩
          rw [hpq] at k2 b2 HCA
          have HF : Hid (LH w.heap.size (wr.setCell ⟨w.heap.size + 1, 1, none⟩ (.pointer pq)) (w.heap.size + 1) vcs C D T h.calls h.now ∧ Below w.heap.size w (wr.setCell ⟨w.heap.size + 1, 1, none⟩ (.pointer pq))) := ⟨k2.lower (by omega), b2⟩
          clear k k2 b2 rb hb hpq
          go_wp2_with (go_at_call 52; refine HCA.mono ?_; rintro e w2 ⟨rfl, hw⟩; obtain rfl := hw.symm)
          go_ret
          exact ⟨_, _, _, _, _, rfl, HF.out.1, HF.out.2⟩
end Go.Proofs.YtlpbklgkafjfmaaGreatDoor

/-
  What draws: words for a method that is being drawn (its box, its operations, the box of the answer), and what each statement of l71Method does to them.
-/
import Derived.Test.YtfpodljalccpnaaGreatDoorDraw5
import Derived.Test.YtfpodljalccpnaaGreatDoorDraw4

namespace Go.Proofs.YtfpodljalccpnaaGreatDoor
open Go.RowKit
theorem row_ne {w : World} {g : Nat} {t : TypeId} {n : Nat} {f : Nat → Value} {B : Nat} {v : Value} {L : List (Int × Int)} (hr : w.rowIs g t n f) (h : OpsRow B w v L) (ht : t ≠ 49) : v.ownBlock ≠ some g := by
  intro e
  obtain ⟨c, hc, _⟩ := hr
  obtain ⟨_, h2⟩ := h
  rcases h2 with ⟨rfl, _⟩ | ⟨g', cap, cur, rfl, _, hh, _⟩
  · cases e
  · simp [Value.ownBlock] at e
    subst e
    rw [hc] at hh
    simp at hh
    exact ht hh.2
theorem row_kept {w w' : World} {g : Nat} {t : TypeId} {n : Nat} {f : Nat → Value} {row : Option Nat} (hr : w.rowIs g t n f) (k : w.grownBy w' row) (hne : some g ≠ row) : w'.rowIs g t n f := hr.of_block (k.block g hr.lt hne)
theorem Rd.heap {w w' : World} {b : Nat} {a : Option Addr} {len cap p : Nat} (h : Rd w b a len cap p) (e : w'.heap = w.heap) : Rd w' b a len cap p := by
  have hc : ∀ q, w'.cell? q = w.cell? q := fun q => by simp [World.cell?, e]
  have hf : ∀ q, w'.frozen? q = w.frozen? q := fun q => by simp [World.frozen?, e]
  exact ⟨by rw [hc]; exact h.s, by rw [hc]; exact h.p, by rw [hf]; exact h.f, h.l, fun i hi => by
    obtain ⟨b', o, x, h1, h2, h3, h4⟩ := h.c i hi
    exact ⟨b', o, x, h1, h2, by rw [hc]; exact h3, h4⟩⟩
theorem Rd.alloc {w : World} {b : Nat} {a : Option Addr} {len cap p : Nat} (h : Rd w b a len cap p) (o : Obj) : Rd (w.alloc o) b a len cap p := Rd.kept h h (Nat.le_refl _) (World.grownBy_alloc w o none) (fun g e => by cases e)
def boxF (A T : Int) (v : Value) : Nat → Value := fun i => if i = 0 then .int .i64 A else if i = 1 then .int .i64 T else v
theorem box_new (w : World) (A T : Int) (v : Value) : (w.alloc (.cells #[.int .i64 A, .int .i64 T, v] 35)).rowIs w.heap.size 35 3 (boxF A T v) :=
  ⟨_, Go.Deep.blk_alloc_new _ _, rfl, fun i hi => by match i, hi with | 0, _ => rfl | 1, _ => rfl | 2, _ => rfl⟩
structure MS (w0 w : World) (b : Nat) (a : Option Addr) (len cap p g : Nat) (A T : Int) (v : Value) (L : List (Int × Int)) : Prop where
  rd : Rd w b a len cap p
  gr : w0.grownBy w (some b)
  box : w.rowIs g 35 3 (boxF A T v)
  own : w0.heap.size < g
  row : OpsRow w0.heap.size w v L
  res : w.rowIs w0.heap.size 35 3 (boxF 0 0 (.slice none 0 0))
  r0 : ∃ p0, Rd w0 b a len cap p0
namespace MS
variable {w0 w w' W : World} {b : Nat} {a : Option Addr} {len cap p q g : Nat} {A T : Int} {v v' : Value} {L L' : List (Int × Int)}
theorem blt (h : MS w0 w b a len cap p g A T v L) : b < w0.heap.size := by obtain ⟨_, h0⟩ := h.r0; exact World.block_lt_of_cell? _ _ h0.s
theorem c0 (h : MS w0 w b a len cap p g A T v L) : w.cell? ⟨g, 0, none⟩ = some (.int .i64 A) := h.box.cell (by decide)
theorem c1 (h : MS w0 w b a len cap p g A T v L) : w.cell? ⟨g, 1, none⟩ = some (.int .i64 T) := h.box.cell (i := 1) (by decide)
theorem c2 (h : MS w0 w b a len cap p g A T v L) : w.cell? ⟨g, 2, none⟩ = some v := h.box.cell (i := 2) (by decide)
theorem f2 (h : MS w0 w b a len cap p g A T v L) : w.frozen? ⟨g, 2, none⟩ = false := h.box.frozen 2
theorem pick (h : MS w0 w b a len cap p g A T v L) (hrd : Rd w' b a len cap q) (hg : w.grownBy w' (some b)) : MS w0 w' b a len cap q g A T v L :=
  ⟨hrd, grown_trans h.gr hg, row_kept h.box hg (by have := h.own; have := h.blt; simp; omega), h.own, h.row.kept hg (fun k e hk => by cases e; have := (h.row.lt _ hk).1; have := h.blt; omega), row_kept h.res hg (by have := h.blt; simp; omega), h.r0⟩
theorem drew (h : MS w0 w b a len cap p g A T v L) : MS w0 w.drew b a len cap p g A T v L := ⟨Rd.heap h.rd rfl, ⟨h.gr.os, h.gr.tape, h.gr.output, h.gr.size, h.gr.block⟩, h.box, h.own, h.row, h.res, h.r0⟩
theorem appended (h : MS w0 w b a len cap p g A T v L) (hW : Below w.heap.size w W) (hg2 : W.grownBy w' v.ownBlock) : Rd w' b a len cap p ∧ w0.grownBy w' (some b) ∧ w'.rowIs g 35 3 (boxF A T v) ∧ w'.rowIs w0.heap.size 35 3 (boxF 0 0 (.slice none 0 0)) := by
  have hA := below_grown hW v.ownBlock
  have hA2 : w.grownBy w' v.ownBlock := ⟨hg2.os.trans hA.os, hg2.tape.trans hA.tape, hg2.output.trans hA.output, Nat.le_trans hA.size hg2.size, fun i hi hn => (hg2.block i (Nat.lt_of_lt_of_le hi hA.size) hn).trans (hA.block i hi hn)⟩
  have hrow : ∀ k, v.ownBlock = some k → w0.heap.size ≤ k := fun k e => (h.row.lt k e).1
  obtain ⟨p0, h0⟩ := h.r0
  exact ⟨Rd.kept h0 h.rd h.gr.size hA2 hrow, grown_own h.gr hA2 hrow, row_kept h.box hA2 (fun e => row_ne h.box h.row (by decide) e.symm), row_kept h.res hA2 (fun e => row_ne h.res h.row (by decide) e.symm)⟩
theorem stored (h : MS w0 w b a len cap p g A T v L) (hW : Below w.heap.size w W) (hg2 : W.grownBy w' v.ownBlock) (hrow' : OpsRow w0.heap.size w' v' L') : MS w0 (w'.setCell ⟨g, 2, none⟩ v') b a len cap p g A T v' L' := by
  obtain ⟨h1, h2, h3, h4⟩ := h.appended hW hg2
  have hown := h.own
  have k := grown_set w' g 2 v'
  have e : ∀ k, some g = some k → w0.heap.size ≤ k := fun k e => by cases e; omega
  obtain ⟨p0, h0⟩ := h.r0
  refine ⟨Rd.kept h0 h1 h2.size k e, grown_own h2 k e, (h3.set 2 v').congr (fun i hi => ?_), hown, hrow'.kept k (fun q hq hk => by cases hq; exact row_ne h3 hrow' (by decide) hk), row_kept h4 k (by simp; omega), h.r0⟩
  match i, hi with
  | 0, _ => simp [boxF]
  | 1, _ => simp [boxF]
  | 2, _ => simp [boxF]
end MS
theorem ms_one {w : World} {b : Nat} {a : Option Addr} {len cap p : Nat} (hr : Rd w b a len cap p) (A T : Int) (k : Nat) :
    MS w (((((w.setCell ⟨b, 1, none⟩ (.int .i64 ((p : Int) + 1))).alloc (.cells #[.int .i64 0, .int .i64 0, .slice none 0 0] 35)).alloc (.cells #[] 49)).alloc (.cells #[.int .i64 A, .int .i64 T, .slice (some ⟨w.heap.size + 1, 0, none⟩) 0 0] 35)).drewN k) b a len cap (p + 1) (w.heap.size + 1 + 1) A T (.slice (some ⟨w.heap.size + 1, 0, none⟩) 0 0) [] := by
  have hn : Rd (w.setCell ⟨b, 1, none⟩ (.int .i64 ((p : Int) + 1))) b a len cap (p + 1) := hr.next (q := p + 1)
  have hg := grown_next w b (.int .i64 ((p : Int) + 1))
  have hz : (w.setCell ⟨b, 1, none⟩ (.int .i64 ((p : Int) + 1))).heap.size = w.heap.size := by simp [World.setCell]
  generalize w.setCell ⟨b, 1, none⟩ (.int .i64 ((p : Int) + 1)) = V at *
  have r1 := box_new V 0 0 (.slice none 0 0)
  have o2 := OpsRow.made (V.alloc (.cells #[.int .i64 0, .int .i64 0, .slice none 0 0] 35))
  have b3 := box_new ((V.alloc (.cells #[.int .i64 0, .int .i64 0, .slice none 0 0] 35)).alloc (.cells #[] 49)) A T (.slice (some ⟨w.heap.size + 1, 0, none⟩) 0 0)
  simp only [World.size_alloc, hz] at r1 o2 b3
  have o3 : OpsRow w.heap.size _ _ [] := (o2.mono (Nat.le_succ _)).kept (row := none) (World.grownBy_alloc _ (.cells #[.int .i64 A, .int .i64 T, .slice (some ⟨w.heap.size + 1, 0, none⟩) 0 0] 35) none) (fun g e => by cases e)
  exact ⟨Rd.heap (((hn.alloc _).alloc _).alloc _) rfl, grown_drewN (grown_alloc (grown_alloc (grown_alloc hg _) _) _) k, b3, by omega, o3, (r1.alloc _).alloc _, ⟨p, hr⟩⟩
theorem ms_two {w : World} {b : Nat} {a : Option Addr} {len cap p : Nat} (hr : Rd w b a len cap p) (A T : Int) (k : Nat) :
    MS w (((((w.setCell ⟨b, 1, none⟩ (.int .i64 ((p : Int) + 1))).alloc (.cells #[.int .i64 0, .int .i64 0, .slice none 0 0] 35)).alloc (.cells #[.int .i64 A, .int .i64 T, .slice (some ⟨w.heap.size + 1 + 1, 0, none⟩) 0 0] 35)).alloc (.cells #[] 49)).drewN k) b a len cap (p + 1) (w.heap.size + 1) A T (.slice (some ⟨w.heap.size + 1 + 1, 0, none⟩) 0 0) [] := by
  have hn : Rd (w.setCell ⟨b, 1, none⟩ (.int .i64 ((p : Int) + 1))) b a len cap (p + 1) := hr.next (q := p + 1)
  have hg := grown_next w b (.int .i64 ((p : Int) + 1))
  have hz : (w.setCell ⟨b, 1, none⟩ (.int .i64 ((p : Int) + 1))).heap.size = w.heap.size := by simp [World.setCell]
  generalize w.setCell ⟨b, 1, none⟩ (.int .i64 ((p : Int) + 1)) = V at *
  have r1 := box_new V 0 0 (.slice none 0 0)
  have b2 := box_new (V.alloc (.cells #[.int .i64 0, .int .i64 0, .slice none 0 0] 35)) A T (.slice (some ⟨w.heap.size + 1 + 1, 0, none⟩) 0 0)
  have o3 := OpsRow.made ((V.alloc (.cells #[.int .i64 0, .int .i64 0, .slice none 0 0] 35)).alloc (.cells #[.int .i64 A, .int .i64 T, .slice (some ⟨w.heap.size + 1 + 1, 0, none⟩) 0 0] 35))
  simp only [World.size_alloc, hz] at r1 b2 o3
  exact ⟨Rd.heap (((hn.alloc _).alloc _).alloc _) rfl, grown_drewN (grown_alloc (grown_alloc (grown_alloc hg _) _) _) k, b2.alloc _, by omega, o3.mono (by omega), (r1.alloc _).alloc _, ⟨p, hr⟩⟩
end Go.Proofs.YtfpodljalccpnaaGreatDoor

/-
  The program's walk over a method: (*deepWalk).goOn, which comes from an operation to all that may be next.
-/
namespace Go.Proofs.YtfpodljalccpnaaGreatDoor
open Go.RowKit
theorem Walk.below {B bw : Nat} {w w' : World} {va vq : Value} {ah q : List Int} (h : Walk B bw w va vq ah q) (hb : Below w.heap.size w w') : Walk B bw w' va vq ah q :=
  ⟨cell_below hb h.a, cell_below hb h.c, (hb.frozen (p := ⟨bw, 1, none⟩) h.lt).trans h.f, h.ra.below hb, h.rq.below hb, h.apart, h.na, h.nq, h.hB⟩
theorem come_len (ah q : List Int) (k v : Int) : (dd_comeP ah q k v).2.1.length = ah.length ∧ (dd_comeP ah q k v).2.2.length ≤ q.length + 1 := by
  unfold dd_comeP
  split
  · split <;> simp
  · simp
def goP (ms : List (Int × Int × List (Int × Int))) (op : Int × Int) (ah q : List Int) (pl : Nat) : Bool × List Int × List Int :=
  if gt ah pl < (takesOf ms op.1 op.2).1 ∨ 6 < behind ms op (gt ah pl) then (false, ah, q)
  else if op.1 = 10 then (true, ah, q)
  else if op.1 = 7 then dd_comeP ah q op.2 (behind ms op (gt ah pl))
  else if op.1 = 8 then (if (dd_comeP ah q op.2 (behind ms op (gt ah pl))).1 = true then dd_comeP (dd_comeP ah q op.2 (behind ms op (gt ah pl))).2.1 (dd_comeP ah q op.2 (behind ms op (gt ah pl))).2.2 ((pl : Int) + 1) (behind ms op (gt ah pl)) else (false, (dd_comeP ah q op.2 (behind ms op (gt ah pl))).2))
  else dd_comeP ah q ((pl : Int) + 1) (behind ms op (gt ah pl))
set_option maxRecDepth 100000 in
set_option maxHeartbeats 1000000 in
theorem goOn_any (B bw : Nat) (va vq vp : Value) (ms : List (Int × Int × List (Int × Int))) (ah q : List Int) (k a : Int) (pl : Nat) (w : World) (h : Walk B bw w va vq ah q) (hM : MethsAt w vp ms) (hT : TabAt w) (hBw : B ≤ w.heap.size) (hl : ah.length ≤ 14) (hq : q.length ≤ 90)
    (hpl : pl < ah.length) (ht0 : 0 ≤ (takesOf ms k a).1) (ht2 : (takesOf ms k a).1 ≤ 2) (hl0 : 0 ≤ (takesOf ms k a).2) (hl1 : (takesOf ms k a).2 ≤ 1) (hd0 : -1 ≤ gt ah pl) (hd6 : gt ah pl ≤ 6) (R : Bool × List Int × List Int) (HR : Hid (goP ms (k, a) ah q pl = R)) :
    Calls Tryz.prog 72 #[.pointer (some ⟨bw, 0, none⟩), .agg #[vp], .agg #[.int .i64 k, .int .i64 a], .int .i64 pl] w fun e w' => e = .returned (.bool R.1) ∧ Below B w w' ∧ ∃ vq', Walk B bw w' va vq' R.2.1 R.2.2 := by
  obtain ⟨ga, oa, ca, rfl, hga, hgal⟩ := h.ra.form (by omega)
  have hplz : (pl : Int) < ah.length := by omega
  have hg := gt_nat ah pl hpl
  have hbh : behind ms (k, a) (gt ah pl) = gt ah pl - (takesOf ms k a).1 + (takesOf ms k a).2 := rfl
  unfold goP at HR
  dsimp only at HR
  obtain ⟨tl, Htl'⟩ : ∃ tl, takesOf ms k a = tl := ⟨_, rfl⟩
  have Htl : Hid (takesOf ms k a = tl) := Htl'
  rw [Htl'] at HR hbh ht0 ht2 hl0 hl1
  clear Htl'
  obtain ⟨t, l⟩ := tl
  generalize behind ms (k, a) (gt ah pl) = b at *
  generalize gt ah pl = d at *
  dsimp only at HR hbh ht0 ht2 hl0 hl1
  have hA : Below w.heap.size w ((w.alloc (.cells #[vp] 25)).alloc (.cells #[.int .i64 k, .int .i64 a] 49)) := ((Below.refl _ _).alloc (Nat.le_refl _) _).alloc (by simp) _
  have bk : ((w.alloc (.cells #[vp] 25)).alloc (.cells #[.int .i64 k, .int .i64 a] 49)).cell? ⟨w.heap.size + 1, 0, none⟩ = some (.int .i64 k) := by simp [go_sem]
  have ba : ((w.alloc (.cells #[vp] 25)).alloc (.cells #[.int .i64 k, .int .i64 a] 49)).cell? ⟨w.heap.size + 1, 1, none⟩ = some (.int .i64 a) := by simp [go_sem]
  go_enter Tryz.func72, Tryz.ntmps72
  go_wp2_with fail
  generalize (w.alloc (.cells #[vp] 25)).alloc (.cells #[.int .i64 k, .int .i64 a] 49) = W0 at *
  refine (implTakes_any _ ms _ _ _ (hM.below hA) (hT.below hA)).mono ?_
  rintro e w1 ⟨rfl, hb1⟩
  have B1 : Below w.heap.size w w1 := hA.trans (hb1.mono hA.size)
  have BB : Below B w w1 := B1.mono hBw
  have W1 := h.below B1
  have ck := cell_below hb1 bk
  have ca' := cell_below hb1 ba
  have c0 := W1.a
  obtain ⟨cp, _⟩ := W1.ra.cell hpl
  rw [← hg] at cp
  rw [Htl.out]
  have hz1 : B ≤ w1.heap.size := by have := B1.size; omega
  clear h hM hT hA hb1 bk ba B1 hg Htl
  by_cases hlt : d < t
  · have HR' := HR.out
    rw [if_pos (.inl hlt)] at HR'
    subst HR'
    go_wp2
    go_ret
    exact ⟨rfl, BB, vq, W1⟩
  by_cases h6 : 6 < d - t + l
  · have HR' := HR.out
    rw [if_pos (.inr (by omega))] at HR'
    subst HR'
    go_wp2
    go_ret
    exact ⟨rfl, BB, vq, W1⟩
  have HR1 := HR.out
  clear HR
  rw [if_neg (by omega)] at HR1
  have HR : Hid _ := HR1
  clear HR1
  by_cases h10 : k = 10
  · subst h10
    have HR' := HR.out
    rw [if_pos rfl] at HR'
    subst HR'
    go_wp2
    go_ret
    exact ⟨rfl, BB, vq, W1⟩
  have e10 : (k == 10) = false := beq_eq_false_iff_ne.2 h10
  have HR1 := HR.out
  clear HR
  rw [if_neg h10] at HR1
  have HR : Hid _ := HR1
  clear HR1
  by_cases h7 : k = 7
  · subst h7
    have HR1 := HR.out
    clear HR
    rw [if_pos rfl] at HR1
    have HR : Hid _ := HR1
    clear HR1
    go_wp2_with fail
    rw [← hbh]
    refine (dd_come_any B bw _ vq ah q _ _ _ W1 hl (by omega)).mono ?_
    rintro e w2 ⟨rfl, hb2, vq2, W2⟩
    rw [HR.out] at W2 ⊢
    go_wp2
    go_ret
    exact ⟨rfl, BB.trans hb2, vq2, W2⟩
  have e7 : (k == 7) = false := beq_eq_false_iff_ne.2 h7
  have HR1 := HR.out
  clear HR
  rw [if_neg h7] at HR1
  have HR : Hid _ := HR1
  clear HR1
  by_cases h8 : k = 8
  · subst h8
    have HR1 := HR.out
    clear HR
    rw [if_pos rfl] at HR1
    have HR : Hid _ := HR1
    clear HR1
    go_wp2_with fail
    rw [← hbh]
    refine (dd_come_any B bw _ vq ah q _ _ _ W1 hl (by omega)).mono ?_
    rintro e w2 ⟨rfl, hb2, vq2, W2⟩
    have hln := come_len ah q a b
    have BB2 := BB.trans hb2
    generalize dd_comeP ah q a b = R at *
    obtain ⟨r, ah2, q2⟩ := R
    dsimp only at W2 hln HR ⊢
    cases r
    · have HR' := HR.out
      rw [if_neg (by simp)] at HR'
      subst HR'
      go_wp2
      go_ret
      exact ⟨rfl, BB2, vq2, W2⟩
    · have HR1 := HR.out
      clear HR
      rw [if_pos rfl] at HR1
      have HR : Hid _ := HR1
      clear HR1
      go_wp2_with fail
      rw [← hbh]
      refine (dd_come_any B bw _ vq2 ah2 q2 _ _ _ W2 (by omega) (by omega)).mono ?_
      rintro e w3 ⟨rfl, hb3, vq3, W3⟩
      rw [HR.out] at W3 ⊢
      go_wp2
      go_ret
      exact ⟨rfl, BB2.trans hb3, vq3, W3⟩
  have e8 : (k == 8) = false := beq_eq_false_iff_ne.2 h8
  have HR1 := HR.out
  clear HR
  rw [if_neg h8] at HR1
  have HR : Hid _ := HR1
  clear HR1
  go_wp2_with fail
  rw [← hbh]
  refine (dd_come_any B bw _ vq ah q _ _ _ W1 hl (by omega)).mono ?_
  rintro e w2 ⟨rfl, hb2, vq2, W2⟩
  rw [HR.out] at W2 ⊢
  go_wp2
  go_ret
  exact ⟨rfl, BB.trans hb2, vq2, W2⟩
end Go.Proofs.YtfpodljalccpnaaGreatDoor

/-
  How many values there are, without memory: one goes on from an operation that is come to.
-/
namespace Go.Proofs.YtfpodljalccpnaaGreatDoor
open Go.RowKit
theorem leaves_nonneg (ms : List (Int × Int × List (Int × Int))) (k a : Int) : 0 ≤ (takesOf ms k a).2 ∧ (takesOf ms k a).2 ≤ 1 := by
  unfold takesOf lv
  split
  · split <;> simp
  · simp only; split <;> omega
theorem done_of {ms : List (Int × Int × List (Int × Int))} {ops : List (Int × Int)} {ah ah' : List Int} {pl : Nat} (h1 : (takesOf ms (opAt ops pl).1 (opAt ops pl).2).1 ≤ gt ah pl) (h2 : behind ms (opAt ops pl) (gt ah pl) ≤ 6) (he : gt ah' pl = gt ah pl)
    (hn : ∀ k ∈ nexts (opAt ops pl) pl, 0 ≤ k ∧ k < ops.length ∧ gt ah' k = behind ms (opAt ops pl) (gt ah pl)) : Done ms ops ah' pl := by
  unfold Done
  rw [he]
  exact ⟨h1, h2, hn⟩
theorem go_step {ms : List (Int × Int × List (Int × Int))} {ops : List (Int × Int)} {ah q : List Int} {pl : Nat} (h : Inv ms ops (fun _ => False) ah ((pl : Int) :: q)) :
    ((goP ms (opAt ops pl) ah q pl).1 = false → ∀ g, ¬ Closed ms ops g) ∧
    ((goP ms (opAt ops pl) ah q pl).1 = true → Inv ms ops (fun _ => False) (goP ms (opAt ops pl) ah q pl).2.1 (goP ms (opAt ops pl) ah q pl).2.2 ∧ todo (goP ms (opAt ops pl) ah q pl).2.1 (goP ms (opAt ops pl) ah q pl).2.2 = todo ah q) := by
  obtain ⟨j, hj, hpl, h0⟩ := h.queue pl (List.mem_cons_self ..)
  obtain rfl : pl = j := by omega
  have hp := h.pop
  have hlv := leaves_nonneg ms (opAt ops pl).1 (opAt ops pl).2
  have hcl : ∀ g, Closed ms ops g → (takesOf ms (opAt ops pl).1 (opAt ops pl).2).1 ≤ gt ah pl ∧ behind ms (opAt ops pl) (gt ah pl) ≤ 6 := fun g hg => by
    have e := h.sound g hg pl hpl h0
    have := hg.each pl hpl (by omega)
    unfold Done at this
    rw [e] at this
    exact ⟨this.1, this.2.1⟩
  unfold goP
  by_cases hc : gt ah pl < (takesOf ms (opAt ops pl).1 (opAt ops pl).2).1 ∨ 6 < behind ms (opAt ops pl) (gt ah pl)
  · rw [if_pos hc]
    refine ⟨fun _ g hg => ?_, fun e => by cases e⟩
    have := hcl g hg
    omega
  rw [if_neg hc]
  have h1 : (takesOf ms (opAt ops pl).1 (opAt ops pl).2).1 ≤ gt ah pl := by omega
  have h2 : behind ms (opAt ops pl) (gt ah pl) ≤ 6 := by omega
  have h3 : 0 ≤ behind ms (opAt ops pl) (gt ah pl) := by unfold behind; omega
  clear hc hcl
  by_cases h10 : (opAt ops pl).1 = 10
  · rw [if_pos h10]
    refine ⟨fun e => (by cases e), fun _ => ⟨hp.push (done_of h1 h2 rfl fun k hk => ?_), rfl⟩⟩
    simp [nexts, h10] at hk
  rw [if_neg h10]
  by_cases h7 : (opAt ops pl).1 = 7
  · rw [if_pos h7]
    have hn : ∀ k, k ∈ nexts (opAt ops pl) pl ↔ k = (opAt ops pl).2 := fun k => by simp [nexts, h7]
    obtain ⟨s1, s2⟩ := come_step hp hpl h0 (opAt ops pl).2 ((hn _).2 rfl) h3 h2
    refine ⟨s1, fun e => ?_⟩
    obtain ⟨i1, i2, i3, i4, i5, i6⟩ := s2 e
    refine ⟨i1.push (done_of h1 h2 (i3 pl h0) fun k hk => ?_), i2⟩
    rw [(hn k).1 hk]
    exact ⟨i4, i5, i6⟩
  rw [if_neg h7]
  by_cases h8 : (opAt ops pl).1 = 8
  · rw [if_pos h8]
    have hn : ∀ k, k ∈ nexts (opAt ops pl) pl ↔ k = (opAt ops pl).2 ∨ k = (pl : Int) + 1 := fun k => by simp [nexts, h8]
    obtain ⟨s1, s2⟩ := come_step hp hpl h0 (opAt ops pl).2 ((hn _).2 (.inl rfl)) h3 h2
    by_cases hr : (dd_comeP ah q (opAt ops pl).2 (behind ms (opAt ops pl) (gt ah pl))).1 = true
    · rw [if_pos hr]
      obtain ⟨i1, i2, i3, i4, i5, i6⟩ := s2 hr
      have e0 := i3 pl h0
      obtain ⟨t1, t2⟩ := come_step i1 hpl (by omega) ((pl : Int) + 1) ((hn _).2 (.inr rfl)) (by rw [e0]; exact h3) (by rw [e0]; exact h2)
      rw [e0] at t1 t2
      refine ⟨t1, fun e => ?_⟩
      obtain ⟨j1, j2, j3, j4, j5, j6⟩ := t2 e
      refine ⟨j1.push (done_of h1 h2 ((j3 pl (by omega)).trans e0) fun k hk => ?_), j2.trans i2⟩
      rcases (hn k).1 hk with rfl | rfl
      · have hk' : (((opAt ops pl).2.toNat : Nat) : Int) = (opAt ops pl).2 := Int.toNat_of_nonneg i4
        have hj := j3 (opAt ops pl).2.toNat (by rw [hk', i6]; exact h3)
        rw [hk'] at hj
        exact ⟨i4, i5, hj.trans i6⟩
      · exact ⟨j4, j5, j6⟩
    · rw [if_neg hr]
      exact ⟨fun _ => s1 (by simpa using hr), fun e => by cases e⟩
  rw [if_neg h8]
  have hn : ∀ k, k ∈ nexts (opAt ops pl) pl ↔ k = (pl : Int) + 1 := fun k => by simp [nexts, h10, h7, h8]
  obtain ⟨s1, s2⟩ := come_step hp hpl h0 ((pl : Int) + 1) ((hn _).2 rfl) h3 h2
  refine ⟨s1, fun e => ?_⟩
  obtain ⟨i1, i2, i3, i4, i5, i6⟩ := s2 e
  refine ⟨i1.push (done_of h1 h2 (i3 pl h0) fun k hk => ?_), i2⟩
  rw [(hn k).1 hk]
  exact ⟨i4, i5, i6⟩
theorem Inv.closed {ms : List (Int × Int × List (Int × Int))} {ops : List (Int × Int)} {ah : List Int} (h : Inv ms ops (fun _ => False) ah []) : Closed ms ops ah :=
  ⟨h.len, h.pos, h.zero, fun i hi h0 => h.done i hi h0 (by simp) (fun h => h)⟩
theorem opsOf_nat {ms : List (Int × Int × List (Int × Int))} {m : Nat} (h : m < ms.length) : opsOf ms m = ms[m].2.2 := by simp [opsOf, h]
theorem DeepRes.yes {ms : List (Int × Int × List (Int × Int))} {m : Int} {ah : List Int} (hp : progOk ms = true) (hm : inR m 0 ((ms.length : Int) - 1) = true) (h : Inv ms (opsOf ms m) (fun _ => False) ah []) : DeepRes ms m true ah :=
  .inl ⟨rfl, ⟨hp, hm, h.closed⟩, fun i hi => h.bnd i (by rw [← h.len]; exact hi), fun g hg i hi h0 => h.sound g hg.2.2 i (by rw [← h.len]; exact hi) h0⟩
theorem DeepRes.no {ms : List (Int × Int × List (Int × Int))} {m : Int} (h : ∀ g, ¬ Closed ms (opsOf ms m) g) : DeepRes ms m false [] := .inr ⟨rfl, rfl, fun g hg => h g hg.2.2⟩
theorem takes_ok {ms : List (Int × Int × List (Int × Int))} (hp : progOk ms = true) (k a : Int) : 0 ≤ (takesOf ms k a).1 ∧ (takesOf ms k a).1 ≤ 2 := by
  unfold takesOf tk
  split
  · split
    · rename_i h
      have hr := inR_true.1 h
      have hl : a.toNat < ms.length := by omega
      have hall : ms.all (methOk ms.length) = true := by
        simp only [progOk, Bool.and_eq_true] at hp
        exact hp.2
      rw [List.all_eq_true] at hall
      have := hall ms[a.toNat] (List.getElem_mem hl)
      simp only [methOk, Bool.and_eq_true, inR_true] at this
      simp [hl]
      omega
    · simp
  · simp only
    split
    · omega
    · split <;> omega
theorem len_ok {ms : List (Int × Int × List (Int × Int))} (hp : progOk ms = true) {m : Nat} (h : m < ms.length) : ms[m].2.2.length ≤ 14 := by
  have hall : ms.all (methOk ms.length) = true := by
    simp only [progOk, Bool.and_eq_true] at hp
    exact hp.2
  rw [List.all_eq_true] at hall
  have := hall ms[m] (List.getElem_mem h)
  simp only [methOk, Bool.and_eq_true] at this
  have h3 := this.1.2
  simpa using h3
end Go.Proofs.YtfpodljalccpnaaGreatDoor

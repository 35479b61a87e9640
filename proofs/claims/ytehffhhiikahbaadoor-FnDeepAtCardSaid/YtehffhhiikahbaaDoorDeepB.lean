/-
  The program's walk over a method: (*deepWalk).goOn, which comes from an operation to all that may be next.
-/
import Derived.Test.YtehffhhiikahbaaDoorDeepA
namespace Go.Proofs.YtehffhhiikahbaaDoor
open Go.RowKit

theorem Walk.below {B bw : Nat} {w w' : World} {va vq : Value} {ah q : List Int} (h : Walk B bw w va vq ah q) (hb : Below w.heap.size w w') : Walk B bw w' va vq ah q :=
  ⟨cell_below hb h.a, cell_below hb h.c, (hb.frozen (p := ⟨bw, 1, none⟩) h.lt).trans h.f, h.ra.below hb, h.rq.below hb, h.apart, h.na, h.nq, h.hB⟩

theorem come_len (ah q : List Int) (k v : Int) : (comeP ah q k v).2.1.length = ah.length ∧ (comeP ah q k v).2.2.length ≤ q.length + 1 := by
  unfold comeP
  split
  · split <;> simp
  · simp

/-- one goes on from pl -/
def goP (ms : List (Int × Int × List (Int × Int))) (op : Int × Int) (ah q : List Int) (pl : Nat) : Bool × List Int × List Int :=
  if gt ah pl < (takesOf ms op.1 op.2).1 ∨ 6 < behind ms op (gt ah pl) then (false, ah, q)
  else if op.1 = 10 then (true, ah, q)
  else if op.1 = 7 then comeP ah q op.2 (behind ms op (gt ah pl))
  else if op.1 = 8 then (if (comeP ah q op.2 (behind ms op (gt ah pl))).1 = true then comeP (comeP ah q op.2 (behind ms op (gt ah pl))).2.1 (comeP ah q op.2 (behind ms op (gt ah pl))).2.2 ((pl : Int) + 1) (behind ms op (gt ah pl)) else (false, (comeP ah q op.2 (behind ms op (gt ah pl))).2))
  else comeP ah q ((pl : Int) + 1) (behind ms op (gt ah pl))

set_option maxRecDepth 100000 in
set_option maxHeartbeats 1000000 in
theorem goOn_any (B bw : Nat) (va vq vp : Value) (ms : List (Int × Int × List (Int × Int))) (ah q : List Int) (k a : Int) (pl : Nat) (w : World) (h : Walk B bw w va vq ah q) (hM : MethsAt w vp ms) (hT : TabAt w) (hBw : B ≤ w.heap.size) (hl : ah.length ≤ 14) (hq : q.length ≤ 90)
    (hpl : pl < ah.length) (ht0 : 0 ≤ (takesOf ms k a).1) (ht2 : (takesOf ms k a).1 ≤ 2) (hl0 : 0 ≤ (takesOf ms k a).2) (hl1 : (takesOf ms k a).2 ≤ 1) (hd0 : -1 ≤ gt ah pl) (hd6 : gt ah pl ≤ 6) (R : Bool × List Int × List Int) (HR : Hid (goP ms (k, a) ah q pl = R)) :
    Calls Tryd.prog 34 #[.pointer (some ⟨bw, 0, none⟩), .agg #[vp], .agg #[.int .i64 k, .int .i64 a], .int .i64 pl] w fun e w' => e = .returned (.bool R.1) ∧ Below B w w' ∧ ∃ vq', Walk B bw w' va vq' R.2.1 R.2.2 := by
  obtain ⟨ga, oa, ca, rfl, hga, hgal⟩ := h.ra.form (by omega)
  have hplz : (pl : Int) < ah.length := by omega
  have hg := gt_nat ah pl hpl
  have hbh : behind ms (k, a) (gt ah pl) = gt ah pl - (takesOf ms k a).1 + (takesOf ms k a).2 := rfl
  unfold goP at HR
  dsimp only at HR
  obtain ⟨tl, Htl'⟩ : ∃ tl, takesOf ms k a = tl := ⟨_, rfl⟩
  have Htl : Hid (takesOf ms k a = tl) := Htl'
  rw [Htl'] at HR hbh ht0 ht2 hl0 hl1
  clear Htl'
  obtain ⟨t, l⟩ := tl
  generalize behind ms (k, a) (gt ah pl) = b at *
  generalize gt ah pl = d at *
  dsimp only at HR hbh ht0 ht2 hl0 hl1
  have hA : Below w.heap.size w ((w.alloc (.cells #[vp] 25)).alloc (.cells #[.int .i64 k, .int .i64 a] 27)) := ((Below.refl _ _).alloc (Nat.le_refl _) _).alloc (by simp) _
  have bk : ((w.alloc (.cells #[vp] 25)).alloc (.cells #[.int .i64 k, .int .i64 a] 27)).cell? ⟨w.heap.size + 1, 0, none⟩ = some (.int .i64 k) := by simp [go_sem]
  have ba : ((w.alloc (.cells #[vp] 25)).alloc (.cells #[.int .i64 k, .int .i64 a] 27)).cell? ⟨w.heap.size + 1, 1, none⟩ = some (.int .i64 a) := by simp [go_sem]
  go_enter Tryd.func34, Tryd.ntmps34
  go_wp2_with fail
  generalize (w.alloc (.cells #[vp] 25)).alloc (.cells #[.int .i64 k, .int .i64 a] 27) = W0 at *
  refine (implTakes_any _ ms _ _ _ (hM.below hA) (hT.below hA)).mono ?_
  rintro e w1 ⟨rfl, hb1⟩
  have B1 : Below w.heap.size w w1 := hA.trans (hb1.mono hA.size)
  have BB : Below B w w1 := B1.mono hBw
  have W1 := h.below B1
  have ck := cell_below hb1 bk
  have ca' := cell_below hb1 ba
  have c0 := W1.a
  obtain ⟨cp, _⟩ := W1.ra.cell hpl
  rw [← hg] at cp
  rw [Htl.out]
  have hz1 : B ≤ w1.heap.size := by have := B1.size; omega
  clear h hM hT hA hb1 bk ba B1 hg Htl
  by_cases hlt : d < t
  · have HR' := HR.out
    rw [if_pos (.inl hlt)] at HR'
    subst HR'
    go_wp2
    go_ret
    exact ⟨rfl, BB, vq, W1⟩
  by_cases h6 : 6 < d - t + l
  · have HR' := HR.out
    rw [if_pos (.inr (by omega))] at HR'
    subst HR'
    go_wp2
    go_ret
    exact ⟨rfl, BB, vq, W1⟩
  have HR1 := HR.out
  clear HR
  rw [if_neg (by omega)] at HR1
  have HR : Hid _ := HR1
  clear HR1
  by_cases h10 : k = 10
  · subst h10
    have HR' := HR.out
    rw [if_pos rfl] at HR'
    subst HR'
    go_wp2
    go_ret
    exact ⟨rfl, BB, vq, W1⟩
  have e10 : (k == 10) = false := beq_eq_false_iff_ne.2 h10
  have HR1 := HR.out
  clear HR
  rw [if_neg h10] at HR1
  have HR : Hid _ := HR1
  clear HR1
  by_cases h7 : k = 7
  · subst h7
    have HR1 := HR.out
    clear HR
    rw [if_pos rfl] at HR1
    have HR : Hid _ := HR1
    clear HR1
    go_wp2_with fail
    rw [← hbh]
    refine (come_any B bw _ vq ah q _ _ _ W1 hl (by omega)).mono ?_
    rintro e w2 ⟨rfl, hb2, vq2, W2⟩
    rw [HR.out] at W2 ⊢
    go_wp2
    go_ret
    exact ⟨rfl, BB.trans hb2, vq2, W2⟩
  have e7 : (k == 7) = false := beq_eq_false_iff_ne.2 h7
  have HR1 := HR.out
  clear HR
  rw [if_neg h7] at HR1
  have HR : Hid _ := HR1
  clear HR1
  by_cases h8 : k = 8
  · subst h8
    have HR1 := HR.out
    clear HR
    rw [if_pos rfl] at HR1
    have HR : Hid _ := HR1
    clear HR1
    go_wp2_with fail
    rw [← hbh]
    refine (come_any B bw _ vq ah q _ _ _ W1 hl (by omega)).mono ?_
    rintro e w2 ⟨rfl, hb2, vq2, W2⟩
    have hln := come_len ah q a b
    have BB2 := BB.trans hb2
    generalize comeP ah q a b = R at *
    obtain ⟨r, ah2, q2⟩ := R
    dsimp only at W2 hln HR ⊢
    cases r
    · have HR' := HR.out
      rw [if_neg (by simp)] at HR'
      subst HR'
      go_wp2
      go_ret
      exact ⟨rfl, BB2, vq2, W2⟩
    · have HR1 := HR.out
      clear HR
      rw [if_pos rfl] at HR1
      have HR : Hid _ := HR1
      clear HR1
      go_wp2_with fail
      rw [← hbh]
      refine (come_any B bw _ vq2 ah2 q2 _ _ _ W2 (by omega) (by omega)).mono ?_
      rintro e w3 ⟨rfl, hb3, vq3, W3⟩
      rw [HR.out] at W3 ⊢
      go_wp2
      go_ret
      exact ⟨rfl, BB2.trans hb3, vq3, W3⟩
  have e8 : (k == 8) = false := beq_eq_false_iff_ne.2 h8
  have HR1 := HR.out
  clear HR
  rw [if_neg h8] at HR1
  have HR : Hid _ := HR1
  clear HR1
  go_wp2_with fail
  rw [← hbh]
  refine (come_any B bw _ vq ah q _ _ _ W1 hl (by omega)).mono ?_
  rintro e w2 ⟨rfl, hb2, vq2, W2⟩
  rw [HR.out] at W2 ⊢
  go_wp2
  go_ret
  exact ⟨rfl, BB.trans hb2, vq2, W2⟩

end Go.Proofs.YtehffhhiikahbaaDoor

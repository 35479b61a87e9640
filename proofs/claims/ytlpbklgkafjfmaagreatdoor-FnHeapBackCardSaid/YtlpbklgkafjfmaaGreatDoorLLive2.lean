/-
  The program's step, its parts: what is taken.
-/
import Derived.Test.YtlpbklgkafjfmaaGreatDoorLStep1
import Derived.Deep.RegionHeld3

namespace Go.Proofs.YtlpbklgkafjfmaaGreatDoor
open Go.RowKit
set_option maxRecDepth 100000 in
set_option maxHeartbeats 4000000 in
theorem takenBy_no {B : Nat} (vp : Value) (ms : Ms) (hp : progOk ms = true) (kk a t l : Int) (ht : takesOf ms kk a = (t, l)) (sa : Option Addr) (sc : Nat) (st : List (Int × Int)) (w : World) (hM : MethsAt w vp ms) (hT : TabAt w) (hs : PairRow B w (.slice sa st.length sc) st) (hl : st.length ≤ 6)
    (hbad : ((st.length : Int) - t < 0 ∨ 6 < (st.length : Int) - t + l) ∨ kindsOk kk (st.drop ((st.length : Int) - t).toNat) = false) :
    Calls Tryz.prog 67 #[.agg #[vp], .agg #[.int .i64 kk, .int .i64 a], .slice sa st.length sc] w fun e w' => e = .returned (.tuple #[.slice none 0 0, .bool false]) ∧ Below w.heap.size w w' := by
  have hA : Below w.heap.size w ((w.alloc (.cells #[vp] 25)).alloc (.cells #[.int .i64 kk, .int .i64 a] 35)) := ((Below.refl _ _).alloc (Nat.le_refl _) _).alloc (by simp) _
  have hTB := takes_bound hp kk a
  rw [ht] at hTB
  simp only [] at hTB
  obtain ⟨ap, cp, hvp, _⟩ := id hM
  subst hvp
  have r0 := (box_row w 25 (.slice ap ms.length cp)).alloc (.cells #[.int .i64 kk, .int .i64 a] 35)
  have r1 := two_new (w.alloc (.cells #[.slice ap ms.length cp] 25)) 35 (.int .i64 kk) (.int .i64 a)
  simp only [World.size_alloc] at r1
  have HT := implTakes_any (.slice ap ms.length cp) ms kk a _ (hM.below hA) (hT.below hA)
  rw [ht] at HT
  simp only [] at HT
  have hsA := hs.below hA
  have HTK : Hid (takesOf ms kk a = (t, l)) := ht
  have hwl : IntKind.i64.wrap ((st.length : Int) - t) = (st.length : Int) - t := by rw [IntKind.wrap_i64]; omega
  have hwl2 : IntKind.i64.wrap ((st.length : Int) - t + l) = (st.length : Int) - t + l := by rw [IntKind.wrap_i64]; omega
  clear hM hT hs ht
  go_enter Tryz.func67, Tryz.ntmps67
  go_upto_region 1 with fail
  generalize (w.alloc (.cells #[.slice ap ms.length cp] 25)).alloc (.cells #[.int .i64 kk, .int .i64 a] 35) = W at *
  obtain ⟨⟨u0, u1⟩, _⟩ := two_cells r1
  have v0 := r0.cell (i := 0) (by decide)
  go_upto_region 2 with (go_at_call 83; refine HT.mono ?_; rintro e w2 ⟨rfl, hb2⟩)
  have s2 := hsA.below hb2
  obtain ⟨⟨x0, x1⟩, _⟩ := two_cells (row_below hb2 r1)
  have B2 : Below w.heap.size w w2 := hA.trans (hb2.mono hA.size)
  clear u0 u1 v0 r0 r1 HT hsA hA
  by_cases hneg : (st.length : Int) - t < 0
  · have hn' : decide ((st.length : Int) - t < 0) = true := decide_eq_true hneg
    go_wp2_with fail
    go_region
    go_wp2
    go_ret2
    exact ⟨rfl, B2.drew⟩
  by_cases hbig : 6 < (st.length : Int) - t + l
  · have hn' : decide ((st.length : Int) - t < 0) = false := decide_eq_false hneg
    have hg' : decide (6 < (st.length : Int) - t + l) = true := decide_eq_true hbig
    go_wp2_with fail
    go_region
    go_wp2
    go_ret2
    exact ⟨rfl, B2.drew⟩
  obtain ⟨L, hL⟩ : ∃ L : Nat, (st.length : Int) - t = (L : Int) := ⟨((st.length : Int) - t).toNat, by omega⟩
  have hLn : L ≤ st.length := by omega
  have hkb : kindsOk kk (st.drop L) = false := by
    rcases hbad with h | h
    · omega
    · rw [hL, Int.toNat_natCast] at h; exact h
  rw [hL] at hwl hwl2 hneg hbig
  have hLz : (L : Int) ≤ (st.length : Int) := by omega
  have hL0 : (0 : Int) ≤ (L : Int) := by omega
  obtain ⟨hpF, _⟩ := s2.piece (l := L) (k := st.length) hLn (Nat.le_refl _)
  rw [List.take_length] at hpF
  have hfrom : ∀ W, (Instr.slice 27 (.slice sa st.length sc) (some (.int .i64 (L : Int))) none none).run Tryz.prog W = .ok (sliced sa L st.length sc 2) W := fun W => val_from W sa _ sc L hLn
  generalize sliced sa L st.length sc 2 = VF at *
  have hK := kindsFit_any kk a VF (st.drop L) _ (hpF.below (Below.refl w2.heap.size w2).drew) (takes_kinds HTK.out (by simp; omega)).1 (takes_kinds HTK.out (by simp; omega)).2
  rw [hkb] at hK
  clear hbad hpF s2 hkb
  have hn' : decide ((L : Int) < 0) = false := decide_eq_false hneg
  have hg' : decide (6 < (L : Int) + l) = false := decide_eq_false hbig
  go_wp2_with fail
  go_region_held3 (fun w' => w'.cell? ⟨w.heap.size + 1, 0, none⟩ = some (.int .i64 kk) ∧ w'.cell? ⟨w.heap.size + 1, 1, none⟩ = some (.int .i64 a))
    (first | with_reducible exact ⟨x0, x1⟩ | exact ⟨cell_below hb3 (show w2.drew.cell? _ = _ from x0), cell_below hb3 (show w2.drew.cell? _ = _ from x1)⟩ | go_keep)
    (first | (go_at_call 84; refine hK.mono ?_; rintro e w3 ⟨rfl, hb3⟩))
  all_goals
    go_wp2
    go_ret2
    exact ⟨rfl, B2.drew.trans (hb3.mono B2.size)⟩
set_option maxRecDepth 100000 in
set_option maxHeartbeats 4000000 in
theorem takenBy_yes {B : Nat} (vp : Value) (ms : Ms) (hp : progOk ms = true) (kk a t l : Int) (ht : takesOf ms kk a = (t, l)) (sa : Option Addr) (sc : Nat) (st : List (Int × Int)) (w : World) (hM : MethsAt w vp ms) (hT : TabAt w) (hs : PairRow B w (.slice sa st.length sc) st) (hl : st.length ≤ 6)
    {L : Nat} (hL : (st.length : Int) - t = (L : Int)) (hbig : (L : Int) + l ≤ 6) (hkb : kindsOk kk (st.drop L) = true) :
    Calls Tryz.prog 67 #[.agg #[vp], .agg #[.int .i64 kk, .int .i64 a], .slice sa st.length sc] w fun e w' => ∃ v', e = .returned (.tuple #[v', .bool true]) ∧ PairRow w.heap.size w' v' (st.drop L) ∧ Below w.heap.size w w' := by
  have hA : Below w.heap.size w ((w.alloc (.cells #[vp] 25)).alloc (.cells #[.int .i64 kk, .int .i64 a] 35)) := ((Below.refl _ _).alloc (Nat.le_refl _) _).alloc (by simp) _
  have hTB := takes_bound hp kk a
  rw [ht] at hTB
  simp only [] at hTB
  obtain ⟨ap, cp, hvp, _⟩ := id hM
  subst hvp
  have r0 := (box_row w 25 (.slice ap ms.length cp)).alloc (.cells #[.int .i64 kk, .int .i64 a] 35)
  have r1 := two_new (w.alloc (.cells #[.slice ap ms.length cp] 25)) 35 (.int .i64 kk) (.int .i64 a)
  simp only [World.size_alloc] at r1
  have HT := implTakes_any (.slice ap ms.length cp) ms kk a _ (hM.below hA) (hT.below hA)
  rw [ht] at HT
  simp only [] at HT
  have hsA := hs.below hA
  have HTK : Hid (takesOf ms kk a = (t, l)) := ht
  have hwl : IntKind.i64.wrap ((st.length : Int) - t) = (st.length : Int) - t := by rw [IntKind.wrap_i64]; omega
  have hwl2 : IntKind.i64.wrap ((st.length : Int) - t + l) = (st.length : Int) - t + l := by rw [IntKind.wrap_i64]; omega
  clear hM hT hs ht
  go_enter Tryz.func67, Tryz.ntmps67
  go_upto_region 1 with fail
  generalize (w.alloc (.cells #[.slice ap ms.length cp] 25)).alloc (.cells #[.int .i64 kk, .int .i64 a] 35) = W at *
  obtain ⟨⟨u0, u1⟩, _⟩ := two_cells r1
  have v0 := r0.cell (i := 0) (by decide)
  go_upto_region 2 with (go_at_call 83; refine HT.mono ?_; rintro e w2 ⟨rfl, hb2⟩)
  have s2 := hsA.below hb2
  obtain ⟨⟨x0, x1⟩, _⟩ := two_cells (row_below hb2 r1)
  have B2 : Below w.heap.size w w2 := hA.trans (hb2.mono hA.size)
  clear u0 u1 v0 r0 r1 HT hsA hA
  have hLn : L ≤ st.length := by omega
  rw [hL] at hwl hwl2
  have hLz : (L : Int) ≤ (st.length : Int) := by omega
  have hL0 : (0 : Int) ≤ (L : Int) := by omega
  obtain ⟨hpF, _⟩ := s2.piece (l := L) (k := st.length) hLn (Nat.le_refl _)
  rw [List.take_length] at hpF
  have hfrom : ∀ W, (Instr.slice 27 (.slice sa st.length sc) (some (.int .i64 (L : Int))) none none).run Tryz.prog W = .ok (sliced sa L st.length sc 2) W := fun W => val_from W sa _ sc L hLn
  generalize sliced sa L st.length sc 2 = VF at *
  have hK := kindsFit_any kk a VF (st.drop L) _ (hpF.below (Below.refl w2.heap.size w2).drew) (takes_kinds HTK.out (by simp; omega)).1 (takes_kinds HTK.out (by simp; omega)).2
  rw [hkb] at hK
  clear s2 hkb
  have hn' : decide ((L : Int) < 0) = false := decide_eq_false (by omega)
  have hg' : decide (6 < (L : Int) + l) = false := decide_eq_false (by omega)
  go_wp2_with fail
  go_region_held3 (fun w' => w'.cell? ⟨w.heap.size + 1, 0, none⟩ = some (.int .i64 kk) ∧ w'.cell? ⟨w.heap.size + 1, 1, none⟩ = some (.int .i64 a))
    (first | with_reducible exact ⟨x0, x1⟩ | exact ⟨cell_below hb3 (show w2.drew.cell? _ = _ from x0), cell_below hb3 (show w2.drew.cell? _ = _ from x1)⟩ | go_keep)
    (first | (go_at_call 84; refine hK.mono ?_; rintro e w3 ⟨rfl, hb3⟩))
  all_goals
    have hpF3 := (hpF.below (Below.refl w2.heap.size w2).drew).below hb3
    have B3 : Below w.heap.size w w3 := B2.drew.trans (hb3.mono B2.size)
    go_wp2_with (go_at_call 32; refine (clone_any _ _ _ hpF3 (by simp; omega)).mono ?_; rintro e w4 ⟨v4, rfl, hr4, hb4⟩)
    go_ret2
    exact ⟨_, rfl, hr4.mono B3.size, B3.trans (hb4.mono B3.size)⟩
end Go.Proofs.YtlpbklgkafjfmaaGreatDoor

/-
  An ok heap's calls, made by the program in memory of their own: a call's body.
-/
namespace Go.Proofs.YtlpbklgkafjfmaaGreatDoor
open Go.RowKit
def BodyNew (B : Nat) (w : World) (d : Nat) (vt vs : Value) (c : Cl) : Prop :=
  w.rowIs d 113 5 (five (.int .i64 c.m) (.int .i64 c.pc) vt vs (.bool c.dead)) ∧ PairRow B w vt c.temps ∧ PairRow B w vs c.stack ∧ B ≤ d ∧
  (∀ g, vt.ownBlock = some g → g ≠ d ∧ vs.ownBlock ≠ some g) ∧ (∀ g, vs.ownBlock = some g → g ≠ d)
set_option maxRecDepth 100000 in
set_option maxHeartbeats 4000000 in
theorem bodyOf_any (c : Cl) (vt vs : Value) (w : World) (ht : OpsAt w vt c.temps) (hs : OpsAt w vs c.stack) (hl : c.temps.length ≤ 1000 ∧ c.stack.length ≤ 1000) :
    Calls Tryz.prog 51 #[.agg #[.int .i64 c.m, .int .i64 c.pc, vt, vs, .int .i64 c.sender, .bool c.dead]] w fun e w' => ∃ (d : Nat) (vt' vs' : Value), e = .returned (.pointer (some ⟨d, 0, none⟩)) ∧ BodyNew w.heap.size w' d vt' vs' c ∧ Below w.heap.size w w' := by
  obtain ⟨at_, ct, hvt⟩ := ht.shape
  obtain ⟨as_, cs, hvs⟩ := hs.shape
  subst hvt hvs
  have hA : Below w.heap.size w (w.alloc (.cells #[.int .i64 c.m, .int .i64 c.pc, .slice at_ c.temps.length ct, .slice as_ c.stack.length cs, .int .i64 c.sender, .bool c.dead] 48)) := (Below.refl _ _).alloc (Nat.le_refl _) _
  have r1 := six_new w 48 (.int .i64 c.m) (.int .i64 c.pc) (.slice at_ c.temps.length ct) (.slice as_ c.stack.length cs) (.int .i64 c.sender) (.bool c.dead)
  have HT : Hid (OpsAt w (.slice at_ c.temps.length ct) c.temps ∧ OpsAt w (.slice as_ c.stack.length cs) c.stack) := ⟨ht, hs⟩
  have hzA : w.heap.size < (w.alloc (.cells #[.int .i64 c.m, .int .i64 c.pc, .slice at_ c.temps.length ct, .slice as_ c.stack.length cs, .int .i64 c.sender, .bool c.dead] 48)).heap.size := by simp
  clear ht hs
  go_enter Tryz.func51, Tryz.ntmps51
  go_upto_region 1 with fail
  generalize w.alloc (.cells #[.int .i64 c.m, .int .i64 c.pc, .slice at_ c.temps.length ct, .slice as_ c.stack.length cs, .int .i64 c.sender, .bool c.dead] 48) = W at *
  obtain ⟨⟨x0, x1, x2, x3, x4, x5⟩, _⟩ := six_cells r1
  have HS : ∀ w' : World, Below W.heap.size W w' → ((w'.cell? ⟨w.heap.size, 0, none⟩ = some (.int .i64 c.m) ∧ w'.cell? ⟨w.heap.size, 1, none⟩ = some (.int .i64 c.pc) ∧ w'.cell? ⟨w.heap.size, 2, none⟩ = some (.slice at_ c.temps.length ct) ∧ w'.cell? ⟨w.heap.size, 3, none⟩ = some (.slice as_ c.stack.length cs) ∧ w'.cell? ⟨w.heap.size, 5, none⟩ = some (.bool c.dead)) ∧ Below W.heap.size W w') := fun w' hb => ⟨⟨cell_below hb x0, cell_below hb x1, cell_below hb x2, cell_below hb x3, cell_below hb x5⟩, hb⟩
  have HCT : Hid (∀ W', Below W.heap.size W W' → Calls Tryz.prog 32 #[.slice at_ c.temps.length ct] W' fun e w' => ∃ v', e = .returned v' ∧ PairRow W'.heap.size w' v' c.temps ∧ Below W'.heap.size W' w') := fun W' hb => clone_any _ _ _ (HT.out.1.below (hA.trans (hb.mono hA.size))) hl.1
  have HCS : Hid (∀ W', Below W.heap.size W W' → Calls Tryz.prog 32 #[.slice as_ c.stack.length cs] W' fun e w' => ∃ v', e = .returned v' ∧ PairRow W'.heap.size w' v' c.stack ∧ Below W'.heap.size W' w') := fun W' hb => clone_any _ _ _ (HT.out.2.below (hA.trans (hb.mono hA.size))) hl.2
  clear x0 x1 x2 x3 x4 x5 r1
  go_region_held3 (fun w' => (w'.cell? ⟨w.heap.size, 0, none⟩ = some (.int .i64 c.m) ∧ w'.cell? ⟨w.heap.size, 1, none⟩ = some (.int .i64 c.pc) ∧ w'.cell? ⟨w.heap.size, 2, none⟩ = some (.slice at_ c.temps.length ct) ∧ w'.cell? ⟨w.heap.size, 3, none⟩ = some (.slice as_ c.stack.length cs) ∧ w'.cell? ⟨w.heap.size, 5, none⟩ = some (.bool c.dead)) ∧ Below W.heap.size W w')
    ((refine HS _ ?_; first
      | (with_reducible exact (‹(_ ∧ _ ∧ _ ∧ _ ∧ _) ∧ Below W.heap.size W _›).2)
      | (with_reducible exact (Below.refl _ _).drew)
      | (with_reducible exact hBT)
      | (with_reducible exact hBS)
      | (with_reducible exact hBT.alloc hBT.size _)
      | (with_reducible exact hBS.alloc hBS.size _)))
    (first
      | (go_at_call 32; refine (HCT.out _ (‹(_ ∧ _ ∧ _ ∧ _ ∧ _) ∧ Below W.heap.size W _›).2).mono ?_; rintro e wT ⟨vT, rfl, hrT, hbT⟩; have hBT := Below.trans (‹(_ ∧ _ ∧ _ ∧ _ ∧ _) ∧ Below W.heap.size W _›).2 (hbT.mono ((‹(_ ∧ _ ∧ _ ∧ _ ∧ _) ∧ Below W.heap.size W _›).2).size); obtain ⟨aT, kT, hvT, _⟩ := hrT.slice; subst hvT)
      | (go_at_call 32; refine (HCS.out _ (‹(_ ∧ _ ∧ _ ∧ _ ∧ _) ∧ Below W.heap.size W _›).2).mono ?_; rintro e wS ⟨vS, rfl, hrS, hbS⟩; have hBS := Below.trans (‹(_ ∧ _ ∧ _ ∧ _ ∧ _) ∧ Below W.heap.size W _›).2 (hbS.mono ((‹(_ ∧ _ ∧ _ ∧ _ ∧ _) ∧ Below W.heap.size W _›).2).size); obtain ⟨aS, kS, hvS, _⟩ := hrS.slice; subst hvS))
  all_goals first
    | (have hbXY : Below wT.heap.size wT wS := hbS;
       have hzX : w.heap.size ≤ W.heap.size := hA.size;
       have hzW : W.heap.size ≤ wT.heap.size := hBT.size;
       have hzY := hbS.size;
       have N9 := (Below.refl wS.heap.size wS).alloc (Nat.le_refl _) (.cells #[.int .i64 c.m, .int .i64 c.pc, .slice aT c.temps.length kT, .slice aS c.stack.length kS, .bool c.dead] 113);
       have r9 := five_new wS 113 (.int .i64 c.m) (.int .i64 c.pc) (.slice aT c.temps.length kT) (.slice aS c.stack.length kS) (.bool c.dead);
       have pX := (hrT.below hbXY).below N9;
       have pY := hrS.below N9;
       have B9 := (hA.trans (hBS.mono hA.size)).trans (N9.mono (Nat.le_trans hzX (Nat.le_trans hzW hzY)));
       have HFIN : Hid (BodyNew w.heap.size (wS.alloc (.cells #[.int .i64 c.m, .int .i64 c.pc, .slice aT c.temps.length kT, .slice aS c.stack.length kS, .bool c.dead] 113)) wS.heap.size (.slice aT c.temps.length kT) (.slice aS c.stack.length kS) c) := ⟨r9, pX.mono (by first | exact hzX | exact Nat.le_trans hzX hzW), pY.mono (by first | exact hzX | exact Nat.le_trans hzX hzW), by omega, fun g e => ⟨by have := (hrT.lt g e).2; omega, fun e2 => by have q1 := hrT.lt g e; have q2 := hrS.lt g e2; omega⟩, fun g e => by have := (hrS.lt g e).2; omega⟩;
       clear HS HCT HCS;
       go_wp2;
       go_ret;
       exact ⟨_, _, _, rfl, HFIN.out, B9⟩)
    | (have hbXY : Below wS.heap.size wS wT := hbT;
       have hzX : w.heap.size ≤ W.heap.size := hA.size;
       have hzW : W.heap.size ≤ wS.heap.size := hBS.size;
       have hzY := hbT.size;
       have N9 := (Below.refl wT.heap.size wT).alloc (Nat.le_refl _) (.cells #[.int .i64 c.m, .int .i64 c.pc, .slice aT c.temps.length kT, .slice aS c.stack.length kS, .bool c.dead] 113);
       have r9 := five_new wT 113 (.int .i64 c.m) (.int .i64 c.pc) (.slice aT c.temps.length kT) (.slice aS c.stack.length kS) (.bool c.dead);
       have pX := (hrS.below hbXY).below N9;
       have pY := hrT.below N9;
       have B9 := (hA.trans (hBT.mono hA.size)).trans (N9.mono (Nat.le_trans hzX (Nat.le_trans hzW hzY)));
       have HFIN : Hid (BodyNew w.heap.size (wT.alloc (.cells #[.int .i64 c.m, .int .i64 c.pc, .slice aT c.temps.length kT, .slice aS c.stack.length kS, .bool c.dead] 113)) wT.heap.size (.slice aT c.temps.length kT) (.slice aS c.stack.length kS) c) := ⟨r9, pY.mono (by first | exact hzX | exact Nat.le_trans hzX hzW), pX.mono (by first | exact hzX | exact Nat.le_trans hzX hzW), by omega, fun g e => ⟨by have := (hrT.lt g e).2; omega, fun e2 => by have q1 := hrT.lt g e; have q2 := hrS.lt g e2; omega⟩, fun g e => by have := (hrS.lt g e).2; omega⟩;
       clear HS HCT HCS;
       go_wp2;
       go_ret;
       exact ⟨_, _, _, rfl, HFIN.out, B9⟩)
end Go.Proofs.YtlpbklgkafjfmaaGreatDoor

/-
  Calls that the program made in memory of their own, ahead of the run: each a block of its own, its body another; the lists of each in rows of their own. No two share a block.
-/
namespace Go.Proofs.YtlpbklgkafjfmaaGreatDoor
open Go.RowKit
def Blk.mine : Blk → Prop
  | .run | .said => False
  | _ => True
structure LH (B : Nat) (w : World) (bl : Nat) (vcs : Value) (C D : Nat → Nat) (T : Nat → Value × Value) (cs : List Cl) (now : Int) : Prop where
  hp : w.rowIs bl 83 2 (two vcs (ptrN C now))
  row : CRow B 1 w vcs cs.length (ptrs C cs.length)
  cl : ∀ i, (hi : i < cs.length) → w.rowIs (C i) 98 3 (trio (.pointer (some ⟨D i, 0, none⟩)) (.int .i64 i) (ptrN C cs[i].sender))
  bd : ∀ i, (hi : i < cs.length) → w.rowIs (D i) 113 5 (five (.int .i64 cs[i].m) (.int .i64 cs[i].pc) (T i).1 (T i).2 (.bool cs[i].dead))
  ts : ∀ i, (hi : i < cs.length) → PairRow B w (T i).1 cs[i].temps ∧ PairRow B w (T i).2 cs[i].stack
  lo : ∀ x : Blk, x.mine → x.ok cs.length → ∀ g, x.at bl 0 vcs (.slice none 0 0) C D T = some g → B ≤ g ∧ g < w.heap.size
  ap : ∀ x y : Blk, x.mine → y.mine → x.ok cs.length → y.ok cs.length → ∀ g, x.at bl 0 vcs (.slice none 0 0) C D T = some g → y.at bl 0 vcs (.slice none 0 0) C D T = some g → x = y
variable {B : Nat} {w w' : World} {bl br : Nat} {vp vcs vsd : Value} {C D : Nat → Nat} {T : Nat → Value × Value} {cs : List Cl} {now : Int}
theorem LH.kept (k : LH B w bl vcs C D T cs now) (hsz : w.heap.size ≤ w'.heap.size) (hb : ∀ x : Blk, x.mine → x.ok cs.length → ∀ g, x.at bl 0 vcs (.slice none 0 0) C D T = some g → w'.heap[g]? = w.heap[g]?) : LH B w' bl vcs C D T cs now :=
  ⟨k.hp.of_block (hb .heap trivial trivial _ rfl), k.row.kept hsz (hb .row trivial trivial), fun i hi => (k.cl i hi).of_block (hb (.call i) trivial hi _ rfl), fun i hi => (k.bd i hi).of_block (hb (.body i) trivial hi _ rfl), fun i hi => ⟨(k.ts i hi).1.kept hsz (hb (.temps i) trivial hi), (k.ts i hi).2.kept hsz (hb (.stack i) trivial hi)⟩, fun x hm hx g hg => ⟨(k.lo x hm hx g hg).1, Nat.lt_of_lt_of_le (k.lo x hm hx g hg).2 hsz⟩, k.ap⟩
theorem LH.below (k : LH B w bl vcs C D T cs now) (hb : Below w.heap.size w w') : LH B w' bl vcs C D T cs now :=
  k.kept hb.size fun x hm hx g hg => hb.block g (k.lo x hm hx g hg).2
theorem LH.other (k : LH B w bl vcs C D T cs now) {x y : Blk} (mx : x.mine) (my : y.mine) (hx : x.ok cs.length) (hy : y.ok cs.length) (hne : x ≠ y) {g g' : Nat} (e : x.at bl 0 vcs (.slice none 0 0) C D T = some g) (e' : y.at bl 0 vcs (.slice none 0 0) C D T = some g') : g ≠ g' := fun q => hne (k.ap x y mx my hx hy g e (by rw [q]; exact e'))
theorem LH.turnNow (k : LH B w bl vcs C D T cs now) (a : Int) (v : Value) (hv : v = ptrN C a) : LH B (w.setCell ⟨bl, 1, none⟩ v) bl vcs C D T cs a := by
  subst hv
  have hz : w.heap.size ≤ (w.setCell ⟨bl, 1, none⟩ (ptrN C a)).heap.size := by simp [World.setCell]
  have hbl : ∀ y : Blk, y.mine → y.ok cs.length → y ≠ .heap → ∀ g, y.at bl 0 vcs (.slice none 0 0) C D T = some g → (w.setCell ⟨bl, 1, none⟩ (ptrN C a)).heap[g]? = w.heap[g]? := fun y my hy hne g hg => Below.heap_setCell _ _ _ _ (fun q => k.other (x := y) (y := .heap) my trivial hy trivial hne hg rfl q)
  exact ⟨(k.hp.set 1 (ptrN C a)).congr fun i hi => by match i, hi with | 0, _ => rfl | 1, _ => rfl, k.row.kept hz (hbl .row trivial trivial (by simp)), fun i hi => (k.cl i hi).of_block (hbl (.call i) trivial hi (by simp) _ rfl), fun i hi => (k.bd i hi).of_block (hbl (.body i) trivial hi (by simp) _ rfl), fun i hi => ⟨(k.ts i hi).1.kept hz (hbl (.temps i) trivial hi (by simp)), (k.ts i hi).2.kept hz (hbl (.stack i) trivial hi (by simp))⟩, fun y my hy g hg => ⟨(k.lo y my hy g hg).1, Nat.lt_of_lt_of_le (k.lo y my hy g hg).2 hz⟩, k.ap⟩
theorem LH.snd (k : LH B w bl vcs C D T cs now) {j : Nat} (hj : j < cs.length) (a : Int) (v : Value) (hv : v = ptrN C a) : LH B (w.setCell ⟨C j, 2, none⟩ v) bl vcs C D T (cs.set j { cs[j] with sender := a }) now := by
  subst hv
  have hl : (cs.set j { cs[j] with sender := a }).length = cs.length := List.length_set
  have hz : w.heap.size ≤ (w.setCell ⟨C j, 2, none⟩ (ptrN C a)).heap.size := by simp [World.setCell]
  have hbl : ∀ y : Blk, y.mine → y.ok cs.length → y ≠ .call j → ∀ g, y.at bl 0 vcs (.slice none 0 0) C D T = some g → (w.setCell ⟨C j, 2, none⟩ (ptrN C a)).heap[g]? = w.heap[g]? := fun y my hy hne g hg => Below.heap_setCell _ _ _ _ (fun q => k.other (x := y) (y := .call j) my trivial hy hj hne hg rfl q)
  have hgt : ∀ i, (hi : i < cs.length) → ((cs.set j { cs[j] with sender := a })[i]'(by rw [hl]; exact hi)).m = cs[i].m ∧ ((cs.set j { cs[j] with sender := a })[i]'(by rw [hl]; exact hi)).pc = cs[i].pc ∧ ((cs.set j { cs[j] with sender := a })[i]'(by rw [hl]; exact hi)).temps = cs[i].temps ∧ ((cs.set j { cs[j] with sender := a })[i]'(by rw [hl]; exact hi)).stack = cs[i].stack ∧ ((cs.set j { cs[j] with sender := a })[i]'(by rw [hl]; exact hi)).dead = cs[i].dead := fun i hi => by
    by_cases e : j = i
    · subst e; simp
    · simp [List.getElem_set_ne e]
  refine ⟨k.hp.of_block (hbl .heap trivial trivial (by simp) _ rfl), ?_, fun i hi => ?_, fun i hi => ?_, fun i hi => ?_, ?_, ?_⟩
  · rw [hl]; exact k.row.kept hz (hbl .row trivial trivial (by simp))
  · rw [hl] at hi
    by_cases e : j = i
    · subst e; simp only [List.getElem_set_self]; exact trio_set2 (k.cl j hi) (ptrN C a)
    · simp only [List.getElem_set_ne e]
      exact (k.cl i hi).of_block (hbl (.call i) trivial hi (fun q => e (by injection q with q; exact q.symm)) _ rfl)
  · rw [hl] at hi
    obtain ⟨g1, g2, g3, g4, g5⟩ := hgt i hi
    rw [g1, g2, g5]
    exact (k.bd i hi).of_block (hbl (.body i) trivial hi (by simp) _ rfl)
  · rw [hl] at hi
    obtain ⟨g1, g2, g3, g4, g5⟩ := hgt i hi
    rw [g3, g4]
    exact ⟨(k.ts i hi).1.kept hz (hbl (.temps i) trivial hi (by simp)), (k.ts i hi).2.kept hz (hbl (.stack i) trivial hi (by simp))⟩
  · rw [hl]; exact fun y my hy g hg => ⟨(k.lo y my hy g hg).1, Nat.lt_of_lt_of_le (k.lo y my hy g hg).2 hz⟩
  · rw [hl]; exact k.ap
theorem LH.push (k : LH B w bl vcs C D T cs (-1)) {c d : Nat} {vt vs vcs' : Value} {cl : Cl} (hsn : cl.sender = -1) (hsd : ∀ i, (hi : i < cs.length) → cs[i].sender = -1)
    (hB : B ≤ w.heap.size) (hc : w.heap.size ≤ c) (hd : w.heap.size ≤ d) (hcd : c ≠ d) (hsz : w.heap.size ≤ w'.heap.size) (hbl : ∀ g, g < w.heap.size → g ≠ bl → vcs.ownBlock ≠ some g → w'.heap[g]? = w.heap[g]?)
    (hhp : w'.rowIs bl 83 2 (two vcs' (.pointer none))) (hrow : CRow B 1 w' vcs' (cs.length + 1) (ptrs C cs.length ++ [.pointer (some ⟨c, 0, none⟩)]))
    (hcl : w'.rowIs c 98 3 (trio (.pointer (some ⟨d, 0, none⟩)) (.int .i64 cs.length) (.pointer none)))
    (hbd : w'.rowIs d 113 5 (five (.int .i64 cl.m) (.int .i64 cl.pc) vt vs (.bool cl.dead))) (ht : PairRow B w' vt cl.temps) (hs : PairRow B w' vs cl.stack)
    (nv : ∀ q, vcs'.ownBlock = some q → vcs.ownBlock = some q ∨ (w.heap.size ≤ q ∧ q ≠ c ∧ q ≠ d)) (nt : ∀ q, vt.ownBlock = some q → w.heap.size ≤ q ∧ q ≠ c ∧ q ≠ d ∧ vcs'.ownBlock ≠ some q ∧ vs.ownBlock ≠ some q) (ns : ∀ q, vs.ownBlock = some q → w.heap.size ≤ q ∧ q ≠ c ∧ q ≠ d ∧ vcs'.ownBlock ≠ some q) :
    LH B w' bl vcs' (updN C cs.length c) (updN D cs.length d) (putV T cs.length (vt, vs)) (cs ++ [cl]) (-1) := by
  have hl : (cs ++ [cl]).length = cs.length + 1 := by simp
  have hold : ∀ y : Blk, y.ok cs.length → y ≠ .row → y.at bl 0 vcs' (.slice none 0 0) (updN C cs.length c) (updN D cs.length d) (putV T cs.length (vt, vs)) = y.at bl 0 vcs (.slice none 0 0) C D T := fun y hy h1 => by
    cases y with
    | row => exact absurd rfl h1
    | call i => simp only [Blk.at]; rw [updN_other _ (by have : i < cs.length := hy; omega)]
    | body i => simp only [Blk.at]; rw [updN_other _ (by have : i < cs.length := hy; omega)]
    | temps i => simp only [Blk.at]; rw [putV_other _ _ (by have : i < cs.length := hy; omega)]
    | stack i => simp only [Blk.at]; rw [putV_other _ _ (by have : i < cs.length := hy; omega)]
    | _ => rfl
  have hnok : ∀ y : Blk, y.ok (cs.length + 1) → ¬ y.ok cs.length → y = .call cs.length ∨ y = .body cs.length ∨ y = .temps cs.length ∨ y = .stack cs.length := fun y h1 h2 => by
    cases y with
    | call i => left; have q1 : i < cs.length + 1 := h1; have q2 : ¬ i < cs.length := h2; congr 1; omega
    | body i => right; left; have q1 : i < cs.length + 1 := h1; have q2 : ¬ i < cs.length := h2; congr 1; omega
    | temps i => right; right; left; have q1 : i < cs.length + 1 := h1; have q2 : ¬ i < cs.length := h2; congr 1; omega
    | stack i => right; right; right; have q1 : i < cs.length + 1 := h1; have q2 : ¬ i < cs.length := h2; congr 1; omega
    | _ => exact absurd trivial h2
  have aC : (Blk.call cs.length).at bl 0 vcs' (.slice none 0 0) (updN C cs.length c) (updN D cs.length d) (putV T cs.length (vt, vs)) = some c := by simp only [Blk.at, updN_same]
  have aD : (Blk.body cs.length).at bl 0 vcs' (.slice none 0 0) (updN C cs.length c) (updN D cs.length d) (putV T cs.length (vt, vs)) = some d := by simp only [Blk.at, updN_same]
  have aT : (Blk.temps cs.length).at bl 0 vcs' (.slice none 0 0) (updN C cs.length c) (updN D cs.length d) (putV T cs.length (vt, vs)) = vt.ownBlock := by simp only [Blk.at, putV_same]
  have aS : (Blk.stack cs.length).at bl 0 vcs' (.slice none 0 0) (updN C cs.length c) (updN D cs.length d) (putV T cs.length (vt, vs)) = vs.ownBlock := by simp only [Blk.at, putV_same]
  have hkeep : ∀ y : Blk, y.mine → y.ok cs.length → y ≠ .row → y ≠ .heap → ∀ g, y.at bl 0 vcs (.slice none 0 0) C D T = some g → w'.heap[g]? = w.heap[g]? := fun y my hy h1 h2 g hg =>
    hbl g (k.lo y my hy g hg).2 (fun e => h2 (k.ap y .heap my trivial hy trivial g hg (by rw [e]; rfl))) (fun e => h1 (k.ap y .row my trivial hy trivial g hg e))
  have hrw : ∀ y : Blk, y.mine → y.ok cs.length → y ≠ .row → ∀ g, y.at bl 0 vcs (.slice none 0 0) C D T = some g → vcs'.ownBlock ≠ some g := fun y my hy h1 g hg e => by
    rcases nv g e with x | x
    · exact h1 (k.ap y .row my trivial hy trivial g hg x)
    · have := (k.lo y my hy g hg).2; omega
  have hlow : ∀ y : Blk, y.mine → y.ok cs.length → y ≠ .row → ∀ g, y.at bl 0 vcs (.slice none 0 0) C D T = some g → g ≠ c ∧ g ≠ d ∧ vt.ownBlock ≠ some g ∧ vs.ownBlock ≠ some g := fun y my hy h1 g hg => by
    have h2 := (k.lo y my hy g hg).2
    exact ⟨by omega, by omega, fun e => by have := (nt g e).1; omega, fun e => by have := (ns g e).1; omega⟩
  have hrn : vcs'.ownBlock ≠ some c ∧ vcs'.ownBlock ≠ some d := by
    refine ⟨fun e => ?_, fun e => ?_⟩
    · rcases nv c e with x | x
      · have := (k.lo .row trivial trivial c x).2; omega
      · exact x.2.1 rfl
    · rcases nv d e with x | x
      · have := (k.lo .row trivial trivial d x).2; omega
      · exact x.2.2 rfl
  have hap1 : ∀ x y : Blk, x.mine → y.mine → x.ok cs.length → y.ok (cs.length + 1) → ¬ y.ok cs.length → ∀ g, x.at bl 0 vcs' (.slice none 0 0) (updN C cs.length c) (updN D cs.length d) (putV T cs.length (vt, vs)) = some g → y.at bl 0 vcs' (.slice none 0 0) (updN C cs.length c) (updN D cs.length d) (putV T cs.length (vt, vs)) = some g → False := fun x y mx my hx hy hny g hgx hgy => by
    have hx3 : g ≠ c ∧ g ≠ d ∧ vt.ownBlock ≠ some g ∧ vs.ownBlock ≠ some g := by
      by_cases x1 : x = .row
      · subst x1
        have e : vcs'.ownBlock = some g := hgx
        exact ⟨fun q => hrn.1 (by rw [← q]; exact e), fun q => hrn.2 (by rw [← q]; exact e), fun q => (nt g q).2.2.2.1 e, fun q => (ns g q).2.2.2 e⟩
      · rw [hold x hx x1] at hgx
        exact hlow x mx hx x1 g hgx
    rcases hnok y hy hny with rfl | rfl | rfl | rfl
    · rw [aC] at hgy; injection hgy with q; exact hx3.1 q.symm
    · rw [aD] at hgy; injection hgy with q; exact hx3.2.1 q.symm
    · rw [aT] at hgy; exact hx3.2.2.1 hgy
    · rw [aS] at hgy; exact hx3.2.2.2 hgy
  have hap : ∀ x y : Blk, x.mine → y.mine → x.ok (cs.length + 1) → y.ok (cs.length + 1) → ∀ g, x.at bl 0 vcs' (.slice none 0 0) (updN C cs.length c) (updN D cs.length d) (putV T cs.length (vt, vs)) = some g → y.at bl 0 vcs' (.slice none 0 0) (updN C cs.length c) (updN D cs.length d) (putV T cs.length (vt, vs)) = some g → x = y := fun x y mx my hx hy g hgx hgy => by
    by_cases x1 : x.ok cs.length
    · by_cases y1 : y.ok cs.length
      · by_cases x2 : x = .row
        · subst x2
          by_cases y2 : y = .row
          · exact y2.symm
          · rw [hold y y1 y2] at hgy; exact absurd hgx (hrw y my y1 y2 g hgy)
        · rw [hold x x1 x2] at hgx
          by_cases y2 : y = .row
          · subst y2; exact absurd hgy (hrw x mx x1 x2 g hgx)
          · rw [hold y y1 y2] at hgy; exact k.ap x y mx my x1 y1 g hgx hgy
      · exact (hap1 x y mx my x1 hy y1 g hgx hgy).elim
    · by_cases y1 : y.ok cs.length
      · exact (hap1 y x my mx y1 hx x1 g hgy hgx).elim
      · rcases hnok x hx x1 with rfl | rfl | rfl | rfl <;> rcases hnok y hy y1 with rfl | rfl | rfl | rfl
        · rfl
        · rw [aC] at hgx; rw [aD] at hgy; injection hgx with q; injection hgy with q'; omega
        · rw [aC] at hgx; rw [aT] at hgy; injection hgx with q; exact absurd q.symm (nt g hgy).2.1
        · rw [aC] at hgx; rw [aS] at hgy; injection hgx with q; exact absurd q.symm (ns g hgy).2.1
        · rw [aD] at hgx; rw [aC] at hgy; injection hgx with q; injection hgy with q'; omega
        · rfl
        · rw [aD] at hgx; rw [aT] at hgy; injection hgx with q; exact absurd q.symm (nt g hgy).2.2.1
        · rw [aD] at hgx; rw [aS] at hgy; injection hgx with q; exact absurd q.symm (ns g hgy).2.2.1
        · rw [aC] at hgy; rw [aT] at hgx; injection hgy with q; exact absurd q.symm (nt g hgx).2.1
        · rw [aD] at hgy; rw [aT] at hgx; injection hgy with q; exact absurd q.symm (nt g hgx).2.2.1
        · rfl
        · rw [aT] at hgx; rw [aS] at hgy; exact absurd hgy (nt g hgx).2.2.2.2
        · rw [aC] at hgy; rw [aS] at hgx; injection hgy with q; exact absurd q.symm (ns g hgx).2.1
        · rw [aD] at hgy; rw [aS] at hgx; injection hgy with q; exact absurd q.symm (ns g hgx).2.2.1
        · rw [aT] at hgy; rw [aS] at hgx; exact absurd hgx (nt g hgy).2.2.2.2
        · rfl
  have hm1 : ∀ (C' : Nat → Nat), ptrN C' (-1) = .pointer none := fun C' => ptrN_neg (by decide)
  refine ⟨?_, ?_, fun i hi => ?_, fun i hi => ?_, fun i hi => ?_, ?_, ?_⟩
  · rw [hm1]; exact hhp
  · rw [hl, ptrs_snoc]; exact hrow
  · rw [hl] at hi
    by_cases e : i < cs.length
    · simp only [List.getElem_append_left e]
      rw [updN_other _ (by omega), updN_other _ (by omega), hsd i e, hm1]
      have := (k.cl i e).of_block (hkeep (.call i) trivial e (by simp) (by simp) _ rfl)
      rw [hsd i e, hm1] at this
      exact this
    · have e2 : i = cs.length := by omega
      subst e2
      have e3 : (cs ++ [cl])[cs.length]'(by rw [hl]; omega) = cl := by rw [List.getElem_append_right (by omega)]; simp
      simp only [e3]
      rw [updN_same, updN_same, hsn, hm1]
      exact hcl
  · rw [hl] at hi
    by_cases e : i < cs.length
    · simp only [List.getElem_append_left e]
      rw [updN_other _ (by omega), putV_other _ _ (by omega)]
      exact (k.bd i e).of_block (hkeep (.body i) trivial e (by simp) (by simp) _ rfl)
    · have e2 : i = cs.length := by omega
      subst e2
      have e3 : (cs ++ [cl])[cs.length]'(by rw [hl]; omega) = cl := by rw [List.getElem_append_right (by omega)]; simp
      simp only [e3]
      rw [updN_same, putV_same]
      exact hbd
  · rw [hl] at hi
    by_cases e : i < cs.length
    · simp only [List.getElem_append_left e]
      rw [putV_other _ _ (by omega)]
      exact ⟨(k.ts i e).1.kept hsz (hkeep (.temps i) trivial e (by simp) (by simp)), (k.ts i e).2.kept hsz (hkeep (.stack i) trivial e (by simp) (by simp))⟩
    · have e2 : i = cs.length := by omega
      subst e2
      have e3 : (cs ++ [cl])[cs.length]'(by rw [hl]; omega) = cl := by rw [List.getElem_append_right (by omega)]; simp
      simp only [e3]
      rw [putV_same]
      exact ⟨ht, hs⟩
  · rw [hl]
    intro x mx hx g hg
    by_cases x1 : x.ok cs.length
    · by_cases x2 : x = .row
      · subst x2
        exact hrow.lt g hg
      · rw [hold x x1 x2] at hg
        have := k.lo x mx x1 g hg
        omega
    · rcases hnok x hx x1 with rfl | rfl | rfl | rfl
      · rw [aC] at hg; injection hg with q; subst q; exact ⟨by omega, hcl.lt⟩
      · rw [aD] at hg; injection hg with q; subst q; exact ⟨by omega, hbd.lt⟩
      · rw [aT] at hg; exact ht.lt g hg
      · rw [aS] at hg; exact hs.lt g hg
  · rw [hl]; exact hap
theorem LH.start {bl : Nat} (hb : w.rowIs bl 83 2 (two (.slice none 0 0) (.pointer none))) (hB : B ≤ bl) (C D : Nat → Nat) (T : Nat → Value × Value) : LH B w bl (.slice none 0 0) C D T [] (-1) := by
  refine ⟨by rw [ptrN_neg (by decide)]; exact hb, ⟨by simp [ptrs], .inl ⟨rfl, rfl⟩⟩, fun i hi => absurd hi (Nat.not_lt_zero _), fun i hi => absurd hi (Nat.not_lt_zero _), fun i hi => absurd hi (Nat.not_lt_zero _), fun x mx hx g hg => ?_, fun x y mx my hx hy g hgx hgy => ?_⟩
  · cases x with
    | heap => injection hg with e; subst e; exact ⟨hB, hb.lt⟩
    | run => exact mx.elim
    | said => exact mx.elim
    | row => simp [Blk.at, Value.ownBlock] at hg
    | call i => exact absurd hx (Nat.not_lt_zero _)
    | body i => exact absurd hx (Nat.not_lt_zero _)
    | temps i => exact absurd hx (Nat.not_lt_zero _)
    | stack i => exact absurd hx (Nat.not_lt_zero _)
  · have hh : ∀ z : Blk, z.mine → z.ok ([] : List Cl).length → z.at bl 0 (.slice none 0 0) (.slice none 0 0) C D T = some g → z = .heap := fun z mz hz hg => by
      cases z with
      | heap => rfl
      | run => exact mz.elim
      | said => exact mz.elim
      | row => simp [Blk.at, Value.ownBlock] at hg
      | call i => exact absurd hz (Nat.not_lt_zero _)
      | body i => exact absurd hz (Nat.not_lt_zero _)
      | temps i => exact absurd hz (Nat.not_lt_zero _)
      | stack i => exact absurd hz (Nat.not_lt_zero _)
    rw [hh x mx hx hgx, hh y my hy hgy]
theorem LH.run {h : Hp} (k : LH B w bl vcs C D T h.calls h.now) (rn : w'.rowIs br 76 5 (five vp (.iface 70 (.pointer (some ⟨bl, 0, none⟩))) (.int .i64 h.born) vsd (.int .i64 h.code))) (hb : Below w.heap.size w w') (hbr : w.heap.size ≤ br) (hB : B ≤ w.heap.size) (sd : PairRow w.heap.size w' vsd h.said) (hne : vsd.ownBlock ≠ some br) : LV B w' bl br vp vcs vsd C D T h := by
  have k' := k.below hb
  have hmine : ∀ x : Blk, x.mine → x.at bl br vcs vsd C D T = x.at bl 0 vcs (.slice none 0 0) C D T := fun x mx => by
    cases x with
    | run => exact mx.elim
    | said => exact mx.elim
    | _ => rfl
  have hlow : ∀ x : Blk, x.mine → x.ok h.calls.length → ∀ g, x.at bl br vcs vsd C D T = some g → B ≤ g ∧ g < w.heap.size := fun x mx hx g hg => by
    rw [hmine x mx] at hg
    exact k.lo x mx hx g hg
  have hz := hb.size
  refine ⟨k'.hp, rn, k'.row, k'.cl, k'.bd, k'.ts, sd.mono hB, fun x hx g hg => ?_, fun x y hx hy g hgx hgy => ?_⟩
  · cases x with
    | run => injection hg with e; subst e; exact ⟨by omega, rn.lt⟩
    | said => have := sd.lt g hg; exact ⟨by omega, this.2⟩
    | heap => have := hlow .heap trivial hx g hg; omega
    | row => have := hlow .row trivial hx g hg; omega
    | call i => have := hlow (.call i) trivial hx g hg; omega
    | body i => have := hlow (.body i) trivial hx g hg; omega
    | temps i => have := hlow (.temps i) trivial hx g hg; omega
    | stack i => have := hlow (.stack i) trivial hx g hg; omega
  · have hcase : ∀ z : Blk, z.mine ∨ z = .run ∨ z = .said := fun z => by cases z <;> first | exact .inl trivial | exact .inr (.inl rfl) | exact .inr (.inr rfl)
    have hr : ∀ z : Blk, z.mine → z.ok h.calls.length → z.at bl br vcs vsd C D T = some g → br ≠ g ∧ vsd.ownBlock ≠ some g := fun z mz hz' hg => by
      have h1 := hlow z mz hz' g hg
      exact ⟨by omega, fun e => by have := sd.lt g e; omega⟩
    rcases hcase x with mx | rfl | rfl
    · rcases hcase y with my | rfl | rfl
      · rw [hmine x mx] at hgx
        rw [hmine y my] at hgy
        exact k.ap x y mx my hx hy g hgx hgy
      · injection hgy with e; exact absurd e (hr x mx hx hgx).1
      · exact absurd hgy (hr x mx hx hgx).2
    · rcases hcase y with my | rfl | rfl
      · injection hgx with e; exact absurd e (hr y my hy hgy).1
      · rfl
      · injection hgx with e; subst e; exact absurd hgy hne
    · rcases hcase y with my | rfl | rfl
      · exact absurd hgx (hr y my hy hgy).2
      · injection hgy with e; subst e; exact absurd hgx hne
      · rfl
end Go.Proofs.YtlpbklgkafjfmaaGreatDoor

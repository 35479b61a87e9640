/-
  HeapNew of the program: the first call of a program that is ok, in memory of its own; else nothing.
-/
import Derived.Test.YtmifhlkcceafkaaGreatImplOk3
import Derived.Test.YtmifhlkcceafkaaGreatCallRow
import Derived.Test.YtmifhlkcceafkaaGreatVImpl2
import Derived.Lib.SliceRun
import Derived.Deep.QuietTactic
import Derived.Deep.RegionHeld3
import Derived.Test.YtmifhlkcceafkaaGreatMLive
import Derived.Test.YtmifhlkcceafkaaGreatSize
import Derived.Test.YtmifhlkcceafkaaGreatHImpl4

namespace Go.Proofs.YtmifhlkcceafkaaGreat
open Go.RowKit
def temps0 (ms : List (Int × Int × List (Int × Int))) : Nat := (ms.getD 0 (0, 0, [])).2.1.toNat
theorem first_ok {ms : List (Int × Int × List (Int × Int))} (h : progOk ms = true) : ∃ hl : 0 < ms.length, 0 ≤ ms[0].2.1 ∧ ms[0].2.1 ≤ 4 ∧ (temps0 ms : Int) = ms[0].2.1 ∧ temps0 ms ≤ 4 := by
  unfold progOk at h
  simp only [Bool.and_eq_true] at h
  have hl := inR_true.1 h.1.1
  have h0 : 0 < ms.length := by omega
  have ha := List.all_eq_true.1 h.2 _ (List.getElem_mem h0)
  unfold methOk at ha
  simp only [Bool.and_eq_true] at ha
  have a1 := inR_true.1 ha.1.1.1
  have a2 := inR_true.1 ha.1.1.2
  have e : temps0 ms = (ms[0].2.1).toNat := by simp [temps0, h0]
  exact ⟨h0, by omega, by omega, by rw [e]; omega, by rw [e]; omega⟩
theorem OwnHeap.none (B : Nat) (w : World) : OwnHeap B w (.slice none 0 0) (.slice none 0 0) ⟨[], 0, 0, [], 0⟩ (fun _ => (.slice none 0 0, .slice none 0 0)) :=
  ⟨⟨.inl ⟨rfl, rfl⟩, fun i hi => absurd hi (Nat.not_lt_zero _), fun q hq => by simp at hq⟩, PairRow.nil _ _, fun g e => by simp [Value.ownBlock] at e⟩
end Go.Proofs.YtmifhlkcceafkaaGreat

/-
  What is seen of a heap, by the program: slices.Clone of values, renumberedVals, renumbered.
-/
namespace Go.Proofs.YtmifhlkcceafkaaGreat
open Go.RowKit
set_option maxRecDepth 100000 in
set_option maxHeartbeats 1000000 in
theorem clone_any (v : Value) (xs : List (Int × Int)) (w : World) (h : OpsAt w v xs) (hl : xs.length ≤ 1000) :
    Calls Tryz.prog 34 #[v] w fun e w' => ∃ v', e = .returned v' ∧ PairRow w.heap.size w' v' xs ∧ Below w.heap.size w w' := by
  obtain ⟨a, c, rfl, hlm, hc⟩ := id h
  have hnil : ∀ (W : World) (a : Option Addr) (n c : Nat), (binOp .eql 34 (.slice a n c) (.slice none 0 0)).run Tryz.prog W = .ok (.bool a.isNone) W := fun W a n c => Lib.run_eql_slice_nil W _ _ a n c 0 0 Tryz.underlying34
  cases a with
  | none =>
    have hx : xs = [] := by
      cases xs with
      | nil => rfl
      | cons y t => obtain ⟨b, o, e, _⟩ := hc 0 (by simp); cases e
    subst hx
    go_enter Tryz.func34, Tryz.ntmps34
    go_wp2
    go_ret
    exact ⟨_, rfl, PairRow.nil _ _, Below.refl _ _⟩
  | some ad =>
    have N1 := (Below.refl w.heap.size w).alloc (Nat.le_refl _) (.cells #[] 82)
    have mk := PairRow.made (B := w.heap.size) (w := w) (e := 82) (Nat.le_refl _)
    have h1 := h.below N1
    go_enter Tryz.func34, Tryz.ntmps34
    go_wp2_with (at_builtin; refine append_vals _ (by rfl) _ _ (by rfl) w.heap.size _ _ [] xs (by rfl) (by rfl) mk h1 (by simp; omega) N1.size ?_; intro v2 w2 hrow2 hg2 hb2; rw [List.nil_append] at hrow2)
    have B2 := N1.grown hg2 N1.size (fun q e => (mk.lt q e).1)
    clear hg2 hb2
    go_ret
    exact ⟨_, rfl, hrow2, B2⟩
theorem PairRow.set1 {B : Nat} {w : World} {g off n cap : Nat} {xs : List (Int × Int)} (h : PairRow B w (.slice (some ⟨g, off, none⟩) n cap) xs) (i : Nat) (hi : i < xs.length) (y : Int) :
    PairRow B (w.setCell ⟨g, off + i * 2 + 1, none⟩ (.int .i64 y)) (.slice (some ⟨g, off, none⟩) n cap) (xs.set i (xs[i].1, y)) := by
  obtain ⟨⟨hc, hd⟩, _⟩ := h.cell hi
  rcases h with ⟨h, _⟩ | ⟨g', off', cap', hv, hB, hg, hl, hm, hsp, hx⟩
  · cases h
  · cases hv
    refine .inr ⟨g, off, cap, by simp, hB, by simp [World.setCell]; exact hg, by simpa using hl, hm, fun j hj => ?_, fun j hj => ?_⟩
    · rw [World.frozen?_setCell]
      refine ⟨?_, (hsp j hj).2⟩
      by_cases e : j = i * 2 + 1
      · subst e; rw [show off + (i * 2 + 1) = off + i * 2 + 1 by omega, World.cell?_setCell_same _ _ _ hd]; rfl
      · rw [World.cell?_setCell_other _ _ _ _ (fun q => by have := congrArg Addr.off q; simp at this; omega)]; exact (hsp j hj).1
    · rw [List.length_set] at hj
      by_cases e : j = i
      · subst e
        rw [List.getElem_set_self]
        refine ⟨?_, World.cell?_setCell_same _ _ _ hd⟩
        rw [World.cell?_setCell_other _ _ _ _ (fun q => by have := congrArg Addr.off q; simp at this)]; exact hc
      · rw [List.getElem_set_ne (Ne.symm e), World.cell?_setCell_other _ _ _ _ (fun q => by have := congrArg Addr.off q; simp at this; omega), World.cell?_setCell_other _ _ _ _ (fun q => by have := congrArg Addr.off q; simp at this; omega)]
        exact hx j hj
end Go.Proofs.YtmifhlkcceafkaaGreat

/-
  What is seen of a heap, by the program: renumbered.
-/
namespace Go.Proofs.YtmifhlkcceafkaaGreat
open Go.RowKit
end Go.Proofs.YtmifhlkcceafkaaGreat

/-
  What is seen of a heap, by the model: l11Found answers the calls that can be come to.
-/
namespace Go.Proofs.YtmifhlkcceafkaaGreat
open Go.RowKit
def Hp.short (h : Hp) : Prop := h.calls.length ≤ 1000 ∧ ∀ i, (hi : i < h.calls.length) → h.calls[i].temps.length ≤ 1000 ∧ h.calls[i].stack.length ≤ 1000
end Go.Proofs.YtmifhlkcceafkaaGreat

/-
  What is seen of a heap, by the model: HeapView.
-/
namespace Go.Proofs.YtmifhlkcceafkaaGreat
open Go.RowKit
end Go.Proofs.YtmifhlkcceafkaaGreat

/-
  A call's body, made by the program in memory of its own.
-/
namespace Go.Proofs.YtmifhlkcceafkaaGreat
open Go.RowKit
def LvBody (B : Nat) (w : World) (d : Nat) (vt vs : Value) (c : Cl) : Prop :=
  w.rowIs d 152 5 (five (.int .i64 c.m) (.int .i64 c.pc) vt vs (.bool c.dead)) ∧ PairRow B w vt c.temps ∧ PairRow B w vs c.stack ∧ B ≤ d ∧
  (∀ g, vt.ownBlock = some g → g ≠ d ∧ vs.ownBlock ≠ some g) ∧ (∀ g, vs.ownBlock = some g → g ≠ d)
set_option maxRecDepth 100000 in
set_option maxHeartbeats 4000000 in
theorem lvBodyOf_any (c : Cl) (vt vs : Value) (w : World) (ht : OpsAt w vt c.temps) (hs : OpsAt w vs c.stack) (hl : c.temps.length ≤ 1000 ∧ c.stack.length ≤ 1000) :
    Calls Tryz.prog 72 #[.agg #[.int .i64 c.m, .int .i64 c.pc, vt, vs, .int .i64 c.sender, .bool c.dead]] w fun e w' => ∃ (d : Nat) (vt' vs' : Value), e = .returned (.pointer (some ⟨d, 0, none⟩)) ∧ LvBody w.heap.size w' d vt' vs' c ∧ Below w.heap.size w w' := by
  obtain ⟨at_, ct, hvt⟩ := ht.shape
  obtain ⟨as_, cs, hvs⟩ := hs.shape
  subst hvt hvs
  have hA : Below w.heap.size w (w.alloc (.cells #[.int .i64 c.m, .int .i64 c.pc, .slice at_ c.temps.length ct, .slice as_ c.stack.length cs, .int .i64 c.sender, .bool c.dead] 63)) := (Below.refl _ _).alloc (Nat.le_refl _) _
  have r1 := six_new w 63 (.int .i64 c.m) (.int .i64 c.pc) (.slice at_ c.temps.length ct) (.slice as_ c.stack.length cs) (.int .i64 c.sender) (.bool c.dead)
  have HT : Hid (OpsAt w (.slice at_ c.temps.length ct) c.temps ∧ OpsAt w (.slice as_ c.stack.length cs) c.stack) := ⟨ht, hs⟩
  have hzA : w.heap.size < (w.alloc (.cells #[.int .i64 c.m, .int .i64 c.pc, .slice at_ c.temps.length ct, .slice as_ c.stack.length cs, .int .i64 c.sender, .bool c.dead] 63)).heap.size := by simp
  clear ht hs
  go_enter Tryz.func72, Tryz.ntmps72
  go_upto_region 1 with fail
  generalize w.alloc (.cells #[.int .i64 c.m, .int .i64 c.pc, .slice at_ c.temps.length ct, .slice as_ c.stack.length cs, .int .i64 c.sender, .bool c.dead] 63) = W at *
  obtain ⟨⟨x0, x1, x2, x3, x4, x5⟩, _⟩ := six_cells r1
  have HS : ∀ w' : World, Below W.heap.size W w' → ((w'.cell? ⟨w.heap.size, 0, none⟩ = some (.int .i64 c.m) ∧ w'.cell? ⟨w.heap.size, 1, none⟩ = some (.int .i64 c.pc) ∧ w'.cell? ⟨w.heap.size, 2, none⟩ = some (.slice at_ c.temps.length ct) ∧ w'.cell? ⟨w.heap.size, 3, none⟩ = some (.slice as_ c.stack.length cs) ∧ w'.cell? ⟨w.heap.size, 5, none⟩ = some (.bool c.dead)) ∧ Below W.heap.size W w') := fun w' hb => ⟨⟨cell_below hb x0, cell_below hb x1, cell_below hb x2, cell_below hb x3, cell_below hb x5⟩, hb⟩
  have HCT : Hid (∀ W', Below W.heap.size W W' → Calls Tryz.prog 34 #[.slice at_ c.temps.length ct] W' fun e w' => ∃ v', e = .returned v' ∧ PairRow W'.heap.size w' v' c.temps ∧ Below W'.heap.size W' w') := fun W' hb => clone_any _ _ _ (HT.out.1.below (hA.trans (hb.mono hA.size))) hl.1
  have HCS : Hid (∀ W', Below W.heap.size W W' → Calls Tryz.prog 34 #[.slice as_ c.stack.length cs] W' fun e w' => ∃ v', e = .returned v' ∧ PairRow W'.heap.size w' v' c.stack ∧ Below W'.heap.size W' w') := fun W' hb => clone_any _ _ _ (HT.out.2.below (hA.trans (hb.mono hA.size))) hl.2
  clear x0 x1 x2 x3 x4 x5 r1
  go_region_held3 (fun w' => (w'.cell? ⟨w.heap.size, 0, none⟩ = some (.int .i64 c.m) ∧ w'.cell? ⟨w.heap.size, 1, none⟩ = some (.int .i64 c.pc) ∧ w'.cell? ⟨w.heap.size, 2, none⟩ = some (.slice at_ c.temps.length ct) ∧ w'.cell? ⟨w.heap.size, 3, none⟩ = some (.slice as_ c.stack.length cs) ∧ w'.cell? ⟨w.heap.size, 5, none⟩ = some (.bool c.dead)) ∧ Below W.heap.size W w')
    ((refine HS _ ?_; first
      | (with_reducible exact (‹(_ ∧ _ ∧ _ ∧ _ ∧ _) ∧ Below W.heap.size W _›).2)
      | (with_reducible exact (Below.refl _ _).drew)
      | (with_reducible exact hBT)
      | (with_reducible exact hBS)
      | (with_reducible exact hBT.alloc hBT.size _)
      | (with_reducible exact hBS.alloc hBS.size _)))
    (first
      | (go_at_call 34; refine (HCT.out _ (‹(_ ∧ _ ∧ _ ∧ _ ∧ _) ∧ Below W.heap.size W _›).2).mono ?_; rintro e wT ⟨vT, rfl, hrT, hbT⟩; have hBT := Below.trans (‹(_ ∧ _ ∧ _ ∧ _ ∧ _) ∧ Below W.heap.size W _›).2 (hbT.mono ((‹(_ ∧ _ ∧ _ ∧ _ ∧ _) ∧ Below W.heap.size W _›).2).size); obtain ⟨aT, kT, hvT, _⟩ := hrT.slice; subst hvT)
      | (go_at_call 34; refine (HCS.out _ (‹(_ ∧ _ ∧ _ ∧ _ ∧ _) ∧ Below W.heap.size W _›).2).mono ?_; rintro e wS ⟨vS, rfl, hrS, hbS⟩; have hBS := Below.trans (‹(_ ∧ _ ∧ _ ∧ _ ∧ _) ∧ Below W.heap.size W _›).2 (hbS.mono ((‹(_ ∧ _ ∧ _ ∧ _ ∧ _) ∧ Below W.heap.size W _›).2).size); obtain ⟨aS, kS, hvS, _⟩ := hrS.slice; subst hvS))
  all_goals first
    | (have hbXY : Below wT.heap.size wT wS := hbS;
       have hzX : w.heap.size ≤ W.heap.size := hA.size;
       have hzW : W.heap.size ≤ wT.heap.size := hBT.size;
       have hzY := hbS.size;
       have N9 := (Below.refl wS.heap.size wS).alloc (Nat.le_refl _) (.cells #[.int .i64 c.m, .int .i64 c.pc, .slice aT c.temps.length kT, .slice aS c.stack.length kS, .bool c.dead] 152);
       have r9 := five_new wS 152 (.int .i64 c.m) (.int .i64 c.pc) (.slice aT c.temps.length kT) (.slice aS c.stack.length kS) (.bool c.dead);
       have pX := (hrT.below hbXY).below N9;
       have pY := hrS.below N9;
       have B9 := (hA.trans (hBS.mono hA.size)).trans (N9.mono (Nat.le_trans hzX (Nat.le_trans hzW hzY)));
       have HFIN : Hid (LvBody w.heap.size (wS.alloc (.cells #[.int .i64 c.m, .int .i64 c.pc, .slice aT c.temps.length kT, .slice aS c.stack.length kS, .bool c.dead] 152)) wS.heap.size (.slice aT c.temps.length kT) (.slice aS c.stack.length kS) c) := ⟨r9, pX.mono (by first | exact hzX | exact Nat.le_trans hzX hzW), pY.mono (by first | exact hzX | exact Nat.le_trans hzX hzW), by omega, fun g e => ⟨by have := (hrT.lt g e).2; omega, fun e2 => by have q1 := hrT.lt g e; have q2 := hrS.lt g e2; omega⟩, fun g e => by have := (hrS.lt g e).2; omega⟩;
       clear HS HCT HCS;
       go_wp2;
       go_ret;
       exact ⟨_, _, _, rfl, HFIN.out, B9⟩)
    | (have hbXY : Below wS.heap.size wS wT := hbT;
       have hzX : w.heap.size ≤ W.heap.size := hA.size;
       have hzW : W.heap.size ≤ wS.heap.size := hBS.size;
       have hzY := hbT.size;
       have N9 := (Below.refl wT.heap.size wT).alloc (Nat.le_refl _) (.cells #[.int .i64 c.m, .int .i64 c.pc, .slice aT c.temps.length kT, .slice aS c.stack.length kS, .bool c.dead] 152);
       have r9 := five_new wT 152 (.int .i64 c.m) (.int .i64 c.pc) (.slice aT c.temps.length kT) (.slice aS c.stack.length kS) (.bool c.dead);
       have pX := (hrS.below hbXY).below N9;
       have pY := hrT.below N9;
       have B9 := (hA.trans (hBT.mono hA.size)).trans (N9.mono (Nat.le_trans hzX (Nat.le_trans hzW hzY)));
       have HFIN : Hid (LvBody w.heap.size (wT.alloc (.cells #[.int .i64 c.m, .int .i64 c.pc, .slice aT c.temps.length kT, .slice aS c.stack.length kS, .bool c.dead] 152)) wT.heap.size (.slice aT c.temps.length kT) (.slice aS c.stack.length kS) c) := ⟨r9, pY.mono (by first | exact hzX | exact Nat.le_trans hzX hzW), pX.mono (by first | exact hzX | exact Nat.le_trans hzX hzW), by omega, fun g e => ⟨by have := (hrT.lt g e).2; omega, fun e2 => by have q1 := hrT.lt g e; have q2 := hrS.lt g e2; omega⟩, fun g e => by have := (hrS.lt g e).2; omega⟩;
       clear HS HCT HCS;
       go_wp2;
       go_ret;
       exact ⟨_, _, _, rfl, HFIN.out, B9⟩)
end Go.Proofs.YtmifhlkcceafkaaGreat

/-
  A machine at work: a page more without frames, a twin more that left.
-/
namespace Go.Proofs.YtmifhlkcceafkaaGreat
open Go.RowKit
theorem LvAt.addPage {B : Nat} {P : Lay} {ρ : Nat → Rl} {w W : World} (h : LvAt B ρ w P) (_hB : B ≤ w.heap.size) {v' : Value} (base : Int)
    (hrow : CRow B 2 W v' (P.L.pages.length + 1) (cells2 (pgPairs P.F P.L.pages) ++ [.int .i64 base, .slice none 0 0])) (hg : w.grownBy W P.vp.ownBlock) (hor : v'.ownBlock = P.vp.ownBlock ∨ v'.ownBlock = some w.heap.size) :
    LvAt B (newRole ρ w .pages) (W.setCell ⟨P.bl, 1, none⟩ v') { P with vp := v', F := fun k => if k = P.L.pages.length then .slice none 0 0 else P.F k, L := { P.L with pages := P.L.pages ++ [⟨base, []⟩] } } := by
  have c : Ch (fun r => r = .pages) ρ (newRole ρ w .pages) w W := Ch.grown hg ρ .pages fun g e => (h .pages).2 g e
  have h1 := Lay.it_keep (P := P) (h .live) c (by simp)
  have c2 : Ch (fun r => r = .live) (newRole ρ w .pages) (newRole ρ w .pages) W (W.setCell ⟨P.bl, 1, none⟩ v') := Ch.set W _ _ _ _ h1.2.1
  have c3 : Ch (fun r => r = .live ∨ r = .pages) ρ (newRole ρ w .pages) w (W.setCell ⟨P.bl, 1, none⟩ v') := (c.mono fun _ e => .inr e).trans (c2.mono fun _ e => .inl e)
  have hl : (P.L.pages ++ [(⟨base, []⟩ : LvP)]).length = P.L.pages.length + 1 := by simp
  have hown : ∀ g, v'.ownBlock = some g → newRole ρ w .pages g = .pages := fun g e => by
    rcases hor with e2 | e2
    · rw [e2] at e
      exact (c.role g ((h .pages).1.lt g e).2).trans ((h .pages).2 g e)
    · rw [e2] at e
      injection e with e
      subst e
      exact newRole_new (Nat.le_refl _)
  have hpp : pgPairs (fun k => if k = P.L.pages.length then .slice none 0 0 else P.F k) (P.L.pages ++ [⟨base, []⟩]) = pgPairs P.F P.L.pages ++ [(.int .i64 base, .slice none 0 0)] := by
    unfold pgPairs
    rw [hl, List.range_succ, List.map_append]
    congr 1
    · refine List.map_congr_left fun i hi => ?_
      have hi' : i < P.L.pages.length := by simpa using hi
      have hin : i ≠ P.L.pages.length := by omega
      simp [List.getElem?_append_left hi', hin]
    · simp
  intro r
  cases r with
  | other => trivial
  | live => exact ⟨h1.1.set 1 _, h1.2.1, h1.2.2⟩
  | pages =>
    refine ⟨?_, hown⟩
    show CRow B 2 _ v' (P.L.pages ++ [(⟨base, []⟩ : LvP)]).length _
    rw [hl, hpp, cells2_snoc]
    exact hrow.kept c2.size fun g e => c2.blk g (hrow.lt g e).2 (by rw [hown g e]; simp)
  | frames i =>
    intro hi
    by_cases e : i = P.L.pages.length
    · subst e
      show CRow B 2 _ (if P.L.pages.length = P.L.pages.length then Value.slice none 0 0 else P.F P.L.pages.length) (P.L.pages ++ [(⟨base, []⟩ : LvP)])[P.L.pages.length].frames.length (cells2 (frPairs P.D (P.L.pages ++ [(⟨base, []⟩ : LvP)])[P.L.pages.length].frames)) ∧ ∀ g, (if P.L.pages.length = P.L.pages.length then Value.slice none 0 0 else P.F P.L.pages.length).ownBlock = some g → _
      rw [if_pos rfl, List.getElem_append_right (Nat.le_refl _)]
      simp only [Nat.sub_self, List.getElem_cons_zero]
      exact ⟨CRow.nil _ _ _, fun g e => by cases e⟩
    · have hi2 : i < P.L.pages.length := by
        have : i < (P.L.pages ++ [(⟨base, []⟩ : LvP)]).length := hi
        omega
      have := (Lay.it_keep (P := P) (h (.frames i)) c3 (by simp)) hi2
      show CRow B 2 _ (if i = P.L.pages.length then Value.slice none 0 0 else P.F i) (P.L.pages ++ [(⟨base, []⟩ : LvP)])[i].frames.length (cells2 (frPairs P.D (P.L.pages ++ [(⟨base, []⟩ : LvP)])[i].frames)) ∧ ∀ g, (if i = P.L.pages.length then Value.slice none 0 0 else P.F i).ownBlock = some g → _
      rw [if_neg e, List.getElem_append_left hi2]
      exact this
  | order => exact Lay.it_keep (P := P) (r := .order) (h .order) c3 (by simp)
  | twins => exact Lay.it_keep (P := P) (r := .twins) (h .twins) c3 (by simp)
  | body k => exact Lay.it_keep (P := P) (r := (.body k)) (h (.body k)) c3 (by simp)
  | temps k => exact Lay.it_keep (P := P) (r := (.temps k)) (h (.temps k)) c3 (by simp)
  | stack k => exact Lay.it_keep (P := P) (r := (.stack k)) (h (.stack k)) c3 (by simp)
theorem LvM.wf.addPage {L : LvM} (h : L.wf) (base : Int) : LvM.wf { L with pages := L.pages ++ [⟨base, []⟩] } := ⟨fun i hi k hk => by
  have hi' : i < (L.pages ++ [(⟨base, []⟩ : LvP)]).length := hi
  have hk' : k < (L.pages ++ [(⟨base, []⟩ : LvP)])[i].frames.length := hk
  by_cases e : i < L.pages.length
  · have e2 : (L.pages ++ [(⟨base, []⟩ : LvP)])[i] = L.pages[i] := List.getElem_append_left e
    show (L.pages ++ [(⟨base, []⟩ : LvP)])[i].frames[k].body < _
    simp only [e2] at hk' ⊢
    exact h.fr i e k hk'
  · have hl : (L.pages ++ [(⟨base, []⟩ : LvP)]).length = L.pages.length + 1 := by simp
    obtain rfl : i = L.pages.length := by omega
    rw [List.getElem_append_right (Nat.le_refl _)] at hk'
    simp at hk', h.tw⟩
theorem LvBody.kept {B : Nat} {w w1 : World} {d : Nat} {vt vs : Value} {c : Cl} (h : LvBody B w d vt vs c) (hs : w.heap.size ≤ w1.heap.size) (hr : ∀ r, B ≤ r → r < w.heap.size → w1.heap[r]? = w.heap[r]?) : LvBody B w1 d vt vs c := by
  obtain ⟨r, ht, hs', hd, hn1, hn2⟩ := h
  exact ⟨World.rowIs.of_block r (hr d hd (World.rowIs.lt r)), ht.kept hs fun g e => hr g (ht.lt g e).1 (ht.lt g e).2, hs'.kept hs fun g e => hr g (hs'.lt g e).1 (hs'.lt g e).2, hd, hn1, hn2⟩
theorem LvBody.mono {B B' : Nat} {w : World} {d : Nat} {vt vs : Value} {c : Cl} (h : LvBody B w d vt vs c) (hB : B' ≤ B) : LvBody B' w d vt vs c := by
  obtain ⟨r, ht, hs', hd, hn1, hn2⟩ := h
  exact ⟨r, ht.mono hB, hs'.mono hB, Nat.le_trans hB hd, hn1, hn2⟩
def bdOf (c : Cl) : LvB := ⟨c.m, c.pc, c.temps, c.stack, c.dead⟩
theorem LvAt.addTwin {B : Nat} {P : Lay} {ρ : Nat → Rl} {w w' : World} (h : LvAt B ρ w P) (hwf : P.L.wf) (hB : B ≤ w.heap.size) (hb : Below w.heap.size w w') {d : Nat} {vt vs : Value} {c : Cl} (hx : LvBody w.heap.size w' d vt vs c) (s : Int) {n : Nat} (hn : P.L.twins.length = n) :
    ∃ (W : World) (ρ' : Nat → Rl) (D : Nat → Nat) (T : Nat → Value × Value), (Instr.mapUpdate 120 (.map (some P.bm)) (.int .i64 (n : Int)) (.agg #[.int .i64 (-1), .int .i64 0, .pointer (some ⟨d, 0, none⟩), .int .i64 s])).run Tryz.prog w' = .ok () W ∧
      LvAt B ρ' W { P with D := D, T := T, L := { P.L with twins := P.L.twins ++ [⟨-1, 0, P.L.bodies.length, s⟩], bodies := P.L.bodies ++ [bdOf c] } } ∧ LvM.wf { P.L with twins := P.L.twins ++ [⟨-1, 0, P.L.bodies.length, s⟩], bodies := P.L.bodies ++ [bdOf c] } ∧ w'.grownBy W (some P.bm) := by
  obtain ⟨r, ht, hs, hd, hn1, hn2⟩ := hx
  have hbx : Bx w' d 152 (bdCells (vt, vs) (bdOf c)) := by
    obtain ⟨cc, e1, e2, e3⟩ := r
    refine ⟨cc, e1, e2, fun i hi => ?_⟩
    have hi' : i < 5 := hi
    rw [e3 i hi']
    match i, hi' with
    | 0, _ => rfl
    | 1, _ => rfl
    | 2, _ => rfl
    | 3, _ => rfl
    | 4, _ => rfl
  have h2 := h.addBody hwf hB hb (b := bdOf c) hbx hd ht hs (fun e => (hn1 d e).1 rfl) (fun e => hn2 d e rfl) (fun g e => (hn1 g e).2)
  have hm : TMap w' P.bm (P.L.twins.map (twVal (addB P d vt vs (bdOf c)).D)) := (h2 .twins).1
  have hl : (P.L.twins.map (twVal (addB P d vt vs (bdOf c)).D)).length = P.L.twins.length := List.length_map _
  obtain ⟨W, hrun, hm2, hg⟩ := TMap.push (P := Tryz.prog) (t := 120) (kt := 3) (et := 131) (by kernel_rfl) (by kernel_rfl) hm (twVal (addB P d vt vs (bdOf c)).D ⟨-1, 0, P.L.bodies.length, s⟩)
  have hrun' : (Instr.mapUpdate 120 (.map (some P.bm)) (.int .i64 (n : Int)) (.agg #[.int .i64 (-1), .int .i64 0, .pointer (some ⟨d, 0, none⟩), .int .i64 s])).run Tryz.prog w' = .ok () W := by
    have hd2 : (addB P d vt vs (bdOf c)).D P.L.bodies.length = d := if_pos rfl
    have e : twVal (addB P d vt vs (bdOf c)).D ⟨-1, 0, P.L.bodies.length, s⟩ = .agg #[.int .i64 (-1), .int .i64 0, .pointer (some ⟨d, 0, none⟩), .int .i64 s] := by
      unfold twVal
      rw [hd2]
    rw [hl, hn, e] at hrun
    exact hrun
  refine ⟨W, _, _, _, hrun', h2.setTwins (ts := P.L.twins ++ [⟨-1, 0, P.L.bodies.length, s⟩]) hg ?_, ⟨fun i hi k hk => ?_, fun j hj => ?_⟩, hg⟩
  · rw [List.map_append]
    exact hm2
  · have := hwf.fr i hi k hk
    show _ < (P.L.bodies ++ [bdOf c]).length
    rw [List.length_append]
    exact Nat.lt_of_lt_of_le this (Nat.le_add_right _ _)
  · have hj' : j < (P.L.twins ++ [(⟨-1, 0, P.L.bodies.length, s⟩ : LvT)]).length := hj
    have hl2 : (P.L.twins ++ [(⟨-1, 0, P.L.bodies.length, s⟩ : LvT)]).length = P.L.twins.length + 1 := by simp
    show (P.L.twins ++ [(⟨-1, 0, P.L.bodies.length, s⟩ : LvT)])[j].body < (P.L.bodies ++ [bdOf c]).length
    rw [List.length_append, List.length_singleton]
    by_cases e : j < P.L.twins.length
    · rw [List.getElem_append_left e]
      exact Nat.lt_of_lt_of_le (hwf.tw j e) (Nat.le_add_right _ _)
    · obtain rfl : j = P.L.twins.length := by omega
      rw [List.getElem_append_right (Nat.le_refl _)]
      simp
end Go.Proofs.YtmifhlkcceafkaaGreat

/-
  A piece of the program's MachOk: whether a page is in form. (Written by mkmo5.py.)
-/
namespace Go.Proofs.YtmifhlkcceafkaaGreat
open Go.RowKit
end Go.Proofs.YtmifhlkcceafkaaGreat

/-
  Where a machine's calls have their places as things of their own: ofFrame, ofTwin, ofCaller, ofRunning. (Written by mkmt1.py.)
-/
namespace Go.Proofs.YtmifhlkcceafkaaGreat
open Go.RowKit
structure Pl (w : World) (vp vo vt vs vl : Value) (m : Mc) : Prop where
  mach : MachAt w vp vo vt vs m
  low : IntsAt w vl (lows m.pages)
  fn : framesN m.pages ≤ 1099511627776
  tn : m.twins.length ≤ 1099511627776
end Go.Proofs.YtmifhlkcceafkaaGreat

/-
  Calls that get other numbers, by where things have their places: renumberedVals and renumbered with ofTwin and ofCaller. (Written by mkmt2.py.)
-/
namespace Go.Proofs.YtmifhlkcceafkaaGreat
open Go.RowKit
end Go.Proofs.YtmifhlkcceafkaaGreat

/-
  Calls of a machine as things of their own: renumbered with ofCaller, thingOfTwin. (Written by mkmt3.py.)
-/
namespace Go.Proofs.YtmifhlkcceafkaaGreat
open Go.RowKit
end Go.Proofs.YtmifhlkcceafkaaGreat

/-
  Calls of a machine as things of their own: thingOfFrame. (Written by mkmt4.py.)
-/
namespace Go.Proofs.YtmifhlkcceafkaaGreat
open Go.RowKit
end Go.Proofs.YtmifhlkcceafkaaGreat

/-
  Plain facts of the heap that a program begins with: it is ok, one deep, and seen as it is.
-/
namespace Go.Proofs.YtmifhlkcceafkaaGreat
open Go.RowKit
end Go.Proofs.YtmifhlkcceafkaaGreat

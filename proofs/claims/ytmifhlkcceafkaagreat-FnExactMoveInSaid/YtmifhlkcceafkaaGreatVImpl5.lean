/-
  slices.Repeat of the one number -1, at most 31 times, as the program calls it: a row of its own.
-/
import Derived.Test.YtmifhlkcceafkaaGreatInts
import Derived.Test.YtmifhlkcceafkaaGreatMLive
import Derived.Test.YtmifhlkcceafkaaGreatHImpl3
import Derived.Laws.IdiomCopy
import Derived.Deep.RegionLaw
import Derived.Test.YtmifhlkcceafkaaGreatMThing4
import Derived.Deep.RegionHeld3
import Derived.Test.YtmifhlkcceafkaaGreatCallRow
import Derived.Test.YtmifhlkcceafkaaGreatMOrder
import Derived.Test.YtmifhlkcceafkaaGreatVImpl2

namespace Go.Proofs.YtmifhlkcceafkaaGreat
open Go.RowKit
end Go.Proofs.YtmifhlkcceafkaaGreat

/-
  What is seen of a heap, by the program: orderOf.
-/
namespace Go.Proofs.YtmifhlkcceafkaaGreat
open Go.RowKit
end Go.Proofs.YtmifhlkcceafkaaGreat

/-
  What is seen of a heap, by the program: view, HeapView.
-/
namespace Go.Proofs.YtmifhlkcceafkaaGreat
open Go.RowKit
end Go.Proofs.YtmifhlkcceafkaaGreat

/-
  What is seen of a heap, by the program: HeapView.
-/
namespace Go.Proofs.YtmifhlkcceafkaaGreat
open Go.RowKit
theorem OwnCalls.mono {B B' : Nat} {w : World} {v : Value} {cs : List Cl} {V : Nat → Value × Value} (h : OwnCalls B w v cs V) (hB : B' ≤ B) : OwnCalls B' w v cs V := by
  refine ⟨?_, fun i hi => ⟨(h.lists i hi).1.mono hB, (h.lists i hi).2.mono hB⟩, h.apart⟩
  rcases h.row with h0 | ⟨g, off, cap, hv, hg, r⟩
  · exact .inl h0
  · exact .inr ⟨g, off, cap, hv, by omega, r⟩
end Go.Proofs.YtmifhlkcceafkaaGreat

/-
  A machine at work: a page runs, and is the last one used (runOn).
-/
namespace Go.Proofs.YtmifhlkcceafkaaGreat
open Go.RowKit
def useOrd (xs : List Int) (k : Nat) (i : Int) : List Int := xs.take k ++ xs.drop (k + 1) ++ [i]
set_option maxRecDepth 100000 in
set_option maxHeartbeats 4000000 in
theorem runOn_any {B : Nat} {ρ : Nat → Rl} {w : World} {P : Lay} (h : LvAt B ρ w P) (hB : B ≤ w.heap.size) (i : Int) (k : Nat) (hk : k < P.L.order.length) (he : P.L.order[k] = i) (hno : ∀ j, (hj : j < P.L.order.length) → j < k → P.L.order[j] ≠ i) (hfew : P.L.order.length ≤ 1000) :
    Calls Tryz.prog 32 #[.pointer (some ⟨P.bl, 0, none⟩), .int .i64 i] w fun e w' => e = .returned (.tuple #[]) ∧ ∃ ρ' vo', LvAt B ρ' w' { P with vo := vo', L := { P.L with order := useOrd P.L.order k i, now := i } } ∧ Ch (fun r => r ≠ .other) ρ ρ' w w' ∧ Below B w w' := by
  have HL : Hid (LvAt B ρ w P) := h
  obtain ⟨hor, hog⟩ := h .order
  have hidx : idxI P.L.order i = (k : Int) := idxI_found hk he hno
  obtain ⟨g, off, cap, hvo, hBg, hgl⟩ := hor.form (by omega)
  obtain ⟨m, hm⟩ : ∃ m, P.L.order.length = m + 1 := ⟨P.L.order.length - 1, by omega⟩
  have hbx := (h .live).1
  have hrl := (h .live).2.1
  have hBb := (h .live).2.2
  have hρg : ρ g = .order := hog g (by rw [hvo]; rfl)
  have hne : g ≠ P.bl := fun e => by rw [e, hrl] at hρg; cases hρg
  rw [hvo] at hbx
  obtain ⟨vp, hvp⟩ : ∃ vp, P.vp = vp := ⟨_, rfl⟩
  have hIX := slicesIndex_any P.vo P.L.order i w hor.at
  rw [hidx, hvo, hm] at hIX
  have hor2 : IntRow B w (.slice (some ⟨g, off, none⟩) P.L.order.length cap) P.L.order := by rw [← hvo]; exact hor
  have hDE := slicesDelete_any B g off cap k m P.L.order w hm hor2 (by omega)
  have x2 := hbx.cell 2 rfl
  rw [hm] at x2
  obtain ⟨bl, hbl⟩ : ∃ bl, P.bl = bl := ⟨_, rfl⟩
  rw [hbl] at x2 hbx hne hBb ⊢
  have hblw := hbx.lt
  clear h hor hor2 hidx
  go_enter Tryz.func32, Tryz.ntmps32
  go_wp2_with fail
  refine hIX.mono ?_
  rintro e W ⟨rfl, hw⟩
  obtain rfl := hw.symm
  clear hw hIX
  go_wp2_with fail
  refine hDE.mono ?_
  rintro e w1 ⟨rfl, hr1, hg1⟩
  have hb1 : Bx w1 bl 123 [.int .i64 P.L.cells, P.vp, .slice (some ⟨g, off, none⟩) P.L.order.length cap, .int .i64 P.L.now, .map (some P.bm)] := hbx.grown hg1 fun e => hne (by injection e)
  obtain ⟨YS, hYS⟩ : ∃ YS, P.L.order.take k ++ P.L.order.drop (k + 1) = YS := ⟨_, rfl⟩
  have hyl : YS.length = m := by rw [← hYS]; simp; omega
  rw [hYS] at hr1
  have hyl2 : YS.length ≤ 1000 := by omega
  obtain ⟨i0, hii, hz0, hz1, hz2⟩ := info_parts Tryz.infoIntO
  have hz1w := hg1.size
  have HFIN : Hid (∀ (g2 off2 cp2 : Nat) (w2 : World), IntRow B w2 (.slice (some ⟨g2, off2, none⟩) (YS.length + 1) cp2) (YS ++ [i]) → w1.grownBy w2 (some g) → ((some g : Option Nat) = some g2 ∨ w1.heap.size ≤ g2) →
      ∃ ρ' vo', LvAt B ρ' ((w2.setCell ⟨bl, 2, none⟩ (.slice (some ⟨g2, off2, none⟩) (YS.length + 1) cp2)).setCell ⟨bl, 3, none⟩ (.int .i64 i)) { P with vo := vo', L := { P.L with order := useOrd P.L.order k i, now := i } } ∧ Ch (fun r => r ≠ .other) ρ ρ' w ((w2.setCell ⟨bl, 2, none⟩ (.slice (some ⟨g2, off2, none⟩) (YS.length + 1) cp2)).setCell ⟨bl, 3, none⟩ (.int .i64 i)) ∧ Below B w ((w2.setCell ⟨bl, 2, none⟩ (.slice (some ⟨g2, off2, none⟩) (YS.length + 1) cp2)).setCell ⟨bl, 3, none⟩ (.int .i64 i))) := by
    intro g2 off2 cp2 w2 hrow hgr hor
    have G : w.grownBy w2 (some g) := hg1.trans hgr
    have c : Ch (fun r => r = .order) ρ (newRole ρ w .order) w w2 := Ch.grown G ρ .order fun q e => by cases e; exact hρg
    have hg2 : ∀ q, (Value.slice (some ⟨g2, off2, none⟩) (YS.length + 1) cp2).ownBlock = some q → newRole ρ w .order q = .order := fun q e => by
      have e2 : g2 = q := by injection e
      subst e2
      rcases hor with e3 | e3
      · injection e3 with e3
        subst e3
        rw [newRole_old hgl, hρg]
      · exact newRole_new (by omega)
    have hrow2 : IntRow B w2 (.slice (some ⟨g2, off2, none⟩) (YS.length + 1) cp2) (useOrd P.L.order k i) := by unfold useOrd; rw [hYS]; exact hrow
    have A := HL.out.setOrder c hrow2 hg2
    have A2 := A.setNow i
    subst hbl
    refine ⟨_, _, A2, ?_, ?_⟩
    · have r2 : newRole ρ w .order P.bl = .live := by rw [newRole_old (by omega)]; exact hrl
      exact ((c.mono (by intro r e; rw [e]; simp)).trans (Ch.set w2 _ P.bl 2 _ (by rw [r2]; simp))).trans (Ch.set _ _ P.bl 3 _ (by rw [r2]; simp))
    · exact (((Below.refl B w).grown G hB fun q e => by cases e; exact hBg).setCell (p := ⟨P.bl, 2, none⟩) hBb _).setCell (p := ⟨P.bl, 3, none⟩) hBb _
  clear hyl hrl hρg hgl hg1 hYS hvo HL hm he hno hk hog
  go_upto_region 2 with (at_builtin; refine append_intM Tryz.underlying32 hii hz0 hz1 hz2 w1 (by rfl) _ _ (by rfl) _ YS (by rfl) hr1 i w1.heap.size _ rfl (by rfl) (by omega) (by omega) ?_; intro g2 off2 cp2 w2 hrow2 hg2 hor2 hlt2; have hb2 := hb1.grown hg2 (fun e => hne (by injection e)); have y2 := hb2.cell 2 rfl; have f2 := hb2.frozen 2)
  have hb3 := hb2.set 2 (.slice (some ⟨g2, off2, none⟩) (YS.length + 1) cp2)
  have y3 := hb3.cell 3 rfl
  have f3 := hb3.frozen 3
  have HE := HFIN.out g2 off2 cp2 w2 hrow2 hg2 hor2
  clear HFIN hb1 hb2 hb3 y2 f2
  go_wp2
  subst hbl
  exact bodyPost_end (results_none rfl _ _ _) rfl ⟨rfl, HE⟩
end Go.Proofs.YtmifhlkcceafkaaGreat

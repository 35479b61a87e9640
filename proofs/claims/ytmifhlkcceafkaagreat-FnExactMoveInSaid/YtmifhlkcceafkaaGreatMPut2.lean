/-
  A machine at work: a twin that is on no page is put on one (putOn).
-/
import Derived.Test.YtmifhlkcceafkaaGreatVImpl5
import Derived.Test.YtmifhlkcceafkaaGreatMRow
import Derived.Deep.RegionWith
import Derived.Deep.DrawnRows
import Derived.BigRegion

namespace Go.Proofs.YtmifhlkcceafkaaGreat
open Go.RowKit
def putL (L : LvM) (i j : Nat) (t : LvT) : LvM := { L with pages := L.pages.set i ⟨t.sender, [⟨t.body, (j : Int)⟩]⟩, twins := L.twins.set j ⟨(i : Int), 0, t.body, 0⟩ }
theorem CRow.made2 {B : Nat} {w : World} {e : TypeId} (hB : B ≤ w.heap.size) (a b : Value) : CRow B 2 (w.alloc (.cells #[a, b] e)) (.slice (some ⟨w.heap.size, 0, none⟩) 1 1) 1 [a, b] :=
  ⟨rfl, .inr ⟨w.heap.size, 0, 1, rfl, hB, by simp, Nat.le_refl _, by unfold maxLen; omega, fun i hi => by
    have : i = 0 ∨ i = 1 := by omega
    rcases this with rfl | rfl <;> exact ⟨by simp [go_sem], by unfold World.frozen?; rw [Go.Deep.blk_alloc_new w (.cells #[a, b] e)]; simp⟩, fun i hi => by
    have : i = 0 ∨ i = 1 := by simp at hi; omega
    rcases this with rfl | rfl <;> simp [go_sem]⟩⟩
set_option maxRecDepth 100000 in
set_option maxHeartbeats 4000000 in
theorem putOn_any {B : Nat} {ρ : Nat → Rl} {w : World} {P : Lay} (h : LvAt B ρ w P) (hB : B ≤ w.heap.size) (i : Nat) (hi : i < P.L.pages.length) (j : Nat) (hj : j < P.L.twins.length) (t : LvT) (ht : P.L.twins[j] = t) :
    Calls Tryz.prog 31 #[.pointer (some ⟨P.bl, 0, none⟩), .int .i64 (i : Int), .int .i64 (j : Int)] w fun e w' => e = .returned (.tuple #[]) ∧ ∃ ρ' F', LvAt B ρ' w' { P with F := F', L := putL P.L i j t } ∧ Ch (fun r => r ≠ .other) ρ ρ' w w' ∧ Below B w w' := by
  have hbx := (h .live).1
  have hrl := (h .live).2.1
  have hBb := (h .live).2.2
  obtain ⟨gp, op, cp, hvp, hBp, hgp⟩ := (h .pages).1.form (by omega)
  have hρp : ρ gp = .pages := (h .pages).2 gp (by rw [hvp]; rfl)
  have hrow := (h .pages).1
  rw [hvp] at hrow hbx
  have hlk := TMap.look (P := Tryz.prog) (t := 120) (kt := 3) (et := 131) (by kernel_rfl) (by kernel_rfl) (h .twins).1 (k := j) (by simpa using hj)
  have hval : (P.L.twins.map (twVal P.D))[j]'(by simpa using hj) = twVal P.D t := by simp [ht]
  rw [hval] at hlk
  unfold twVal at hlk
  have x4 := hbx.cell 4 rfl
  have HL : Hid (LvAt B ρ w P) := h
  have hTl := (h .twins).1
  have hjm : j < (P.L.twins.map (twVal P.D)).length := by simpa using hj
  clear h
  go_enter Tryz.func31, Tryz.ntmps31
  go_upto_region 1 with fail
  refine wp_gen (fun W => Below w.heap.size w W ∧ Bx W w.heap.size 131 [.int .i64 t.page, .int .i64 t.place, .pointer (some ⟨P.D t.body, 0, none⟩), .int .i64 t.sender]) ⟨(Below.refl _ _).alloc (Nat.le_refl _) _, Bx.new _ _ _⟩ ?_
  rintro W ⟨hbW, y⟩
  have hx1 := hbx.below hbW
  have hr1 := hrow.below hbW
  have hzW := hbW.size
  have c1 := (cells2_at (pgPairs P.F P.L.pages) i (by rw [pgPairs_length]; exact hi))
  obtain ⟨p0, pf0⟩ := hr1.cell c1.1
  obtain ⟨p1, pf1⟩ := hr1.cell c1.2
  have y2 := y.cell 2 rfl
  have y3 := y.cell 3 rfl
  have z1 := hx1.cell 1 rfl
  have hiz : (i : Int) < (P.L.pages.length : Int) := by omega
  have hgpW : gp < W.heap.size := by omega
  have hblW : P.bl < W.heap.size := hx1.lt
  have hyW : w.heap.size < W.heap.size := y.lt
  -- behind the store
  have h1 := HL.out.below hbW
  obtain ⟨ρ1, hρ1⟩ : ∃ ρ1, newRole ρ w .other = ρ1 := ⟨_, rfl⟩
  have hC1 : Ch (fun r => r ≠ .other) ρ ρ1 w W := by rw [← hρ1]; exact Ch.below hbW _ ρ .other
  have hy1 : ρ1 w.heap.size = .other := by rw [← hρ1]; exact newRole_new (Nat.le_refl _)
  have hp1 : ρ1 gp = .pages := by rw [← hρ1, newRole_old hgp]; exact hρp
  rw [hρ1] at h1
  have hFIN : ∃ ρ' F', LvAt B ρ' (((W.setCell ⟨gp, op + i * 2, none⟩ (.int .i64 t.sender)).setCell ⟨gp, op + i * 2 + 1, none⟩ (.slice (some ⟨W.heap.size, 0, none⟩) 1 1)).alloc (.cells #[.pointer (some ⟨P.D t.body, 0, none⟩), .int .i64 (j : Int)] 133)).drew { P with F := F', L := { P.L with pages := P.L.pages.set i ⟨t.sender, [⟨t.body, (j : Int)⟩]⟩ } } ∧
      Ch (fun r => r ≠ .other) ρ ρ' w (((W.setCell ⟨gp, op + i * 2, none⟩ (.int .i64 t.sender)).setCell ⟨gp, op + i * 2 + 1, none⟩ (.slice (some ⟨W.heap.size, 0, none⟩) 1 1)).alloc (.cells #[.pointer (some ⟨P.D t.body, 0, none⟩), .int .i64 (j : Int)] 133)).drew ∧
      Below B w (((W.setCell ⟨gp, op + i * 2, none⟩ (.int .i64 t.sender)).setCell ⟨gp, op + i * 2 + 1, none⟩ (.slice (some ⟨W.heap.size, 0, none⟩) 1 1)).alloc (.cells #[.pointer (some ⟨P.D t.body, 0, none⟩), .int .i64 (j : Int)] 133)).drew ∧
      Bx (((W.setCell ⟨gp, op + i * 2, none⟩ (.int .i64 t.sender)).setCell ⟨gp, op + i * 2 + 1, none⟩ (.slice (some ⟨W.heap.size, 0, none⟩) 1 1)).alloc (.cells #[.pointer (some ⟨P.D t.body, 0, none⟩), .int .i64 (j : Int)] 133)).drew w.heap.size 131 [.int .i64 t.page, .int .i64 t.place, .pointer (some ⟨P.D t.body, 0, none⟩), .int .i64 t.sender] := by
    have hAe : ((W.setCell ⟨gp, op + i * 2, none⟩ (.int .i64 t.sender)).setCell ⟨gp, op + i * 2 + 1, none⟩ (.slice (some ⟨W.heap.size, 0, none⟩) 1 1)).alloc (.cells #[.pointer (some ⟨P.D t.body, 0, none⟩), .int .i64 (j : Int)] 133) =
        ((W.alloc (.cells #[.pointer (some ⟨P.D t.body, 0, none⟩), .int .i64 (j : Int)] 133)).setCell ⟨gp, op + i * 2, none⟩ (.int .i64 t.sender)).setCell ⟨gp, op + i * 2 + 1, none⟩ (.slice (some ⟨W.heap.size, 0, none⟩) 1 1) := by
      rw [World.setCell_alloc_past _ _ _ _ hgpW, World.setCell_alloc_past _ _ _ _ (by rw [World.size_setCell]; exact hgpW)]
    obtain ⟨A, hA⟩ : ∃ A, W.alloc (.cells #[.pointer (some ⟨P.D t.body, 0, none⟩), .int .i64 (j : Int)] 133) = A := ⟨_, rfl⟩
    have hbA : Below W.heap.size W A := by rw [← hA]; exact (Below.refl _ _).alloc (Nat.le_refl _) _
    have cA : Ch (fun r => r = .frames i) ρ1 (newRole ρ1 W (.frames i)) W A := Ch.below hbA _ ρ1 (.frames i)
    obtain ⟨ρ2, hρ2⟩ : ∃ ρ2, newRole ρ1 W (.frames i) = ρ2 := ⟨_, rfl⟩
    have hlA : LvAt B ρ2 A P := by rw [← hρ2]; exact h1.keep ⟨hbA.size, fun _ hg => newRole_old hg, fun g hg _ => hbA.block g hg⟩
    have hf : CRow B 2 A (.slice (some ⟨W.heap.size, 0, none⟩) 1 1) 1 (cells2 (frPairs P.D [⟨t.body, (j : Int)⟩])) := by rw [← hA]; exact CRow.made2 (by omega) _ _
    have hfg : ∀ q, (Value.slice (some ⟨W.heap.size, 0, none⟩) 1 1).ownBlock = some q → ρ2 q = .frames i := fun q e => by
      have e2 : W.heap.size = q := by injection e
      subst e2
      rw [← hρ2]; exact newRole_new (Nat.le_refl _)
    have hrA := hr1.below hbA
    have hrA1 := hrA.set (i * 2) (.int .i64 t.sender)
    have hrA2 := hrA1.set (i * 2 + 1) (.slice (some ⟨W.heap.size, 0, none⟩) 1 1)
    rw [cells2_set, ← Nat.add_assoc] at hrA2
    have hg1 : A.grownBy ((A.setCell ⟨gp, op + i * 2, none⟩ (.int .i64 t.sender)).setCell ⟨gp, op + i * 2 + 1, none⟩ (.slice (some ⟨W.heap.size, 0, none⟩) 1 1)) (some gp) :=
      ⟨rfl, rfl, rfl, by simp only [World.size_setCell]; exact Nat.le_refl _, fun k _ hne => by rw [Below.heap_setCell _ _ _ _ (fun e => hne (by rw [e])), Below.heap_setCell _ _ _ _ (fun e => hne (by rw [e]))]⟩
    have S := hlA.setPage hi (p := ⟨t.sender, [⟨t.body, (j : Int)⟩]⟩) hf hfg hvp _ hrA2 hg1
    have hW9 : ∀ X : World, LvAt B (newRole ρ2 A .other) X { P with F := fun k => if k = i then (.slice (some ⟨W.heap.size, 0, none⟩) 1 1) else P.F k, L := { P.L with pages := P.L.pages.set i ⟨t.sender, [⟨t.body, (j : Int)⟩]⟩ } } → LvAt B (newRole ρ2 A .other) X.drew { P with F := fun k => if k = i then (.slice (some ⟨W.heap.size, 0, none⟩) 1 1) else P.F k, L := { P.L with pages := P.L.pages.set i ⟨t.sender, [⟨t.body, (j : Int)⟩]⟩ } } := fun X hX => hX.keep ⟨Nat.le_refl _, fun _ _ => rfl, fun _ _ _ => rfl⟩
    have hp2 : ρ2 gp = .pages := by rw [← hρ2, newRole_old hgpW]; exact hp1
    have C9 : Ch (fun r => r ≠ .other) ρ (newRole ρ2 A .other) w ((A.setCell ⟨gp, op + i * 2, none⟩ (.int .i64 t.sender)).setCell ⟨gp, op + i * 2 + 1, none⟩ (.slice (some ⟨W.heap.size, 0, none⟩) 1 1)) :=
      (hC1.trans (by rw [← hρ2]; exact Ch.below hbA _ ρ1 (.frames i))).trans (Ch.grown hg1 ρ2 .other fun q e => by cases e; rw [hp2]; simp)
    have B9 : Below B w ((A.setCell ⟨gp, op + i * 2, none⟩ (.int .i64 t.sender)).setCell ⟨gp, op + i * 2 + 1, none⟩ (.slice (some ⟨W.heap.size, 0, none⟩) 1 1)) :=
      (((hbW.mono hB).trans (hbA.mono (by omega))).setCell (p := ⟨gp, op + i * 2, none⟩) hBp _).setCell (p := ⟨gp, op + i * 2 + 1, none⟩) hBp _
    have Y9 : Bx ((A.setCell ⟨gp, op + i * 2, none⟩ (.int .i64 t.sender)).setCell ⟨gp, op + i * 2 + 1, none⟩ (.slice (some ⟨W.heap.size, 0, none⟩) 1 1)) w.heap.size 131 [.int .i64 t.page, .int .i64 t.place, .pointer (some ⟨P.D t.body, 0, none⟩), .int .i64 t.sender] :=
      ((y.below hbA).other (by omega) _).other (by omega) _
    rw [hAe, hA]
    exact ⟨_, _, hW9 _ S, ⟨C9.size, C9.role, C9.blk⟩, B9.drew, Y9.drew⟩
  have HFIN : Hid (∃ ρ' F', LvAt B ρ' (((W.setCell ⟨gp, op + i * 2, none⟩ (.int .i64 t.sender)).setCell ⟨gp, op + i * 2 + 1, none⟩ (.slice (some ⟨W.heap.size, 0, none⟩) 1 1)).alloc (.cells #[.pointer (some ⟨P.D t.body, 0, none⟩), .int .i64 (j : Int)] 133)).drew { P with F := F', L := { P.L with pages := P.L.pages.set i ⟨t.sender, [⟨t.body, (j : Int)⟩]⟩ } } ∧
      Ch (fun r => r ≠ .other) ρ ρ' w (((W.setCell ⟨gp, op + i * 2, none⟩ (.int .i64 t.sender)).setCell ⟨gp, op + i * 2 + 1, none⟩ (.slice (some ⟨W.heap.size, 0, none⟩) 1 1)).alloc (.cells #[.pointer (some ⟨P.D t.body, 0, none⟩), .int .i64 (j : Int)] 133)).drew ∧
      Below B w (((W.setCell ⟨gp, op + i * 2, none⟩ (.int .i64 t.sender)).setCell ⟨gp, op + i * 2 + 1, none⟩ (.slice (some ⟨W.heap.size, 0, none⟩) 1 1)).alloc (.cells #[.pointer (some ⟨P.D t.body, 0, none⟩), .int .i64 (j : Int)] 133)).drew ∧
      Bx (((W.setCell ⟨gp, op + i * 2, none⟩ (.int .i64 t.sender)).setCell ⟨gp, op + i * 2 + 1, none⟩ (.slice (some ⟨W.heap.size, 0, none⟩) 1 1)).alloc (.cells #[.pointer (some ⟨P.D t.body, 0, none⟩), .int .i64 (j : Int)] 133)).drew w.heap.size 131 [.int .i64 t.page, .int .i64 t.place, .pointer (some ⟨P.D t.body, 0, none⟩), .int .i64 t.sender]) := hFIN
  rw [← Nat.add_assoc] at p1 pf1
  clear hlk hbx hrow x4 c1 hFIN h1 hρ1 hC1 hy1 hp1 hbW
  go_cut [] (fun wx => ∃ ρ' F', LvAt B ρ' wx { P with F := F', L := { P.L with pages := P.L.pages.set i ⟨t.sender, [⟨t.body, (j : Int)⟩]⟩ } } ∧ Ch (fun r => r ≠ .other) ρ ρ' w wx ∧ Below B w wx ∧ Bx wx w.heap.size 131 [.int .i64 t.page, .int .i64 t.place, .pointer (some ⟨P.D t.body, 0, none⟩), .int .i64 t.sender])
  case first =>
    go_region_law (fail)
    all_goals
      go_wp2_with fail
      go_meet
      exact HFIN.out
  case rest =>
    obtain ⟨ρ1, F1, h1, hC, hBB, y9⟩ := hcut
    have hx := (h1 .live).1
    have hT := (h1 .twins).1
    have hb1 := hx.below (Below.refl _ _).drew
    have hput := TMap.put (P := Tryz.prog) (t := 120) (kt := 3) (et := 131) (by kernel_rfl) (by kernel_rfl) (TMap.below hT (Below.refl _ _).drew) (k := j) hjm (twVal P.D ⟨(i : Int), 0, t.body, 0⟩)
    obtain ⟨W2, hmu, hm2, hg2⟩ := hput
    unfold twVal at hmu
    have z4 := hx.cell 4 rfl
    have y2 := y9.cell 2 rfl
    have HE : Hid (∃ ρ' F', LvAt B ρ' W2 { P with F := F', L := putL P.L i j t } ∧ Ch (fun r => r ≠ .other) ρ ρ' w W2 ∧ Below B w W2) := by
      have hd : LvAt B (newRole ρ1 wc .other) wc.drew _ := h1.below (Below.refl _ _).drew
      have hm3 : TMap W2 P.bm ((P.L.twins.set j ⟨(i : Int), 0, t.body, 0⟩).map (twVal P.D)) := by rw [List.map_set]; exact hm2
      have S := hd.setTwins hg2 hm3
      have C2 : Ch (fun r => r ≠ .other) ρ (newRole ρ1 wc .other) w wc.drew := hC.trans (Ch.below (Below.refl _ _).drew _ ρ1 .other)
      refine ⟨_, F1, S, C2.trans (Ch.grown hg2 _ .other fun q e => by cases e; rw [(hd .twins).2.1]; simp), (hBB.drew).grown hg2 (Nat.le_trans hB C2.size) fun q e => by cases e; exact (hd .twins).2.2⟩
    clear hm2 hg2 h1 hC hBB hT
    go_wp2_with fail
    go_region_law (fail)
    all_goals
      go_wp2
      exact bodyPost_end (results_none rfl _ _ _) rfl ⟨rfl, HE.out⟩
end Go.Proofs.YtmifhlkcceafkaaGreat

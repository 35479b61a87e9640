import Derived.Test.YthkjgfhheejaoaaGreatDoorLStep3
import Derived.Deep.RegionHeld3
import Derived.Test.YthkjgfhheejaoaaGreatDoorLMem2
import Derived.Test.YthkjgfhheejaoaaGreatDoorLWalk6
import Derived.Deep.DrawnRows

/-
  An ok heap's calls, made by the program in memory of their own: a call's body.
-/
namespace Go.Proofs.YthkjgfhheejaoaaGreatDoor
open Go.RowKit

/-- a body that was just made, in blocks of its own -/
def BodyNew (B : Nat) (w : World) (d : Nat) (vt vs : Value) (c : Cl) : Prop :=
  w.rowIs d 111 5 (five (.int .i64 c.m) (.int .i64 c.pc) vt vs (.bool c.dead)) ∧ PairRow B w vt c.temps ∧ PairRow B w vs c.stack ∧ B ≤ d ∧
  (∀ g, vt.ownBlock = some g → g ≠ d ∧ vs.ownBlock ≠ some g) ∧ (∀ g, vs.ownBlock = some g → g ≠ d)

set_option maxRecDepth 100000 in
set_option maxHeartbeats 4000000 in
theorem bodyOf_any (c : Cl) (vt vs : Value) (w : World) (ht : OpsAt w vt c.temps) (hs : OpsAt w vs c.stack) (hl : c.temps.length ≤ 1000 ∧ c.stack.length ≤ 1000) :
    Calls Tryz.prog 56 #[.agg #[.int .i64 c.m, .int .i64 c.pc, vt, vs, .int .i64 c.sender, .bool c.dead]] w fun e w' => ∃ (d : Nat) (vt' vs' : Value), e = .returned (.pointer (some ⟨d, 0, none⟩)) ∧ BodyNew w.heap.size w' d vt' vs' c ∧ Below w.heap.size w w' := by
  obtain ⟨at_, ct, hvt⟩ := ht.shape
  obtain ⟨as_, cs, hvs⟩ := hs.shape
  subst hvt hvs
  have hA : Below w.heap.size w (w.alloc (.cells #[.int .i64 c.m, .int .i64 c.pc, .slice at_ c.temps.length ct, .slice as_ c.stack.length cs, .int .i64 c.sender, .bool c.dead] 48)) := (Below.refl _ _).alloc (Nat.le_refl _) _
  have r1 := six_new w 48 (.int .i64 c.m) (.int .i64 c.pc) (.slice at_ c.temps.length ct) (.slice as_ c.stack.length cs) (.int .i64 c.sender) (.bool c.dead)
  have HT : Hid (OpsAt w (.slice at_ c.temps.length ct) c.temps ∧ OpsAt w (.slice as_ c.stack.length cs) c.stack) := ⟨ht, hs⟩
  have hzA : w.heap.size < (w.alloc (.cells #[.int .i64 c.m, .int .i64 c.pc, .slice at_ c.temps.length ct, .slice as_ c.stack.length cs, .int .i64 c.sender, .bool c.dead] 48)).heap.size := by simp
  clear ht hs
  go_enter Tryz.func56, Tryz.ntmps56
  go_upto_region 1 with fail
  generalize w.alloc (.cells #[.int .i64 c.m, .int .i64 c.pc, .slice at_ c.temps.length ct, .slice as_ c.stack.length cs, .int .i64 c.sender, .bool c.dead] 48) = W at *
  obtain ⟨⟨x0, x1, x2, x3, x4, x5⟩, _⟩ := six_cells r1
  have HS : ∀ w' : World, Below W.heap.size W w' → ((w'.cell? ⟨w.heap.size, 0, none⟩ = some (.int .i64 c.m) ∧ w'.cell? ⟨w.heap.size, 1, none⟩ = some (.int .i64 c.pc) ∧ w'.cell? ⟨w.heap.size, 2, none⟩ = some (.slice at_ c.temps.length ct) ∧ w'.cell? ⟨w.heap.size, 3, none⟩ = some (.slice as_ c.stack.length cs) ∧ w'.cell? ⟨w.heap.size, 5, none⟩ = some (.bool c.dead)) ∧ Below W.heap.size W w') := fun w' hb => ⟨⟨cell_below hb x0, cell_below hb x1, cell_below hb x2, cell_below hb x3, cell_below hb x5⟩, hb⟩
  have HCT : Hid (∀ W', Below W.heap.size W W' → Calls Tryz.prog 33 #[.slice at_ c.temps.length ct] W' fun e w' => ∃ v', e = .returned v' ∧ PairRow W'.heap.size w' v' c.temps ∧ Below W'.heap.size W' w') := fun W' hb => clone_any _ _ _ (HT.out.1.below (hA.trans (hb.mono hA.size))) hl.1
  have HCS : Hid (∀ W', Below W.heap.size W W' → Calls Tryz.prog 33 #[.slice as_ c.stack.length cs] W' fun e w' => ∃ v', e = .returned v' ∧ PairRow W'.heap.size w' v' c.stack ∧ Below W'.heap.size W' w') := fun W' hb => clone_any _ _ _ (HT.out.2.below (hA.trans (hb.mono hA.size))) hl.2
  clear x0 x1 x2 x3 x4 x5 r1
  go_region_held3 (fun w' => (w'.cell? ⟨w.heap.size, 0, none⟩ = some (.int .i64 c.m) ∧ w'.cell? ⟨w.heap.size, 1, none⟩ = some (.int .i64 c.pc) ∧ w'.cell? ⟨w.heap.size, 2, none⟩ = some (.slice at_ c.temps.length ct) ∧ w'.cell? ⟨w.heap.size, 3, none⟩ = some (.slice as_ c.stack.length cs) ∧ w'.cell? ⟨w.heap.size, 5, none⟩ = some (.bool c.dead)) ∧ Below W.heap.size W w')
    ((refine HS _ ?_; first
      | (with_reducible exact (‹(_ ∧ _ ∧ _ ∧ _ ∧ _) ∧ Below W.heap.size W _›).2)
      | (with_reducible exact (Below.refl _ _).drew)
      | (with_reducible exact hBT)
      | (with_reducible exact hBS)
      | (with_reducible exact hBT.alloc hBT.size _)
      | (with_reducible exact hBS.alloc hBS.size _)))
    (first
      | (go_at_call 33; refine (HCT.out _ (‹(_ ∧ _ ∧ _ ∧ _ ∧ _) ∧ Below W.heap.size W _›).2).mono ?_; rintro e wT ⟨vT, rfl, hrT, hbT⟩; have hBT := Below.trans (‹(_ ∧ _ ∧ _ ∧ _ ∧ _) ∧ Below W.heap.size W _›).2 (hbT.mono ((‹(_ ∧ _ ∧ _ ∧ _ ∧ _) ∧ Below W.heap.size W _›).2).size); obtain ⟨aT, kT, hvT, _⟩ := hrT.slice; subst hvT)
      | (go_at_call 33; refine (HCS.out _ (‹(_ ∧ _ ∧ _ ∧ _ ∧ _) ∧ Below W.heap.size W _›).2).mono ?_; rintro e wS ⟨vS, rfl, hrS, hbS⟩; have hBS := Below.trans (‹(_ ∧ _ ∧ _ ∧ _ ∧ _) ∧ Below W.heap.size W _›).2 (hbS.mono ((‹(_ ∧ _ ∧ _ ∧ _ ∧ _) ∧ Below W.heap.size W _›).2).size); obtain ⟨aS, kS, hvS, _⟩ := hrS.slice; subst hvS))
  all_goals first
    | (have hbXY : Below wT.heap.size wT wS := hbS;
       have hzX : w.heap.size ≤ W.heap.size := hA.size;
       have hzW : W.heap.size ≤ wT.heap.size := hBT.size;
       have hzY := hbS.size;
       have N9 := (Below.refl wS.heap.size wS).alloc (Nat.le_refl _) (.cells #[.int .i64 c.m, .int .i64 c.pc, .slice aT c.temps.length kT, .slice aS c.stack.length kS, .bool c.dead] 111);
       have r9 := five_new wS 111 (.int .i64 c.m) (.int .i64 c.pc) (.slice aT c.temps.length kT) (.slice aS c.stack.length kS) (.bool c.dead);
       have pX := (hrT.below hbXY).below N9;
       have pY := hrS.below N9;
       have B9 := (hA.trans (hBS.mono hA.size)).trans (N9.mono (Nat.le_trans hzX (Nat.le_trans hzW hzY)));
       have HFIN : Hid (BodyNew w.heap.size (wS.alloc (.cells #[.int .i64 c.m, .int .i64 c.pc, .slice aT c.temps.length kT, .slice aS c.stack.length kS, .bool c.dead] 111)) wS.heap.size (.slice aT c.temps.length kT) (.slice aS c.stack.length kS) c) := ⟨r9, pX.mono (by first | exact hzX | exact Nat.le_trans hzX hzW), pY.mono (by first | exact hzX | exact Nat.le_trans hzX hzW), by omega, fun g e => ⟨by have := (hrT.lt g e).2; omega, fun e2 => by have q1 := hrT.lt g e; have q2 := hrS.lt g e2; omega⟩, fun g e => by have := (hrS.lt g e).2; omega⟩;
       clear HS HCT HCS;
       go_wp2;
       go_ret;
       exact ⟨_, _, _, rfl, HFIN.out, B9⟩)
    | (have hbXY : Below wS.heap.size wS wT := hbT;
       have hzX : w.heap.size ≤ W.heap.size := hA.size;
       have hzW : W.heap.size ≤ wS.heap.size := hBS.size;
       have hzY := hbT.size;
       have N9 := (Below.refl wT.heap.size wT).alloc (Nat.le_refl _) (.cells #[.int .i64 c.m, .int .i64 c.pc, .slice aT c.temps.length kT, .slice aS c.stack.length kS, .bool c.dead] 111);
       have r9 := five_new wT 111 (.int .i64 c.m) (.int .i64 c.pc) (.slice aT c.temps.length kT) (.slice aS c.stack.length kS) (.bool c.dead);
       have pX := (hrS.below hbXY).below N9;
       have pY := hrT.below N9;
       have B9 := (hA.trans (hBT.mono hA.size)).trans (N9.mono (Nat.le_trans hzX (Nat.le_trans hzW hzY)));
       have HFIN : Hid (BodyNew w.heap.size (wT.alloc (.cells #[.int .i64 c.m, .int .i64 c.pc, .slice aT c.temps.length kT, .slice aS c.stack.length kS, .bool c.dead] 111)) wT.heap.size (.slice aT c.temps.length kT) (.slice aS c.stack.length kS) c) := ⟨r9, pY.mono (by first | exact hzX | exact Nat.le_trans hzX hzW), pX.mono (by first | exact hzX | exact Nat.le_trans hzX hzW), by omega, fun g e => ⟨by have := (hrT.lt g e).2; omega, fun e2 => by have q1 := hrT.lt g e; have q2 := hrS.lt g e2; omega⟩, fun g e => by have := (hrS.lt g e).2; omega⟩;
       clear HS HCT HCS;
       go_wp2;
       go_ret;
       exact ⟨_, _, _, rfl, HFIN.out, B9⟩)

end Go.Proofs.YthkjgfhheejaoaaGreatDoor

/-
  Calls that the program made in memory of their own, ahead of the run: each a block of its own, its body another; the lists of each in rows of their own. No two share a block.
-/
namespace Go.Proofs.YthkjgfhheejaoaaGreatDoor
open Go.RowKit

/-- blocks of the calls alone -/
def Blk.mine : Blk → Prop
  | .run | .said => False
  | _ => True

structure LH (B : Nat) (w : World) (bl : Nat) (vcs : Value) (C D : Nat → Nat) (T : Nat → Value × Value) (cs : List Cl) (now : Int) : Prop where
  hp : w.rowIs bl 71 2 (two vcs (ptrN C now))
  row : CRow B 1 w vcs cs.length (ptrs C cs.length)
  cl : ∀ i, (hi : i < cs.length) → w.rowIs (C i) 93 3 (trio (.pointer (some ⟨D i, 0, none⟩)) (.int .i64 i) (ptrN C cs[i].sender))
  bd : ∀ i, (hi : i < cs.length) → w.rowIs (D i) 111 5 (five (.int .i64 cs[i].m) (.int .i64 cs[i].pc) (T i).1 (T i).2 (.bool cs[i].dead))
  ts : ∀ i, (hi : i < cs.length) → PairRow B w (T i).1 cs[i].temps ∧ PairRow B w (T i).2 cs[i].stack
  lo : ∀ x : Blk, x.mine → x.ok cs.length → ∀ g, x.at bl 0 vcs (.slice none 0 0) C D T = some g → B ≤ g ∧ g < w.heap.size
  ap : ∀ x y : Blk, x.mine → y.mine → x.ok cs.length → y.ok cs.length → ∀ g, x.at bl 0 vcs (.slice none 0 0) C D T = some g → y.at bl 0 vcs (.slice none 0 0) C D T = some g → x = y

variable {B : Nat} {w w' : World} {bl br : Nat} {vp vcs vsd : Value} {C D : Nat → Nat} {T : Nat → Value × Value} {cs : List Cl} {now : Int}

theorem LH.kept (k : LH B w bl vcs C D T cs now) (hsz : w.heap.size ≤ w'.heap.size) (hb : ∀ x : Blk, x.mine → x.ok cs.length → ∀ g, x.at bl 0 vcs (.slice none 0 0) C D T = some g → w'.heap[g]? = w.heap[g]?) : LH B w' bl vcs C D T cs now :=
  ⟨k.hp.of_block (hb .heap trivial trivial _ rfl), k.row.kept hsz (hb .row trivial trivial), fun i hi => (k.cl i hi).of_block (hb (.call i) trivial hi _ rfl), fun i hi => (k.bd i hi).of_block (hb (.body i) trivial hi _ rfl), fun i hi => ⟨(k.ts i hi).1.kept hsz (hb (.temps i) trivial hi), (k.ts i hi).2.kept hsz (hb (.stack i) trivial hi)⟩, fun x hm hx g hg => ⟨(k.lo x hm hx g hg).1, Nat.lt_of_lt_of_le (k.lo x hm hx g hg).2 hsz⟩, k.ap⟩

theorem LH.below (k : LH B w bl vcs C D T cs now) (hb : Below w.heap.size w w') : LH B w' bl vcs C D T cs now :=
  k.kept hb.size fun x hm hx g hg => hb.block g (k.lo x hm hx g hg).2

theorem LH.other (k : LH B w bl vcs C D T cs now) {x y : Blk} (mx : x.mine) (my : y.mine) (hx : x.ok cs.length) (hy : y.ok cs.length) (hne : x ≠ y) {g g' : Nat} (e : x.at bl 0 vcs (.slice none 0 0) C D T = some g) (e' : y.at bl 0 vcs (.slice none 0 0) C D T = some g') : g ≠ g' := fun q => hne (k.ap x y mx my hx hy g e (by rw [q]; exact e'))

/-- another call runs -/
theorem LH.turnNow (k : LH B w bl vcs C D T cs now) (a : Int) (v : Value) (hv : v = ptrN C a) : LH B (w.setCell ⟨bl, 1, none⟩ v) bl vcs C D T cs a := by
  subst hv
  have hz : w.heap.size ≤ (w.setCell ⟨bl, 1, none⟩ (ptrN C a)).heap.size := by simp [World.setCell]
  have hbl : ∀ y : Blk, y.mine → y.ok cs.length → y ≠ .heap → ∀ g, y.at bl 0 vcs (.slice none 0 0) C D T = some g → (w.setCell ⟨bl, 1, none⟩ (ptrN C a)).heap[g]? = w.heap[g]? := fun y my hy hne g hg => Below.heap_setCell _ _ _ _ (fun q => k.other (x := y) (y := .heap) my trivial hy trivial hne hg rfl q)
  exact ⟨(k.hp.set 1 (ptrN C a)).congr fun i hi => by match i, hi with | 0, _ => rfl | 1, _ => rfl, k.row.kept hz (hbl .row trivial trivial (by simp)), fun i hi => (k.cl i hi).of_block (hbl (.call i) trivial hi (by simp) _ rfl), fun i hi => (k.bd i hi).of_block (hbl (.body i) trivial hi (by simp) _ rfl), fun i hi => ⟨(k.ts i hi).1.kept hz (hbl (.temps i) trivial hi (by simp)), (k.ts i hi).2.kept hz (hbl (.stack i) trivial hi (by simp))⟩, fun y my hy g hg => ⟨(k.lo y my hy g hg).1, Nat.lt_of_lt_of_le (k.lo y my hy g hg).2 hz⟩, k.ap⟩

/-- who called call j is another -/
theorem LH.snd (k : LH B w bl vcs C D T cs now) {j : Nat} (hj : j < cs.length) (a : Int) (v : Value) (hv : v = ptrN C a) : LH B (w.setCell ⟨C j, 2, none⟩ v) bl vcs C D T (cs.set j { cs[j] with sender := a }) now := by
  subst hv
  have hl : (cs.set j { cs[j] with sender := a }).length = cs.length := List.length_set
  have hz : w.heap.size ≤ (w.setCell ⟨C j, 2, none⟩ (ptrN C a)).heap.size := by simp [World.setCell]
  have hbl : ∀ y : Blk, y.mine → y.ok cs.length → y ≠ .call j → ∀ g, y.at bl 0 vcs (.slice none 0 0) C D T = some g → (w.setCell ⟨C j, 2, none⟩ (ptrN C a)).heap[g]? = w.heap[g]? := fun y my hy hne g hg => Below.heap_setCell _ _ _ _ (fun q => k.other (x := y) (y := .call j) my trivial hy hj hne hg rfl q)
  have hgt : ∀ i, (hi : i < cs.length) → ((cs.set j { cs[j] with sender := a })[i]'(by rw [hl]; exact hi)).m = cs[i].m ∧ ((cs.set j { cs[j] with sender := a })[i]'(by rw [hl]; exact hi)).pc = cs[i].pc ∧ ((cs.set j { cs[j] with sender := a })[i]'(by rw [hl]; exact hi)).temps = cs[i].temps ∧ ((cs.set j { cs[j] with sender := a })[i]'(by rw [hl]; exact hi)).stack = cs[i].stack ∧ ((cs.set j { cs[j] with sender := a })[i]'(by rw [hl]; exact hi)).dead = cs[i].dead := fun i hi => by
    by_cases e : j = i
    · subst e; simp
    · simp [List.getElem_set_ne e]
  refine ⟨k.hp.of_block (hbl .heap trivial trivial (by simp) _ rfl), ?_, fun i hi => ?_, fun i hi => ?_, fun i hi => ?_, ?_, ?_⟩
  · rw [hl]; exact k.row.kept hz (hbl .row trivial trivial (by simp))
  · rw [hl] at hi
    by_cases e : j = i
    · subst e; simp only [List.getElem_set_self]; exact trio_set2 (k.cl j hi) (ptrN C a)
    · simp only [List.getElem_set_ne e]
      exact (k.cl i hi).of_block (hbl (.call i) trivial hi (fun q => e (by injection q with q; exact q.symm)) _ rfl)
  · rw [hl] at hi
    obtain ⟨g1, g2, g3, g4, g5⟩ := hgt i hi
    rw [g1, g2, g5]
    exact (k.bd i hi).of_block (hbl (.body i) trivial hi (by simp) _ rfl)
  · rw [hl] at hi
    obtain ⟨g1, g2, g3, g4, g5⟩ := hgt i hi
    rw [g3, g4]
    exact ⟨(k.ts i hi).1.kept hz (hbl (.temps i) trivial hi (by simp)), (k.ts i hi).2.kept hz (hbl (.stack i) trivial hi (by simp))⟩
  · rw [hl]; exact fun y my hy g hg => ⟨(k.lo y my hy g hg).1, Nat.lt_of_lt_of_le (k.lo y my hy g hg).2 hz⟩
  · rw [hl]; exact k.ap

/-- one call more, called by nobody -/
theorem LH.push (k : LH B w bl vcs C D T cs (-1)) {c d : Nat} {vt vs vcs' : Value} {cl : Cl} (hsn : cl.sender = -1) (hsd : ∀ i, (hi : i < cs.length) → cs[i].sender = -1)
    (hB : B ≤ w.heap.size) (hc : w.heap.size ≤ c) (hd : w.heap.size ≤ d) (hcd : c ≠ d) (hsz : w.heap.size ≤ w'.heap.size) (hbl : ∀ g, g < w.heap.size → g ≠ bl → vcs.ownBlock ≠ some g → w'.heap[g]? = w.heap[g]?)
    (hhp : w'.rowIs bl 71 2 (two vcs' (.pointer none))) (hrow : CRow B 1 w' vcs' (cs.length + 1) (ptrs C cs.length ++ [.pointer (some ⟨c, 0, none⟩)]))
    (hcl : w'.rowIs c 93 3 (trio (.pointer (some ⟨d, 0, none⟩)) (.int .i64 cs.length) (.pointer none)))
    (hbd : w'.rowIs d 111 5 (five (.int .i64 cl.m) (.int .i64 cl.pc) vt vs (.bool cl.dead))) (ht : PairRow B w' vt cl.temps) (hs : PairRow B w' vs cl.stack)
    (nv : ∀ q, vcs'.ownBlock = some q → vcs.ownBlock = some q ∨ (w.heap.size ≤ q ∧ q ≠ c ∧ q ≠ d)) (nt : ∀ q, vt.ownBlock = some q → w.heap.size ≤ q ∧ q ≠ c ∧ q ≠ d ∧ vcs'.ownBlock ≠ some q ∧ vs.ownBlock ≠ some q) (ns : ∀ q, vs.ownBlock = some q → w.heap.size ≤ q ∧ q ≠ c ∧ q ≠ d ∧ vcs'.ownBlock ≠ some q) :
    LH B w' bl vcs' (updN C cs.length c) (updN D cs.length d) (putV T cs.length (vt, vs)) (cs ++ [cl]) (-1) := by
  have hl : (cs ++ [cl]).length = cs.length + 1 := by simp
  have hold : ∀ y : Blk, y.ok cs.length → y ≠ .row → y.at bl 0 vcs' (.slice none 0 0) (updN C cs.length c) (updN D cs.length d) (putV T cs.length (vt, vs)) = y.at bl 0 vcs (.slice none 0 0) C D T := fun y hy h1 => by
    cases y with
    | row => exact absurd rfl h1
    | call i => simp only [Blk.at]; rw [updN_other _ (by have : i < cs.length := hy; omega)]
    | body i => simp only [Blk.at]; rw [updN_other _ (by have : i < cs.length := hy; omega)]
    | temps i => simp only [Blk.at]; rw [putV_other _ _ (by have : i < cs.length := hy; omega)]
    | stack i => simp only [Blk.at]; rw [putV_other _ _ (by have : i < cs.length := hy; omega)]
    | _ => rfl
  have hnok : ∀ y : Blk, y.ok (cs.length + 1) → ¬ y.ok cs.length → y = .call cs.length ∨ y = .body cs.length ∨ y = .temps cs.length ∨ y = .stack cs.length := fun y h1 h2 => by
    cases y with
    | call i => left; have q1 : i < cs.length + 1 := h1; have q2 : ¬ i < cs.length := h2; congr 1; omega
    | body i => right; left; have q1 : i < cs.length + 1 := h1; have q2 : ¬ i < cs.length := h2; congr 1; omega
    | temps i => right; right; left; have q1 : i < cs.length + 1 := h1; have q2 : ¬ i < cs.length := h2; congr 1; omega
    | stack i => right; right; right; have q1 : i < cs.length + 1 := h1; have q2 : ¬ i < cs.length := h2; congr 1; omega
    | _ => exact absurd trivial h2
  have aC : (Blk.call cs.length).at bl 0 vcs' (.slice none 0 0) (updN C cs.length c) (updN D cs.length d) (putV T cs.length (vt, vs)) = some c := by simp only [Blk.at, updN_same]
  have aD : (Blk.body cs.length).at bl 0 vcs' (.slice none 0 0) (updN C cs.length c) (updN D cs.length d) (putV T cs.length (vt, vs)) = some d := by simp only [Blk.at, updN_same]
  have aT : (Blk.temps cs.length).at bl 0 vcs' (.slice none 0 0) (updN C cs.length c) (updN D cs.length d) (putV T cs.length (vt, vs)) = vt.ownBlock := by simp only [Blk.at, putV_same]
  have aS : (Blk.stack cs.length).at bl 0 vcs' (.slice none 0 0) (updN C cs.length c) (updN D cs.length d) (putV T cs.length (vt, vs)) = vs.ownBlock := by simp only [Blk.at, putV_same]
  have hkeep : ∀ y : Blk, y.mine → y.ok cs.length → y ≠ .row → y ≠ .heap → ∀ g, y.at bl 0 vcs (.slice none 0 0) C D T = some g → w'.heap[g]? = w.heap[g]? := fun y my hy h1 h2 g hg =>
    hbl g (k.lo y my hy g hg).2 (fun e => h2 (k.ap y .heap my trivial hy trivial g hg (by rw [e]; rfl))) (fun e => h1 (k.ap y .row my trivial hy trivial g hg e))
  have hrw : ∀ y : Blk, y.mine → y.ok cs.length → y ≠ .row → ∀ g, y.at bl 0 vcs (.slice none 0 0) C D T = some g → vcs'.ownBlock ≠ some g := fun y my hy h1 g hg e => by
    rcases nv g e with x | x
    · exact h1 (k.ap y .row my trivial hy trivial g hg x)
    · have := (k.lo y my hy g hg).2; omega
  have hlow : ∀ y : Blk, y.mine → y.ok cs.length → y ≠ .row → ∀ g, y.at bl 0 vcs (.slice none 0 0) C D T = some g → g ≠ c ∧ g ≠ d ∧ vt.ownBlock ≠ some g ∧ vs.ownBlock ≠ some g := fun y my hy h1 g hg => by
    have h2 := (k.lo y my hy g hg).2
    exact ⟨by omega, by omega, fun e => by have := (nt g e).1; omega, fun e => by have := (ns g e).1; omega⟩
  have hrn : vcs'.ownBlock ≠ some c ∧ vcs'.ownBlock ≠ some d := by
    refine ⟨fun e => ?_, fun e => ?_⟩
    · rcases nv c e with x | x
      · have := (k.lo .row trivial trivial c x).2; omega
      · exact x.2.1 rfl
    · rcases nv d e with x | x
      · have := (k.lo .row trivial trivial d x).2; omega
      · exact x.2.2 rfl
  have hap1 : ∀ x y : Blk, x.mine → y.mine → x.ok cs.length → y.ok (cs.length + 1) → ¬ y.ok cs.length → ∀ g, x.at bl 0 vcs' (.slice none 0 0) (updN C cs.length c) (updN D cs.length d) (putV T cs.length (vt, vs)) = some g → y.at bl 0 vcs' (.slice none 0 0) (updN C cs.length c) (updN D cs.length d) (putV T cs.length (vt, vs)) = some g → False := fun x y mx my hx hy hny g hgx hgy => by
    have hx3 : g ≠ c ∧ g ≠ d ∧ vt.ownBlock ≠ some g ∧ vs.ownBlock ≠ some g := by
      by_cases x1 : x = .row
      · subst x1
        have e : vcs'.ownBlock = some g := hgx
        exact ⟨fun q => hrn.1 (by rw [← q]; exact e), fun q => hrn.2 (by rw [← q]; exact e), fun q => (nt g q).2.2.2.1 e, fun q => (ns g q).2.2.2 e⟩
      · rw [hold x hx x1] at hgx
        exact hlow x mx hx x1 g hgx
    rcases hnok y hy hny with rfl | rfl | rfl | rfl
    · rw [aC] at hgy; injection hgy with q; exact hx3.1 q.symm
    · rw [aD] at hgy; injection hgy with q; exact hx3.2.1 q.symm
    · rw [aT] at hgy; exact hx3.2.2.1 hgy
    · rw [aS] at hgy; exact hx3.2.2.2 hgy
  have hap : ∀ x y : Blk, x.mine → y.mine → x.ok (cs.length + 1) → y.ok (cs.length + 1) → ∀ g, x.at bl 0 vcs' (.slice none 0 0) (updN C cs.length c) (updN D cs.length d) (putV T cs.length (vt, vs)) = some g → y.at bl 0 vcs' (.slice none 0 0) (updN C cs.length c) (updN D cs.length d) (putV T cs.length (vt, vs)) = some g → x = y := fun x y mx my hx hy g hgx hgy => by
    by_cases x1 : x.ok cs.length
    · by_cases y1 : y.ok cs.length
      · by_cases x2 : x = .row
        · subst x2
          by_cases y2 : y = .row
          · exact y2.symm
          · rw [hold y y1 y2] at hgy; exact absurd hgx (hrw y my y1 y2 g hgy)
        · rw [hold x x1 x2] at hgx
          by_cases y2 : y = .row
          · subst y2; exact absurd hgy (hrw x mx x1 x2 g hgx)
          · rw [hold y y1 y2] at hgy; exact k.ap x y mx my x1 y1 g hgx hgy
      · exact (hap1 x y mx my x1 hy y1 g hgx hgy).elim
    · by_cases y1 : y.ok cs.length
      · exact (hap1 y x my mx y1 hx x1 g hgy hgx).elim
      · rcases hnok x hx x1 with rfl | rfl | rfl | rfl <;> rcases hnok y hy y1 with rfl | rfl | rfl | rfl
        · rfl
        · rw [aC] at hgx; rw [aD] at hgy; injection hgx with q; injection hgy with q'; omega
        · rw [aC] at hgx; rw [aT] at hgy; injection hgx with q; exact absurd q.symm (nt g hgy).2.1
        · rw [aC] at hgx; rw [aS] at hgy; injection hgx with q; exact absurd q.symm (ns g hgy).2.1
        · rw [aD] at hgx; rw [aC] at hgy; injection hgx with q; injection hgy with q'; omega
        · rfl
        · rw [aD] at hgx; rw [aT] at hgy; injection hgx with q; exact absurd q.symm (nt g hgy).2.2.1
        · rw [aD] at hgx; rw [aS] at hgy; injection hgx with q; exact absurd q.symm (ns g hgy).2.2.1
        · rw [aC] at hgy; rw [aT] at hgx; injection hgy with q; exact absurd q.symm (nt g hgx).2.1
        · rw [aD] at hgy; rw [aT] at hgx; injection hgy with q; exact absurd q.symm (nt g hgx).2.2.1
        · rfl
        · rw [aT] at hgx; rw [aS] at hgy; exact absurd hgy (nt g hgx).2.2.2.2
        · rw [aC] at hgy; rw [aS] at hgx; injection hgy with q; exact absurd q.symm (ns g hgx).2.1
        · rw [aD] at hgy; rw [aS] at hgx; injection hgy with q; exact absurd q.symm (ns g hgx).2.2.1
        · rw [aT] at hgy; rw [aS] at hgx; exact absurd hgx (nt g hgy).2.2.2.2
        · rfl
  have hm1 : ∀ (C' : Nat → Nat), ptrN C' (-1) = .pointer none := fun C' => ptrN_neg (by decide)
  refine ⟨?_, ?_, fun i hi => ?_, fun i hi => ?_, fun i hi => ?_, ?_, ?_⟩
  · rw [hm1]; exact hhp
  · rw [hl, ptrs_snoc]; exact hrow
  · rw [hl] at hi
    by_cases e : i < cs.length
    · simp only [List.getElem_append_left e]
      rw [updN_other _ (by omega), updN_other _ (by omega), hsd i e, hm1]
      have := (k.cl i e).of_block (hkeep (.call i) trivial e (by simp) (by simp) _ rfl)
      rw [hsd i e, hm1] at this
      exact this
    · have e2 : i = cs.length := by omega
      subst e2
      have e3 : (cs ++ [cl])[cs.length]'(by rw [hl]; omega) = cl := by rw [List.getElem_append_right (by omega)]; simp
      simp only [e3]
      rw [updN_same, updN_same, hsn, hm1]
      exact hcl
  · rw [hl] at hi
    by_cases e : i < cs.length
    · simp only [List.getElem_append_left e]
      rw [updN_other _ (by omega), putV_other _ _ (by omega)]
      exact (k.bd i e).of_block (hkeep (.body i) trivial e (by simp) (by simp) _ rfl)
    · have e2 : i = cs.length := by omega
      subst e2
      have e3 : (cs ++ [cl])[cs.length]'(by rw [hl]; omega) = cl := by rw [List.getElem_append_right (by omega)]; simp
      simp only [e3]
      rw [updN_same, putV_same]
      exact hbd
  · rw [hl] at hi
    by_cases e : i < cs.length
    · simp only [List.getElem_append_left e]
      rw [putV_other _ _ (by omega)]
      exact ⟨(k.ts i e).1.kept hsz (hkeep (.temps i) trivial e (by simp) (by simp)), (k.ts i e).2.kept hsz (hkeep (.stack i) trivial e (by simp) (by simp))⟩
    · have e2 : i = cs.length := by omega
      subst e2
      have e3 : (cs ++ [cl])[cs.length]'(by rw [hl]; omega) = cl := by rw [List.getElem_append_right (by omega)]; simp
      simp only [e3]
      rw [putV_same]
      exact ⟨ht, hs⟩
  · rw [hl]
    intro x mx hx g hg
    by_cases x1 : x.ok cs.length
    · by_cases x2 : x = .row
      · subst x2
        exact hrow.lt g hg
      · rw [hold x x1 x2] at hg
        have := k.lo x mx x1 g hg
        omega
    · rcases hnok x hx x1 with rfl | rfl | rfl | rfl
      · rw [aC] at hg; injection hg with q; subst q; exact ⟨by omega, hcl.lt⟩
      · rw [aD] at hg; injection hg with q; subst q; exact ⟨by omega, hbd.lt⟩
      · rw [aT] at hg; exact ht.lt g hg
      · rw [aS] at hg; exact hs.lt g hg
  · rw [hl]; exact hap

/-- no call yet -/
theorem LH.start {bl : Nat} (hb : w.rowIs bl 71 2 (two (.slice none 0 0) (.pointer none))) (hB : B ≤ bl) (C D : Nat → Nat) (T : Nat → Value × Value) : LH B w bl (.slice none 0 0) C D T [] (-1) := by
  refine ⟨by rw [ptrN_neg (by decide)]; exact hb, ⟨by simp [ptrs], .inl ⟨rfl, rfl⟩⟩, fun i hi => absurd hi (Nat.not_lt_zero _), fun i hi => absurd hi (Nat.not_lt_zero _), fun i hi => absurd hi (Nat.not_lt_zero _), fun x mx hx g hg => ?_, fun x y mx my hx hy g hgx hgy => ?_⟩
  · cases x with
    | heap => injection hg with e; subst e; exact ⟨hB, hb.lt⟩
    | run => exact mx.elim
    | said => exact mx.elim
    | row => simp [Blk.at, Value.ownBlock] at hg
    | call i => exact absurd hx (Nat.not_lt_zero _)
    | body i => exact absurd hx (Nat.not_lt_zero _)
    | temps i => exact absurd hx (Nat.not_lt_zero _)
    | stack i => exact absurd hx (Nat.not_lt_zero _)
  · have hh : ∀ z : Blk, z.mine → z.ok ([] : List Cl).length → z.at bl 0 (.slice none 0 0) (.slice none 0 0) C D T = some g → z = .heap := fun z mz hz hg => by
      cases z with
      | heap => rfl
      | run => exact mz.elim
      | said => exact mz.elim
      | row => simp [Blk.at, Value.ownBlock] at hg
      | call i => exact absurd hz (Nat.not_lt_zero _)
      | body i => exact absurd hz (Nat.not_lt_zero _)
      | temps i => exact absurd hz (Nat.not_lt_zero _)
      | stack i => exact absurd hz (Nat.not_lt_zero _)
    rw [hh x mx hx hgx, hh y my hy hgy]

/-- with the run's box, and what was said, it is a heap at work -/
theorem LH.run {h : Hp} (k : LH B w bl vcs C D T h.calls h.now) (rn : w'.rowIs br 64 5 (five vp (.iface 58 (.pointer (some ⟨bl, 0, none⟩))) (.int .i64 h.born) vsd (.int .i64 h.code))) (hb : Below w.heap.size w w') (hbr : w.heap.size ≤ br) (hB : B ≤ w.heap.size) (sd : PairRow w.heap.size w' vsd h.said) (hne : vsd.ownBlock ≠ some br) : LV B w' bl br vp vcs vsd C D T h := by
  have k' := k.below hb
  have hmine : ∀ x : Blk, x.mine → x.at bl br vcs vsd C D T = x.at bl 0 vcs (.slice none 0 0) C D T := fun x mx => by
    cases x with
    | run => exact mx.elim
    | said => exact mx.elim
    | _ => rfl
  have hlow : ∀ x : Blk, x.mine → x.ok h.calls.length → ∀ g, x.at bl br vcs vsd C D T = some g → B ≤ g ∧ g < w.heap.size := fun x mx hx g hg => by
    rw [hmine x mx] at hg
    exact k.lo x mx hx g hg
  have hz := hb.size
  refine ⟨k'.hp, rn, k'.row, k'.cl, k'.bd, k'.ts, sd.mono hB, fun x hx g hg => ?_, fun x y hx hy g hgx hgy => ?_⟩
  · cases x with
    | run => injection hg with e; subst e; exact ⟨by omega, rn.lt⟩
    | said => have := sd.lt g hg; exact ⟨by omega, this.2⟩
    | heap => have := hlow .heap trivial hx g hg; omega
    | row => have := hlow .row trivial hx g hg; omega
    | call i => have := hlow (.call i) trivial hx g hg; omega
    | body i => have := hlow (.body i) trivial hx g hg; omega
    | temps i => have := hlow (.temps i) trivial hx g hg; omega
    | stack i => have := hlow (.stack i) trivial hx g hg; omega
  · have hcase : ∀ z : Blk, z.mine ∨ z = .run ∨ z = .said := fun z => by cases z <;> first | exact .inl trivial | exact .inr (.inl rfl) | exact .inr (.inr rfl)
    have hr : ∀ z : Blk, z.mine → z.ok h.calls.length → z.at bl br vcs vsd C D T = some g → br ≠ g ∧ vsd.ownBlock ≠ some g := fun z mz hz' hg => by
      have h1 := hlow z mz hz' g hg
      exact ⟨by omega, fun e => by have := sd.lt g e; omega⟩
    rcases hcase x with mx | rfl | rfl
    · rcases hcase y with my | rfl | rfl
      · rw [hmine x mx] at hgx
        rw [hmine y my] at hgy
        exact k.ap x y mx my hx hy g hgx hgy
      · injection hgy with e; exact absurd e (hr x mx hx hgx).1
      · exact absurd hgy (hr x mx hx hgx).2
    · rcases hcase y with my | rfl | rfl
      · injection hgx with e; exact absurd e (hr y my hy hgy).1
      · rfl
      · injection hgx with e; subst e; exact absurd hgy hne
    · rcases hcase y with my | rfl | rfl
      · exact absurd hgx (hr y my hy hgy).2
      · injection hgy with e; subst e; exact absurd hgx hne
      · rfl

end Go.Proofs.YthkjgfhheejaoaaGreatDoor

/-
  An ok heap's calls, made by the program: a call by its place; lists of calls whose callers are told later.
-/
namespace Go.Proofs.YthkjgfhheejaoaaGreatDoor
open Go.RowKit

variable {B : Nat} {w w' : World} {bl br : Nat} {vp vcs vsd : Value} {C D : Nat → Nat} {T : Nat → Value × Value} {cs : List Cl} {now : Int}

/-- called by nobody yet -/
def noS (c : Cl) : Cl := { c with sender := -1 }

theorem take_noS (cs : List Cl) {q : Nat} (hq : q < cs.length) : (cs.take (q + 1)).map noS = (cs.take q).map noS ++ [noS cs[q]] := by
  rw [← List.take_append_getElem hq, List.map_append]
  rfl

/-- the first q are told who called them -/
def lateS (cs : List Cl) (q : Nat) : List Cl := (List.range cs.length).map fun i => if i < q then cs.getD i Cl.none else noS (cs.getD i Cl.none)
theorem lateS_len (cs : List Cl) (q : Nat) : (lateS cs q).length = cs.length := by simp [lateS]
theorem lateS_at (cs : List Cl) (q : Nat) {i : Nat} (hi : i < cs.length) : (lateS cs q)[i]'(by rw [lateS_len]; exact hi) = if i < q then cs[i] else noS cs[i] := by
  simp [lateS, hi]
theorem lateS_full (cs : List Cl) : lateS cs cs.length = cs := by
  refine List.ext_getElem (lateS_len _ _) fun i h1 h2 => ?_
  rw [lateS_at cs _ h2, if_pos h2]
theorem lateS_zero (cs : List Cl) : cs.map noS = lateS cs 0 := by
  refine List.ext_getElem (by rw [lateS_len]; simp) fun i h1 h2 => ?_
  have hi : i < cs.length := by simpa using h1
  rw [lateS_at cs 0 hi, if_neg (Nat.not_lt_zero _)]
  simp
theorem lateS_set (cs : List Cl) {q : Nat} (hq : q < cs.length) : (lateS cs q).set q { (lateS cs q)[q]'(by rw [lateS_len]; exact hq) with sender := cs[q].sender } = lateS cs (q + 1) := by
  refine List.ext_getElem (by rw [List.length_set, lateS_len, lateS_len]) fun i h1 h2 => ?_
  have hi : i < cs.length := by rw [lateS_len] at h2; exact h2
  rw [lateS_at cs (q + 1) hi]
  by_cases e : q = i
  · subst e
    rw [List.getElem_set_self, lateS_at cs q hi, if_neg (Nat.lt_irrefl _), if_pos (Nat.lt_succ_self _)]
    rfl
  · rw [List.getElem_set_ne e, lateS_at cs q hi]
    by_cases e2 : i < q
    · rw [if_pos e2, if_pos (by omega)]
    · rw [if_neg e2, if_neg (by omega)]

/-- the row of pointers -/
theorem LH.ptr (k : LH B w bl vcs C D T cs now) (hp : 0 < cs.length) : ∃ g off cap, vcs = .slice (some ⟨g, off, none⟩) cs.length cap ∧ cs.length ≤ cap ∧ ∀ i, i < cs.length → w.cell? ⟨g, off + i, none⟩ = some (.pointer (some ⟨C i, 0, none⟩)) := by
  obtain ⟨_, hr⟩ := k.row
  rcases hr with ⟨_, e⟩ | ⟨g, off, cap, hv, _, _, hl, _, _, hx⟩
  · omega
  · refine ⟨g, off, cap, hv, hl, fun i hi => ?_⟩
    have := hx i (by simp [ptrs]; exact hi)
    simpa [ptrs] using this

set_option maxRecDepth 100000 in
theorem callAt_any (k : LH B w bl vcs C D T cs now) (a : Int) (h0 : -1 ≤ a) (h1 : a < (cs.length : Int)) :
    Calls Tryz.prog 57 #[.pointer (some ⟨bl, 0, none⟩), .int .i64 a] w fun e w' => e = .returned (ptrN C a) ∧ w' = w := by
  by_cases ha : a = -1
  · subst ha
    rw [ptrN_neg (by decide)]
    go_enter Tryz.func57, Tryz.ntmps57
    go_wp2
    go_ret
    exact ⟨rfl, rfl⟩
  · obtain ⟨j, rfl⟩ := Int.eq_ofNat_of_zero_le (show 0 ≤ a by omega)
    have hj : j < cs.length := by omega
    have hne : ((j : Int) == -1) = false := beq_eq_false_iff_ne.2 ha
    rw [ptrN_at]
    obtain ⟨⟨x0, x1⟩, _⟩ := two_cells k.hp
    obtain ⟨g, off, cap, hv, hl, hx⟩ := k.ptr (by omega)
    subst hv
    have z := hx j hj
    clear hx k
    go_enter Tryz.func57, Tryz.ntmps57
    go_wp2
    go_ret
    exact ⟨rfl, rfl⟩

end Go.Proofs.YthkjgfhheejaoaaGreatDoor

/-
  An ok heap's calls, made by the program: liveOf.
-/
namespace Go.Proofs.YthkjgfhheejaoaaGreatDoor
open Go.RowKit

attribute [local go_sem ↓] Go.wp_at_zero Go.wp_at_succ

variable {B : Nat} {w w' : World} {bl br : Nat} {vp vcs vsd : Value} {C D : Nat → Nat} {T : Nat → Value × Value} {cs : List Cl} {now : Int}

/-- a call that was made is put behind the others -/
theorem LH.put {W1 w2 w5 : World} (k : LH B W1 bl vcs C D T cs (-1)) (hB : B ≤ W1.heap.size) {d : Nat} {vt vs : Value} {c : Cl} (hsd : ∀ i, (hi : i < cs.length) → cs[i].sender = -1) (hN : BodyNew W1.heap.size w2 d vt vs c) (hb : Below W1.heap.size W1 w2) {v' : Value}
    (hr : CRow B 1 w5 v' (cs.length + 1) (ptrs C cs.length ++ [.pointer (some ⟨w2.heap.size, 0, none⟩)]))
    (hg : ((w2.alloc (.cells #[.pointer (some ⟨d, 0, none⟩), .int .i64 cs.length, .pointer none] 93)).alloc (.cells #[.pointer (some ⟨w2.heap.size, 0, none⟩)] 69)).grownBy w5 vcs.ownBlock)
    (hv : v'.ownBlock = vcs.ownBlock ∨ v'.ownBlock = some ((w2.alloc (.cells #[.pointer (some ⟨d, 0, none⟩), .int .i64 cs.length, .pointer none] 93)).alloc (.cells #[.pointer (some ⟨w2.heap.size, 0, none⟩)] 69)).heap.size) :
    (w5.cell? ⟨bl, 0, none⟩ = some vcs ∧ w5.frozen? ⟨bl, 0, none⟩ = false) ∧ (∀ g, g < W1.heap.size → g ≠ bl → vcs.ownBlock ≠ some g → (w5.setCell ⟨bl, 0, none⟩ v').heap[g]? = W1.heap[g]?) ∧ Below B W1 (w5.setCell ⟨bl, 0, none⟩ v') ∧
    LH B (w5.setCell ⟨bl, 0, none⟩ v') bl v' (updN C cs.length w2.heap.size) (updN D cs.length d) (putV T cs.length (vt, vs)) (cs ++ [noS c]) (-1) := by
  obtain ⟨rd, pt, ps, hd, h1, h2⟩ := hN
  have hblL := k.lo .heap trivial trivial bl rfl
  have hz := hb.size
  have hdl := rd.lt
  have N3 : Below w2.heap.size w2 (w2.alloc (.cells #[.pointer (some ⟨d, 0, none⟩), .int .i64 cs.length, .pointer none] 93)) := (Below.refl _ _).alloc (Nat.le_refl _) _
  have rc3 := trio_new w2 93 (.pointer (some ⟨d, 0, none⟩)) (.int .i64 cs.length) (.pointer none)
  have hz3 : (w2.alloc (.cells #[.pointer (some ⟨d, 0, none⟩), .int .i64 cs.length, .pointer none] 93)).heap.size = w2.heap.size + 1 := by simp
  have N4 : Below w2.heap.size w2 ((w2.alloc (.cells #[.pointer (some ⟨d, 0, none⟩), .int .i64 cs.length, .pointer none] 93)).alloc (.cells #[.pointer (some ⟨w2.heap.size, 0, none⟩)] 69)) := N3.alloc (by omega) _
  have rc4 := rc3.alloc (.cells #[.pointer (some ⟨w2.heap.size, 0, none⟩)] 69)
  have hz4 : ((w2.alloc (.cells #[.pointer (some ⟨d, 0, none⟩), .int .i64 cs.length, .pointer none] 93)).alloc (.cells #[.pointer (some ⟨w2.heap.size, 0, none⟩)] 69)).heap.size = w2.heap.size + 2 := by simp
  rw [hz4] at hv
  generalize (w2.alloc (.cells #[.pointer (some ⟨d, 0, none⟩), .int .i64 cs.length, .pointer none] 93)).alloc (.cells #[.pointer (some ⟨w2.heap.size, 0, none⟩)] 69) = W4 at *
  have hgz := hg.size
  have hrl : ∀ g, vcs.ownBlock = some g → g < W1.heap.size ∧ g ≠ bl := fun g e => ⟨(k.lo .row trivial trivial g e).2, fun e2 => by have := k.ap .row .heap trivial trivial trivial trivial g e (by rw [e2]; rfl); cases this⟩
  have hbw : ∀ g, g < W4.heap.size → vcs.ownBlock ≠ some g → w5.heap[g]? = W4.heap[g]? := fun g q1 q2 => hg.block g q1 (fun e => q2 e.symm)
  have hb1 : ∀ g, g < W1.heap.size → vcs.ownBlock ≠ some g → w5.heap[g]? = W1.heap[g]? := fun g q1 q2 => (hbw g (by omega) q2).trans ((N4.block g (by omega)).trans (hb.block g q1))
  have hnr : ∀ g, W1.heap.size ≤ g → vcs.ownBlock ≠ some g := fun g q1 e => by have := (hrl g e).1; omega
  have hblr : vcs.ownBlock ≠ some bl := fun e => (hrl bl e).2 rfl
  have hp5 := k.hp.of_block (hb1 bl hblL.2 hblr)
  rw [ptrN_neg (by decide)] at hp5
  obtain ⟨⟨c0, _⟩, cf0, _⟩ := two_cells hp5
  have hvb : v'.ownBlock ≠ some bl := fun e => by
    rcases hv with x | x
    · exact hblr (by rw [← x]; exact e)
    · rw [x] at e; injection e with e; omega
  have nv : ∀ g, v'.ownBlock = some g → vcs.ownBlock = some g ∨ (W1.heap.size ≤ g ∧ g ≠ w2.heap.size ∧ g ≠ d) := fun g e => by
    rcases hv with x | x
    · exact .inl (by rw [← x]; exact e)
    · rw [x] at e; injection e with e; exact .inr ⟨by omega, by omega, by omega⟩
  have hvn : ∀ g, W1.heap.size ≤ g → g < w2.heap.size + 2 → v'.ownBlock ≠ some g := fun g q1 q2 e => by
    rcases hv with x | x
    · exact hnr g q1 (by rw [← x]; exact e)
    · rw [x] at e; injection e with e; omega
  have hF : ∀ g, g < W4.heap.size → g ≠ bl → vcs.ownBlock ≠ some g → (w5.setCell ⟨bl, 0, none⟩ v').heap[g]? = W4.heap[g]? := fun g q1 q2 q3 => (Below.heap_setCell _ _ _ _ (fun e => q2 e)).trans (hbw g q1 q3)
  have hF1 : ∀ g, g < W1.heap.size → g ≠ bl → vcs.ownBlock ≠ some g → (w5.setCell ⟨bl, 0, none⟩ v').heap[g]? = W1.heap[g]? := fun g q1 q2 q3 => (Below.heap_setCell _ _ _ _ (fun e => q2 e)).trans (hb1 g q1 q3)
  have hsz5 : W4.heap.size ≤ (w5.setCell ⟨bl, 0, none⟩ v').heap.size := by simp [World.setCell]; omega
  have hbF : Below B W1 (w5.setCell ⟨bl, 0, none⟩ v') := (((hb.mono hB).trans (N4.mono (by omega))).grown hg (by omega) (fun g e => (k.lo .row trivial trivial g e).1)).setCell (p := ⟨bl, 0, none⟩) hblL.1 v'
  have pt5 : PairRow B (w5.setCell ⟨bl, 0, none⟩ v') vt c.temps := (pt.kept (by omega) fun g e => by have q := pt.lt g e; exact (hF g (by omega) (by omega) (hnr g (by omega))).trans (N4.block g q.2)).mono hB
  have ps5 : PairRow B (w5.setCell ⟨bl, 0, none⟩ v') vs c.stack := (ps.kept (by omega) fun g e => by have q := ps.lt g e; exact (hF g (by omega) (by omega) (hnr g (by omega))).trans (N4.block g q.2)).mono hB
  have hrw : CRow B 1 (w5.setCell ⟨bl, 0, none⟩ v') v' (cs.length + 1) (ptrs C cs.length ++ [.pointer (some ⟨w2.heap.size, 0, none⟩)]) := hr.kept (by simp [World.setCell]) fun g e => Below.heap_setCell _ _ _ _ (fun e2 => hvb (by have e3 : g = bl := e2; rw [← e3]; exact e))
  refine ⟨⟨c0, cf0⟩, hF1, hbF, k.push (cl := noS c) rfl hsd hB (by omega) hd (by omega) (by omega) hF1 (two_set0 hp5 v') hrw (rc4.of_block (hF _ (by omega) (by omega) (hnr _ (by omega)))) (rd.of_block ((hF d (by omega) (by omega) (hnr d hd)).trans (N4.block d hdl))) pt5 ps5 nv (fun g e => ?_) (fun g e => ?_)⟩
  · have q := pt.lt g e
    exact ⟨q.1, by omega, (h1 g e).1, hvn g q.1 (by omega), (h1 g e).2⟩
  · have q := ps.lt g e
    exact ⟨q.1, by omega, h2 g e, hvn g q.1 (by omega)⟩

/-- lower bound -/
theorem LH.lower {B' : Nat} (k : LH B w bl vcs C D T cs now) (h : B' ≤ B) : LH B' w bl vcs C D T cs now :=
  ⟨k.hp, by
    obtain ⟨h0, h1⟩ := k.row
    refine ⟨h0, ?_⟩
    rcases h1 with h1 | ⟨g, off, cap, hv, hg, r⟩
    · exact .inl h1
    · exact .inr ⟨g, off, cap, hv, by omega, r⟩, k.cl, k.bd, fun i hi => ⟨(k.ts i hi).1.mono h, (k.ts i hi).2.mono h⟩, fun x mx hx g hg => by have := k.lo x mx hx g hg; omega, k.ap⟩

end Go.Proofs.YthkjgfhheejaoaaGreatDoor

/-
  An ok heap's calls, made by the program: liveOf, walked.
-/
namespace Go.Proofs.YthkjgfhheejaoaaGreatDoor
open Go.RowKit

attribute [local go_sem ↓] Go.wp_at_zero Go.wp_at_succ

set_option maxRecDepth 100000 in
set_option maxHeartbeats 8000000 in
theorem liveOf_any (vc vs : Value) (h : Hp) (w : World) (hh : HeapAt w vc vs h) (hn : h.calls.length ≤ 1000) (hsh : ∀ i, (hi : i < h.calls.length) → h.calls[i].temps.length ≤ 1000 ∧ h.calls[i].stack.length ≤ 1000) (hnow : -1 ≤ h.now ∧ h.now < (h.calls.length : Int)) (hsd : ∀ i, (hi : i < h.calls.length) → -1 ≤ h.calls[i].sender ∧ h.calls[i].sender < (h.calls.length : Int)) :
    Calls Tryz.prog 32 #[.agg (hpCells vc vs h)] w fun e w' => ∃ (bl : Nat) (vcs : Value) (C D : Nat → Nat) (T : Nat → Value × Value), e = .returned (.pointer (some ⟨bl, 0, none⟩)) ∧ LH w.heap.size w' bl vcs C D T h.calls h.now ∧ Below w.heap.size w w' := by
  unfold hpCells
  obtain ⟨ac, kc, hvc⟩ := hh.c.shape
  obtain ⟨aD, kD, hvs⟩ := hh.s.shape
  subst hvc hvs
  have hA : Below w.heap.size w ((w.alloc (.cells #[.slice ac h.calls.length kc, .int .i64 h.now, .int .i64 h.born, .slice aD h.said.length kD, .int .i64 h.code] 29)).alloc (.cells #[.slice none 0 0, .pointer none] 71)) := ((Below.refl _ _).alloc (Nat.le_refl _) _).alloc (by simp) _
  have bh := (five_new w 29 (.slice ac h.calls.length kc) (.int .i64 h.now) (.int .i64 h.born) (.slice aD h.said.length kD) (.int .i64 h.code)).alloc (.cells #[.slice none 0 0, .pointer none] 71)
  have bo := two_new (w.alloc (.cells #[.slice ac h.calls.length kc, .int .i64 h.now, .int .i64 h.born, .slice aD h.said.length kD, .int .i64 h.code] 29)) 71 (.slice none 0 0) (.pointer none)
  simp only [World.size_alloc] at bo
  have hcz : (h.calls.length : Int) ≤ 1000 := by omega
  have HH : Hid (CallsAt w (.slice ac h.calls.length kc) h.calls ∧ ∀ i, (hi : i < h.calls.length) → h.calls[i].temps.length ≤ 1000 ∧ h.calls[i].stack.length ≤ 1000) := ⟨hh.c, hsh⟩
  have HSD : Hid (∀ i, (hi : i < h.calls.length) → -1 ≤ h.calls[i].sender ∧ h.calls[i].sender < (h.calls.length : Int)) := hsd
  clear hh hsh hsd
  go_enter Tryz.func32, Tryz.ntmps32
  go_upto_region 2 with fail
  generalize (w.alloc (.cells #[.slice ac h.calls.length kc, .int .i64 h.now, .int .i64 h.born, .slice aD h.said.length kD, .int .i64 h.code] 29)).alloc (.cells #[.slice none 0 0, .pointer none] 71) = W0 at *
  have L0 := LH.start (B := w.heap.size + 1) bo (Nat.le_refl _) (fun _ => 0) (fun _ => 0) (fun _ => (.slice none 0 0, .slice none 0 0))
  obtain ⟨⟨x0, x1, x2, x3, x4⟩, _⟩ := five_cells bh
  go_wp2
  go_loopg [13] h.calls.length (fun gm i wr => ∃ (q : Nat) (vcs : Value) (C D : Nat → Nat) (T : Nat → Value × Value), q ≤ h.calls.length ∧ gm = h.calls.length - q ∧ i = .int .i64 q ∧ LH (w.heap.size + 1) wr (w.heap.size + 1) vcs C D T ((h.calls.take q).map noS) (-1) ∧ wr.rowIs w.heap.size 29 5 (five (.slice ac h.calls.length kc) (.int .i64 h.now) (.int .i64 h.born) (.slice aD h.said.length kD) (.int .i64 h.code)) ∧ Below w.heap.size w wr)
  case atStart => exact ⟨0, _, _, _, _, Nat.zero_le _, rfl, rfl, L0, bh, hA⟩
  case round =>
    obtain ⟨q, vcs, C, D, T, hq, rfl, rfl, k, rb, hb⟩ := hrel
    clear x0 x1 x2 x3 x4 bh bo L0 hA
    by_cases hlt : q < h.calls.length
    · have hqz : (q : Int) < (h.calls.length : Int) := by omega
      obtain ⟨_, _, hve, _, hcl⟩ := HH.out.1.below hb
      cases hve
      obtain ⟨b, o, vt, vs, hbo, hcq⟩ := hcl q hlt
      subst hbo
      clear hcl
      obtain ⟨at_, ct, hvt⟩ := hcq.t.shape
      obtain ⟨as_, cs_, hvs⟩ := hcq.s.shape
      subst hvt hvs
      obtain ⟨d0, d1, d2, d3, d4, d5, dt, ds⟩ := id hcq
      have hlen : ((h.calls.take q).map noS).length = q := by simp; omega
      have N1 : Below wr.heap.size wr (wr.alloc (.cells #[.int .i64 h.calls[q].m, .int .i64 h.calls[q].pc, .slice at_ h.calls[q].temps.length ct, .slice as_ h.calls[q].stack.length cs_, .int .i64 h.calls[q].sender, .bool h.calls[q].dead] 48)) := (Below.refl _ _).alloc (Nat.le_refl _) _
      have r6 := six_new wr 48 (.int .i64 h.calls[q].m) (.int .i64 h.calls[q].pc) (.slice at_ h.calls[q].temps.length ct) (.slice as_ h.calls[q].stack.length cs_) (.int .i64 h.calls[q].sender) (.bool h.calls[q].dead)
      have k1 := k.below N1
      have rb1 := row_below N1 rb
      have b1 : Below w.heap.size w (wr.alloc (.cells #[.int .i64 h.calls[q].m, .int .i64 h.calls[q].pc, .slice at_ h.calls[q].temps.length ct, .slice as_ h.calls[q].stack.length cs_, .int .i64 h.calls[q].sender, .bool h.calls[q].dead] 48)) := hb.trans (N1.mono hb.size)
      have dt1 := dt.below N1
      have ds1 := ds.below N1
      go_upto_region 5 with fail
      clear k rb hb N1 dt ds d0 d1 d2 d3 d4 d5 hcq
      generalize wr.alloc (.cells #[.int .i64 h.calls[q].m, .int .i64 h.calls[q].pc, .slice at_ h.calls[q].temps.length ct, .slice as_ h.calls[q].stack.length cs_, .int .i64 h.calls[q].sender, .bool h.calls[q].dead] 48) = W1 at *
      generalize wr.heap.size = bc at *
      obtain ⟨⟨e0, e1, e2, e3, e4, e5⟩, _⟩ := six_cells r6
      have hB1 := b1.size
      have hbc := r6.lt
      have hrow1 := k1.row
      obtain ⟨av, cv, hv⟩ := hrow1.form1
      rw [hlen] at hv hrow1
      subst hv
      obtain ⟨⟨y0, y1⟩, yf0, yf1⟩ := two_cells k1.hp
      have hblL := (k1.lo .heap trivial trivial _ rfl).2
      have HBO : Hid (∀ W', Below W1.heap.size W1 W' → Calls Tryz.prog 56 #[.agg #[.int .i64 h.calls[q].m, .int .i64 h.calls[q].pc, .slice at_ h.calls[q].temps.length ct, .slice as_ h.calls[q].stack.length cs_, .int .i64 h.calls[q].sender, .bool h.calls[q].dead]] W' fun e w' => ∃ (d : Nat) (vt' vs' : Value), e = .returned (.pointer (some ⟨d, 0, none⟩)) ∧ BodyNew W'.heap.size w' d vt' vs' h.calls[q] ∧ Below W'.heap.size W' w') := fun W' hb' => bodyOf_any h.calls[q] _ _ W' (dt1.below hb') (ds1.below hb') (HH.out.2 q hlt)
      have HFIN : Hid (∀ (w2 : World) (d : Nat) (vt' vs' : Value), BodyNew W1.heap.size w2 d vt' vs' h.calls[q] → Below W1.heap.size W1 w2 → ∀ (v' : Value) (w5 : World), CRow (w.heap.size + 1) 1 w5 v' (q + 1) (ptrs C q ++ [.pointer (some ⟨w2.heap.size, 0, none⟩)]) → ((w2.alloc (.cells #[.pointer (some ⟨d, 0, none⟩), .int .i64 q, .pointer none] 93)).alloc (.cells #[.pointer (some ⟨w2.heap.size, 0, none⟩)] 69)).grownBy w5 (Value.slice av q cv).ownBlock → (v'.ownBlock = (Value.slice av q cv).ownBlock ∨ v'.ownBlock = some ((w2.alloc (.cells #[.pointer (some ⟨d, 0, none⟩), .int .i64 q, .pointer none] 93)).alloc (.cells #[.pointer (some ⟨w2.heap.size, 0, none⟩)] 69)).heap.size) → ((w5.cell? ⟨w.heap.size + 1, 0, none⟩ = some (.slice av q cv) ∧ w5.frozen? ⟨w.heap.size + 1, 0, none⟩ = false) ∧ ∃ (vcs : Value) (C D : Nat → Nat) (T : Nat → Value × Value), LH (w.heap.size + 1) (w5.setCell ⟨w.heap.size + 1, 0, none⟩ v') (w.heap.size + 1) vcs C D T ((h.calls.take (q + 1)).map noS) (-1) ∧ (w5.setCell ⟨w.heap.size + 1, 0, none⟩ v').rowIs w.heap.size 29 5 (five (.slice (some ⟨b, o, none⟩) h.calls.length kc) (.int .i64 h.now) (.int .i64 h.born) (.slice aD h.said.length kD) (.int .i64 h.code)) ∧ Below w.heap.size w (w5.setCell ⟨w.heap.size + 1, 0, none⟩ v'))) := by
        intro w2 d vt' vs' hN hb2 v' w5 hr hg hv
        have hP := k1.put (c := h.calls[q]) (v' := v') (w5 := w5) (by have := rb1.lt; omega) (fun i hi => by simp [noS]) hN hb2
        rw [hlen] at hP
        obtain ⟨hc5, hF1, hb5, k5⟩ := hP hr hg hv
        rw [← take_noS h.calls hlt] at k5
        refine ⟨hc5, v', _, _, _, k5, rb1.of_block (hF1 _ rb1.lt (by omega) (fun e => by have := (k1.lo .row trivial trivial _ e).1; omega)), b1.trans (hb5.mono (by omega))⟩
      have hsz1 : w.heap.size + 1 < W1.heap.size := hblL
      clear k1 rb1 dt1 ds1 b1 r6
      go_region_law (first
        | (go_simp; go_at_call 56; refine (HBO.out _ (Below.refl _ _).drew).mono ?_; rintro e w2 ⟨d, vt2, vs2, rfl, hN2, hb2⟩; have hB2 : Below W1.heap.size W1 w2 := (Below.refl _ _).drew.trans hb2; have hz2 := hB2.size; have hbl2 : w.heap.size + 1 < w2.heap.size := (by omega); have y02 := cell_below hB2 y0; have y03 : (w2.alloc (.cells #[.pointer (some ⟨d, 0, none⟩), .int .i64 q, .pointer none] 93)).cell? ⟨w.heap.size + 1, 0, none⟩ = some (.slice av q cv) := cell_below ((Below.refl _ _).alloc (Nat.le_refl _) _) y02; have y04 : ((w2.alloc (.cells #[.pointer (some ⟨d, 0, none⟩), .int .i64 q, .pointer none] 93)).alloc (.cells #[.pointer (some ⟨w2.heap.size, 0, none⟩)] 69)).cell? ⟨w.heap.size + 1, 0, none⟩ = some (.slice av q cv) := cell_below (((Below.refl _ _).alloc (Nat.le_refl _) _).alloc (by simp) _) y02; have row2 : CRow (w.heap.size + 1) 1 ((w2.alloc (.cells #[.pointer (some ⟨d, 0, none⟩), .int .i64 q, .pointer none] 93)).alloc (.cells #[.pointer (some ⟨w2.heap.size, 0, none⟩)] 69)) (.slice av q cv) q (ptrs C q) := (hrow1.below hB2).below (((Below.refl _ _).alloc (Nat.le_refl _) _).alloc (by simp) _); have s2 : Src Tryz.prog 1 68 (.slice (some ⟨w2.heap.size + 1, 0, none⟩) 1 1) 1 [.pointer (some ⟨w2.heap.size, 0, none⟩)] ((w2.alloc (.cells #[.pointer (some ⟨d, 0, none⟩), .int .i64 q, .pointer none] 93)).alloc (.cells #[.pointer (some ⟨w2.heap.size, 0, none⟩)] 69)) := src_ptr (by simp [go_sem]); have hBA : w.heap.size + 1 ≤ ((w2.alloc (.cells #[.pointer (some ⟨d, 0, none⟩), .int .i64 q, .pointer none] 93)).alloc (.cells #[.pointer (some ⟨w2.heap.size, 0, none⟩)] 69)).heap.size := (by simp; omega))
        | (refine step_ptrs _ (by rfl) _ _ (by rfl) (w.heap.size + 1) _ _ q (ptrs C q) (.pointer (some ⟨w2.heap.size, 0, none⟩)) (by rfl) (by rfl) row2 s2 (by omega) (by first | exact hBA | (simp; omega)) ?_; intro v' w5 hrow hg hbk; obtain ⟨a', c', hv'⟩ := hrow.form1; subst hv'; obtain ⟨⟨z4, f4⟩, hLV⟩ := HFIN.out _ _ _ _ hN2 hB2 _ w5 hrow hg hbk))
      all_goals
        obtain ⟨vcs2, C2, D2, T2, k2, rb2, b2⟩ := hLV
        go_wp2
        go_roundg (h.calls.length - (q + 1))
        case measure => omega
        case rel => exact ⟨q + 1, vcs2, C2, D2, T2, by omega, rfl, by go_num, k2, rb2, b2⟩
    · obtain rfl : q = h.calls.length := by omega
      rw [List.take_length, lateS_zero] at k
      have HK0 : Hid (LH (w.heap.size + 1) wr (w.heap.size + 1) vcs C D T (lateS h.calls 0) (-1) ∧ Below w.heap.size w wr) := ⟨k, hb⟩
      have HRB : Hid (wr.rowIs w.heap.size 29 5 (five (.slice ac h.calls.length kc) (.int .i64 h.now) (.int .i64 h.born) (.slice aD h.said.length kD) (.int .i64 h.code))) := rb
      obtain ⟨⟨x0, x1, x2, x3, x4⟩, _⟩ := five_cells rb
      clear k hb rb
      go_wp2
      clear x0 x1 x2 x3 x4
      go_loopg [36] h.calls.length (fun gm i wr2 => ∃ q : Nat, q ≤ h.calls.length ∧ gm = h.calls.length - q ∧ i = .int .i64 q ∧ LH (w.heap.size + 1) wr2 (w.heap.size + 1) vcs C D T (lateS h.calls q) (-1) ∧ wr2.rowIs w.heap.size 29 5 (five (.slice ac h.calls.length kc) (.int .i64 h.now) (.int .i64 h.born) (.slice aD h.said.length kD) (.int .i64 h.code)) ∧ Below w.heap.size w wr2)
      case atStart => exact ⟨0, Nat.zero_le _, rfl, rfl, HK0.out.1, HRB.out, HK0.out.2⟩
      case round =>
        obtain ⟨q, hq, rfl, rfl, k, rb, hb⟩ := hrel
        clear HK0 HRB
        by_cases hlt : q < h.calls.length
        · have hqz : (q : Int) < (h.calls.length : Int) := by omega
          have hlen := lateS_len h.calls q
          obtain ⟨_, _, hve, _, hcl⟩ := HH.out.1.below hb
          cases hve
          obtain ⟨b, o, vt, vs, hbo, hcq⟩ := hcl q hlt
          subst hbo
          clear hcl
          obtain ⟨at_, ct, hvt⟩ := hcq.t.shape
          obtain ⟨as_, cs_, hvs⟩ := hcq.s.shape
          subst hvt hvs
          obtain ⟨d0, d1, d2, d3, d4, d5, dt, ds⟩ := id hcq
          have N1 : Below wr.heap.size wr (wr.alloc (.cells #[.int .i64 h.calls[q].m, .int .i64 h.calls[q].pc, .slice at_ h.calls[q].temps.length ct, .slice as_ h.calls[q].stack.length cs_, .int .i64 h.calls[q].sender, .bool h.calls[q].dead] 48)) := (Below.refl _ _).alloc (Nat.le_refl _) _
          have r6 := six_new wr 48 (.int .i64 h.calls[q].m) (.int .i64 h.calls[q].pc) (.slice at_ h.calls[q].temps.length ct) (.slice as_ h.calls[q].stack.length cs_) (.int .i64 h.calls[q].sender) (.bool h.calls[q].dead)
          have k1 := k.below N1
          have rb1 := row_below N1 rb
          have b1 : Below w.heap.size w (wr.alloc (.cells #[.int .i64 h.calls[q].m, .int .i64 h.calls[q].pc, .slice at_ h.calls[q].temps.length ct, .slice as_ h.calls[q].stack.length cs_, .int .i64 h.calls[q].sender, .bool h.calls[q].dead] 48)) := hb.trans (N1.mono hb.size)
          have hCbc : C q < wr.heap.size := (k.lo (.call q) trivial (by show q < _; omega) (C q) rfl).2
          go_upto_region 10 with fail
          clear k rb hb N1 dt ds d0 d1 d2 d3 d4 d5 hcq
          generalize wr.alloc (.cells #[.int .i64 h.calls[q].m, .int .i64 h.calls[q].pc, .slice at_ h.calls[q].temps.length ct, .slice as_ h.calls[q].stack.length cs_, .int .i64 h.calls[q].sender, .bool h.calls[q].dead] 48) = W1 at *
          generalize wr.heap.size = bc at *
          obtain ⟨⟨e0, e1, e2, e3, e4, e5⟩, _⟩ := six_cells r6
          obtain ⟨g, off, cap, hv, hl, hx⟩ := k1.ptr (by omega)
          rw [hlen] at hv hx hl
          subst hv
          have z := hx q hlt
          clear hx
          obtain ⟨⟨y0, y1⟩, _⟩ := two_cells k1.hp
          have hq' : q < (lateS h.calls q).length := by omega
          obtain ⟨⟨u0, u1, u2⟩, uf0, uf1, uf2⟩ := trio_cells (k1.cl q hq')
          have hsq := HSD.out q hlt
          have HCA := callAt_any (k1.below (Below.refl _ _).drew) h.calls[q].sender hsq.1 (by rw [hlen]; exact hsq.2)
          have hns : ((lateS h.calls q)[q]'hq').sender = -1 := by rw [lateS_at h.calls q hlt, if_neg (Nat.lt_irrefl _)]; rfl
          rw [hns, ptrN_neg (by decide)] at u2
          have k2 := k1.snd hq' h.calls[q].sender (ptrN C h.calls[q].sender) rfl
          rw [lateS_set h.calls hlt] at k2
          have hCq := k1.lo (.call q) trivial hq' (C q) rfl
          have rb2 : (W1.setCell ⟨C q, 2, none⟩ (ptrN C h.calls[q].sender)).rowIs w.heap.size 29 5 (five (.slice (some ⟨b, o, none⟩) h.calls.length kc) (.int .i64 h.now) (.int .i64 h.born) (.slice aD h.said.length kD) (.int .i64 h.code)) := rb1.of_block (Below.heap_setCell _ _ _ _ (by show w.heap.size ≠ C q; omega))
          have b2 := b1.setCell (p := ⟨C q, 2, none⟩) (by show w.heap.size ≤ C q; omega) (ptrN C h.calls[q].sender)
          obtain ⟨pq, hpq⟩ : ∃ pq, ptrN C h.calls[q].sender = .pointer pq := by
            unfold ptrN
            split
            · exact ⟨_, rfl⟩
            · exact ⟨_, rfl⟩
          rw [hpq] at k2 rb2 b2 HCA
          have HF : Hid (LH (w.heap.size + 1) (W1.setCell ⟨C q, 2, none⟩ (.pointer pq)) (w.heap.size + 1) (.slice (some ⟨g, off, none⟩) h.calls.length cap) C D T (lateS h.calls (q + 1)) (-1) ∧ (W1.setCell ⟨C q, 2, none⟩ (.pointer pq)).rowIs w.heap.size 29 5 (five (.slice (some ⟨b, o, none⟩) h.calls.length kc) (.int .i64 h.now) (.int .i64 h.born) (.slice aD h.said.length kD) (.int .i64 h.code)) ∧ Below w.heap.size w (W1.setCell ⟨C q, 2, none⟩ (.pointer pq))) := ⟨k2, rb2, b2⟩
          have n1 : w.heap.size + 1 ≠ C q := fun e => by have := k1.ap .heap (.call q) trivial trivial trivial hq' (C q) (by rw [← e]; rfl) rfl; cases this
          have n2 : g ≠ C q := fun e => by have := k1.ap .row (.call q) trivial trivial trivial hq' (C q) (by rw [← e]; rfl) rfl; cases this
          have S2 : (W1.setCell ⟨C q, 2, none⟩ (.pointer pq)).drew.cell? ⟨w.heap.size + 1, 0, none⟩ = some (.slice (some ⟨g, off, none⟩) h.calls.length cap) ∧ (W1.setCell ⟨C q, 2, none⟩ (.pointer pq)).drew.cell? ⟨g, off + q, none⟩ = some (.pointer (some ⟨C q, 0, none⟩)) ∧ (W1.setCell ⟨C q, 2, none⟩ (.pointer pq)).drew.cell? ⟨bc, 4, none⟩ = some (.int .i64 h.calls[q].sender) :=
            ⟨(World.cell?_of_block (a := ⟨w.heap.size + 1, 0, none⟩) (Below.heap_setCell _ _ _ _ n1)).trans y0, (World.cell?_of_block (a := ⟨g, off + q, none⟩) (Below.heap_setCell _ _ _ _ n2)).trans z, (World.cell?_of_block (a := ⟨bc, 4, none⟩) (Below.heap_setCell _ _ _ _ (show bc ≠ C q by omega))).trans e4⟩
          clear k1 k2 rb1 rb2 b1 b2 r6 hns hpq
          go_region_held3 (fun w' => w'.cell? ⟨w.heap.size + 1, 0, none⟩ = some (.slice (some ⟨g, off, none⟩) h.calls.length cap) ∧ w'.cell? ⟨g, off + q, none⟩ = some (.pointer (some ⟨C q, 0, none⟩)) ∧ w'.cell? ⟨bc, 4, none⟩ = some (.int .i64 h.calls[q].sender))
            (first | with_reducible exact S2 | with_reducible exact ⟨y0, z, e4⟩ | exact ⟨y0, z, e4⟩ | go_keep)
            (first | (go_at_call 57; refine HCA.mono ?_; rintro e w2 ⟨rfl, hw⟩; obtain rfl := hw.symm))
          all_goals
            go_wp2
            go_roundg (h.calls.length - (q + 1))
            case measure => omega
            case rel => exact ⟨q + 1, by omega, rfl, by go_num, HF.out.1.below (Below.refl _ _).drew, row_below (Below.refl _ _).drew HF.out.2.1, HF.out.2.2.drew⟩
        · obtain rfl : q = h.calls.length := by omega
          rw [lateS_full] at k
          obtain ⟨⟨x0, x1, x2, x3, x4⟩, _⟩ := five_cells rb
          obtain ⟨⟨y0, y1⟩, yf0, yf1⟩ := two_cells k.hp
          rw [ptrN_neg (by decide)] at y1
          have HCA := callAt_any k h.now hnow.1 hnow.2
          have k2 := k.turnNow h.now (ptrN C h.now) rfl
          have b2 := hb.setCell (p := ⟨w.heap.size + 1, 1, none⟩) (by show w.heap.size ≤ w.heap.size + 1; omega) (ptrN C h.now)
          obtain ⟨pq, hpq⟩ : ∃ pq, ptrN C h.now = .pointer pq := by
            unfold ptrN
            split
            · exact ⟨_, rfl⟩
            · exact ⟨_, rfl⟩
          rw [hpq] at k2 b2 HCA
          have HF : Hid (LH w.heap.size (wr.setCell ⟨w.heap.size + 1, 1, none⟩ (.pointer pq)) (w.heap.size + 1) vcs C D T h.calls h.now ∧ Below w.heap.size w (wr.setCell ⟨w.heap.size + 1, 1, none⟩ (.pointer pq))) := ⟨k2.lower (by omega), b2⟩
          clear k k2 b2 rb hb hpq
          go_wp2_with (go_at_call 57; refine HCA.mono ?_; rintro e w2 ⟨rfl, hw⟩; obtain rfl := hw.symm)
          go_ret
          exact ⟨_, _, _, _, _, rfl, HF.out.1, HF.out.2⟩

end Go.Proofs.YthkjgfhheejaoaaGreatDoor

/-
  A heap while the program's operations are done: each call a block of its own, its body another, who called a pointer; the lists of each in rows of their own. No two share a block.
-/
import Derived.Test.YtlpbklgkafjfmaaGreatDoorVImpl
import Derived.Test.YtlpbklgkafjfmaaGreatDoorVApart
import Derived.Test.YtlpbklgkafjfmaaGreatDoorStepT

namespace Go.Proofs.YtlpbklgkafjfmaaGreatDoor
open Go.RowKit
def trio (x0 x1 x2 : Value) : Nat → Value := fun i => if i = 0 then x0 else if i = 1 then x1 else x2
theorem trio_new (w : World) (t : TypeId) (x0 x1 x2 : Value) : (w.alloc (.cells #[x0, x1, x2] t)).rowIs w.heap.size t 3 (trio x0 x1 x2) :=
  ⟨_, Go.Deep.blk_alloc_new _ _, rfl, fun i hi => by match i, hi with | 0, _ => rfl | 1, _ => rfl | 2, _ => rfl⟩
theorem trio_cells {w : World} {g : Nat} {t : TypeId} {x0 x1 x2 : Value} (h : w.rowIs g t 3 (trio x0 x1 x2)) : (w.cell? ⟨g, 0, none⟩ = some x0 ∧ w.cell? ⟨g, 1, none⟩ = some x1 ∧ w.cell? ⟨g, 2, none⟩ = some x2) ∧ (w.frozen? ⟨g, 0, none⟩ = false ∧ w.frozen? ⟨g, 1, none⟩ = false ∧ w.frozen? ⟨g, 2, none⟩ = false) :=
  ⟨⟨h.cell (i := 0) (by decide), h.cell (i := 1) (by decide), h.cell (i := 2) (by decide)⟩, h.frozen 0, h.frozen 1, h.frozen 2⟩
theorem trio_set2 {w : World} {g : Nat} {t : TypeId} {x0 x1 x2 : Value} (h : w.rowIs g t 3 (trio x0 x1 x2)) (v : Value) : (w.setCell ⟨g, 2, none⟩ v).rowIs g t 3 (trio x0 x1 v) :=
  (h.set 2 v).congr fun i hi => by match i, hi with | 0, _ => rfl | 1, _ => rfl | 2, _ => rfl
def ptrN (C : Nat → Nat) (a : Int) : Value := if a < 0 then .pointer none else .pointer (some ⟨C a.toNat, 0, none⟩)
theorem ptrN_neg {C : Nat → Nat} {a : Int} (h : a < 0) : ptrN C a = .pointer none := if_pos h
theorem ptrN_at (C : Nat → Nat) (i : Nat) : ptrN C (i : Int) = .pointer (some ⟨C i, 0, none⟩) := by
  unfold ptrN
  rw [if_neg (by omega), Int.toNat_natCast]
inductive Blk where
  | heap | run | row | said
  | call (i : Nat) | body (i : Nat) | temps (i : Nat) | stack (i : Nat)
def Blk.ok (n : Nat) : Blk → Prop
  | .call i | .body i | .temps i | .stack i => i < n
  | _ => True
def Blk.at (bl br : Nat) (vcs vsd : Value) (C D : Nat → Nat) (T : Nat → Value × Value) : Blk → Option Nat
  | .heap => some bl
  | .run => some br
  | .row => vcs.ownBlock
  | .said => vsd.ownBlock
  | .call i => some (C i)
  | .body i => some (D i)
  | .temps i => (T i).1.ownBlock
  | .stack i => (T i).2.ownBlock
def ptrs (C : Nat → Nat) (n : Nat) : List Value := (List.range n).map fun i => .pointer (some ⟨C i, 0, none⟩)
structure LV (B : Nat) (w : World) (bl br : Nat) (vp vcs vsd : Value) (C D : Nat → Nat) (T : Nat → Value × Value) (h : Hp) : Prop where
  hp : w.rowIs bl 83 2 (two vcs (ptrN C h.now))
  rn : w.rowIs br 76 5 (five vp (.iface 70 (.pointer (some ⟨bl, 0, none⟩))) (.int .i64 h.born) vsd (.int .i64 h.code))
  row : CRow B 1 w vcs h.calls.length (ptrs C h.calls.length)
  cl : ∀ i, (hi : i < h.calls.length) → w.rowIs (C i) 98 3 (trio (.pointer (some ⟨D i, 0, none⟩)) (.int .i64 i) (ptrN C h.calls[i].sender))
  bd : ∀ i, (hi : i < h.calls.length) → w.rowIs (D i) 113 5 (five (.int .i64 h.calls[i].m) (.int .i64 h.calls[i].pc) (T i).1 (T i).2 (.bool h.calls[i].dead))
  ts : ∀ i, (hi : i < h.calls.length) → PairRow B w (T i).1 h.calls[i].temps ∧ PairRow B w (T i).2 h.calls[i].stack
  sd : PairRow B w vsd h.said
  lo : ∀ x : Blk, x.ok h.calls.length → ∀ g, x.at bl br vcs vsd C D T = some g → B ≤ g ∧ g < w.heap.size
  ap : ∀ x y : Blk, x.ok h.calls.length → y.ok h.calls.length → ∀ g, x.at bl br vcs vsd C D T = some g → y.at bl br vcs vsd C D T = some g → x = y
variable {B : Nat} {w w' : World} {bl br : Nat} {vp vcs vsd : Value} {C D : Nat → Nat} {T : Nat → Value × Value} {h h' : Hp}
theorem LV.kept (k : LV B w bl br vp vcs vsd C D T h) (hsz : w.heap.size ≤ w'.heap.size) (hb : ∀ x : Blk, x.ok h.calls.length → ∀ g, x.at bl br vcs vsd C D T = some g → w'.heap[g]? = w.heap[g]?) : LV B w' bl br vp vcs vsd C D T h :=
  ⟨k.hp.of_block (hb .heap trivial _ rfl), k.rn.of_block (hb .run trivial _ rfl), k.row.kept hsz (hb .row trivial), fun i hi => (k.cl i hi).of_block (hb (.call i) hi _ rfl), fun i hi => (k.bd i hi).of_block (hb (.body i) hi _ rfl), fun i hi => ⟨(k.ts i hi).1.kept hsz (hb (.temps i) hi), (k.ts i hi).2.kept hsz (hb (.stack i) hi)⟩, k.sd.kept hsz (hb .said trivial), fun x hx g hg => ⟨(k.lo x hx g hg).1, Nat.lt_of_lt_of_le (k.lo x hx g hg).2 hsz⟩, k.ap⟩
theorem LV.below (k : LV B w bl br vp vcs vsd C D T h) (hb : Below w.heap.size w w') : LV B w' bl br vp vcs vsd C D T h :=
  k.kept hb.size fun x hx g hg => hb.block g (k.lo x hx g hg).2
theorem LV.other (k : LV B w bl br vp vcs vsd C D T h) {x y : Blk} (hx : x.ok h.calls.length) (hy : y.ok h.calls.length) (hne : x ≠ y) {g g' : Nat} (e : x.at bl br vcs vsd C D T = some g) (e' : y.at bl br vcs vsd C D T = some g') : g ≠ g' := fun q => hne (k.ap x y hx hy g e (by rw [q]; exact e'))
theorem LV.num (k : LV B w bl br vp vcs vsd C D T h) {i : Nat} {x : Int} (hc : h'.calls = h.calls) (hs : h'.said = h.said) (hn : h'.now = h.now)
    (hR : (w.setCell ⟨br, i, none⟩ (.int .i64 x)).rowIs br 76 5 (five vp (.iface 70 (.pointer (some ⟨bl, 0, none⟩))) (.int .i64 h'.born) vsd (.int .i64 h'.code))) : LV B (w.setCell ⟨br, i, none⟩ (.int .i64 x)) bl br vp vcs vsd C D T h' := by
  obtain ⟨cs, now, born, said, code⟩ := h
  obtain ⟨cs', now', born', said', code'⟩ := h'
  simp only at hc hs hn
  subst hc hs hn
  have hz : w.heap.size ≤ (w.setCell ⟨br, i, none⟩ (.int .i64 x)).heap.size := by simp [World.setCell]
  have hbl : ∀ y : Blk, y.ok cs'.length → y ≠ .run → ∀ g, y.at bl br vcs vsd C D T = some g → (w.setCell ⟨br, i, none⟩ (.int .i64 x)).heap[g]? = w.heap[g]? := fun y hy hne g hg => Below.heap_setCell _ _ _ _ (fun q => k.other (x := y) (y := .run) hy trivial hne hg rfl q)
  exact ⟨k.hp.of_block (hbl .heap trivial (by simp) _ rfl), hR, k.row.kept hz (hbl .row trivial (by simp)), fun i hi => (k.cl i hi).of_block (hbl (.call i) hi (by simp) _ rfl), fun i hi => (k.bd i hi).of_block (hbl (.body i) hi (by simp) _ rfl), fun i hi => ⟨(k.ts i hi).1.kept hz (hbl (.temps i) hi (by simp)), (k.ts i hi).2.kept hz (hbl (.stack i) hi (by simp))⟩, k.sd.kept hz (hbl .said trivial (by simp)), fun y hy g hg => ⟨(k.lo y hy g hg).1, Nat.lt_of_lt_of_le (k.lo y hy g hg).2 hz⟩, k.ap⟩
theorem LV.turn (k : LV B w bl br vp vcs vsd C D T h) {j : Nat} (hj : j < h.calls.length) {c : Cl} {vt vs : Value} (hc : c.sender = h.calls[j].sender) (hsz : w.heap.size ≤ w'.heap.size)
    (hbl : ∀ g, g < w.heap.size → g ≠ D j → (T j).1.ownBlock ≠ some g → (T j).2.ownBlock ≠ some g → w'.heap[g]? = w.heap[g]?)
    (hbd : w'.rowIs (D j) 113 5 (five (.int .i64 c.m) (.int .i64 c.pc) vt vs (.bool c.dead))) (ht : PairRow B w' vt c.temps) (hs : PairRow B w' vs c.stack)
    (nt : ∀ q, vt.ownBlock = some q → (T j).1.ownBlock = some q ∨ (T j).2.ownBlock = some q ∨ w.heap.size ≤ q) (ns : ∀ q, vs.ownBlock = some q → (T j).1.ownBlock = some q ∨ (T j).2.ownBlock = some q ∨ w.heap.size ≤ q)
    (nn : ∀ q, vt.ownBlock = some q → vs.ownBlock ≠ some q) : LV B w' bl br vp vcs vsd C D (putV T j (vt, vs)) { h with calls := h.calls.set j c } := by
  have hl : (h.calls.set j c).length = h.calls.length := List.length_set
  have hsame : ∀ y : Blk, y ≠ .temps j → y ≠ .stack j → y.at bl br vcs vsd C D (putV T j (vt, vs)) = y.at bl br vcs vsd C D T := fun y h1 h2 => by
    cases y with
    | temps i => simp only [Blk.at]; rw [putV_other _ _ (fun e => h1 (by rw [e]))]
    | stack i => simp only [Blk.at]; rw [putV_other _ _ (fun e => h2 (by rw [e]))]
    | _ => rfl
  have hT1 : (Blk.temps j).at bl br vcs vsd C D (putV T j (vt, vs)) = vt.ownBlock := by simp only [Blk.at, putV_same]
  have hT2 : (Blk.stack j).at bl br vcs vsd C D (putV T j (vt, vs)) = vs.ownBlock := by simp only [Blk.at, putV_same]
  have hold : ∀ y : Blk, y.ok h.calls.length → y ≠ .temps j → y ≠ .stack j → ∀ g, y.at bl br vcs vsd C D T = some g → (T j).1.ownBlock ≠ some g ∧ (T j).2.ownBlock ≠ some g ∧ g < w.heap.size := fun y hy h1 h2 g hg =>
    ⟨fun e => h1 (k.ap y (.temps j) hy hj g hg e), fun e => h2 (k.ap y (.stack j) hy hj g hg e), (k.lo y hy g hg).2⟩
  have hkeep : ∀ y : Blk, y.ok h.calls.length → y ≠ .temps j → y ≠ .stack j → y ≠ .body j → ∀ g, y.at bl br vcs vsd C D T = some g → w'.heap[g]? = w.heap[g]? := fun y hy h1 h2 h3 g hg => by
    obtain ⟨a1, a2, a3⟩ := hold y hy h1 h2 g hg
    exact hbl g a3 (fun e => h3 (k.ap y (.body j) hy hj g hg (by rw [e]; rfl))) a1 a2
  have hnew : ∀ g, vt.ownBlock = some g ∨ vs.ownBlock = some g → ∀ y : Blk, y.ok h.calls.length → y ≠ .temps j → y ≠ .stack j → y.at bl br vcs vsd C D T ≠ some g := fun g hg y hy h1 h2 e => by
    obtain ⟨a1, a2, a3⟩ := hold y hy h1 h2 g e
    rcases hg with hg | hg
    · rcases nt g hg with x | x | x
      · exact a1 x
      · exact a2 x
      · omega
    · rcases ns g hg with x | x | x
      · exact a1 x
      · exact a2 x
      · omega
  have hlo : ∀ y : Blk, y.ok h.calls.length → ∀ g, y.at bl br vcs vsd C D (putV T j (vt, vs)) = some g → B ≤ g ∧ g < w'.heap.size := fun y hy g hg => by
    by_cases e1 : y = .temps j
    · subst e1; rw [hT1] at hg; exact ht.lt g hg
    by_cases e2 : y = .stack j
    · subst e2; rw [hT2] at hg; exact hs.lt g hg
    rw [hsame y e1 e2] at hg
    have := k.lo y hy g hg
    omega
  have hap : ∀ x y : Blk, x.ok h.calls.length → y.ok h.calls.length → ∀ g, x.at bl br vcs vsd C D (putV T j (vt, vs)) = some g → y.at bl br vcs vsd C D (putV T j (vt, vs)) = some g → x = y := fun x y hx hy g hgx hgy => by
    by_cases x1 : x = .temps j
    · subst x1
      rw [hT1] at hgx
      by_cases y1 : y = .temps j
      · exact y1.symm
      by_cases y2 : y = .stack j
      · subst y2; rw [hT2] at hgy; exact absurd hgy (nn g hgx)
      rw [hsame y y1 y2] at hgy
      exact absurd hgy (hnew g (.inl hgx) y hy y1 y2)
    by_cases x2 : x = .stack j
    · subst x2
      rw [hT2] at hgx
      by_cases y1 : y = .temps j
      · subst y1; rw [hT1] at hgy; exact absurd hgx (nn g hgy)
      by_cases y2 : y = .stack j
      · exact y2.symm
      rw [hsame y y1 y2] at hgy
      exact absurd hgy (hnew g (.inr hgx) y hy y1 y2)
    rw [hsame x x1 x2] at hgx
    by_cases y1 : y = .temps j
    · subst y1; rw [hT1] at hgy; exact absurd hgx (hnew g (.inl hgy) x hx x1 x2)
    by_cases y2 : y = .stack j
    · subst y2; rw [hT2] at hgy; exact absurd hgx (hnew g (.inr hgy) x hx x1 x2)
    rw [hsame y y1 y2] at hgy
    exact k.ap x y hx hy g hgx hgy
  refine ⟨k.hp.of_block (hkeep .heap trivial (by simp) (by simp) (by simp) _ rfl), k.rn.of_block (hkeep .run trivial (by simp) (by simp) (by simp) _ rfl), ?_, fun i hi => ?_, fun i hi => ?_, fun i hi => ?_, k.sd.kept hsz (hkeep .said trivial (by simp) (by simp) (by simp)), ?_, ?_⟩
  · simp only [hl]
    exact k.row.kept hsz (hkeep .row trivial (by simp) (by simp) (by simp))
  · simp only [hl] at hi
    have h0 := (k.cl i hi).of_block (hkeep (.call i) hi (by simp) (by simp) (by simp) _ rfl)
    by_cases e : j = i
    · subst e; simp only [List.getElem_set_self]; rw [hc]; exact h0
    · simp only [List.getElem_set_ne e]; exact h0
  · simp only [hl] at hi
    by_cases e : j = i
    · subst e; simp only [List.getElem_set_self, putV_same]; exact hbd
    · simp only [List.getElem_set_ne e, putV_other T (vt, vs) (Ne.symm e)]
      exact (k.bd i hi).of_block (hkeep (.body i) hi (by simp) (by simp) (fun q => e (by injection q with q; exact q.symm)) _ rfl)
  · simp only [hl] at hi
    by_cases e : j = i
    · subst e; simp only [List.getElem_set_self, putV_same]; exact ⟨ht, hs⟩
    · simp only [List.getElem_set_ne e, putV_other T (vt, vs) (Ne.symm e)]
      exact ⟨(k.ts i hi).1.kept hsz (hkeep (.temps i) hi (fun q => e (by injection q with q; exact q.symm)) (by simp) (by simp)), (k.ts i hi).2.kept hsz (hkeep (.stack i) hi (by simp) (fun q => e (by injection q with q; exact q.symm)) (by simp))⟩
  · simp only [hl]; exact hlo
  · simp only [hl]; exact hap
theorem LV.say (k : LV B w bl br vp vcs vsd C D T h) (v' : Value) (sd' : List (Int × Int)) (hsz : w.heap.size ≤ w'.heap.size) (hbl : ∀ g, g < w.heap.size → vsd.ownBlock ≠ some g → w'.heap[g]? = w.heap[g]?) (hr : PairRow B w' v' sd') (hv : ∀ q, v'.ownBlock = some q → vsd.ownBlock = some q ∨ w.heap.size ≤ q) :
    LV B (w'.setCell ⟨br, 3, none⟩ v') bl br vp vcs v' C D T { h with said := sd' } := by
  have hz : w.heap.size ≤ (w'.setCell ⟨br, 3, none⟩ v').heap.size := by simp [World.setCell]; exact hsz
  have hsame : ∀ y : Blk, y ≠ .said → y.at bl br vcs v' C D T = y.at bl br vcs vsd C D T := fun y h1 => by cases y <;> first | rfl | exact absurd rfl h1
  have hkeep1 : ∀ y : Blk, y.ok h.calls.length → y ≠ .said → ∀ g, y.at bl br vcs vsd C D T = some g → w'.heap[g]? = w.heap[g]? := fun y hy h1 g hg => hbl g (k.lo y hy g hg).2 (fun e => h1 (k.ap y .said hy trivial g hg e))
  have hkeep : ∀ y : Blk, y.ok h.calls.length → y ≠ .said → y ≠ .run → ∀ g, y.at bl br vcs vsd C D T = some g → (w'.setCell ⟨br, 3, none⟩ v').heap[g]? = w.heap[g]? := fun y hy h1 h2 g hg => (Below.heap_setCell _ _ _ _ (fun q => k.other (x := y) (y := .run) hy trivial h2 hg rfl q)).trans (hkeep1 y hy h1 g hg)
  have hnew : ∀ g, v'.ownBlock = some g → ∀ y : Blk, y.ok h.calls.length → y ≠ .said → y.at bl br vcs vsd C D T ≠ some g := fun g hg y hy h1 e => by
    rcases hv g hg with x | x
    · exact h1 (k.ap y .said hy trivial g e x)
    · have := (k.lo y hy g e).2; omega
  have hvr : v'.ownBlock ≠ some br := fun e => hnew br e .run trivial (by simp) rfl
  refine ⟨k.hp.of_block (hkeep .heap trivial (by simp) (by simp) _ rfl), five_set3 (k.rn.of_block (hkeep1 .run trivial (by simp) _ rfl)) v', k.row.kept hz (hkeep .row trivial (by simp) (by simp)), fun i hi => (k.cl i hi).of_block (hkeep (.call i) hi (by simp) (by simp) _ rfl), fun i hi => (k.bd i hi).of_block (hkeep (.body i) hi (by simp) (by simp) _ rfl), fun i hi => ⟨(k.ts i hi).1.kept hz (hkeep (.temps i) hi (by simp) (by simp)), (k.ts i hi).2.kept hz (hkeep (.stack i) hi (by simp) (by simp))⟩, hr.set_other _ hvr, fun x hx g hg => ?_, fun x y hx hy g hgx hgy => ?_⟩
  · by_cases e1 : x = .said
    · subst e1
      have := hr.lt g hg
      exact ⟨this.1, by simp [World.setCell]; exact this.2⟩
    · rw [hsame x e1] at hg
      have := k.lo x hx g hg
      exact ⟨this.1, by omega⟩
  · by_cases x1 : x = .said
    · subst x1
      by_cases y1 : y = .said
      · exact y1.symm
      · rw [hsame y y1] at hgy
        exact absurd hgy (hnew g hgx y hy y1)
    · rw [hsame x x1] at hgx
      by_cases y1 : y = .said
      · subst y1
        exact absurd hgx (hnew g hgy x hx x1)
      · rw [hsame y y1] at hgy
        exact k.ap x y hx hy g hgx hgy
theorem LV.now (k : LV B w bl br vp vcs vsd C D T h) (a : Int) (v : Value) (hv : v = ptrN C a) : LV B (w.setCell ⟨bl, 1, none⟩ v) bl br vp vcs vsd C D T { h with now := a } := by
  subst hv
  have hz : w.heap.size ≤ (w.setCell ⟨bl, 1, none⟩ (ptrN C a)).heap.size := by simp [World.setCell]
  have hbl : ∀ y : Blk, y.ok h.calls.length → y ≠ .heap → ∀ g, y.at bl br vcs vsd C D T = some g → (w.setCell ⟨bl, 1, none⟩ (ptrN C a)).heap[g]? = w.heap[g]? := fun y hy hne g hg => Below.heap_setCell _ _ _ _ (fun q => k.other (x := y) (y := .heap) hy trivial hne hg rfl q)
  exact ⟨(k.hp.set 1 (ptrN C a)).congr fun i hi => by match i, hi with | 0, _ => rfl | 1, _ => rfl, k.rn.of_block (hbl .run trivial (by simp) _ rfl), k.row.kept hz (hbl .row trivial (by simp)), fun i hi => (k.cl i hi).of_block (hbl (.call i) hi (by simp) _ rfl), fun i hi => (k.bd i hi).of_block (hbl (.body i) hi (by simp) _ rfl), fun i hi => ⟨(k.ts i hi).1.kept hz (hbl (.temps i) hi (by simp)), (k.ts i hi).2.kept hz (hbl (.stack i) hi (by simp))⟩, k.sd.kept hz (hbl .said trivial (by simp)), fun y hy g hg => ⟨(k.lo y hy g hg).1, Nat.lt_of_lt_of_le (k.lo y hy g hg).2 hz⟩, k.ap⟩
theorem LV.snd (k : LV B w bl br vp vcs vsd C D T h) {j : Nat} (hj : j < h.calls.length) (a : Int) (v : Value) (hv : v = ptrN C a) : LV B (w.setCell ⟨C j, 2, none⟩ v) bl br vp vcs vsd C D T { h with calls := h.calls.set j { h.calls[j] with sender := a } } := by
  subst hv
  have hl : (h.calls.set j { h.calls[j] with sender := a }).length = h.calls.length := List.length_set
  have hz : w.heap.size ≤ (w.setCell ⟨C j, 2, none⟩ (ptrN C a)).heap.size := by simp [World.setCell]
  have hbl : ∀ y : Blk, y.ok h.calls.length → y ≠ .call j → ∀ g, y.at bl br vcs vsd C D T = some g → (w.setCell ⟨C j, 2, none⟩ (ptrN C a)).heap[g]? = w.heap[g]? := fun y hy hne g hg => Below.heap_setCell _ _ _ _ (fun q => k.other (x := y) (y := .call j) hy hj hne hg rfl q)
  have hgt : ∀ i, (hi : i < h.calls.length) → ((h.calls.set j { h.calls[j] with sender := a })[i]'(by rw [hl]; exact hi)).m = h.calls[i].m ∧ ((h.calls.set j { h.calls[j] with sender := a })[i]'(by rw [hl]; exact hi)).pc = h.calls[i].pc ∧ ((h.calls.set j { h.calls[j] with sender := a })[i]'(by rw [hl]; exact hi)).temps = h.calls[i].temps ∧ ((h.calls.set j { h.calls[j] with sender := a })[i]'(by rw [hl]; exact hi)).stack = h.calls[i].stack ∧ ((h.calls.set j { h.calls[j] with sender := a })[i]'(by rw [hl]; exact hi)).dead = h.calls[i].dead := fun i hi => by
    by_cases e : j = i
    · subst e; simp
    · simp [List.getElem_set_ne e]
  refine ⟨k.hp.of_block (hbl .heap trivial (by simp) _ rfl), k.rn.of_block (hbl .run trivial (by simp) _ rfl), ?_, fun i hi => ?_, fun i hi => ?_, fun i hi => ?_, k.sd.kept hz (hbl .said trivial (by simp)), ?_, ?_⟩
  · simp only [hl]; exact k.row.kept hz (hbl .row trivial (by simp))
  · simp only [hl] at hi
    by_cases e : j = i
    · subst e; simp only [List.getElem_set_self]; exact trio_set2 (k.cl j hi) (ptrN C a)
    · simp only [List.getElem_set_ne e]
      exact (k.cl i hi).of_block (hbl (.call i) hi (fun q => e (by injection q with q; exact q.symm)) _ rfl)
  · simp only [hl] at hi
    obtain ⟨g1, g2, g3, g4, g5⟩ := hgt i hi
    rw [g1, g2, g5]
    exact (k.bd i hi).of_block (hbl (.body i) hi (by simp) _ rfl)
  · simp only [hl] at hi
    obtain ⟨g1, g2, g3, g4, g5⟩ := hgt i hi
    rw [g3, g4]
    exact ⟨(k.ts i hi).1.kept hz (hbl (.temps i) hi (by simp)), (k.ts i hi).2.kept hz (hbl (.stack i) hi (by simp))⟩
  · simp only [hl]; exact fun y hy g hg => ⟨(k.lo y hy g hg).1, Nat.lt_of_lt_of_le (k.lo y hy g hg).2 hz⟩
  · simp only [hl]; exact k.ap
def updN (C : Nat → Nat) (n c : Nat) : Nat → Nat := fun i => if i = n then c else C i
theorem updN_same (C : Nat → Nat) (n c : Nat) : updN C n c n = c := if_pos rfl
theorem updN_other (C : Nat → Nat) {n c i : Nat} (h : i ≠ n) : updN C n c i = C i := if_neg h
theorem ptrs_snoc (C : Nat → Nat) (n c : Nat) : ptrs (updN C n c) (n + 1) = ptrs C n ++ [.pointer (some ⟨c, 0, none⟩)] := by
  unfold ptrs
  rw [List.range_succ, List.map_append, List.map_singleton, updN_same]
  congr 1
  exact List.map_congr_left fun i hi => by rw [updN_other _ (by simp at hi; omega)]
theorem ptrN_more {C : Nat → Nat} {n c : Nat} {a : Int} (h : a < (n : Int)) : ptrN (updN C n c) a = ptrN C a := by
  unfold ptrN
  by_cases e : a < 0
  · rw [if_pos e, if_pos e]
  · rw [if_neg e, if_neg e, updN_other _ (by omega)]
theorem LV.enter (k : LV B w bl br vp vcs vsd C D T h) {c d : Nat} {vt vcs' : Value} {cl : Cl} (hst : cl.stack = []) (hsn : cl.sender = h.now) (hnow : h.now < (h.calls.length : Int)) (hsd : ∀ i, (hi : i < h.calls.length) → h.calls[i].sender < (h.calls.length : Int))
    (hB : B ≤ w.heap.size) (hc : w.heap.size ≤ c) (hd : w.heap.size ≤ d) (hcd : c ≠ d) (hsz : w.heap.size ≤ w'.heap.size) (hbl : ∀ g, g < w.heap.size → g ≠ bl → vcs.ownBlock ≠ some g → w'.heap[g]? = w.heap[g]?)
    (hhp : w'.rowIs bl 83 2 (two vcs' (.pointer (some ⟨c, 0, none⟩)))) (hrow : CRow B 1 w' vcs' (h.calls.length + 1) (ptrs C h.calls.length ++ [.pointer (some ⟨c, 0, none⟩)]))
    (hcl : w'.rowIs c 98 3 (trio (.pointer (some ⟨d, 0, none⟩)) (.int .i64 h.calls.length) (ptrN C h.now)))
    (hbd : w'.rowIs d 113 5 (five (.int .i64 cl.m) (.int .i64 cl.pc) vt (.slice none 0 0) (.bool cl.dead))) (ht : PairRow B w' vt cl.temps)
    (nv : ∀ q, vcs'.ownBlock = some q → vcs.ownBlock = some q ∨ (w.heap.size ≤ q ∧ q ≠ c ∧ q ≠ d)) (nt : ∀ q, vt.ownBlock = some q → w.heap.size ≤ q ∧ q ≠ c ∧ q ≠ d ∧ vcs'.ownBlock ≠ some q) :
    LV B w' bl br vp vcs' vsd (updN C h.calls.length c) (updN D h.calls.length d) (putV T h.calls.length (vt, .slice none 0 0)) { h with calls := h.calls ++ [cl], now := (h.calls.length : Int) } := by
  obtain ⟨cs, now, born, said, code⟩ := h
  simp only at *
  have hl : (cs ++ [cl]).length = cs.length + 1 := by simp
  have hold : ∀ y : Blk, y.ok cs.length → y ≠ .row → y.at bl br vcs' vsd (updN C cs.length c) (updN D cs.length d) (putV T cs.length (vt, .slice none 0 0)) = y.at bl br vcs vsd C D T := fun y hy h1 => by
    cases y with
    | row => exact absurd rfl h1
    | call i => simp only [Blk.at]; rw [updN_other _ (by have : i < cs.length := hy; omega)]
    | body i => simp only [Blk.at]; rw [updN_other _ (by have : i < cs.length := hy; omega)]
    | temps i => simp only [Blk.at]; rw [putV_other _ _ (by have : i < cs.length := hy; omega)]
    | stack i => simp only [Blk.at]; rw [putV_other _ _ (by have : i < cs.length := hy; omega)]
    | _ => rfl
  have hnok : ∀ y : Blk, y.ok (cs.length + 1) → ¬ y.ok cs.length → y = .call cs.length ∨ y = .body cs.length ∨ y = .temps cs.length ∨ y = .stack cs.length := fun y h1 h2 => by
    cases y with
    | call i => left; have q1 : i < cs.length + 1 := h1; have q2 : ¬ i < cs.length := h2; congr 1; omega
    | body i => right; left; have q1 : i < cs.length + 1 := h1; have q2 : ¬ i < cs.length := h2; congr 1; omega
    | temps i => right; right; left; have q1 : i < cs.length + 1 := h1; have q2 : ¬ i < cs.length := h2; congr 1; omega
    | stack i => right; right; right; have q1 : i < cs.length + 1 := h1; have q2 : ¬ i < cs.length := h2; congr 1; omega
    | _ => exact absurd trivial h2
  have aC : (Blk.call cs.length).at bl br vcs' vsd (updN C cs.length c) (updN D cs.length d) (putV T cs.length (vt, .slice none 0 0)) = some c := by simp only [Blk.at, updN_same]
  have aD : (Blk.body cs.length).at bl br vcs' vsd (updN C cs.length c) (updN D cs.length d) (putV T cs.length (vt, .slice none 0 0)) = some d := by simp only [Blk.at, updN_same]
  have aT : (Blk.temps cs.length).at bl br vcs' vsd (updN C cs.length c) (updN D cs.length d) (putV T cs.length (vt, .slice none 0 0)) = vt.ownBlock := by simp only [Blk.at, putV_same]
  have aS : (Blk.stack cs.length).at bl br vcs' vsd (updN C cs.length c) (updN D cs.length d) (putV T cs.length (vt, .slice none 0 0)) = none := by simp only [Blk.at, putV_same]; rfl
  have hkeep : ∀ y : Blk, y.ok cs.length → y ≠ .row → y ≠ .heap → ∀ g, y.at bl br vcs vsd C D T = some g → w'.heap[g]? = w.heap[g]? := fun y hy h1 h2 g hg =>
    hbl g (k.lo y hy g hg).2 (fun e => h2 (k.ap y .heap hy trivial g hg (by rw [e]; rfl))) (fun e => h1 (k.ap y .row hy trivial g hg e))
  -- where the row lies
  have hrw : ∀ y : Blk, y.ok cs.length → y ≠ .row → ∀ g, y.at bl br vcs vsd C D T = some g → vcs'.ownBlock ≠ some g := fun y hy h1 g hg e => by
    rcases nv g e with x | x
    · exact h1 (k.ap y .row hy trivial g hg x)
    · have := (k.lo y hy g hg).2; omega
  have hlow : ∀ y : Blk, y.ok cs.length → y ≠ .row → ∀ g, y.at bl br vcs vsd C D T = some g → g ≠ c ∧ g ≠ d ∧ vt.ownBlock ≠ some g := fun y hy h1 g hg => by
    have h2 := (k.lo y hy g hg).2
    exact ⟨by omega, by omega, fun e => by have := (nt g e).1; omega⟩
  have hrn : vcs'.ownBlock ≠ some c ∧ vcs'.ownBlock ≠ some d := by
    refine ⟨fun e => ?_, fun e => ?_⟩
    · rcases nv c e with x | x
      · have := (k.lo .row trivial c x).2; omega
      · exact x.2.1 rfl
    · rcases nv d e with x | x
      · have := (k.lo .row trivial d x).2; omega
      · exact x.2.2 rfl
  have hap1 : ∀ x y : Blk, x.ok cs.length → y.ok (cs.length + 1) → ¬ y.ok cs.length → ∀ g, x.at bl br vcs' vsd (updN C cs.length c) (updN D cs.length d) (putV T cs.length (vt, .slice none 0 0)) = some g → y.at bl br vcs' vsd (updN C cs.length c) (updN D cs.length d) (putV T cs.length (vt, .slice none 0 0)) = some g → False := fun x y hx hy hny g hgx hgy => by
    have hx3 : g ≠ c ∧ g ≠ d ∧ vt.ownBlock ≠ some g := by
      by_cases x1 : x = .row
      · subst x1
        have e : vcs'.ownBlock = some g := hgx
        exact ⟨fun q => hrn.1 (by rw [← q]; exact e), fun q => hrn.2 (by rw [← q]; exact e), fun q => (nt g q).2.2.2 e⟩
      · rw [hold x hx x1] at hgx
        exact hlow x hx x1 g hgx
    rcases hnok y hy hny with rfl | rfl | rfl | rfl
    · rw [aC] at hgy; injection hgy with q; exact hx3.1 q.symm
    · rw [aD] at hgy; injection hgy with q; exact hx3.2.1 q.symm
    · rw [aT] at hgy; exact hx3.2.2 hgy
    · rw [aS] at hgy; cases hgy
  have hap : ∀ x y : Blk, x.ok (cs.length + 1) → y.ok (cs.length + 1) → ∀ g, x.at bl br vcs' vsd (updN C cs.length c) (updN D cs.length d) (putV T cs.length (vt, .slice none 0 0)) = some g → y.at bl br vcs' vsd (updN C cs.length c) (updN D cs.length d) (putV T cs.length (vt, .slice none 0 0)) = some g → x = y := fun x y hx hy g hgx hgy => by
    by_cases x1 : x.ok cs.length
    · by_cases y1 : y.ok cs.length
      · by_cases x2 : x = .row
        · subst x2
          by_cases y2 : y = .row
          · exact y2.symm
          · rw [hold y y1 y2] at hgy; exact absurd hgx (hrw y y1 y2 g hgy)
        · rw [hold x x1 x2] at hgx
          by_cases y2 : y = .row
          · subst y2; exact absurd hgy (hrw x x1 x2 g hgx)
          · rw [hold y y1 y2] at hgy; exact k.ap x y x1 y1 g hgx hgy
      · exact (hap1 x y x1 hy y1 g hgx hgy).elim
    · by_cases y1 : y.ok cs.length
      · exact (hap1 y x y1 hx x1 g hgy hgx).elim
      · rcases hnok x hx x1 with rfl | rfl | rfl | rfl <;> rcases hnok y hy y1 with rfl | rfl | rfl | rfl
        · rfl
        · rw [aC] at hgx; rw [aD] at hgy; injection hgx with q; injection hgy with q'; omega
        · rw [aC] at hgx; rw [aT] at hgy; injection hgx with q; exact absurd q.symm (nt g hgy).2.1
        · rw [aS] at hgy; cases hgy
        · rw [aD] at hgx; rw [aC] at hgy; injection hgx with q; injection hgy with q'; omega
        · rfl
        · rw [aD] at hgx; rw [aT] at hgy; injection hgx with q; exact absurd q.symm (nt g hgy).2.2.1
        · rw [aS] at hgy; cases hgy
        · rw [aC] at hgy; rw [aT] at hgx; injection hgy with q; exact absurd q.symm (nt g hgx).2.1
        · rw [aD] at hgy; rw [aT] at hgx; injection hgy with q; exact absurd q.symm (nt g hgx).2.2.1
        · rfl
        · rw [aS] at hgy; cases hgy
        · rw [aS] at hgx; cases hgx
        · rw [aS] at hgx; cases hgx
        · rw [aS] at hgx; cases hgx
        · rfl
  refine ⟨?_, k.rn.of_block (hkeep .run trivial (by simp) (by simp) _ rfl), ?_, fun i hi => ?_, fun i hi => ?_, fun i hi => ?_, k.sd.kept hsz (hkeep .said trivial (by simp) (by simp)), ?_, ?_⟩
  · rw [ptrN_at, updN_same]; exact hhp
  · simp only [hl]; rw [ptrs_snoc]; exact hrow
  · simp only [hl] at hi
    by_cases e : i < cs.length
    · have e' : i < cs.length := by omega
      simp only [List.getElem_append_left e']
      rw [updN_other _ (by omega), updN_other _ (by omega), ptrN_more (hsd i e')]
      exact (k.cl i e').of_block (hkeep (.call i) e (by simp) (by simp) _ rfl)
    · have e2 : i = cs.length := by omega
      subst e2
      have e3 : (cs ++ [cl])[cs.length]'(by rw [hl]; omega) = cl := by rw [List.getElem_append_right (by omega)]; simp
      simp only [e3]
      rw [updN_same, updN_same, hsn, ptrN_more hnow]
      exact hcl
  · simp only [hl] at hi
    by_cases e : i < cs.length
    · have e' : i < cs.length := by omega
      simp only [List.getElem_append_left e']
      rw [updN_other _ (by omega), putV_other _ _ (by omega)]
      exact (k.bd i e').of_block (hkeep (.body i) e (by simp) (by simp) _ rfl)
    · have e2 : i = cs.length := by omega
      subst e2
      have e3 : (cs ++ [cl])[cs.length]'(by rw [hl]; omega) = cl := by rw [List.getElem_append_right (by omega)]; simp
      simp only [e3]
      rw [updN_same, putV_same]
      exact hbd
  · simp only [hl] at hi
    by_cases e : i < cs.length
    · have e' : i < cs.length := by omega
      simp only [List.getElem_append_left e']
      rw [putV_other _ _ (by omega)]
      exact ⟨(k.ts i e').1.kept hsz (hkeep (.temps i) e (by simp) (by simp)), (k.ts i e').2.kept hsz (hkeep (.stack i) e (by simp) (by simp))⟩
    · have e2 : i = cs.length := by omega
      subst e2
      have e3 : (cs ++ [cl])[cs.length]'(by rw [hl]; omega) = cl := by rw [List.getElem_append_right (by omega)]; simp
      simp only [e3]
      rw [putV_same, hst]
      exact ⟨ht, PairRow.nil _ _⟩
  · simp only [hl]
    intro x hx g hg
    by_cases x1 : x.ok cs.length
    · by_cases x2 : x = .row
      · subst x2
        exact hrow.lt g hg
      · rw [hold x x1 x2] at hg
        have := k.lo x x1 g hg
        omega
    · rcases hnok x hx x1 with rfl | rfl | rfl | rfl
      · rw [aC] at hg; injection hg with q; subst q; exact ⟨by omega, hcl.lt⟩
      · rw [aD] at hg; injection hg with q; subst q; exact ⟨by omega, hbd.lt⟩
      · rw [aT] at hg; exact ht.lt g hg
      · rw [aS] at hg; cases hg
  · simp only [hl]; exact hap
end Go.Proofs.YtlpbklgkafjfmaaGreatDoor

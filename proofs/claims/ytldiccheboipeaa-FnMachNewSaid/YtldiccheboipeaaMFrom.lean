/-
  What holds while the blocks from B on stay (From); rows that are filled one element behind the other (Cop). Nothing of the translation is used here.
-/
import Derived.Test.YtldiccheboipeaaMBase
import Derived.Lib.LazyBuf
namespace Go.Proofs.Ytldiccheboipeaa
open Go.RowKit

/-- it holds, and goes on to hold while the blocks from B on stay -/
def From (B : Nat) (w : World) (R : World → Prop) : Prop :=
  ∀ w'' : World, w.heap.size ≤ w''.heap.size → (∀ g, B ≤ g → g < w.heap.size → w''.heap[g]? = w.heap[g]?) → R w''

theorem From.here {B : Nat} {w : World} {R : World → Prop} (h : From B w R) : R w := h w (Nat.le_refl _) fun _ _ _ => rfl
theorem From.mono {B B' : Nat} {w : World} {R : World → Prop} (h : From B w R) (hB : B' ≤ B) : From B' w R := fun w'' hs hk => h w'' hs fun g h1 h2 => hk g (Nat.le_trans hB h1) h2
theorem From.imp {B : Nat} {w : World} {R R' : World → Prop} (h : From B w R) (hR : ∀ w'', R w'' → R' w'') : From B w R' := fun w'' hs hk => hR _ (h w'' hs hk)
theorem From.below {B : Nat} {w w' : World} {R : World → Prop} (h : From B w R) (hb : Below w.heap.size w w') : From B w' R :=
  fun w'' hs hk => h w'' (Nat.le_trans hb.size hs) fun g h1 h2 => (hk g h1 (Nat.lt_of_lt_of_le h2 hb.size)).trans (hb.block g h2)
theorem From.wr {B : Nat} {T : Nat → Prop} {w w' : World} {R : World → Prop} (h : From B w R) (hw : Wr T w w') (hT : ∀ g, B ≤ g → ¬ T g) : From B w' R :=
  fun w'' hs hk => h w'' (Nat.le_trans hw.size hs) fun g h1 h2 => (hk g h1 (Nat.lt_of_lt_of_le h2 hw.size)).trans (hw.block g h2 (hT g h1))
theorem From.wr1 {B k : Nat} {w w' : World} {R : World → Prop} (h : From B w R) (hw : Wr (fun g => g = k) w w') (hk : k < B) : From B w' R := h.wr hw fun g h1 e => by omega
theorem From.and {B : Nat} {w : World} {R R' : World → Prop} (h : From B w R) (h' : From B w R') : From B w (fun w'' => R w'' ∧ R' w'') := fun w'' hs hk => ⟨h w'' hs hk, h' w'' hs hk⟩
theorem From.pure {B : Nat} {w : World} {p : Prop} (h : p) : From B w (fun _ => p) := fun _ _ _ => h
theorem Bx.from {B g : Nat} {w : World} {t : TypeId} {l : List Value} (h : Bx w g t l) (hB : B ≤ g) : From B w (fun w'' => Bx w'' g t l) := fun _ _ hk => h.kept (hk g hB h.lt)
theorem row_from {B g n : Nat} {w : World} {t : TypeId} {f : Nat → Value} (h : w.rowIs g t n f) (hB : B ≤ g) : From B w (fun w'' => w''.rowIs g t n f) := fun _ _ hk => h.of_block (hk g hB h.lt)

theorem OpsAt.from {B g n c : Nat} {w : World} {xs : List (Int × Int)} (h : OpsAt w (.slice (some ⟨g, 0, none⟩) n c) xs) (hB : B ≤ g) : From B w (fun w'' => OpsAt w'' (.slice (some ⟨g, 0, none⟩) n c) xs) := by
  intro w'' _ hk
  obtain ⟨a, cap, hv, hl, hc⟩ := h
  refine ⟨a, cap, hv, hl, fun i hi => ?_⟩
  obtain ⟨b, o, ha, h0, h1⟩ := hc i hi
  have hbg : b = g := by
    rw [ha] at hv
    injection hv with h1 _ _
    injection h1 with h1
    injection h1 with h1 _
    exact h1.symm
  have e := hk b (by omega) (World.block_lt_of_cell? _ _ h0)
  exact ⟨b, o, ha, by rw [World.cell?_of_block (a := ⟨b, o + i * 2, none⟩) e]; exact h0, by rw [World.cell?_of_block (a := ⟨b, o + i * 2 + 1, none⟩) e]; exact h1⟩

theorem Wr.cells {g : Nat} {w : World} : ∀ (vs : List Value) (o : Nat) (w' : World), Wr (fun k => k = g) w w' → Wr (fun k => k = g) w (w'.setCells g o vs)
  | [], _, _, h => h
  | v :: r, o, _, h => Wr.cells r (o + 1) _ (h.set1 (o := o) v)

/-- n elements of sz cells in a row, the first k of them laid: c i the cells of element i -/
def RowTo (w : World) (g : Nat) (t : TypeId) (n sz k : Nat) (z : List Value) (c : Nat → List Value) : Prop :=
  w.rowIs g t (n * sz) fun j => if j < k * sz then (c (j / sz)).getD (j % sz) default else z.getD (j % sz) default

theorem RowTo.start (w : World) (t : TypeId) (n sz : Nat) (z : List Value) (c : Nat → List Value) (hz : z.length = sz) : RowTo (w.alloc (.cells (madeCells z.toArray (n * sz)) t)) w.heap.size t n sz 0 z c := by
  refine ⟨_, Go.Deep.blk_alloc_new _ _, size_madeCells _ _, fun i hi => ?_⟩
  have hs : 0 < sz := by
    rcases Nat.eq_zero_or_pos sz with h | h
    · subst h; simp at hi
    · exact h
  show _ = some (if i < 0 * sz then _ else _)
  rw [if_neg (by omega)]
  simp [madeCells, hi, hz]

theorem RowTo.step {w : World} {g : Nat} {t : TypeId} {n sz k : Nat} {z : List Value} {c : Nat → List Value} (h : RowTo w g t n sz k z c) (v : List Value) (hv : v.length = sz) : RowTo (w.setCells g (k * sz) v) g t n sz (k + 1) z (fun i => if i = k then v else c i) := by
  refine (rowIs_setCells v (k * sz) w _ h).congr fun j _ => ?_
  rw [hv]
  by_cases h1 : k * sz ≤ j ∧ j < k * sz + sz
  · have hd : j / sz = k := by
      rw [show j = (j - k * sz) + k * sz by omega, Nat.add_mul_div_right _ _ (by omega), Nat.div_eq_of_lt (by omega), Nat.zero_add]
    have hm : j % sz = j - k * sz := by
      conv => lhs; rw [show j = (j - k * sz) + k * sz by omega, Nat.add_mul_mod_self_right, Nat.mod_eq_of_lt (by omega)]
    rw [if_pos h1, if_pos (by rw [Nat.add_mul]; omega), hd, hm]
    simp only [if_true, List.getD_eq_getElem?_getD]
  · rw [if_neg h1]
    by_cases h2 : j < k * sz
    · have hd : j / sz ≠ k := by
        intro e
        have := Nat.div_mul_le_self j sz
        rw [e] at this
        omega
      rw [if_pos h2, if_pos (by rw [Nat.add_mul]; omega)]
      simp only [if_neg hd]
    · rw [if_neg h2, if_neg (by rw [Nat.add_mul]; omega)]

/-- what has been copied so far: E i v w'' says that the cells v are element i -/
def Cop (w wr : World) (t : TypeId) (n sz k : Nat) (z : List Value) (E : Nat → List Value → World → Prop) : Prop :=
  ∃ c, Below w.heap.size w wr ∧ RowTo wr w.heap.size t n sz k z c ∧ ∀ i, i < k → (c i).length = sz ∧ From (w.heap.size + 1) wr (E i (c i))

theorem Cop.start (w : World) (t : TypeId) (n sz : Nat) (z : List Value) (E : Nat → List Value → World → Prop) (hz : z.length = sz) : Cop w (w.alloc (.cells (madeCells z.toArray (n * sz)) t)) t n sz 0 z E :=
  ⟨fun _ => [], (Below.refl _ _).alloc (Nat.le_refl _) _, RowTo.start _ _ _ _ _ _ hz, fun _ h => absurd h (Nat.not_lt_zero _)⟩

theorem Cop.step {w wr w1 : World} {t : TypeId} {n sz k : Nat} {z : List Value} {E : Nat → List Value → World → Prop} (h : Cop w wr t n sz k z E) (hb : Below wr.heap.size wr w1) (v : List Value) (hv : v.length = sz) (hE : From wr.heap.size w1 (E k v)) :
    Cop w (w1.setCells w.heap.size (k * sz) v) t n sz (k + 1) z E := by
  obtain ⟨c, hB, hrow, hV⟩ := h
  have hlt : w.heap.size < wr.heap.size := World.rowIs.lt hrow
  have hrow1 : RowTo w1 w.heap.size t n sz k z c := row_below hb hrow
  have hW := Wr.cells v (k * sz) w1 (Wr.refl1 w.heap.size w1)
  refine ⟨fun i => if i = k then v else c i, hW.below1 (hB.trans (hb.mono (Nat.le_of_lt hlt))) (Nat.le_refl _) (Nat.le_refl _), hrow1.step v hv, fun i hi => ?_⟩
  by_cases e : i = k
  · subst e
    simp only [if_true]
    exact ⟨hv, (hE.mono hlt).wr1 hW (Nat.lt_succ_self _)⟩
  · simp only [if_neg e]
    obtain ⟨h1, h2⟩ := hV i (by omega)
    exact ⟨h1, (h2.below hb).wr1 hW (Nat.lt_succ_self _)⟩

/-- a row that is laid whole -/
def Laid (w : World) (g : Nat) (n sz : Nat) (E : Nat → List Value → World → Prop) : Prop :=
  ∃ c : Nat → List Value, ∀ i, i < n → (c i).length = sz ∧ (∀ j u, (c i)[j]? = some u → w.cell? ⟨g, i * sz + j, none⟩ = some u) ∧ E i (c i) w

theorem Cop.done {w wr : World} {t : TypeId} {n sz : Nat} {z : List Value} {E : Nat → List Value → World → Prop} (h : Cop w wr t n sz n z E) : From w.heap.size wr (fun w'' => Laid w'' w.heap.size n sz E) := by
  obtain ⟨c, hB, hrow, hV⟩ := h
  intro w'' hs hk
  refine ⟨c, fun i hi => ?_⟩
  obtain ⟨h1, h2⟩ := hV i hi
  refine ⟨h1, fun j u hu => ?_, h2 w'' hs fun g hg hl => hk g (by omega) hl⟩
  have hj : j < sz := by rw [← h1]; exact (List.getElem?_eq_some_iff.1 hu).1
  have hlt : i * sz + j < n * sz := by
    have : (i + 1) * sz ≤ n * sz := Nat.mul_le_mul_right _ hi
    rw [Nat.add_mul] at this
    omega
  have hr := World.rowIs.cell (row_from hrow (Nat.le_refl _) w'' hs hk) (i := i * sz + j) hlt
  rw [hr, if_pos hlt, show (i * sz + j) / sz = i by rw [Nat.add_comm, Nat.add_mul_div_right _ _ (by omega), Nat.div_eq_of_lt hj, Nat.zero_add], show (i * sz + j) % sz = j by rw [Nat.add_comm, Nat.add_mul_mod_self_right, Nat.mod_eq_of_lt hj], List.getD_eq_getElem?_getD, hu]
  rfl

end Go.Proofs.Ytldiccheboipeaa

/-
  A region that draws its order, whose operations may make memory and write into what they made: each operation is walked ONCE, whatever has come up before it. What is known of an operation that has come up is a fact of its own (F), over the values of those that it saw, and over the blocks that it looks at (dep: by their makers); a fact stays while these blocks stay.
-/
import Derived.Test.YtmifhlkcceafkaaGreatHPlain
import Derived.Orders

namespace Go.Proofs.YtmifhlkcceafkaaGreat
open Go.RowKit
structure Plan where
  anc : List (List Nat)
  see : List (List Nat)
  dep : List (List Nat)
  wr : List (List Nat)
abbrev Fact := List Value → (Nat → Nat) → World → Prop
abbrev QT := Exit → Act → World → Prop
def dstOf (ops : Array Oper) (i : Nat) : Option Tmp := (ops[i]?).bind (·.dst)
def Plan.ok1 (p : Plan) (ops : Array Oper) (n : Nat) (i : Nat) (o : Oper) : Bool :=
  (p.anc.getD i []).all (fun j => o.after.any fun e => Region.binds .any e && (e.on == j || (p.anc.getD e.on []).contains j)) &&
  (p.see.getD i []).all (fun j => j == i || (p.anc.getD i []).contains j) &&
  o.after.all (fun e => !Region.binds .any e || Nat.blt e.on i) &&
  (match o.dst with | some d => Nat.blt d n | none => true) &&
  (List.range ops.size).all (fun k => k == i || (((p.wr.getD k []).all (fun x => !(p.dep.getD i []).contains x) || (p.anc.getD i []).contains k) && (match o.dst with | some d => dstOf ops k != some d | none => true)))
def Plan.ok (p : Plan) (ops : Array Oper) (n : Nat) : Bool := (List.range ops.size).all fun i => match ops[i]? with | some o => p.ok1 ops n i o | none => false
structure Keep (W : World) (B : Nat) (D : List Nat) (own own' : Nat → Nat) (w w' : World) : Prop where
  base : Below B W w'
  size : w.heap.size ≤ w'.heap.size
  mine : ∀ r, r < w.heap.size → own' r = own r
  blk : ∀ r, r < w.heap.size → own r ∈ D → w'.heap[r]? = w.heap[r]?
  row : ∀ g T n f, own g < 900 → w.rowIs g T n f → ∃ f', w'.rowIs g T n f'
def ownBy (own : Nat → Nat) (w : World) (i : Nat) : Nat → Nat := fun r => if r < w.heap.size then own r else i
structure Does (W : World) (B : Nat) (Wr : List Nat) (own : Nat → Nat) (w w' : World) : Prop where
  base : Below B W w'
  size : w.heap.size ≤ w'.heap.size
  blk : ∀ r, r < w.heap.size → own r ∉ Wr → w'.heap[r]? = w.heap[r]?
  row : ∀ g T n f, own g < 900 → w.rowIs g T n f → ∃ f', w'.rowIs g T n f'
theorem Does.keep {W : World} {B : Nat} {Wr D : List Nat} {own : Nat → Nat} {w w' : World} {i : Nat} (h : Does W B Wr own w w') (hd : ∀ x ∈ Wr, x ∉ D) : Keep W B D own (ownBy own w i) w w' :=
  ⟨h.base, h.size, fun _ hr => if_pos hr, fun r hr hD => h.blk r hr fun hx => hd _ hx hD, h.row⟩
theorem Does.same {W w : World} {B : Nat} (hb : Below B W w) (own : Nat → Nat) (Wr : List Nat) : Does W B Wr own w w := ⟨hb, Nat.le_refl _, fun _ _ _ => rfl, fun _ _ _ f _ h => ⟨f, h⟩⟩
theorem Does.below {W w w' : World} {B : Nat} (hBW : B ≤ W.heap.size) (hb : Below B W w) (h : Below w.heap.size w w') (own : Nat → Nat) (Wr : List Nat) : Does W B Wr own w w' := ⟨hb.trans (h.mono (Nat.le_trans hBW hb.size)), h.size, fun r hr _ => h.block r hr, fun _ _ _ f _ k => ⟨f, row_below h k⟩⟩
theorem Does.trans {W w w' w'' : World} {B : Nat} {own : Nat → Nat} {Wr : List Nat} (h : Does W B Wr own w w') (k : Does W B Wr own w' w'') : Does W B Wr own w w'' :=
  ⟨k.base, Nat.le_trans h.size k.size, fun r hr hx => (k.blk r (Nat.lt_of_lt_of_le hr h.size) hx).trans (h.blk r hr hx), fun g T n f h9 hr => let ⟨f', h'⟩ := h.row g T n f h9 hr; k.row g T n f' h9 h'⟩
theorem Does.set {W w : World} {B : Nat} (hb : Below B W w) {own : Nat → Nat} {Wr : List Nat} {b : Nat} (hown : own b ∈ Wr) (hW : B ≤ b) (o : Nat) (v : Value) : Does W B Wr own w (w.setCell ⟨b, o, none⟩ v) :=
  ⟨hb.setCell (p := ⟨b, o, none⟩) hW v, by simp [World.size_setCell], fun r _ hx => Below.heap_setCell _ _ _ _ (fun e => hx (e ▸ hown)), fun g T n f _ hr => by
    by_cases e : g = b
    · subst e
      exact ⟨_, hr.set o v⟩
    · exact ⟨f, hr.of_block (Below.heap_setCell _ _ _ _ e)⟩⟩
/-! ### Facts -/
structure OpF (W : World) (B : Nat) where
  fact : Fact
  dep : List Nat
  stab : ∀ l own own' w w', Keep W B dep own own' w w' → fact l own w → fact l own' w'
def Made (W : World) (B : Nat) (own : Nat → Nat) (k : Nat) (w : World) (R : World → Prop) : Prop :=
  ∀ w'', w.heap.size ≤ w''.heap.size → Below B W w'' → (∀ r, r < w.heap.size → own r = k → w''.heap[r]? = w.heap[r]?) → R w''
theorem Made.keep {W : World} {B : Nat} {own own' : Nat → Nat} {k : Nat} {w w' : World} {R : World → Prop} {D : List Nat} (h : Made W B own k w R) (hk : Keep W B D own own' w w') (hD : k ∈ D) : Made W B own' k w' R := by
  intro w'' hs hb hr
  refine h w'' (Nat.le_trans hk.size hs) hb fun r hlt ho => ?_
  rw [hr r (Nat.lt_of_lt_of_le hlt hk.size) ((hk.mine r hlt).trans ho)]
  exact hk.blk r hlt (by rw [ho]; exact hD)
theorem Made.here {W : World} {B : Nat} {own : Nat → Nat} {k : Nat} {w : World} {R : World → Prop} (h : Made W B own k w R) (hb : Below B W w) : R w := h w (Nat.le_refl _) hb fun _ _ _ => rfl
theorem Made.mono {W : World} {B : Nat} {own : Nat → Nat} {k : Nat} {w : World} {R R' : World → Prop} (h : Made W B own k w R) (hR : ∀ w'', R w'' → R' w'') : Made W B own k w R' := fun w'' a b c => hR _ (h w'' a b c)
theorem Made.new {W : World} {B : Nat} {own : Nat → Nat} {k : Nat} {w w' : World} {R : World → Prop} (h : ∀ w'', w'.heap.size ≤ w''.heap.size → Below B W w'' → (∀ r, w.heap.size ≤ r → r < w'.heap.size → w''.heap[r]? = w'.heap[r]?) → R w'') : Made W B (ownBy own w k) k w' R :=
  fun w'' hs hb hr => h w'' hs hb fun r h1 h2 => hr r h2 (if_neg (Nat.not_lt.2 h1))
structure FrameOk (ops : Array Oper) (a0 a : Act) : Prop where
  defers : a.defers = a0.defers
  size : a.tmps.size = a0.tmps.size
  slot : ∀ d, (∀ i, dstOf ops i ≠ some d) → a.tmps[d]? = a0.tmps[d]?
def Known (ops : Array Oper) (p : Plan) (F : Nat → Fact) (val : Nat → Value) (own : Nat → Nat) (a : Act) (w : World) (i : Nat) : Prop :=
  (∀ d, dstOf ops i = some d → a.tmps[d]?.getD undef = val i) ∧ F i ((p.see.getD i []).map val) own w
structure RInv (W : World) (B : Nat) (own0 : Nat → Nat) (inits : List (OpF W B)) (a0 : Act) (p : Plan) (ops : Array Oper) (F : Nat → Fact) (listed : Array Bool) (a : Act) (w : World) : Prop where
  size : listed.size = ops.size
  down : ∀ i o, ops[i]? = some o → listed.getD i false = true → ∀ e ∈ o.after, Region.binds .any e = true → listed.getD e.on false = true
  base : Below B W w
  frame : FrameOk ops a0 a
  facts : ∃ (val : Nat → Value) (own : Nat → Nat), (∀ r, r < W.heap.size → own r = own0 r) ∧ (∀ i, i < ops.size → listed.getD i false = true → Known ops p F val own a w i) ∧ ∀ f ∈ inits, (∀ k, k < ops.size → listed.getD k false = true → ∀ x ∈ p.wr.getD k [], x ∉ f.dep) → f.fact [] own w
def upd (val : Nat → Value) (i : Nat) (v : Value) : Nat → Value := fun j => if j = i then v else val j
def StepOk (P : Program) (Q : QT) (W : World) (a0 : Act) (p : Plan) (ops : Array Oper) (F : Nat → Fact) (i : Nat) : Prop :=
  ∀ (a : Act) (w : World) (val : Nat → Value) (own : Nat → Nat), Below W.heap.size W w → FrameOk ops a0 a → (∀ r, r < W.heap.size → own r = 1000) → (∀ j ∈ p.anc.getD i [], Known ops p F val own a w j) →
    wpOp P ops Q i (fun a' w' => ∃ v, a' = a.put (dstOf ops i) v ∧ Does W W.heap.size (p.wr.getD i []) own w w' ∧ F i ((p.see.getD i []).map (upd val i v)) (ownBy own w i) w') a w
def early (p : Plan) (n : Nat) (i : Nat) (dep : List Nat) : Bool := (List.range n).all fun k => k == i || ((p.wr.getD k []).all (fun x => !dep.contains x) || (p.anc.getD k []).contains i)
def StepX (P : Program) (Q : QT) (W : World) (B : Nat) (own0 : Nat → Nat) (inits : List (OpF W B)) (a0 : Act) (p : Plan) (ops : Array Oper) (F : Nat → Fact) (i : Nat) : Prop :=
  ∀ (a : Act) (w : World) (val : Nat → Value) (own : Nat → Nat), Below B W w → FrameOk ops a0 a → (∀ r, r < W.heap.size → own r = own0 r) → (∀ j ∈ p.anc.getD i [], Known ops p F val own a w j) → (∀ f ∈ inits, early p ops.size i f.dep = true → f.fact [] own w) →
    wpOp P ops Q i (fun a' w' => ∃ v, a' = a.put (dstOf ops i) v ∧ Does W B (p.wr.getD i []) own w w' ∧ F i ((p.see.getD i []).map (upd val i v)) (ownBy own w i) w') a w
theorem Plan.ok_at {p : Plan} {ops : Array Oper} {n i : Nat} {o : Oper} (h : p.ok ops n = true) (hi : ops[i]? = some o) : p.ok1 ops n i o = true := by
  unfold Plan.ok at h
  have hlt : i < ops.size := (Array.getElem?_eq_some_iff.1 hi).1
  have := List.all_eq_true.1 h i (List.mem_range.2 hlt)
  rw [hi] at this
  exact this
theorem Plan.anc_listed {W : World} {B : Nat} {own0 : Nat → Nat} {inits : List (OpF W B)} {a0 a : Act} {w : World} {p : Plan} {ops : Array Oper} {F : Nat → Fact} {listed : Array Bool} {n : Nat} (hp : p.ok ops n = true) (hI : RInv W B own0 inits a0 p ops F listed a w) :
    ∀ i o, ops[i]? = some o → (∀ e ∈ o.after, Region.binds .any e = true → listed.getD e.on false = true) → ∀ j ∈ p.anc.getD i [], listed.getD j false = true := by
  intro i
  induction i using Nat.strongRecOn with
  | ind i ih =>
    intro o ho hall j hj
    have h1 := p.ok_at hp ho
    simp only [Plan.ok1, Bool.and_eq_true] at h1
    have ha := List.all_eq_true.1 h1.1.1.1.1 j hj
    obtain ⟨e, he, hb⟩ := Array.any_eq_true'.1 ha
    simp only [Bool.and_eq_true, Bool.or_eq_true, beq_iff_eq, List.contains_iff_mem] at hb
    have hle := hall e he hb.1
    have hlt : e.on < i := by
      have := Array.all_eq_true'.1 h1.1.1.2 e he
      rw [hb.1] at this
      simpa using this
    rcases hb.2 with rfl | hm
    · exact hle
    · have hs : e.on < ops.size := by
        have := hI.size
        rcases Nat.lt_or_ge e.on listed.size with h' | h'
        · omega
        · simp [Array.getElem?_eq_none h'] at hle
      obtain ⟨oe, hoe⟩ : ∃ oe, ops[e.on]? = some oe := ⟨ops[e.on], Array.getElem?_eq_getElem hs⟩
      exact ih e.on hlt oe hoe (fun e' he' hb' => hI.down e.on oe hoe hle e' he' hb') j hm
theorem dst_ne {p : Plan} {ops : Array Oper} {n i k : Nat} {d : Tmp} {o : Oper} (hp : p.ok ops n = true) (ho : ops[i]? = some o) (hk : k < ops.size) (hne : k ≠ i) (hd : dstOf ops i = some d) : dstOf ops k ≠ some d := by
  have h1 := p.ok_at hp ho
  simp only [Plan.ok1, Bool.and_eq_true] at h1
  have h2 := List.all_eq_true.1 h1.2 k (List.mem_range.2 hk)
  have hod : o.dst = some d := by simpa [dstOf, ho] using hd
  simp only [hod, Bool.or_eq_true, beq_iff_eq, Bool.and_eq_true, bne_iff_ne] at h2
  rcases h2 with h2 | h2
  · exact absurd h2 hne
  · exact h2.2
theorem known_step {W : World} {B : Nat} {p : Plan} {ops : Array Oper} {F : Nat → Fact} {val : Nat → Value} {own : Nat → Nat} {a : Act} {w w' : World} {i k : Nat} {v : Value} {n : Nat} {oi : Oper} (hp : p.ok ops n = true)
    (hstab : ∀ i, i < ops.size → ∀ l own own' w w', Keep W B (p.dep.getD i []) own own' w w' → F i l own w → F i l own' w') (hoi : ops[i]? = some oi) (hk : k < ops.size) (hne : k ≠ i) (hkn : k ∉ p.anc.getD i [])
    (hdo : Does W B (p.wr.getD k []) own w w') (h : Known ops p F val own a w i) : Known ops p F (upd val k v) (ownBy own w k) (a.put (dstOf ops k) v) w' i := by
  have hi : i < ops.size := (Array.getElem?_eq_some_iff.1 hoi).1
  refine ⟨fun d hd => ?_, ?_⟩
  · have := h.1 d hd
    have hx := dst_ne hp hoi hk hne hd
    rw [show upd val k v i = val i from if_neg (Ne.symm hne), ← this]
    cases hdk : dstOf ops k with
    | none => rfl
    | some e =>
      have hde : e ≠ d := fun e' => hx (by rw [hdk, e'])
      simp only [Act.put]
      simp [hde]
  · have h1 := p.ok_at hp hoi
    simp only [Plan.ok1, Bool.and_eq_true] at h1
    have hs := List.all_eq_true.1 h1.1.1.1.2
    have hmap : (p.see.getD i []).map (upd val k v) = (p.see.getD i []).map val := List.map_congr_left fun j hj => by
      have := hs j hj
      simp only [Bool.or_eq_true, beq_iff_eq, List.contains_iff_mem] at this
      refine if_neg ?_
      rintro rfl
      rcases this with e | e
      · exact hne e
      · exact hkn e
    rw [hmap]
    refine hstab i hi _ _ _ _ _ (hdo.keep fun x hx => ?_) h.2
    have h2 := List.all_eq_true.1 h1.2 k (List.mem_range.2 hk)
    simp only [Bool.or_eq_true, beq_iff_eq, Bool.and_eq_true, List.contains_iff_mem] at h2
    rcases h2 with h2 | h2
    · exact absurd h2 hne
    · rcases h2.1 with h3 | h3
      · simpa using List.all_eq_true.1 h3 x hx
      · exact absurd h3 hkn
theorem frame_put {ops : Array Oper} {a0 a : Act} {i : Nat} {v : Value} (h : FrameOk ops a0 a) : FrameOk ops a0 (a.put (dstOf ops i) v) := by
  cases hd : dstOf ops i with
  | none => exact h
  | some d =>
    refine ⟨h.defers, by simp [Act.put, h.size], fun e he => ?_⟩
    have : d ≠ e := fun x => he i (by rw [hd, x])
    simp only [Act.put]
    rw [Array.getElem?_setIfInBounds_ne this]
    exact h.slot e he
theorem getD_set_self' {l : Array Bool} {i : Nat} (h : i < l.size) : (l.setIfInBounds i true).getD i false = true := by simp [h]
theorem getD_set_or {l : Array Bool} {i j : Nat} (h : (l.setIfInBounds i true).getD j false = true) : j = i ∨ l.getD j false = true := by
  by_cases e : j = i
  · exact .inl e
  · right
    simp only [Array.getD_eq_getD_getElem?, Array.getElem?_setIfInBounds_ne (Ne.symm e)] at h ⊢
    exact h
theorem getD_set_mono {l : Array Bool} {i j : Nat} (h : l.getD j false = true) : (l.setIfInBounds i true).getD j false = true := by
  by_cases e : j = i
  · subst e
    have : j < l.size := by
      rcases Nat.lt_or_ge j l.size with h' | h'
      · exact h'
      · simp [Array.getElem?_eq_none h'] at h
    simp [this]
  · simp only [Array.getD_eq_getD_getElem?, Array.getElem?_setIfInBounds_ne (Ne.symm e)] at h ⊢
    exact h
def leftN (l : Array Bool) (n : Nat) : Nat := ((List.range n).filter fun i => !l.getD i true).length
theorem left_less {l : Array Bool} {n i : Nat} (hi : i < n) (hs : l.size = n) (hl : l.getD i true = false) : leftN (l.setIfInBounds i true) n < leftN l n := by
  unfold leftN
  have hsub : ((List.range n).filter fun j => !(l.setIfInBounds i true).getD j true) = ((List.range n).filter fun j => !l.getD j true).filter fun j => j != i := by
    rw [List.filter_filter]
    refine List.filter_congr fun j hj => ?_
    by_cases e : j = i
    · subst e; simp [hs, hi]
    · simp only [Array.getD_eq_getD_getElem?, Array.getElem?_setIfInBounds_ne (Ne.symm e)]
      simp [e]
  rw [hsub]
  have hmem : i ∈ (List.range n).filter fun j => !l.getD j true := List.mem_filter.2 ⟨List.mem_range.2 hi, by rw [hl]; rfl⟩
  exact List.length_filter_lt_length_iff_exists.2 ⟨i, hmem, by simp⟩
theorem wpAny_plan {P : Program} {ops : Array Oper} {Q : QT} {W : World} {B : Nat} {own0 : Nat → Nat} {inits : List (OpF W B)} {a0 : Act} (p : Plan) (F : Nat → Fact) (hp : p.ok ops a0.tmps.size = true)
    (hstab : ∀ i, i < ops.size → ∀ l own own' w w', Keep W B (p.dep.getD i []) own own' w w' → F i l own w → F i l own' w')
    (hstep : ∀ i, i < ops.size → StepX P Q W B own0 inits a0 p ops F i)
    (hend : ∀ a w val own, Below B W w → FrameOk ops a0 a → (∀ r, r < W.heap.size → own r = own0 r) → (∀ i, i < ops.size → Known ops p F val own a w i) → (∀ f ∈ inits, (∀ k, k < ops.size → ∀ x ∈ p.wr.getD k [], x ∉ f.dep) → f.fact [] own w) → Q .normal a w) :
    ∀ (fuel : Nat) (listed : Array Bool) (a : Act) (w : World), leftN listed ops.size ≤ fuel → RInv W B own0 inits a0 p ops F listed a w → wpAny P .any ops Q fuel listed a w := by
  have hdone : ∀ (listed : Array Bool) (a : Act) (w : World), RInv W B own0 inits a0 p ops F listed a w → Region.ready .any ops listed = [] → Q .normal a w := by
    intro listed a w hI hr
    have hall : ∀ i, i < ops.size → listed.getD i false = true := by
      intro i
      induction i using Nat.strongRecOn with
      | ind i ih =>
        intro hi
        have ho : ops[i]? = some ops[i] := Array.getElem?_eq_getElem hi
        have h1 := p.ok_at hp ho
        simp only [Plan.ok1, Bool.and_eq_true] at h1
        cases hl : listed.getD i true with
        | true =>
          have := hI.size
          have h' : i < listed.size := by omega
          simpa [h'] using hl
        | false =>
          have : i ∈ Region.ready .any ops listed := mem_ready.2 ⟨hl, _, ho, fun e he hb => by
            have hlt := Array.all_eq_true'.1 h1.1.1.2 e he
            rw [hb] at hlt
            have hlt' : e.on < i := by simpa using hlt
            exact ih e.on hlt' (by omega)⟩
          rw [hr] at this
          cases this
    obtain ⟨val, own, hown, hk, hin⟩ := hI.facts
    exact hend a w val own hI.base hI.frame hown (fun i hi => hk i hi (hall i hi)) fun f hf h => hin f hf fun k hk _ => h k hk
  intro fuel
  induction fuel with
  | zero =>
    intro listed a w hz hI
    have hr : Region.ready .any ops listed = [] := by
      cases h : Region.ready .any ops listed with
      | nil => rfl
      | cons i t =>
        have hi : i ∈ Region.ready .any ops listed := by rw [h]; simp
        obtain ⟨hu, o, ho, _⟩ := mem_ready.1 hi
        have hlt : i < ops.size := (Array.getElem?_eq_some_iff.1 ho).1
        have := left_less hlt hI.size hu
        omega
    exact ⟨hr, hdone listed a w hI hr⟩
  | succ fuel ih =>
    intro listed a w hz hI
    refine ⟨hdone listed a w hI, fun i hi => ?_⟩
    obtain ⟨hu, o, ho, hall⟩ := mem_ready.1 hi
    have hlt : i < ops.size := (Array.getElem?_eq_some_iff.1 ho).1
    have hanc := Plan.anc_listed hp hI i o ho hall
    obtain ⟨val, own, hown, hk, hin⟩ := hI.facts
    have hancs : ∀ j ∈ p.anc.getD i [], j < ops.size := fun j hj => by
      have := hanc j hj
      have hs := hI.size
      rcases Nat.lt_or_ge j listed.size with h' | h'
      · omega
      · simp [Array.getElem?_eq_none h'] at this
    have hear : ∀ f ∈ inits, early p ops.size i f.dep = true → f.fact [] own w := fun f hf he => hin f hf fun k hkl hkt x hx => by
      have h1 := List.all_eq_true.1 he k (List.mem_range.2 hkl)
      simp only [Bool.or_eq_true, beq_iff_eq, List.contains_iff_mem] at h1
      have hnl : ∀ j, listed.getD j false = true → j ≠ i := fun j hj e => by
        subst e
        have hs := hI.size
        have h' : j < listed.size := by omega
        simp [h'] at hu hj
        rw [hu] at hj
        cases hj
      rcases h1 with h1 | h1 | h1
      · exact absurd h1 (hnl k hkt)
      · simpa using List.all_eq_true.1 h1 x hx
      · have hok : ops[k]? = some ops[k] := Array.getElem?_eq_getElem hkl
        exact absurd rfl (hnl i (Plan.anc_listed hp hI k ops[k] hok (fun e he hb => hI.down k _ hok hkt e he hb) i h1))
    refine wpOp_mono ?_ (hstep i hlt a w val own hI.base hI.frame hown (fun j hj => hk j (hancs j hj) (hanc j hj)) hear)
    rintro a' w' ⟨v, rfl, hdo, hF⟩
    refine ih _ _ _ (by have := left_less hlt hI.size hu; omega) ⟨by simp [hI.size], ?_, hdo.base, frame_put hI.frame, upd val i v, ownBy own w i, ?_, ?_, ?_⟩
    · intro k ok hok hkl e he hb
      rcases getD_set_or hkl with rfl | hkl
      · rw [ho] at hok
        cases hok
        exact getD_set_mono (hall e he hb)
      · exact getD_set_mono (hI.down k ok hok hkl e he hb)
    · intro r hr
      unfold ownBy
      rw [if_pos (Nat.lt_of_lt_of_le hr hI.base.size)]
      exact hown r hr
    · intro k hkl hkt
      rcases getD_set_or hkt with rfl | hkt
      · refine ⟨fun d hd => ?_, hF⟩
        have h1 := p.ok_at hp ho
        simp only [Plan.ok1, Bool.and_eq_true] at h1
        have hod : o.dst = some d := by simpa [dstOf, ho] using hd
        have hdl := h1.1.2
        rw [hod] at hdl
        have hdl' : d < a0.tmps.size := by simpa using hdl
        rw [hd]
        simp only [Act.put, upd, if_true]
        have hda : d < a.tmps.size := by rw [hI.frame.size]; exact hdl'
        simp [hda]
      · have hok : ops[k]? = some ops[k] := Array.getElem?_eq_getElem hkl
        have hne : i ≠ k := by
          rintro rfl
          have hs := hI.size
          have h' : i < listed.size := by omega
          simp [h'] at hu hkt
          rw [hu] at hkt
          cases hkt
        refine known_step hp hstab hok hlt hne ?_ hdo (hk k hkl hkt)
        intro hm
        have := Plan.anc_listed hp hI k ops[k] hok (fun e he hb => hI.down k _ hok hkt e he hb) i hm
        have hs := hI.size
        have h' : i < listed.size := by omega
        simp [h'] at hu this
        rw [hu] at this
        cases this
    · intro f hf h
      refine f.stab _ _ _ _ _ (hdo.keep fun x hx => h i hlt (getD_set_self' (by have := hI.size; omega)) x hx) (hin f hf fun k hkl hkt x hx => h k hkl (getD_set_mono hkt) x hx)
def fIs {W : World} {B : Nat} (v : Value) : OpF W B := ⟨fun l _ _ => l = [v], [], fun _ _ _ _ _ _ h => h⟩
def fOf {W : World} {B : Nat} (A : List Value → Prop) : OpF W B := ⟨fun l _ _ => A l, [], fun _ _ _ _ _ _ h => h⟩
def fGh {W : World} {B : Nat} (k : Nat) {γ : Type} (A : γ → List Value → Prop) (R : γ → World → Prop) : OpF W B :=
  ⟨fun l own w => ∃ x : γ, A x l ∧ Made W B own k w (R x), [k], fun _ _ _ _ _ hk ⟨x, hA, hM⟩ => ⟨x, hA, hM.keep hk (by simp)⟩⟩
def fBox {W : World} {B : Nat} (k : Nat) (T : TypeId) (n : Nat) (hk9 : k < 900 := by decide) : OpF W B :=
  ⟨fun l own w => ∃ b f, l = [.pointer (some ⟨b, 0, none⟩)] ∧ own b = k ∧ B ≤ b ∧ w.rowIs b T n f, [], fun _ _ _ _ _ hk ⟨b, f, e, ho, hb, hr⟩ => let ⟨f', hr'⟩ := hk.row b T n f (by rw [ho]; exact hk9) hr; ⟨b, f', e, (hk.mine b hr.lt).trans ho, hb, hr'⟩⟩
def fRow {W : World} {B : Nat} (k : Nat) (T : TypeId) (n : Nat) (A : Nat → (Nat → Value) → List Value → Prop) : OpF W B :=
  ⟨fun l own w => ∃ b f, A b f l ∧ own b = k ∧ B ≤ b ∧ w.rowIs b T n f, [k], fun _ _ _ _ _ hk ⟨b, f, hA, ho, hb, hr⟩ => ⟨b, f, hA, (hk.mine b hr.lt).trans ho, hb, hr.of_block (hk.blk b hr.lt (by rw [ho]; simp))⟩⟩
theorem fIs_out {W w : World} {B : Nat} {v x : Value} {own : Nat → Nat} (h : (fIs (W := W) (B := B) v).fact [x] own w) : x = v := by
  have : [x] = [v] := h
  injection this
def planOf {W : World} {B : Nat} (anc see wr : List (List Nat)) (fs : List (OpF W B)) : Plan := ⟨anc, see, fs.map (·.dep), wr⟩
def factOf {W : World} {B : Nat} (fs : List (OpF W B)) : Nat → Fact := fun i => match fs[i]? with | some f => f.fact | none => fun _ _ _ => True
theorem fs_stab {W : World} {B : Nat} (anc see wr : List (List Nat)) (fs : List (OpF W B)) (n : Nat) : ∀ i, i < n → ∀ l own own' w w', Keep W B ((planOf anc see wr fs).dep.getD i []) own own' w w' → factOf fs i l own w → factOf fs i l own' w' := by
  intro i _ l own own' w w' hk h
  unfold factOf at h ⊢
  have hd : (planOf anc see wr fs).dep.getD i [] = (match fs[i]? with | some f => f.dep | none => []) := by
    show (fs.map (·.dep)).getD i [] = _
    rw [List.getD_eq_getElem?_getD, List.getElem?_map]
    cases fs[i]? <;> rfl
  cases hf : fs[i]? with
  | none => simp only
  | some f =>
    rw [hf] at h hd
    rw [hd] at hk
    exact f.stab l own own' w w' hk h
theorem any_fs {P : Program} {ops : Array Oper} {Q : QT} {a0 : Act} {w0 w : World} (anc see wr : List (List Nat)) (fs : List (OpF w0 w0.heap.size)) (n : Nat) (hn : ops.size = n) (hw : Below w0.heap.size w0 w) (hp : (planOf anc see wr fs).ok ops a0.tmps.size = true)
    (hstep : ∀ i, i < n → StepOk P Q w0 a0 (planOf anc see wr fs) ops (factOf fs) i)
    (hend : ∀ a w val own, Below w0.heap.size w0 w → FrameOk ops a0 a → (∀ r, r < w0.heap.size → own r = 1000) → (∀ i, i < n → Known ops (planOf anc see wr fs) (factOf fs) val own a w i) → Q .normal a w) :
    wpAny P .any ops Q ops.size (Array.replicate ops.size false) a0 w := by
  subst hn
  refine wpAny_plan (own0 := fun _ => 1000) (inits := []) (planOf anc see wr fs) (factOf fs) hp ?_ (fun i hi a w val own h1 h2 h3 h4 _ => hstep i hi a w val own h1 h2 h3 h4) (fun a w val own h1 h2 h3 h4 _ => hend a w val own h1 h2 h3 h4) ops.size _ a0 _ ?_ ?_
  · exact fs_stab anc see wr fs _
  · unfold leftN
    exact Nat.le_trans (List.length_filter_le _ _) (by simp)
  · refine ⟨by simp, ?_, hw, ⟨rfl, rfl, fun _ _ => rfl⟩, fun _ => undef, fun _ => 1000, fun _ _ => rfl, ?_, fun f hf => by cases hf⟩
    · intro i o ho hl
      have hi : i < ops.size := (Array.getElem?_eq_some_iff.1 ho).1
      simp [hi] at hl
    · intro i hi hl
      simp [hi] at hl
theorem wp_region_fs {P : Program} {id : Nat} {ops : Array Oper} {Q : QT} {a0 : Act} {w0 : World} (anc see wr : List (List Nat)) (fs : List (OpF w0 w0.heap.size)) (n : Nat) (hn : ops.size = n) (hm : P.follows .mixedOrders = true) (hp : (planOf anc see wr fs).ok ops a0.tmps.size = true)
    (hstep : ∀ i, i < n → StepOk P Q w0 a0 (planOf anc see wr fs) ops (factOf fs) i)
    (hend : ∀ a w val own, Below w0.heap.size w0 w → FrameOk ops a0 a → (∀ r, r < w0.heap.size → own r = 1000) → (∀ i, i < n → Known ops (planOf anc see wr fs) (factOf fs) val own a w i) → Q .normal a w) :
    (Code.region id ops true).wp P Q a0 w0 := wp_region_any hm (any_fs anc see wr fs n hn (Below.refl _ w0).drew hp hstep hend)
theorem all_lt_zero {p : Nat → Prop} : ∀ i, i < 0 → p i := fun _ h => absurd h (Nat.not_lt_zero _)
theorem all_lt_succ {n : Nat} {p : Nat → Prop} (h : ∀ i, i < n → p i) (hn : p n) : ∀ i, i < n + 1 → p i := fun i hi => by
  rcases Nat.lt_succ_iff_lt_or_eq.1 hi with h' | rfl
  · exact h i h'
  · exact hn
section
variable {P : Program} {ops : Array Oper} {Q : QT} {K : Act → World → Prop} {a : Act} {w : World} {i : Nat}
theorem wpOp_val {o : Oper} {v : Value} {w' : World} (ho : ops[i]? = some o) (hg : Region.wanted o (yielded ops a.tmps) = true) (hr : (execOp a.eval o).run P w = .ok (.value v) w') (hK : K (a.put o.dst v) w') : wpOp P ops Q i K a w := by
  unfold wpOp
  simp only [ho, hg, if_true]
  left
  unfold Oper.wp
  rw [hr]
  exact hK
theorem wpOp_skip {o : Oper} {w' : World} (ho : ops[i]? = some o) (hg : Region.wanted o (yielded ops a.tmps) = true) (hr : (execOp a.eval o).run P w = .ok .skip w') (hK : K (a.put o.dst undef) w') : wpOp P ops Q i K a w := by
  unfold wpOp
  simp only [ho, hg, if_true]
  left
  unfold Oper.wp
  rw [hr]
  exact hK
theorem wpOp_enter {o : Oper} {f : FuncId} {args : Array Value} {w' : World} (ho : ops[i]? = some o) (hg : Region.wanted o (yielded ops a.tmps) = true) (hr : (execOp a.eval o).run P w = .ok (.enter f args) w') (hK : Calls P f args w' fun e w'' => ∃ v, e = .returned v ∧ K (a.put o.dst v) w'') : wpOp P ops Q i K a w := by
  unfold wpOp
  simp only [ho, hg, if_true]
  left
  unfold Oper.wp
  rw [hr]
  refine hK.mono ?_
  rintro e w'' ⟨v, rfl, hk⟩
  exact hk
end
section
variable {P : Program} {ops : Array Oper} {Q : QT} {W : World} {B : Nat} {p : Plan} {F : Nat → Fact} {a : Act} {w : World} {i : Nat} {val : Nat → Value} {own : Nat → Nat}
theorem rf_pure {o : Oper} {v : Value} (hB : Below B W w) (ho : ops[i]? = some o) (hg : Region.wanted o (yielded ops a.tmps) = true) (hr : (execOp a.eval o).run P w = .ok (.value v) w) (hF : F i ((p.see.getD i []).map (upd val i v)) (ownBy own w i) w) :
    wpOp P ops Q i (fun a' w' => ∃ v, a' = a.put (dstOf ops i) v ∧ Does W B (p.wr.getD i []) own w w' ∧ F i ((p.see.getD i []).map (upd val i v)) (ownBy own w i) w') a w :=
  wpOp_val ho hg hr ⟨v, by simp [dstOf, ho], Does.same hB _ _, hF⟩
theorem rf_newB (hBW : B ≤ W.heap.size) {o : Oper} {v : Value} {w' : World} (hB : Below B W w) (ho : ops[i]? = some o) (hg : Region.wanted o (yielded ops a.tmps) = true) (hr : (execOp a.eval o).run P w = .ok (.value v) w') (hb : Below w.heap.size w w') (hF : F i ((p.see.getD i []).map (upd val i v)) (ownBy own w i) w') :
    wpOp P ops Q i (fun a' w' => ∃ v, a' = a.put (dstOf ops i) v ∧ Does W B (p.wr.getD i []) own w w' ∧ F i ((p.see.getD i []).map (upd val i v)) (ownBy own w i) w') a w :=
  wpOp_val ho hg hr ⟨v, by simp [dstOf, ho], Does.below hBW hB hb _ _, hF⟩
theorem rf_set {o : Oper} {w' : World} (ho : ops[i]? = some o) (hg : Region.wanted o (yielded ops a.tmps) = true) (hr : (execOp a.eval o).run P w = .ok .skip w') (hd : Does W B (p.wr.getD i []) own w w') (hF : F i ((p.see.getD i []).map (upd val i undef)) (ownBy own w i) w') :
    wpOp P ops Q i (fun a' w' => ∃ v, a' = a.put (dstOf ops i) v ∧ Does W B (p.wr.getD i []) own w w' ∧ F i ((p.see.getD i []).map (upd val i v)) (ownBy own w i) w') a w :=
  wpOp_skip ho hg hr ⟨undef, by simp [dstOf, ho], hd, hF⟩
theorem rf_callB (hBW : B ≤ W.heap.size) {o : Oper} {f : FuncId} {args : Array Value} (hB : Below B W w) (ho : ops[i]? = some o) (hg : Region.wanted o (yielded ops a.tmps) = true) (hr : (execOp a.eval o).run P w = .ok (.enter f args) w) 
    (hc : Calls P f args w fun e w' => ∃ v, e = .returned v ∧ Below w.heap.size w w' ∧ F i ((p.see.getD i []).map (upd val i v)) (ownBy own w i) w') :
    wpOp P ops Q i (fun a' w' => ∃ v, a' = a.put (dstOf ops i) v ∧ Does W B (p.wr.getD i []) own w w' ∧ F i ((p.see.getD i []).map (upd val i v)) (ownBy own w i) w') a w := by
  refine wpOp_enter ho hg hr (hc.mono ?_)
  rintro e w' ⟨v, rfl, hb, hF⟩
  exact ⟨v, rfl, v, by simp [dstOf, ho], Does.below hBW hB hb _ _, hF⟩
theorem rf_new {o : Oper} {v : Value} {w' : World} (hB : Below W.heap.size W w) (ho : ops[i]? = some o) (hg : Region.wanted o (yielded ops a.tmps) = true) (hr : (execOp a.eval o).run P w = .ok (.value v) w') (hb : Below w.heap.size w w') (hF : F i ((p.see.getD i []).map (upd val i v)) (ownBy own w i) w') :
    wpOp P ops Q i (fun a' w' => ∃ v, a' = a.put (dstOf ops i) v ∧ Does W W.heap.size (p.wr.getD i []) own w w' ∧ F i ((p.see.getD i []).map (upd val i v)) (ownBy own w i) w') a w := rf_newB (Nat.le_refl _) hB ho hg hr hb hF
theorem rf_call {o : Oper} {f : FuncId} {args : Array Value} (hB : Below W.heap.size W w) (ho : ops[i]? = some o) (hg : Region.wanted o (yielded ops a.tmps) = true) (hr : (execOp a.eval o).run P w = .ok (.enter f args) w)
    (hc : Calls P f args w fun e w' => ∃ v, e = .returned v ∧ Below w.heap.size w w' ∧ F i ((p.see.getD i []).map (upd val i v)) (ownBy own w i) w') :
    wpOp P ops Q i (fun a' w' => ∃ v, a' = a.put (dstOf ops i) v ∧ Does W W.heap.size (p.wr.getD i []) own w w' ∧ F i ((p.see.getD i []).map (upd val i v)) (ownBy own w i) w') a w := rf_callB (Nat.le_refl _) hB ho hg hr hc
theorem FrameOk.at {a0 : Act} {d : Nat} {v : Value} (h : FrameOk ops a0 a) (hd : (List.range ops.size).all (fun i => dstOf ops i != some d) = true) (hv : a0.tmps[d]? = some v) : a.tmps[d]?.getD undef = v := by
  rw [h.slot d ?_, hv]
  · rfl
  · intro i
    rcases Nat.lt_or_ge i ops.size with hi | hi
    · simpa using List.all_eq_true.1 hd i (List.mem_range.2 hi)
    · simp [dstOf, Array.getElem?_eq_none hi]
end
theorem one_eq {x y : Value} (h : [x] = [y]) : x = y := by injection h
def tget (v : Value) (i : Nat) : Value := match v with | .tuple xs => xs.getD i undef | _ => undef
theorem fBox_newB {W w : World} {B : Nat} {own : Nat → Nat} {i : Nat} {T : TypeId} (hBW : B ≤ W.heap.size) (hB : Below B W w) (c : Array Value) (hi : i < 900 := by decide) : (fBox (W := W) (B := B) i T c.size hi).fact [.pointer (some ⟨w.heap.size, 0, none⟩)] (ownBy own w i) (w.alloc (.cells c T)) :=
  ⟨w.heap.size, fun j => c[j]?.getD undef, rfl, if_neg (Nat.lt_irrefl _), Nat.le_trans hBW hB.size, World.rowIs_alloc w c T _ fun j hj => by simp [hj]⟩
def setAll (w : World) (b : Nat) : Nat → List Value → World
  | _, [] => w
  | o, x :: xs => setAll (w.setCell ⟨b, o, none⟩ x) b (o + 1) xs
theorem setAll_row {b : Nat} {T : TypeId} {n : Nat} : ∀ (xs : List Value) (o : Nat) {w : World} {f : Nat → Value}, w.rowIs b T n f → (setAll w b o xs).rowIs b T n (fun j => if o ≤ j ∧ j < o + xs.length then xs.getD (j - o) undef else f j)
  | [], o, w, f, h => h.congr fun j _ => by simp only [List.length_nil]; rw [if_neg (by omega)]
  | x :: xs, o, w, f, h => by
    refine (setAll_row xs (o + 1) (h.set o x)).congr fun j hj => ?_
    by_cases e : j = o
    · subst e
      rw [if_neg (by omega), if_pos rfl, if_pos ⟨Nat.le_refl _, by simp⟩]
      simp
    · by_cases e2 : o + 1 ≤ j ∧ j < o + 1 + xs.length
      · rw [if_pos e2, if_pos ⟨by omega, by simp only [List.length_cons]; omega⟩]
        rw [show j - o = (j - (o + 1)) + 1 by omega]
        simp
      · rw [if_neg e2, if_neg e, if_neg (by simp only [List.length_cons]; omega)]
theorem setAll_row0 {w : World} {b : Nat} {T : TypeId} {n : Nat} {f : Nat → Value} (h : w.rowIs b T n f) (xs : List Value) (hn : xs.length = n) : (setAll w b 0 xs).rowIs b T n (fun j => xs.getD j undef) :=
  (setAll_row xs 0 h).congr fun j hj => by rw [if_pos ⟨Nat.zero_le _, by omega⟩, Nat.sub_zero]
theorem setAll_does {W : World} {B : Nat} {own : Nat → Nat} {Wr : List Nat} {b : Nat} (hown : own b ∈ Wr) (hW : B ≤ b) : ∀ (xs : List Value) (o : Nat) {w : World}, Below B W w → Does W B Wr own w (setAll w b o xs)
  | [], _, _, hB => Does.same hB _ _
  | x :: xs, o, _, hB => (Does.set hB hown hW o x).trans (setAll_does hown hW xs (o + 1) (Does.set hB hown hW o x).base)
theorem fRow_set {W w : World} {B : Nat} {own : Nat → Nat} {i k : Nat} {T : TypeId} {n b : Nat} {f : Nat → Value} {A : Nat → (Nat → Value) → List Value → Prop} {l : List Value} (xs : List Value) (hr : w.rowIs b T n f) (ho : own b = k) (hW : B ≤ b) (hn : xs.length = n) (hA : A b (fun j => xs.getD j undef) l) :
    (fRow (W := W) (B := B) k T n A).fact l (ownBy own w i) (setAll w b 0 xs) :=
  ⟨b, _, hA, (if_pos hr.lt).trans ho, hW, setAll_row0 hr xs hn⟩
theorem OpsAt.of_block {w w' : World} {b o n c : Nat} {l : List (Int × Int)} (h : OpsAt w (.slice (some ⟨b, o, none⟩) n c) l) (hb : w'.heap[b]? = w.heap[b]?) : OpsAt w' (.slice (some ⟨b, o, none⟩) n c) l := by
  obtain ⟨a, cap, hv, hl, hc⟩ := h
  refine ⟨a, cap, hv, hl, fun i hi => ?_⟩
  obtain ⟨b', o', ha, h0, h1⟩ := hc i hi
  have ha' := ha
  subst ha
  injection hv with e1 e2 e3
  injection e1 with e1
  injection e1 with e1 e4 e5
  subst e1
  refine ⟨_, _, rfl, ?_, ?_⟩
  · rw [← h0]; exact World.cell?_of_block hb
  · rw [← h1]; exact World.cell?_of_block hb
theorem act_eq {a : Act} {t : Array Value} {d : List Deferred} (h1 : a.tmps = t) (h2 : a.defers = d) : a = { tmps := t, defers := d } := by
  cases a
  simp only at h1 h2
  subst h1 h2
  rfl
theorem frame_any (tm : Array Value) {n : Nat} (hn : tm.size = n) : ∃ u : Nat → Value, tm = ((List.range n).map u).toArray ∧ ∀ i, u i = tm[i]?.getD undef := by
  refine ⟨fun i => tm[i]?.getD undef, ?_, fun _ => rfl⟩
  subst hn
  refine Array.ext (by simp) fun i h1 h2 => ?_
  simp [h1]
theorem fBox_new {W w : World} {own : Nat → Nat} {i : Nat} {T : TypeId} (hB : Below W.heap.size W w) (c : Array Value) (hi : i < 900 := by decide) : (fBox (W := W) (B := W.heap.size) i T c.size hi).fact [.pointer (some ⟨w.heap.size, 0, none⟩)] (ownBy own w i) (w.alloc (.cells c T)) := fBox_newB (Nat.le_refl _) hB c hi
end Go.Proofs.YtmifhlkcceafkaaGreat

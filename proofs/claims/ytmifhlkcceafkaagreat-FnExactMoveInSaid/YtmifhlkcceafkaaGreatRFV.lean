/-
  As RFT: the last few operations of a region come one by one behind all others; and a slot that they alone write is as it was till then.
-/
import Derived.Test.YtmifhlkcceafkaaGreatSize

namespace Go.Proofs.YtmifhlkcceafkaaGreat
open Go.RowKit
def StepOkU (P : Program) (Q : QT) (W : World) (a0 : Act) (p : Plan) (ops fo : Array Oper) (F : Nat → Fact) (i : Nat) : Prop :=
  ∀ (a : Act) (w : World) (val : Nat → Value) (own : Nat → Nat), Below W.heap.size W w → FrameOk fo a0 a → (∀ r, r < W.heap.size → own r = 1000) → (∀ j ∈ p.anc.getD i [], Known ops p F val own a w j) →
    wpOp P ops Q i (fun a' w' => ∃ v, a' = a.put (dstOf ops i) v ∧ Does W W.heap.size (p.wr.getD i []) own w w' ∧ F i ((p.see.getD i []).map (upd val i v)) (ownBy own w i) w') a w
theorem wpAny_lastU {P : Program} {ops : Array Oper} {Q : QT} {W : World} {a0 : Act} {L : Nat} (p : Plan) (F : Nat → Fact) (hL : L < ops.size) (hch : chainB ops L = true) (hp : p.ok ops a0.tmps.size = true) (hall : (List.range L).all (fun j => (p.anc.getD L []).contains j) = true)
    (hstab : ∀ i, i < ops.size → ∀ l own own' w w', Keep W W.heap.size (p.dep.getD i []) own own' w w' → F i l own w → F i l own' w')
    (hstep : ∀ i, i < L → StepOkU P Q W a0 p ops (ops.extract 0 L) F i)
    (hend : ∀ a w val own, Below W.heap.size W w → FrameOk (ops.extract 0 L) a0 a → (∀ r, r < W.heap.size → own r = 1000) → (∀ i, i < L → Known ops p F val own a w i) → tailWp P ops Q (ops.size - L) L a w) :
    ∀ (fuel : Nat) (listed : Array Bool) (a : Act) (w : World), leftN listed ops.size ≤ fuel → (∀ k, L ≤ k → k < ops.size → listed.getD k true = false) → RInv W W.heap.size (fun _ => 1000) [] a0 p ops F listed a w → FrameOk (ops.extract 0 L) a0 a → wpAny P .any ops Q fuel listed a w := by
  have hLl : L < ops.size := hL
  have hoL : ops[L]? = some ops[L] := Array.getElem?_eq_getElem hLl
  have hnil : ∀ (listed : Array Bool) (a : Act) (w : World), listed.getD L true = false → RInv W W.heap.size (fun _ => 1000) [] a0 p ops F listed a w → Region.ready .any ops listed ≠ [] := by
    intro listed a w hlL hI hr
    have hls : ∀ i, i < L → listed.getD i false = true := by
      intro i
      induction i using Nat.strongRecOn with
      | ind i ih =>
        intro hi
        have ho : ops[i]? = some ops[i] := Array.getElem?_eq_getElem (by omega)
        have h1 := p.ok_at hp ho
        simp only [Plan.ok1, Bool.and_eq_true] at h1
        cases hl : listed.getD i true with
        | true =>
          have := hI.size
          have h' : i < listed.size := by omega
          simpa [h'] using hl
        | false =>
          have : i ∈ Region.ready .any ops listed := mem_ready.2 ⟨hl, _, ho, fun e he hb => by
            have hlt := Array.all_eq_true'.1 h1.1.1.2 e he
            rw [hb] at hlt
            have hlt' : e.on < i := by simpa using hlt
            exact ih e.on hlt' (by omega)⟩
          rw [hr] at this
          cases this
    have h1 := p.ok_at hp hoL
    simp only [Plan.ok1, Bool.and_eq_true] at h1
    have : L ∈ Region.ready .any ops listed := mem_ready.2 ⟨hlL, _, hoL, fun e he hb => by
      have hlt := Array.all_eq_true'.1 h1.1.1.2 e he
      rw [hb] at hlt
      exact hls e.on (by simpa using hlt)⟩
    rw [hr] at this
    cases this
  intro fuel
  induction fuel with
  | zero =>
    intro listed a w hz hlL hI hFO
    have := left_less hLl hI.size (hlL L (Nat.le_refl _) hLl)
    omega
  | succ fuel ih =>
    intro listed a w hz hlL hI hFO
    refine ⟨fun hr => absurd hr (hnil listed a w (hlL L (Nat.le_refl _) hLl) hI), fun i hi => ?_⟩
    obtain ⟨hu, o, ho, hall2⟩ := mem_ready.1 hi
    have hlt : i < ops.size := (Array.getElem?_eq_some_iff.1 ho).1
    have hanc := Plan.anc_listed hp hI i o ho hall2
    obtain ⟨val, own, hown, hk, _⟩ := hI.facts
    by_cases hiL : L ≤ i
    · have hls : ∀ j, j < L → listed.getD j false = true := fun j hj => by
        have hiL' : i = L := by
          rcases Nat.lt_or_ge L i with h | h
          · exfalso
            obtain ⟨o', ho', e, he, hb, hon⟩ := chainB_at hch h hlt
            rw [ho] at ho'
            cases ho'
            have h1 := hall2 e he hb
            have h2 := hlL e.on (by omega) (by omega)
            have hs := hI.size
            have h' : e.on < listed.size := by omega
            simp only [Array.getD_eq_getD_getElem?, Array.getElem?_eq_getElem h', Option.getD_some] at h1 h2
            rw [h1] at h2
            cases h2
          · omega
        subst hiL'
        exact hanc j (by simpa using List.all_eq_true.1 hall j (List.mem_range.2 hj))
      have HT := hend a w val own hI.base hFO hown fun j hj => hk j (by omega) (hls j hj)
      have HA := wpAny_tail (P := P) (Q := Q) (fun i o ho e he hb => by
        have h1 := p.ok_at hp ho
        simp only [Plan.ok1, Bool.and_eq_true] at h1
        have hlt := Array.all_eq_true'.1 h1.1.1.2 e he
        rw [hb] at hlt
        simpa using hlt) hch (ops.size - L) L (fuel + 1) listed a w (by omega) (tail_fuel hI.size (Nat.le_of_lt hLl) hlL hz) (Nat.le_refl _) hI.size hls hlL HT
      exact HA.2 i hi
    · have hancs : ∀ j ∈ p.anc.getD i [], j < ops.size := fun j hj => by
        have := hanc j hj
        have hs := hI.size
        rcases Nat.lt_or_ge j listed.size with h' | h'
        · omega
        · simp [Array.getElem?_eq_none h'] at this
      refine wpOp_mono ?_ (hstep i (by omega) a w val own hI.base hFO hown fun j hj => hk j (hancs j hj) (hanc j hj))
      rintro a' w' ⟨v, rfl, hdo, hF⟩
      refine ih _ _ _ (by have := left_less hlt hI.size hu; omega) (fun k hk1 hk2 => by rw [getD_set_ne true (by omega)]; exact hlL k hk1 hk2) ⟨by simp [hI.size], ?_, hdo.base, frame_put hI.frame, upd val i v, ownBy own w i, ?_, ?_, fun f hf => by cases hf⟩ (by
        have he : dstOf (ops.extract 0 L) i = dstOf ops i := by unfold dstOf; rw [Array.getElem?_extract, if_pos (by omega), Nat.zero_add]
        rw [← he]
        exact frame_put hFO)
      · intro k ok hok hkl e he hb
        rcases getD_set_or hkl with rfl | hkl
        · rw [ho] at hok
          cases hok
          exact getD_set_mono (hall2 e he hb)
        · exact getD_set_mono (hI.down k ok hok hkl e he hb)
      · intro r hr
        unfold ownBy
        rw [if_pos (Nat.lt_of_lt_of_le hr hI.base.size)]
        exact hown r hr
      · intro k hkl hkt
        rcases getD_set_or hkt with rfl | hkt
        · refine ⟨fun d hd => ?_, hF⟩
          have h1 := p.ok_at hp ho
          simp only [Plan.ok1, Bool.and_eq_true] at h1
          have hod : o.dst = some d := by simpa [dstOf, ho] using hd
          have hdl := h1.1.2
          rw [hod] at hdl
          have hdl' : d < a0.tmps.size := by simpa using hdl
          rw [hd]
          simp only [Act.put, upd, if_true]
          have hda : d < a.tmps.size := by rw [hI.frame.size]; exact hdl'
          simp [hda]
        · have hok : ops[k]? = some ops[k] := Array.getElem?_eq_getElem hkl
          have hne : i ≠ k := by
            rintro rfl
            have hs := hI.size
            have h' : i < listed.size := by omega
            simp [h'] at hu hkt
            rw [hu] at hkt
            cases hkt
          refine known_step hp hstab hok hlt hne ?_ hdo (hk k hkl hkt)
          intro hm
          have := Plan.anc_listed hp hI k ops[k] hok (fun e he hb => hI.down k _ hok hkt e he hb) i hm
          have hs := hI.size
          have h' : i < listed.size := by omega
          simp [h'] at hu this
          rw [hu] at this
          cases this
theorem wp_region_fu {P : Program} {id : Nat} {ops : Array Oper} {Q : QT} {a0 : Act} {w0 : World} (anc see wr : List (List Nat)) (fs : List (OpF w0 w0.heap.size)) (n : Nat) (m : Nat) (hn : ops.size = n + (m + 1)) (hch : chainB ops n = true) (hm : P.follows .mixedOrders = true) (hp : (planOf anc see wr fs).ok ops a0.tmps.size = true) (hall : (List.range n).all (fun j => ((planOf anc see wr fs).anc.getD n []).contains j) = true)
    (hstep : ∀ i, i < n → StepOkU P Q w0 a0 (planOf anc see wr fs) ops (ops.extract 0 n) (factOf fs) i)
    (hend : ∀ a w val own, Below w0.heap.size w0 w → FrameOk (ops.extract 0 n) a0 a → (∀ r, r < w0.heap.size → own r = 1000) → (∀ i, i < n → Known ops (planOf anc see wr fs) (factOf fs) val own a w i) → tailWp P ops Q (m + 1) n a w) :
    (Code.region id ops true).wp P Q a0 w0 := by
  refine wp_region_any hm (wpAny_lastU (planOf anc see wr fs) (factOf fs) (by omega) hch hp hall ?_ hstep (by rw [show ops.size - n = m + 1 by omega]; exact hend) ops.size _ a0 _ ?_ ?_ ?_ ⟨rfl, rfl, fun _ _ => rfl⟩)
  · exact fs_stab anc see wr fs _
  · unfold leftN
    exact Nat.le_trans (List.length_filter_le _ _) (by simp)
  · intro k _ hk
    simp [hk]
  · refine ⟨by simp, ?_, (Below.refl _ w0).drew, ⟨rfl, rfl, fun _ _ => rfl⟩, fun _ => undef, fun _ => 1000, fun _ _ => rfl, ?_, fun f hf => by cases hf⟩
    · intro i o ho hl
      have hi : i < ops.size := (Array.getElem?_eq_some_iff.1 ho).1
      simp [hi] at hl
    · intro i hi hl
      simp [hi] at hl
end Go.Proofs.YtmifhlkcceafkaaGreat

/-
  As RFU, where one operation that waits for nothing may come up late.
-/
namespace Go.Proofs.YtmifhlkcceafkaaGreat
open Go.RowKit
theorem wpAny_lastV {P : Program} {ops : Array Oper} {Q : QT} {W : World} {a0 : Act} {L z : Nat} (p : Plan) (F : Nat → Fact) (hL : L < ops.size) (hch : chainB ops L = true) (hp : p.ok ops a0.tmps.size = true) (hzL : z < L) (hall : (List.range L).all (fun j => j == z || (p.anc.getD L []).contains j) = true)
    (hstab : ∀ i, i < ops.size → ∀ l own own' w w', Keep W W.heap.size (p.dep.getD i []) own own' w w' → F i l own w → F i l own' w')
    (hstep : ∀ i, i < L → StepOkU P Q W a0 p ops (ops.extract 0 L) F i)
    (hend : ∀ a w val own, Below W.heap.size W w → FrameOk (ops.extract 0 L) a0 a → (∀ r, r < W.heap.size → own r = 1000) → (∀ i, i < L → Known ops p F val own a w i) → tailWp P ops Q (ops.size - L) L a w) :
    ∀ (fuel : Nat) (listed : Array Bool) (a : Act) (w : World), leftN listed ops.size ≤ fuel → listed.getD z false = true → (∀ k, L ≤ k → k < ops.size → listed.getD k true = false) → RInv W W.heap.size (fun _ => 1000) [] a0 p ops F listed a w → FrameOk (ops.extract 0 L) a0 a → wpAny P .any ops Q fuel listed a w := by
  have hLl : L < ops.size := hL
  have hoL : ops[L]? = some ops[L] := Array.getElem?_eq_getElem hLl
  have hnil : ∀ (listed : Array Bool) (a : Act) (w : World), listed.getD L true = false → RInv W W.heap.size (fun _ => 1000) [] a0 p ops F listed a w → Region.ready .any ops listed ≠ [] := by
    intro listed a w hlL hI hr
    have hls : ∀ i, i < L → listed.getD i false = true := by
      intro i
      induction i using Nat.strongRecOn with
      | ind i ih =>
        intro hi
        have ho : ops[i]? = some ops[i] := Array.getElem?_eq_getElem (by omega)
        have h1 := p.ok_at hp ho
        simp only [Plan.ok1, Bool.and_eq_true] at h1
        cases hl : listed.getD i true with
        | true =>
          have := hI.size
          have h' : i < listed.size := by omega
          simpa [h'] using hl
        | false =>
          have : i ∈ Region.ready .any ops listed := mem_ready.2 ⟨hl, _, ho, fun e he hb => by
            have hlt := Array.all_eq_true'.1 h1.1.1.2 e he
            rw [hb] at hlt
            have hlt' : e.on < i := by simpa using hlt
            exact ih e.on hlt' (by omega)⟩
          rw [hr] at this
          cases this
    have h1 := p.ok_at hp hoL
    simp only [Plan.ok1, Bool.and_eq_true] at h1
    have : L ∈ Region.ready .any ops listed := mem_ready.2 ⟨hlL, _, hoL, fun e he hb => by
      have hlt := Array.all_eq_true'.1 h1.1.1.2 e he
      rw [hb] at hlt
      exact hls e.on (by simpa using hlt)⟩
    rw [hr] at this
    cases this
  intro fuel
  induction fuel with
  | zero =>
    intro listed a w hz hzl hlL hI hFO
    have := left_less hLl hI.size (hlL L (Nat.le_refl _) hLl)
    omega
  | succ fuel ih =>
    intro listed a w hz hzl hlL hI hFO
    refine ⟨fun hr => absurd hr (hnil listed a w (hlL L (Nat.le_refl _) hLl) hI), fun i hi => ?_⟩
    obtain ⟨hu, o, ho, hall2⟩ := mem_ready.1 hi
    have hlt : i < ops.size := (Array.getElem?_eq_some_iff.1 ho).1
    have hanc := Plan.anc_listed hp hI i o ho hall2
    obtain ⟨val, own, hown, hk, _⟩ := hI.facts
    by_cases hiL : L ≤ i
    · have hls : ∀ j, j < L → listed.getD j false = true := fun j hj => by
        have hiL' : i = L := by
          rcases Nat.lt_or_ge L i with h | h
          · exfalso
            obtain ⟨o', ho', e, he, hb, hon⟩ := chainB_at hch h hlt
            rw [ho] at ho'
            cases ho'
            have h1 := hall2 e he hb
            have h2 := hlL e.on (by omega) (by omega)
            have hs := hI.size
            have h' : e.on < listed.size := by omega
            simp only [Array.getD_eq_getD_getElem?, Array.getElem?_eq_getElem h', Option.getD_some] at h1 h2
            rw [h1] at h2
            cases h2
          · omega
        subst hiL'
        have hj2 := List.all_eq_true.1 hall j (List.mem_range.2 hj)
        simp only [Bool.or_eq_true, beq_iff_eq] at hj2
        rcases hj2 with rfl | hj2
        · exact hzl
        · exact hanc j (by simpa using hj2)
      have HT := hend a w val own hI.base hFO hown fun j hj => hk j (by omega) (hls j hj)
      have HA := wpAny_tail (P := P) (Q := Q) (fun i o ho e he hb => by
        have h1 := p.ok_at hp ho
        simp only [Plan.ok1, Bool.and_eq_true] at h1
        have hlt := Array.all_eq_true'.1 h1.1.1.2 e he
        rw [hb] at hlt
        simpa using hlt) hch (ops.size - L) L (fuel + 1) listed a w (by omega) (tail_fuel hI.size (Nat.le_of_lt hLl) hlL hz) (Nat.le_refl _) hI.size hls hlL HT
      exact HA.2 i hi
    · have hancs : ∀ j ∈ p.anc.getD i [], j < ops.size := fun j hj => by
        have := hanc j hj
        have hs := hI.size
        rcases Nat.lt_or_ge j listed.size with h' | h'
        · omega
        · simp [Array.getElem?_eq_none h'] at this
      refine wpOp_mono ?_ (hstep i (by omega) a w val own hI.base hFO hown fun j hj => hk j (hancs j hj) (hanc j hj))
      rintro a' w' ⟨v, rfl, hdo, hF⟩
      refine ih _ _ _ (by have := left_less hlt hI.size hu; omega) (getD_set_mono hzl) (fun k hk1 hk2 => by rw [getD_set_ne true (by omega)]; exact hlL k hk1 hk2) ⟨by simp [hI.size], ?_, hdo.base, frame_put hI.frame, upd val i v, ownBy own w i, ?_, ?_, fun f hf => by cases hf⟩ (by
        have he : dstOf (ops.extract 0 L) i = dstOf ops i := by unfold dstOf; rw [Array.getElem?_extract, if_pos (by omega), Nat.zero_add]
        rw [← he]
        exact frame_put hFO)
      · intro k ok hok hkl e he hb
        rcases getD_set_or hkl with rfl | hkl
        · rw [ho] at hok
          cases hok
          exact getD_set_mono (hall2 e he hb)
        · exact getD_set_mono (hI.down k ok hok hkl e he hb)
      · intro r hr
        unfold ownBy
        rw [if_pos (Nat.lt_of_lt_of_le hr hI.base.size)]
        exact hown r hr
      · intro k hkl hkt
        rcases getD_set_or hkt with rfl | hkt
        · refine ⟨fun d hd => ?_, hF⟩
          have h1 := p.ok_at hp ho
          simp only [Plan.ok1, Bool.and_eq_true] at h1
          have hod : o.dst = some d := by simpa [dstOf, ho] using hd
          have hdl := h1.1.2
          rw [hod] at hdl
          have hdl' : d < a0.tmps.size := by simpa using hdl
          rw [hd]
          simp only [Act.put, upd, if_true]
          have hda : d < a.tmps.size := by rw [hI.frame.size]; exact hdl'
          simp [hda]
        · have hok : ops[k]? = some ops[k] := Array.getElem?_eq_getElem hkl
          have hne : i ≠ k := by
            rintro rfl
            have hs := hI.size
            have h' : i < listed.size := by omega
            simp [h'] at hu hkt
            rw [hu] at hkt
            cases hkt
          refine known_step hp hstab hok hlt hne ?_ hdo (hk k hkl hkt)
          intro hm
          have := Plan.anc_listed hp hI k ops[k] hok (fun e he hb => hI.down k _ hok hkt e he hb) i hm
          have hs := hI.size
          have h' : i < listed.size := by omega
          simp [h'] at hu this
          rw [hu] at this
          cases this
theorem wp_region_fv {P : Program} {id : Nat} {ops : Array Oper} {Q : QT} {a0 : Act} {w0 : World} (anc see wr : List (List Nat)) (fs : List (OpF w0 w0.heap.size)) (n : Nat) (m : Nat) (z : Nat) (z0 : Value) (hn : ops.size = n + (m + 1)) (hch : chainB ops n = true) (hm : P.follows .mixedOrders = true) (hp : (planOf anc see wr fs).ok ops a0.tmps.size = true) (hall : (List.range n).all (fun j => j == z || ((planOf anc see wr fs).anc.getD n []).contains j) = true)
    (hzn : z < n) (hs : Region.noSelect ops = true) (hfr : Region.free .any ops (Array.replicate ops.size false) z = true) (hrd : (Region.ready .any ops (Array.replicate ops.size false)).contains z = true) (hna : (match ops[z]? with | some o => o.after.size == 0 | none => false) = true)
    (hQ : ∀ c a w, Q (.panic c) (a.put (dstOf ops z) z0) w → Q (.panic c) a w) {o0 : Oper} (ho0 : ops[z]? = some o0) (hy : Yields P ops o0 z0 a0) (hF0 : factOf fs z (((planOf anc see wr fs).see.getD z []).map (upd (fun _ => undef) z z0)) (fun _ => 1000) w0.drew)
    (hstep : ∀ i, i < n → StepOkU P Q w0 a0 (planOf anc see wr fs) ops (ops.extract 0 n) (factOf fs) i)
    (hend : ∀ a w val own, Below w0.heap.size w0 w → FrameOk (ops.extract 0 n) a0 a → (∀ r, r < w0.heap.size → own r = 1000) → (∀ i, i < n → Known ops (planOf anc see wr fs) (factOf fs) val own a w i) → tailWp P ops Q (m + 1) n a w) :
    (Code.region id ops true).wp P Q a0 w0 := by
  have hzl : z < ops.size := by omega
  have hzo : ops[z]? = some ops[z] := Array.getElem?_eq_getElem hzl
  have hdz : dstOf ops z = ops[z].dst := by unfold dstOf; rw [hzo]; rfl
  have hfz : dstOf (ops.extract 0 n) z = dstOf ops z := by unfold dstOf; rw [Array.getElem?_extract, if_pos (by omega), Nat.zero_add]
  have hsz : ops.size = (ops.size - 1) + 1 := by omega
  rw [hzo] at hna
  have hna' : ops[z].after.size = 0 := by simpa using hna
  refine wp_region_any hm ?_
  have H : wpAny P .any ops Q ((ops.size - 1) + 1) (Array.replicate ops.size false) a0 w0.drew := by
    refine wpAny_take hzo hs hfr hrd (by rw [← hdz]; exact hQ) (by rw [hzo] at ho0; cases ho0; exact hy) ?_
    rw [← hdz]
    refine wpAny_lastV (z := z) (planOf anc see wr fs) (factOf fs) (by omega) hch hp hzn hall (fs_stab anc see wr fs _) hstep (by rw [show ops.size - n = m + 1 by omega]; exact hend) _ _ _ _ ?_ ?_ ?_ ?_ ?_
    · have h1 := left_less (l := Array.replicate ops.size false) hzl (by simp) (by simp [hzl])
      have h2 : leftN (Array.replicate ops.size false) ops.size ≤ ops.size := by
        unfold leftN
        exact Nat.le_trans (List.length_filter_le _ _) (by simp)
      omega
    · simp [hzl]
    · intro k h1 h2
      rw [getD_set_ne true (by omega)]
      simp [h2]
    · refine ⟨by simp, ?_, (Below.refl _ w0).drew, frame_put ⟨rfl, rfl, fun _ _ => rfl⟩, upd (fun _ => undef) z z0, fun _ => 1000, fun _ _ => rfl, ?_, fun f hf => by cases hf⟩
      · intro i o ho hl e he
        rcases getD_set_or hl with rfl | hl
        · rw [hzo] at ho
          cases ho
          rw [Array.eq_empty_of_size_eq_zero hna'] at he
          simp at he
        · have hi : i < ops.size := (Array.getElem?_eq_some_iff.1 ho).1
          simp [hi] at hl
      · intro i hi hl
        rcases getD_set_or hl with rfl | hl
        · refine ⟨fun d hd => ?_, hF0⟩
          have h1 := Plan.ok_at hp hzo
          simp only [Plan.ok1, Bool.and_eq_true] at h1
          have hod : ops[i].dst = some d := by rw [← hdz]; exact hd
          have hdl := h1.1.2
          rw [hod] at hdl
          have hdl' : d < a0.tmps.size := by simpa using hdl
          rw [hd]
          simp [Act.put, upd, hdl']
        · simp [hi] at hl
    · rw [← hfz]
      exact frame_put ⟨rfl, rfl, fun _ _ => rfl⟩
  rw [← hsz] at H
  exact H
end Go.Proofs.YtmifhlkcceafkaaGreat

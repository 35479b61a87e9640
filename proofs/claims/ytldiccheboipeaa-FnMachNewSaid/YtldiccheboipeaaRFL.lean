/-
  A region that draws its order, whose last operation comes behind all others and may write what was there.
-/
import Derived.Test.YtldiccheboipeaaRF
namespace Go.Proofs.Ytldiccheboipeaa
open Go.RowKit

/-- the last operation, which may write what was there, comes behind all others -/
theorem wpAny_last {P : Program} {ops : Array Oper} {Q : QT} {W : World} {a0 : Act} {L : Nat} (p : Plan) (F : Nat → Fact) (hL : ops.size = L + 1) (hp : p.ok ops a0.tmps.size = true) (hall : (List.range L).all (fun j => (p.anc.getD L []).contains j) = true)
    (hstab : ∀ i, i < ops.size → ∀ l own own' w w', Keep W W.heap.size (p.dep.getD i []) own own' w w' → F i l own w → F i l own' w')
    (hstep : ∀ i, i < L → StepOk P Q W a0 p ops F i)
    (hend : ∀ a w val own, Below W.heap.size W w → FrameOk ops a0 a → (∀ r, r < W.heap.size → own r = 1000) → (∀ i, i < L → Known ops p F val own a w i) → wpOp P ops Q L (Q .normal) a w) :
    ∀ (fuel : Nat) (listed : Array Bool) (a : Act) (w : World), leftN listed ops.size ≤ fuel → listed.getD L true = false → RInv W W.heap.size (fun _ => 1000) [] a0 p ops F listed a w → wpAny P .any ops Q fuel listed a w := by
  have hLl : L < ops.size := by omega
  have hoL : ops[L]? = some ops[L] := Array.getElem?_eq_getElem hLl
  have hnil : ∀ (listed : Array Bool) (a : Act) (w : World), listed.getD L true = false → RInv W W.heap.size (fun _ => 1000) [] a0 p ops F listed a w → Region.ready .any ops listed ≠ [] := by
    intro listed a w hlL hI hr
    have hls : ∀ i, i < L → listed.getD i false = true := by
      intro i
      induction i using Nat.strongRecOn with
      | ind i ih =>
        intro hi
        have ho : ops[i]? = some ops[i] := Array.getElem?_eq_getElem (by omega)
        have h1 := p.ok_at hp ho
        simp only [Plan.ok1, Bool.and_eq_true] at h1
        cases hl : listed.getD i true with
        | true =>
          have := hI.size
          have h' : i < listed.size := by omega
          simpa [h'] using hl
        | false =>
          have : i ∈ Region.ready .any ops listed := mem_ready.2 ⟨hl, _, ho, fun e he hb => by
            have hlt := Array.all_eq_true'.1 h1.1.1.2 e he
            rw [hb] at hlt
            have hlt' : e.on < i := by simpa using hlt
            exact ih e.on hlt' (by omega)⟩
          rw [hr] at this
          cases this
    have h1 := p.ok_at hp hoL
    simp only [Plan.ok1, Bool.and_eq_true] at h1
    have : L ∈ Region.ready .any ops listed := mem_ready.2 ⟨hlL, _, hoL, fun e he hb => by
      have hlt := Array.all_eq_true'.1 h1.1.1.2 e he
      rw [hb] at hlt
      exact hls e.on (by simpa using hlt)⟩
    rw [hr] at this
    cases this
  intro fuel
  induction fuel with
  | zero =>
    intro listed a w hz hlL hI
    have := left_less hLl hI.size hlL
    omega
  | succ fuel ih =>
    intro listed a w hz hlL hI
    refine ⟨fun hr => absurd hr (hnil listed a w hlL hI), fun i hi => ?_⟩
    obtain ⟨hu, o, ho, hall2⟩ := mem_ready.1 hi
    have hlt : i < ops.size := (Array.getElem?_eq_some_iff.1 ho).1
    have hanc := Plan.anc_listed hp hI i o ho hall2
    obtain ⟨val, own, hown, hk, _⟩ := hI.facts
    by_cases hiL : i = L
    · subst hiL
      have hls : ∀ j, j < i → listed.getD j false = true := fun j hj => hanc j (by simpa using List.all_eq_true.1 hall j (List.mem_range.2 hj))
      refine wpOp_mono ?_ (hend a w val own hI.base hI.frame hown fun j hj => hk j (by omega) (hls j hj))
      intro a' w' hQ
      have hrn : Region.ready .any ops (listed.setIfInBounds i true) = [] := by
        cases hr : Region.ready .any ops (listed.setIfInBounds i true) with
        | nil => rfl
        | cons x t =>
          have hx : x ∈ Region.ready .any ops (listed.setIfInBounds i true) := by rw [hr]; simp
          obtain ⟨hxu, ox, hox, _⟩ := mem_ready.1 hx
          have hxl : x < ops.size := (Array.getElem?_eq_some_iff.1 hox).1
          have : (listed.setIfInBounds i true).getD x false = true := by
            by_cases e : x = i
            · subst e
              exact getD_set_self' (by have := hI.size; omega)
            · exact getD_set_mono (hls x (by omega))
          have hs := hI.size
          have h' : x < (listed.setIfInBounds i true).size := by simp; omega
          simp only [Array.getD_eq_getD_getElem?, Array.getElem?_eq_getElem h', Option.getD_some] at hxu this
          rw [hxu] at this
          cases this
      cases fuel with
      | zero => exact ⟨hrn, hQ⟩
      | succ fuel => exact ⟨fun _ => hQ, fun k hk => by rw [hrn] at hk; cases hk⟩
    · have hancs : ∀ j ∈ p.anc.getD i [], j < ops.size := fun j hj => by
        have := hanc j hj
        have hs := hI.size
        rcases Nat.lt_or_ge j listed.size with h' | h'
        · omega
        · simp [Array.getElem?_eq_none h'] at this
      refine wpOp_mono ?_ (hstep i (by omega) a w val own hI.base hI.frame hown fun j hj => hk j (hancs j hj) (hanc j hj))
      rintro a' w' ⟨v, rfl, hdo, hF⟩
      refine ih _ _ _ (by have := left_less hlt hI.size hu; omega) (by rw [getD_set_ne true hiL]; exact hlL) ⟨by simp [hI.size], ?_, hdo.base, frame_put hI.frame, upd val i v, ownBy own w i, ?_, ?_, fun f hf => by cases hf⟩
      · intro k ok hok hkl e he hb
        rcases getD_set_or hkl with rfl | hkl
        · rw [ho] at hok
          cases hok
          exact getD_set_mono (hall2 e he hb)
        · exact getD_set_mono (hI.down k ok hok hkl e he hb)
      · intro r hr
        unfold ownBy
        rw [if_pos (Nat.lt_of_lt_of_le hr hI.base.size)]
        exact hown r hr
      · intro k hkl hkt
        rcases getD_set_or hkt with rfl | hkt
        · refine ⟨fun d hd => ?_, hF⟩
          have h1 := p.ok_at hp ho
          simp only [Plan.ok1, Bool.and_eq_true] at h1
          have hod : o.dst = some d := by simpa [dstOf, ho] using hd
          have hdl := h1.1.2
          rw [hod] at hdl
          have hdl' : d < a0.tmps.size := by simpa using hdl
          rw [hd]
          simp only [Act.put, upd, if_true]
          have hda : d < a.tmps.size := by rw [hI.frame.size]; exact hdl'
          simp [hda]
        · have hok : ops[k]? = some ops[k] := Array.getElem?_eq_getElem hkl
          have hne : i ≠ k := by
            rintro rfl
            have hs := hI.size
            have h' : i < listed.size := by omega
            simp [h'] at hu hkt
            rw [hu] at hkt
            cases hkt
          refine known_step hp hstab hok hlt hne ?_ hdo (hk k hkl hkt)
          intro hm
          have := Plan.anc_listed hp hI k ops[k] hok (fun e he hb => hI.down k _ hok hkt e he hb) i hm
          have hs := hI.size
          have h' : i < listed.size := by omega
          simp [h'] at hu this
          rw [hu] at this
          cases this

theorem wp_region_fl {P : Program} {id : Nat} {ops : Array Oper} {Q : QT} {a0 : Act} {w0 : World} (anc see wr : List (List Nat)) (fs : List (OpF w0 w0.heap.size)) (n : Nat) (hn : ops.size = n + 1) (hm : P.follows .mixedOrders = true) (hp : (planOf anc see wr fs).ok ops a0.tmps.size = true) (hall : (List.range n).all (fun j => ((planOf anc see wr fs).anc.getD n []).contains j) = true)
    (hstep : ∀ i, i < n → StepOk P Q w0 a0 (planOf anc see wr fs) ops (factOf fs) i)
    (hend : ∀ a w val own, Below w0.heap.size w0 w → FrameOk ops a0 a → (∀ r, r < w0.heap.size → own r = 1000) → (∀ i, i < n → Known ops (planOf anc see wr fs) (factOf fs) val own a w i) → wpOp P ops Q n (Q .normal) a w) :
    (Code.region id ops true).wp P Q a0 w0 := by
  refine wp_region_any hm (wpAny_last (planOf anc see wr fs) (factOf fs) hn hp hall ?_ hstep hend ops.size _ a0 _ ?_ ?_ ?_)
  · exact fs_stab anc see wr fs _
  · unfold leftN
    exact Nat.le_trans (List.length_filter_le _ _) (by simp)
  · simp [show n < ops.size by omega]
  · refine ⟨by simp, ?_, (Below.refl _ w0).drew, ⟨rfl, rfl, fun _ _ => rfl⟩, fun _ => undef, fun _ => 1000, fun _ _ => rfl, ?_, fun f hf => by cases hf⟩
    · intro i o ho hl
      have hi : i < ops.size := (Array.getElem?_eq_some_iff.1 ho).1
      simp [hi] at hl
    · intro i hi hl
      simp [hi] at hl

end Go.Proofs.Ytldiccheboipeaa

/-
  A region that draws its order, whose last operation comes behind all others and may write what was there.
-/
import Derived.Test.YtmifhlkcceafkaaGreatRF
import Derived.Test.YtmifhlkcceafkaaGreatProg
import Derived.Test.YtmifhlkcceafkaaGreatHPlain

namespace Go.Proofs.YtmifhlkcceafkaaGreat
open Go.RowKit
theorem wpAny_last {P : Program} {ops : Array Oper} {Q : QT} {W : World} {a0 : Act} {L : Nat} (p : Plan) (F : Nat → Fact) (hL : ops.size = L + 1) (hp : p.ok ops a0.tmps.size = true) (hall : (List.range L).all (fun j => (p.anc.getD L []).contains j) = true)
    (hstab : ∀ i, i < ops.size → ∀ l own own' w w', Keep W W.heap.size (p.dep.getD i []) own own' w w' → F i l own w → F i l own' w')
    (hstep : ∀ i, i < L → StepOk P Q W a0 p ops F i)
    (hend : ∀ a w val own, Below W.heap.size W w → FrameOk ops a0 a → (∀ r, r < W.heap.size → own r = 1000) → (∀ i, i < L → Known ops p F val own a w i) → wpOp P ops Q L (Q .normal) a w) :
    ∀ (fuel : Nat) (listed : Array Bool) (a : Act) (w : World), leftN listed ops.size ≤ fuel → listed.getD L true = false → RInv W W.heap.size (fun _ => 1000) [] a0 p ops F listed a w → wpAny P .any ops Q fuel listed a w := by
  have hLl : L < ops.size := by omega
  have hoL : ops[L]? = some ops[L] := Array.getElem?_eq_getElem hLl
  have hnil : ∀ (listed : Array Bool) (a : Act) (w : World), listed.getD L true = false → RInv W W.heap.size (fun _ => 1000) [] a0 p ops F listed a w → Region.ready .any ops listed ≠ [] := by
    intro listed a w hlL hI hr
    have hls : ∀ i, i < L → listed.getD i false = true := by
      intro i
      induction i using Nat.strongRecOn with
      | ind i ih =>
        intro hi
        have ho : ops[i]? = some ops[i] := Array.getElem?_eq_getElem (by omega)
        have h1 := p.ok_at hp ho
        simp only [Plan.ok1, Bool.and_eq_true] at h1
        cases hl : listed.getD i true with
        | true =>
          have := hI.size
          have h' : i < listed.size := by omega
          simpa [h'] using hl
        | false =>
          have : i ∈ Region.ready .any ops listed := mem_ready.2 ⟨hl, _, ho, fun e he hb => by
            have hlt := Array.all_eq_true'.1 h1.1.1.2 e he
            rw [hb] at hlt
            have hlt' : e.on < i := by simpa using hlt
            exact ih e.on hlt' (by omega)⟩
          rw [hr] at this
          cases this
    have h1 := p.ok_at hp hoL
    simp only [Plan.ok1, Bool.and_eq_true] at h1
    have : L ∈ Region.ready .any ops listed := mem_ready.2 ⟨hlL, _, hoL, fun e he hb => by
      have hlt := Array.all_eq_true'.1 h1.1.1.2 e he
      rw [hb] at hlt
      exact hls e.on (by simpa using hlt)⟩
    rw [hr] at this
    cases this
  intro fuel
  induction fuel with
  | zero =>
    intro listed a w hz hlL hI
    have := left_less hLl hI.size hlL
    omega
  | succ fuel ih =>
    intro listed a w hz hlL hI
    refine ⟨fun hr => absurd hr (hnil listed a w hlL hI), fun i hi => ?_⟩
    obtain ⟨hu, o, ho, hall2⟩ := mem_ready.1 hi
    have hlt : i < ops.size := (Array.getElem?_eq_some_iff.1 ho).1
    have hanc := Plan.anc_listed hp hI i o ho hall2
    obtain ⟨val, own, hown, hk, _⟩ := hI.facts
    by_cases hiL : i = L
    · subst hiL
      have hls : ∀ j, j < i → listed.getD j false = true := fun j hj => hanc j (by simpa using List.all_eq_true.1 hall j (List.mem_range.2 hj))
      refine wpOp_mono ?_ (hend a w val own hI.base hI.frame hown fun j hj => hk j (by omega) (hls j hj))
      intro a' w' hQ
      have hrn : Region.ready .any ops (listed.setIfInBounds i true) = [] := by
        cases hr : Region.ready .any ops (listed.setIfInBounds i true) with
        | nil => rfl
        | cons x t =>
          have hx : x ∈ Region.ready .any ops (listed.setIfInBounds i true) := by rw [hr]; simp
          obtain ⟨hxu, ox, hox, _⟩ := mem_ready.1 hx
          have hxl : x < ops.size := (Array.getElem?_eq_some_iff.1 hox).1
          have : (listed.setIfInBounds i true).getD x false = true := by
            by_cases e : x = i
            · subst e
              exact getD_set_self' (by have := hI.size; omega)
            · exact getD_set_mono (hls x (by omega))
          have hs := hI.size
          have h' : x < (listed.setIfInBounds i true).size := by simp; omega
          simp only [Array.getD_eq_getD_getElem?, Array.getElem?_eq_getElem h', Option.getD_some] at hxu this
          rw [hxu] at this
          cases this
      cases fuel with
      | zero => exact ⟨hrn, hQ⟩
      | succ fuel => exact ⟨fun _ => hQ, fun k hk => by rw [hrn] at hk; cases hk⟩
    · have hancs : ∀ j ∈ p.anc.getD i [], j < ops.size := fun j hj => by
        have := hanc j hj
        have hs := hI.size
        rcases Nat.lt_or_ge j listed.size with h' | h'
        · omega
        · simp [Array.getElem?_eq_none h'] at this
      refine wpOp_mono ?_ (hstep i (by omega) a w val own hI.base hI.frame hown fun j hj => hk j (hancs j hj) (hanc j hj))
      rintro a' w' ⟨v, rfl, hdo, hF⟩
      refine ih _ _ _ (by have := left_less hlt hI.size hu; omega) (by rw [getD_set_ne true hiL]; exact hlL) ⟨by simp [hI.size], ?_, hdo.base, frame_put hI.frame, upd val i v, ownBy own w i, ?_, ?_, fun f hf => by cases hf⟩
      · intro k ok hok hkl e he hb
        rcases getD_set_or hkl with rfl | hkl
        · rw [ho] at hok
          cases hok
          exact getD_set_mono (hall2 e he hb)
        · exact getD_set_mono (hI.down k ok hok hkl e he hb)
      · intro r hr
        unfold ownBy
        rw [if_pos (Nat.lt_of_lt_of_le hr hI.base.size)]
        exact hown r hr
      · intro k hkl hkt
        rcases getD_set_or hkt with rfl | hkt
        · refine ⟨fun d hd => ?_, hF⟩
          have h1 := p.ok_at hp ho
          simp only [Plan.ok1, Bool.and_eq_true] at h1
          have hod : o.dst = some d := by simpa [dstOf, ho] using hd
          have hdl := h1.1.2
          rw [hod] at hdl
          have hdl' : d < a0.tmps.size := by simpa using hdl
          rw [hd]
          simp only [Act.put, upd, if_true]
          have hda : d < a.tmps.size := by rw [hI.frame.size]; exact hdl'
          simp [hda]
        · have hok : ops[k]? = some ops[k] := Array.getElem?_eq_getElem hkl
          have hne : i ≠ k := by
            rintro rfl
            have hs := hI.size
            have h' : i < listed.size := by omega
            simp [h'] at hu hkt
            rw [hu] at hkt
            cases hkt
          refine known_step hp hstab hok hlt hne ?_ hdo (hk k hkl hkt)
          intro hm
          have := Plan.anc_listed hp hI k ops[k] hok (fun e he hb => hI.down k _ hok hkt e he hb) i hm
          have hs := hI.size
          have h' : i < listed.size := by omega
          simp [h'] at hu this
          rw [hu] at this
          cases this
theorem wp_region_fl {P : Program} {id : Nat} {ops : Array Oper} {Q : QT} {a0 : Act} {w0 : World} (anc see wr : List (List Nat)) (fs : List (OpF w0 w0.heap.size)) (n : Nat) (hn : ops.size = n + 1) (hm : P.follows .mixedOrders = true) (hp : (planOf anc see wr fs).ok ops a0.tmps.size = true) (hall : (List.range n).all (fun j => ((planOf anc see wr fs).anc.getD n []).contains j) = true)
    (hstep : ∀ i, i < n → StepOk P Q w0 a0 (planOf anc see wr fs) ops (factOf fs) i)
    (hend : ∀ a w val own, Below w0.heap.size w0 w → FrameOk ops a0 a → (∀ r, r < w0.heap.size → own r = 1000) → (∀ i, i < n → Known ops (planOf anc see wr fs) (factOf fs) val own a w i) → wpOp P ops Q n (Q .normal) a w) :
    (Code.region id ops true).wp P Q a0 w0 := by
  refine wp_region_any hm (wpAny_last (planOf anc see wr fs) (factOf fs) hn hp hall ?_ hstep hend ops.size _ a0 _ ?_ ?_ ?_)
  · exact fs_stab anc see wr fs _
  · unfold leftN
    exact Nat.le_trans (List.length_filter_le _ _) (by simp)
  · simp [show n < ops.size by omega]
  · refine ⟨by simp, ?_, (Below.refl _ w0).drew, ⟨rfl, rfl, fun _ _ => rfl⟩, fun _ => undef, fun _ => 1000, fun _ _ => rfl, ?_, fun f hf => by cases hf⟩
    · intro i o ho hl
      have hi : i < ops.size := (Array.getElem?_eq_some_iff.1 ho).1
      simp [hi] at hl
    · intro i hi hl
      simp [hi] at hl
end Go.Proofs.YtmifhlkcceafkaaGreat

/-
  A region that draws its order, whose last operations come one by one behind all others and may write what was there.
-/
namespace Go.Proofs.YtmifhlkcceafkaaGreat
open Go.RowKit
theorem sets_any {x : Array Value} : ∀ (ds : List Nat) (t : Array Value), t.size = x.size → (∀ d, d ∉ ds → t[d]? = x[d]?) → x = ds.foldl (fun t d => t.setIfInBounds d (x[d]?.getD undef)) t
  | [], t, _, h => Array.ext_getElem? fun d => (h d (by simp)).symm
  | e :: ds, t, hs, h => by
    refine sets_any ds _ (by simpa using hs) fun d hd => ?_
    rw [Array.getElem?_setIfInBounds]
    by_cases hed : e = d
    · subst hed
      rw [if_pos rfl, hs]
      by_cases hl : e < x.size
      · simp [hl]
      · simp [hl]
    · rw [if_neg hed]
      exact h d (by simp; exact ⟨fun q => hed q.symm, hd⟩)
theorem frame_sets {ops : Array Oper} {a0 a : Act} (hf : FrameOk ops a0 a) (ds : List Nat) (hds : (List.range ops.size).all (fun i => match dstOf ops i with | some d => ds.contains d | none => true) = true) : a.tmps = ds.foldl (fun t d => t.setIfInBounds d (a.tmps[d]?.getD undef)) a0.tmps := by
  refine sets_any ds _ hf.size.symm fun d hd => (hf.slot d fun i hi => ?_).symm
  rcases Nat.lt_or_ge i ops.size with h | h
  · have := List.all_eq_true.1 hds i (List.mem_range.2 h)
    rw [hi] at this
    exact hd (by simpa using this)
  · rw [dstOf, Array.getElem?_eq_none h] at hi
    cases hi
def chainB (ops : Array Oper) (L : Nat) : Bool := (List.range ops.size).all fun k => decide (k ≤ L) || match ops[k]? with | some o => o.after.any (fun e => Region.binds .any e && e.on + 1 == k) | none => false
theorem chainB_at {ops : Array Oper} {L k : Nat} (h : chainB ops L = true) (hk : L < k) (hs : k < ops.size) : ∃ o, ops[k]? = some o ∧ ∃ e ∈ o.after, Region.binds .any e = true ∧ e.on + 1 = k := by
  have h1 := List.all_eq_true.1 h k (List.mem_range.2 hs)
  have ho : ops[k]? = some ops[k] := Array.getElem?_eq_getElem hs
  rw [ho, show decide (k ≤ L) = false by simpa using hk, Bool.false_or] at h1
  obtain ⟨e, he, h2⟩ := Array.any_eq_true'.1 h1
  simp only [Bool.and_eq_true, beq_iff_eq] at h2
  exact ⟨_, ho, e, he, h2.1, h2.2⟩
def tailWp (P : Program) (ops : Array Oper) (Q : QT) : Nat → Nat → Act → World → Prop
  | 0, _, a, w => Q .normal a w
  | m + 1, j, a, w => wpOp P ops Q j (tailWp P ops Q m (j + 1)) a w
theorem tail_fuel {l : Array Bool} {n L f : Nat} (hs : l.size = n) (hL : L ≤ n) (h : ∀ k, L ≤ k → k < n → l.getD k true = false) (hf : leftN l n ≤ f) : n - L ≤ f := by
  refine Nat.le_trans ?_ hf
  unfold leftN
  obtain ⟨m, rfl⟩ := Nat.exists_eq_add_of_le hL
  rw [List.range_add, List.filter_append, List.length_append]
  have : ((List.range m).map fun x => L + x).filter (fun i => !l.getD i true) = (List.range m).map fun x => L + x := List.filter_eq_self.2 fun x hx => by
    obtain ⟨y, hy, rfl⟩ := List.mem_map.1 hx
    rw [h _ (by omega) (by have := List.mem_range.1 hy; omega)]
    rfl
  rw [this, List.length_map, List.length_range]
  omega
theorem wpAny_tail {P : Program} {ops : Array Oper} {Q : QT} {L : Nat} (hdown : ∀ i o, ops[i]? = some o → ∀ e ∈ o.after, Region.binds .any e = true → e.on < i) (hch : chainB ops L = true) :
    ∀ (m j fuel : Nat) (listed : Array Bool) (a : Act) (w : World), j + m = ops.size → m ≤ fuel → L ≤ j → listed.size = ops.size → (∀ i, i < j → listed.getD i false = true) → (∀ i, j ≤ i → i < ops.size → listed.getD i true = false) → tailWp P ops Q m j a w → wpAny P .any ops Q fuel listed a w := by
  intro m
  induction m with
  | zero =>
    intro j fuel listed a w hj _ _ hs hd _ hT
    have hrn : Region.ready .any ops listed = [] := by
      cases hr : Region.ready .any ops listed with
      | nil => rfl
      | cons x t =>
        have hx : x ∈ Region.ready .any ops listed := by rw [hr]; simp
        obtain ⟨hxu, ox, hox, _⟩ := mem_ready.1 hx
        have hxl : x < ops.size := (Array.getElem?_eq_some_iff.1 hox).1
        have h1 := hd x (by omega)
        have h' : x < listed.size := by omega
        simp only [Array.getD_eq_getD_getElem?, Array.getElem?_eq_getElem h', Option.getD_some] at h1 hxu
        rw [h1] at hxu
        cases hxu
    cases fuel with
    | zero => exact ⟨hrn, hT⟩
    | succ fuel => exact ⟨fun _ => hT, fun k hk => by rw [hrn] at hk; cases hk⟩
  | succ m ih =>
    intro j fuel listed a w hj hf hL hs hd hu hT
    cases fuel with
    | zero => omega
    | succ fuel =>
      have hjl : j < ops.size := by omega
      have hoj : ops[j]? = some ops[j] := Array.getElem?_eq_getElem hjl
      have hjr : j ∈ Region.ready .any ops listed := mem_ready.2 ⟨hu j (Nat.le_refl _) hjl, _, hoj, fun e he hb => hd e.on (hdown j _ hoj e he hb)⟩
      refine ⟨fun hr => absurd (hr ▸ hjr) (by simp), fun i hi => ?_⟩
      obtain ⟨hiu, o, ho, hall⟩ := mem_ready.1 hi
      have hil : i < ops.size := (Array.getElem?_eq_some_iff.1 ho).1
      have hij : i = j := by
        rcases Nat.lt_trichotomy i j with h | h | h
        · have h1 := hd i h
          have h' : i < listed.size := by omega
          simp only [Array.getD_eq_getD_getElem?, Array.getElem?_eq_getElem h', Option.getD_some] at h1 hiu
          rw [h1] at hiu
          cases hiu
        · exact h
        · obtain ⟨o', ho', e, he, hb, hon⟩ := chainB_at hch (show L < i by omega) hil
          rw [ho] at ho'
          cases ho'
          have h1 := hall e he hb
          have h2 := hu e.on (by omega) (by omega)
          have h' : e.on < listed.size := by omega
          simp only [Array.getD_eq_getD_getElem?, Array.getElem?_eq_getElem h', Option.getD_some] at h1 h2
          rw [h1] at h2
          cases h2
      subst hij
      refine wpOp_mono ?_ hT
      intro a' w' hT'
      refine ih (i + 1) fuel _ a' w' (by omega) (by omega) (by omega) (by simp [hs]) (fun k hk => ?_) (fun k hk1 hk2 => ?_) hT'
      · by_cases e : k = i
        · subst e
          exact getD_set_self' (by omega)
        · exact getD_set_mono (hd k (by omega))
      · rw [getD_set_ne true (by omega)]
        exact hu k (by omega) hk2
end Go.Proofs.YtmifhlkcceafkaaGreat

/-
  The sizes that the exact laws look at first: where szProg answers no number below 0, neither the methods nor the operations of one are more than 1048576; it writes to nothing that was there.
-/
namespace Go.Proofs.YtmifhlkcceafkaaGreat
open Go.RowKit
theorem szOpS_any (a : Option Addr) (n c : Nat) (left : Int) (w : World) (h0 : 0 ≤ left) (h1 : left ≤ 1048576) (hn : n ≤ maxLen) :
    Calls Tryz.prog 85 #[.slice a n c, .int .i64 left] w fun e w' => ∃ r : Int, e = .returned (.int .i64 r) ∧ r ≤ 1048576 ∧ (0 ≤ r → n ≤ 1048576) ∧ w' = w := by
  unfold maxLen at hn
  go_enter Tryz.func85, Tryz.ntmps85
  by_cases hlt : left - n < 0
  · go_wp2
    go_ret
    exact ⟨_, rfl, by omega, fun h => absurd h (by omega), rfl⟩
  · go_wp2
    go_ret
    exact ⟨_, rfl, by omega, fun _ => by omega, rfl⟩
set_option maxHeartbeats 400000 in
theorem szMethod_any (x t : Int) (v : Value) (ops : List (Int × Int)) (left : Int) (w : World) (h : OpsAt w v ops) (h0 : 0 ≤ left) (h1 : left ≤ 1048576) :
    Calls Tryz.prog 51 #[.agg #[.int .i64 x, .int .i64 t, v], .int .i64 left] w fun e w' => ∃ r : Int, e = .returned (.int .i64 r) ∧ r ≤ 1048576 ∧ (0 ≤ r → ops.length ≤ 1048576) ∧ Below w.heap.size w w' := by
  obtain ⟨a, cap, rfl, hl, _⟩ := h
  go_enter Tryz.func51, Tryz.ntmps51
  go_wp2_with fail
  refine (szOpS_any _ _ _ _ _ h0 h1 hl).mono ?_
  rintro e w1 ⟨r, rfl, hr, hr0, rfl⟩
  by_cases hlt : r < 0
  · go_wp2
    go_ret
    exact ⟨_, rfl, by omega, fun h => absurd h (by omega), (Below.refl _ _).alloc (Nat.le_refl _) _⟩
  · go_wp2
    go_ret
    exact ⟨_, rfl, by omega, hr0, (Below.refl _ _).alloc (Nat.le_refl _) _⟩
set_option maxHeartbeats 400000 in
theorem szMethodS_any (v : Value) (ms : List (Int × Int × List (Int × Int))) (left : Int) (w : World) (h : MethsAt w v ms) (h0 : 0 ≤ left) (h1 : left ≤ 1048576) :
    Calls Tryz.prog 17 #[v, .int .i64 left] w fun e w' => ∃ r : Int, e = .returned (.int .i64 r) ∧ r ≤ 1048576 ∧ (0 ≤ r → ms.length ≤ 1048576 ∧ ∀ i, (hi : i < ms.length) → ms[i].2.2.length ≤ 1048576) ∧ Below w.heap.size w w' := by
  obtain ⟨a, cap, rfl, hl, hc⟩ := h
  unfold maxLen at hl
  go_enter Tryz.func17, Tryz.ntmps17
  by_cases hlt : left - ms.length < 0
  · go_wp2
    go_ret
    exact ⟨_, rfl, by omega, fun h => absurd h (by omega), Below.refl _ _⟩
  · go_wp2
    go_loopg [1, 5] ms.length (fun g l i wr => ∃ (k : Nat) (r : Int), k ≤ ms.length ∧ g = ms.length - k ∧ i = .int .i64 k ∧ l = .int .i64 r ∧ 0 ≤ r ∧ r ≤ 1048576 ∧ Below w.heap.size w wr ∧ ∀ j, (hj : j < ms.length) → j < k → ms[j].2.2.length ≤ 1048576)
    case atStart => exact ⟨0, _, Nat.zero_le _, rfl, rfl, rfl, by omega, by omega, Below.refl _ _, fun j _ h => absurd h (Nat.not_lt_zero _)⟩
    case round =>
      obtain ⟨k, r, hk, rfl, rfl, rfl, hr0, hr1, hb, hall⟩ := hrel
      by_cases hlk : k < ms.length
      · obtain ⟨b, o, vo, rfl, c0, c1, c2, c3⟩ := hc k hlk
        have d0 := cell_below hb c0
        have d1 := cell_below hb c1
        have d2 := cell_below hb c2
        have d3 := c3.below hb
        clear c0 c1 c2 c3 hc
        have H : Hid (∀ j, (hj : j < ms.length) → j < k → ms[j].2.2.length ≤ 1048576) := hall
        clear hall
        have hkz : (k : Int) < (ms.length : Int) := by omega
        obtain ⟨ad, cap3, hvo, _⟩ := id d3
        rw [hvo] at d2 d3
        go_wp2_with fail
        refine (szMethod_any _ _ _ _ _ _ d3 hr0 hr1).mono ?_
        rintro e w1 ⟨q, rfl, hq1, hq0, hb1⟩
        have hb2 : Below w.heap.size w w1 := hb.trans (hb1.mono hb.size)
        clear hb hb1 d0 d1 d2 d3 hvo
        by_cases hq : q < 0
        · go_wp2
          go_ret
          exact ⟨_, rfl, by omega, fun h => absurd h (by omega), hb2⟩
        · have hq0' := hq0 (by omega)
          clear hq0
          go_wp2
          go_roundg (ms.length - (k + 1))
          case measure => omega
          case rel =>
            refine ⟨k + 1, q, by omega, rfl, by go_num, rfl, by omega, hq1, hb2, fun j hj hjk => ?_⟩
            by_cases e : j = k
            · subst e; exact hq0'
            · exact H.out j hj (by omega)
      · obtain rfl : k = ms.length := by omega
        go_wp2
        go_ret
        exact ⟨_, rfl, by omega, fun _ => ⟨by omega, fun i hi => hall i hi hi⟩, hb⟩
set_option maxHeartbeats 400000 in
theorem szProg_any (v : Value) (ms : List (Int × Int × List (Int × Int))) (left : Int) (w : World) (h : MethsAt w v ms) (h0 : 0 ≤ left) (h1 : left ≤ 1048576) :
    Calls Tryz.prog 4 #[.agg #[v], .int .i64 left] w fun e w' => ∃ r : Int, e = .returned (.int .i64 r) ∧ r ≤ 1048576 ∧ (0 ≤ r → ms.length ≤ 1048576 ∧ ∀ i, (hi : i < ms.length) → ms[i].2.2.length ≤ 1048576) ∧ Below w.heap.size w w' := by
  obtain ⟨ad, cap, rfl, hl, hc⟩ := h
  have h : MethsAt w (.slice ad ms.length cap) ms := ⟨ad, cap, rfl, hl, hc⟩
  clear hl hc
  go_enter Tryz.func4, Tryz.ntmps4
  go_wp2_with fail
  refine (szMethodS_any _ ms _ _ (h.below ?_) h0 h1).mono ?_
  · exact (Below.refl _ _).alloc (Nat.le_refl _) _
  rintro e w1 ⟨r, rfl, hr, hr0, hb1⟩
  have hb2 : Below w.heap.size w w1 := ((Below.refl _ _).alloc (Nat.le_refl _) _).trans (hb1.mono (by simp))
  have H := hr0
  have HH : Hid (0 ≤ r → ms.length ≤ 1048576 ∧ ∀ i, (hi : i < ms.length) → ms[i].2.2.length ≤ 1048576) := hr0
  clear hr0 H h hb1
  by_cases hlt : r < 0
  · go_wp2
    go_ret
    exact ⟨_, rfl, by omega, fun h => absurd h (by omega), hb2⟩
  · go_wp2
    go_ret
    exact ⟨_, rfl, by omega, HH.out, hb2⟩
end Go.Proofs.YtmifhlkcceafkaaGreat

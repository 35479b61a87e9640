/-
  A heap within another: its calls are some of the greater one's, by other numbers, and tell of one another alone. What is done in the one is done in the other, and the same is seen of both. Nothing of the translation is used here.
-/
import Derived.Test.YtfpodljalccpnaaGreatDoorTrimPlain
import Derived.Test.YtfpodljalccpnaaGreatDoorRunPlain2

namespace Go.Proofs.YtfpodljalccpnaaGreatDoor
open Go.RowKit
def up (φ : Nat → Nat) (a : Int) : Int := if 0 ≤ a then (φ a.toNat : Int) else a
def upV (φ : Nat → Nat) (v : Int × Int) : Int × Int := if v.1 = 2 then (2, up φ v.2) else v
def upC (φ : Nat → Nat) (c : Cl) : Cl := ⟨c.m, c.pc, c.temps.map (upV φ), c.stack.map (upV φ), up φ c.sender, c.dead⟩
theorem up_nat (φ : Nat → Nat) (k : Nat) : up φ (k : Int) = (φ k : Int) := by simp [up]
theorem up_pos (φ : Nat → Nat) {a : Int} (h : 0 ≤ a) : up φ a = (φ a.toNat : Int) := if_pos h
theorem up_neg (φ : Nat → Nat) {a : Int} (h : a < 0) : up φ a = a := if_neg (by omega)
theorem up_sign (φ : Nat → Nat) (a : Int) : 0 ≤ up φ a ↔ 0 ≤ a := by
  by_cases h : 0 ≤ a
  · rw [up_pos φ h]; omega
  · rw [up_neg φ (by omega)]
theorem upV_kind (φ : Nat → Nat) (v : Int × Int) : (upV φ v).1 = v.1 := by
  unfold upV
  split
  · rename_i h; exact h.symm
  · rfl
theorem upV_not (φ : Nat → Nat) {v : Int × Int} (h : v.1 ≠ 2) : upV φ v = v := if_neg h
theorem upV_none (φ : Nat → Nat) : upV φ (0, 0) = (0, 0) := rfl
theorem upV_getD (φ : Nat → Nat) (l : List (Int × Int)) (k : Nat) : (l.map (upV φ)).getD k (0, 0) = upV φ (l.getD k (0, 0)) := by
  by_cases h : k < l.length
  · simp [h]
  · simp [h, upV_none]
theorem kinds_up (φ : Nat → Nat) (k : Int) (args : List (Int × Int)) : kindsOk k (args.map (upV φ)) = kindsOk k args := by
  unfold kindsOk
  simp only [upV_getD, upV_kind]
theorem upC_none (φ : Nat → Nat) (c : Cl) (k : Nat) : (upC φ c).temps.getD k (0, 0) = upV φ (c.temps.getD k (0, 0)) := upV_getD φ c.temps k
structure Emb (φ : Nat → Nat) (g h : Hp) : Prop where
  inj : ∀ i j, i < g.calls.length → j < g.calls.length → φ i = φ j → i = j
  lt : ∀ i, i < g.calls.length → φ i < h.calls.length
  cl : ∀ i, (hi : i < g.calls.length) → h.calls.getD (φ i) Cl.none = upC φ g.calls[i]
  now : h.now = up φ g.now
  said : h.said = g.said
  code : h.code = g.code
  born : h.born = g.born
theorem Emb.at {φ : Nat → Nat} {g h : Hp} (e : Emb φ g h) {i : Nat} (hi : i < g.calls.length) : h.calls.getD (φ i) Cl.none = upC φ (g.calls.getD i Cl.none) := by
  rw [e.cl i hi, getD_at hi]
theorem Emb.cur {φ : Nat → Nat} {g h : Hp} (e : Emb φ g h) {j : Nat} (hn : g.now = j) (hj : j < g.calls.length) : curC h = upC φ (curC g) := by
  unfold curC
  rw [e.now, hn, up_nat]
  exact e.at hj
theorem getD_set {α : Type} (l : List α) (i j : Nat) (c d : α) (hi : i < l.length) : (l.set i c).getD j d = if j = i then c else l.getD j d := by
  by_cases h : j = i
  · subst h
    rw [if_pos rfl]
    simp [hi]
  · rw [if_neg h]
    by_cases hj : j < l.length
    · rw [getD_at (by simpa using hj), getD_at hj, List.getElem_set_ne (fun q => h q.symm)]
    · simp [hj]
theorem nodup_map {α β : Type} {f : α → β} : ∀ {l : List α}, (∀ x ∈ l, ∀ y ∈ l, f x = f y → x = y) → l.Nodup → (l.map f).Nodup
  | [], _, _ => by simp
  | a :: l, hf, hn => by
    rw [List.map_cons, List.nodup_cons]
    rw [List.nodup_cons] at hn
    refine ⟨fun h => ?_, nodup_map (fun x hx y hy => hf x (List.mem_cons_of_mem _ hx) y (List.mem_cons_of_mem _ hy)) hn.2⟩
    obtain ⟨b, hb, e⟩ := List.mem_map.1 h
    exact hn.1 (hf b (List.mem_cons_of_mem _ hb) a List.mem_cons_self e ▸ hb)
theorem Emb.put {φ : Nat → Nat} {g h : Hp} (e : Emb φ g h) {b : Nat} (hb : b < g.calls.length) (c : Cl) : Emb φ { g with calls := g.calls.set b c } { h with calls := h.calls.set (φ b) (upC φ c) } := by
  refine ⟨fun i j hi hj => e.inj i j (by simpa using hi) (by simpa using hj), fun i hi => by simpa using e.lt i (by simpa using hi), fun i hi => ?_, e.now, e.said, e.code, e.born⟩
  have hi' : i < g.calls.length := by simpa using hi
  show (h.calls.set (φ b) (upC φ c)).getD (φ i) Cl.none = upC φ (g.calls.set b c)[i]
  rw [getD_set _ _ _ _ _ (e.lt b hb)]
  by_cases q : i = b
  · subst q
    rw [if_pos rfl, List.getElem_set_self]
  · rw [if_neg (fun z => q (e.inj i b hi' hb z)), List.getElem_set_ne (fun z => q z.symm)]
    exact e.cl i hi'
theorem Emb.set {φ : Nat → Nat} {g h : Hp} (e : Emb φ g h) {j : Nat} (hn : g.now = j) (hj : j < g.calls.length) (c c' : Cl) (hc : c' = upC φ c) : Emb φ (setH g c) (setH h c') := by
  subst hc
  unfold setH
  have q := e.put hj c
  rw [show g.now.toNat = j by omega, show h.now.toNat = φ j by rw [e.now, hn, up_nat]; omega]
  exact q
theorem Emb.withNow {φ : Nat → Nat} {g h : Hp} (e : Emb φ g h) (a : Int) : Emb φ { g with now := a } { h with now := up φ a } := ⟨e.inj, e.lt, e.cl, rfl, e.said, e.code, e.born⟩
theorem Emb.codes {φ : Nat → Nat} {g h : Hp} (e : Emb φ g h) (k : Int) : Emb φ (codeH g k) (codeH h k) := ⟨e.inj, e.lt, e.cl, e.now, e.said, rfl, e.born⟩
theorem Emb.push {φ : Nat → Nat} {g h : Hp} (e : Emb φ g h) {j : Nat} (hn : g.now = j) (hj : j < g.calls.length) (v v' : Int × Int) (hv : v' = upV φ v) : Emb φ (pushH g v) (pushH h v') := by
  subst hv
  refine e.set hn hj _ _ ?_
  rw [e.cur hn hj]
  simp [upC]
theorem Emb.leave {φ : Nat → Nat} {g h : Hp} (e : Emb φ g h) {j : Nat} (hn : g.now = j) (hj : j < g.calls.length) : Emb φ (leaveH g) (leaveH h) := by
  have q := (e.set hn hj (dieC (curC g)) (dieC (curC h)) (by rw [e.cur hn hj]; rfl)).withNow (curC g).sender
  have r : (curC h).sender = up φ (curC g).sender := by rw [e.cur hn hj]; rfl
  unfold leaveH
  rw [r]
  exact q
theorem Emb.sayV {φ : Nat → Nat} {g h : Hp} (e : Emb φ g h) {v : Int × Int} (hv : valOk g.calls.length v.1 v.2 = true) : sayV h (upV φ v) = sayV g v := by
  unfold Go.Proofs.YtfpodljalccpnaaGreatDoor.sayV
  rw [upV_kind]
  by_cases h2 : v.1 = 2
  · rw [if_pos h2, if_pos h2]
    rw [h2] at hv
    have := valOk_ref' hv
    have q : (upV φ v).2 = up φ v.2 := by unfold upV; rw [if_pos h2]
    rw [q, up_pos φ this.1, Int.toNat_natCast, e.at (by omega)]
    rfl
  · rw [if_neg h2, if_neg h2, upV_not φ h2]
theorem Emb.say {φ : Nat → Nat} {g h : Hp} (e : Emb φ g h) {v : Int × Int} (hv : valOk g.calls.length v.1 v.2 = true) : Emb φ (sayH g v) (sayH h (upV φ v)) :=
  ⟨e.inj, e.lt, e.cl, e.now, by show h.said ++ [_] = g.said ++ [_]; rw [e.sayV hv, e.said], e.code, e.born⟩
theorem up_like {φ ψ : Nat → Nat} {n : Nat} (hφ : ∀ i, i < n → ψ i = φ i) {a : Int} (h : a < (n : Int)) : up ψ a = up φ a := by
  by_cases h0 : 0 ≤ a
  · rw [up_pos _ h0, up_pos _ h0, hφ _ (by omega)]
  · rw [up_neg _ (by omega), up_neg _ (by omega)]
theorem upV_like {φ ψ : Nat → Nat} {n : Nat} (hφ : ∀ i, i < n → ψ i = φ i) {v : Int × Int} (h : valOk n v.1 v.2 = true) : upV ψ v = upV φ v := by
  unfold upV
  by_cases h2 : v.1 = 2
  · rw [if_pos h2, if_pos h2]
    rw [h2] at h
    rw [up_like hφ (valOk_ref' h).2]
  · rw [if_neg h2, if_neg h2]
theorem upVs_like {φ ψ : Nat → Nat} {n : Nat} (hφ : ∀ i, i < n → ψ i = φ i) {l : List (Int × Int)} (h : valsOk n l = true) : l.map (upV ψ) = l.map (upV φ) :=
  List.map_congr_left fun v hv => upV_like hφ (valsOk_iff.1 h v hv)
theorem upC_like {ms : Ms} {φ ψ : Nat → Nat} {n : Nat} (hφ : ∀ i, i < n → ψ i = φ i) {c : Cl} (h : ClP ms n c) : upC ψ c = upC φ c := by
  unfold upC
  rw [upVs_like hφ h.vt, upVs_like hφ h.vs, up_like hφ h.sd.2]
theorem Emb.more {ms : Ms} {φ : Nat → Nat} {g h : Hp} (e : Emb φ g h) (gd : Good ms g) (m : Int) (t t' : List (Int × Int)) (ht : valsOk g.calls.length t = true) (htt : t' = t.map (upV φ)) (b b' : Int) (hb : b' = b) :
    ∃ ψ, Emb ψ { g with calls := g.calls ++ [⟨m, 0, t, [], g.now, false⟩], now := g.calls.length, born := b } { h with calls := h.calls ++ [⟨m, 0, t', [], h.now, false⟩], now := h.calls.length, born := b' } := by
  subst hb htt
  let ψ : Nat → Nat := fun i => if i < g.calls.length then φ i else h.calls.length
  have hψ : ∀ i, i < g.calls.length → ψ i = φ i := fun i hi => if_pos hi
  have hψn : ψ g.calls.length = h.calls.length := if_neg (Nat.lt_irrefl _)
  have hnow : g.now < (g.calls.length : Int) := gd.head.now.2
  refine ⟨ψ, fun i j hi hj q => ?_, fun i hi => ?_, fun i hi => ?_, ?_, e.said, e.code, rfl⟩
  · simp only [List.length_append, List.length_singleton] at hi hj
    by_cases h1 : i < g.calls.length
    · by_cases h2 : j < g.calls.length
      · rw [hψ i h1, hψ j h2] at q
        exact e.inj i j h1 h2 q
      · obtain rfl : j = g.calls.length := by omega
        rw [hψ i h1, hψn] at q
        have := e.lt i h1
        omega
    · obtain rfl : i = g.calls.length := by omega
      by_cases h2 : j < g.calls.length
      · rw [hψ j h2, hψn] at q
        have := e.lt j h2
        omega
      · omega
  · simp only [List.length_append, List.length_singleton] at hi ⊢
    by_cases h1 : i < g.calls.length
    · rw [hψ i h1]
      have := e.lt i h1
      omega
    · obtain rfl : i = g.calls.length := by omega
      rw [hψn]
      omega
  · simp only [List.length_append, List.length_singleton] at hi
    by_cases h1 : i < g.calls.length
    · have hl := e.lt i h1
      simp only [List.getElem_append_left h1]
      rw [hψ i h1, upC_like hψ (gd.cl i h1), ← e.cl i h1, getD_at (by simp; omega), getD_at hl, List.getElem_append_left hl]
    · obtain rfl : i = g.calls.length := by omega
      rw [hψn]
      simp only [List.getElem_append_right (Nat.le_refl _), Nat.sub_self, List.getElem_singleton]
      rw [getD_at (by simp)]
      simp only [List.getElem_append_right (Nat.le_refl _), Nat.sub_self, List.getElem_singleton]
      unfold upC
      rw [upVs_like hψ ht, up_like hψ hnow, e.now]
      rfl
  · show (h.calls.length : Int) = up ψ (g.calls.length : Int)
    rw [up_nat, hψn]
theorem Emb.back {ms : Ms} {φ : Nat → Nat} : ∀ (l : List Nat) (f f' : Nat) (g h : Hp) (b : Nat), Emb φ g h → Good ms g → g.code = 0 → Waits g.calls g.now l → b ∈ l → b < g.calls.length → l.length ≤ f → l.length ≤ f' → Emb φ (backTo f g b) (backTo f' h (φ b))
  | [], f, f', g, h, b, e, gd, hc, hw, hb, hbl, hf, hf' => by cases hb
  | x :: l, 0, f', g, h, b, e, gd, hc, hw, hb, hbl, hf, hf' => by simp at hf
  | x :: l, f + 1, 0, g, h, b, e, gd, hc, hw, hb, hbl, hf, hf' => by simp at hf'
  | x :: l, f + 1, f' + 1, g, h, b, e, gd, hc, hw, hb, hbl, hf, hf' => by
    have hn0 : 0 ≤ g.now := by
      by_cases q : g.now < 0
      · have := gd.head.fin.2 q; omega
      · omega
    obtain ⟨j, hn⟩ : ∃ j : Nat, g.now = j := ⟨g.now.toNat, by omega⟩
    rw [hn] at hw
    obtain ⟨hj, t, ht, hd, _, _⟩ := hw.head
    obtain ⟨rfl, rfl⟩ : x = j ∧ l = t := by simpa using ht
    by_cases q : g.now = b
    · have q' : h.now = ((φ b : Nat) : Int) := by rw [e.now, q, up_nat]
      rw [backTo_here q, backTo_here q']
      exact e
    · have q' : ¬ h.now = ((φ b : Nat) : Int) := fun z => by
        rw [e.now, hn, up_nat] at z
        have := e.inj x b hj hbl (by exact_mod_cast z)
        subst this
        exact q hn
      rw [backTo_on q, backTo_on q']
      have hbt : b ∈ l := by
        rcases List.mem_cons.1 hb with z | z
        · subst z; exact absurd hn q
        · exact z
      obtain ⟨t2, h2, hw', _⟩ := hw.leave hj (dieC g.calls[x]) rfl
      obtain rfl : l = t2 := by simpa using h2
      have hs : 0 ≤ g.calls[x].sender := by
        by_cases z : g.calls[x].sender < 0
        · cases l with
          | nil => cases hbt
          | cons y l =>
            obtain ⟨f0, hf0⟩ := hw'.ch
            rw [walkC_neg z] at hf0
            cases hf0
        · omega
      obtain ⟨a1, a2, _⟩ := leave_at hn hj
      refine Emb.back (ms := ms) l f f' (leaveH g) (leaveH h) b (e.leave hn hj) (gd.leave hn hj hs hc) hc ?_ hbt ?_ (by simpa using hf) (by simpa using hf')
      · rw [a1, a2]
        exact hw'
      · rw [a1]; simpa using hbl
theorem upV_inj {φ : Nat → Nat} {n : Nat} (inj : ∀ i j, i < n → j < n → φ i = φ j → i = j) {x y : Int × Int} (hx : valOk n x.1 x.2 = true) (hy : valOk n y.1 y.2 = true) : upV φ x = upV φ y ↔ x = y := by
  refine ⟨fun e => ?_, fun e => by rw [e]⟩
  have hk : x.1 = y.1 := by rw [← upV_kind φ x, ← upV_kind φ y, e]
  by_cases h2 : x.1 = 2
  · have h2' : y.1 = 2 := by omega
    rw [h2] at hx
    rw [h2'] at hy
    have q1 := valOk_ref' hx
    have q2 := valOk_ref' hy
    unfold upV at e
    rw [if_pos h2, if_pos h2', up_pos _ q1.1, up_pos _ q2.1] at e
    have e2 := inj x.2.toNat y.2.toNat (by omega) (by omega) (by have e3 := (Prod.mk.injEq _ _ _ _ ▸ e : _ ∧ _).2; exact_mod_cast e3)
    exact Prod.ext hk (by omega)
  · rw [upV_not φ h2, upV_not φ (by omega)] at e
    exact e
theorem upV_zero {φ : Nat → Nat} {x : Int × Int} : ((upV φ x).1 = 0 ∨ upV φ x = (1, 0)) ↔ (x.1 = 0 ∨ x = (1, 0)) := by
  rw [upV_kind]
  by_cases h2 : x.1 = 2
  · refine ⟨fun h => ?_, fun h => ?_⟩
    · rcases h with h | h
      · exact .inl h
      · have := upV_kind φ x
        rw [h, h2] at this
        cases this
    · rcases h with h | h
      · exact .inl h
      · rw [h] at h2; cases h2
  · rw [upV_not φ h2]
theorem Emb.do {ms : Ms} {φ : Nat → Nat} {g h : Hp} (e : Emb φ g h) {j : Nat} {k a : Int} {args : List (Int × Int)} (d : Doing ms g j k a args) : ∃ ψ, Emb ψ (doH ms g k a args) (doH ms h k a (args.map (upV φ))) := by
  have hn := d.now
  have hj := d.lt
  have hcur := e.cur hn hj
  have v0 := d.first 0
  have v1 := d.first 1
  have hnow : h.now = ((φ j : Nat) : Int) := by rw [e.now, hn, up_nat]
  have hk := d.kinds
  unfold doH
  simp only [upV_getD]
  by_cases h1 : k = 1
  · rw [if_pos h1, if_pos h1]
    exact ⟨φ, e.push hn hj _ _ rfl⟩
  rw [if_neg h1, if_neg h1]
  by_cases h5 : k = 5
  · rw [if_pos h5, if_pos h5]
    subst h5
    simp only [kindsOk, if_true, Bool.and_eq_true, beq_iff_eq] at hk
    rw [upV_not φ (v := args.getD 0 (0, 0)) (by rw [hk.1]; decide), upV_not φ (v := args.getD 1 (0, 0)) (by rw [hk.2]; decide)]
    exact ⟨φ, e.push hn hj _ _ rfl⟩
  rw [if_neg h5, if_neg h5]
  by_cases h6 : k = 6
  · rw [if_pos h6, if_pos h6]
    refine ⟨φ, e.push hn hj _ _ ?_⟩
    have q := upV_inj e.inj v0 v1
    rw [show decide (upV φ (args.getD 0 (0, 0)) = upV φ (args.getD 1 (0, 0))) = decide (args.getD 0 (0, 0) = args.getD 1 (0, 0)) from decide_eq_decide.2 q]
    rfl
  rw [if_neg h6, if_neg h6]
  by_cases h2 : k = 2
  · rw [if_pos h2, if_pos h2]
    exact ⟨φ, e.push hn hj _ _ (by rw [hcur, upC_none])⟩
  rw [if_neg h2, if_neg h2]
  by_cases h3 : k = 3
  · rw [if_pos h3, if_pos h3]
    exact ⟨φ, e.set hn hj _ _ (by rw [hcur]; simp [upC, List.map_set])⟩
  rw [if_neg h3, if_neg h3]
  by_cases h7 : k = 7
  · rw [if_pos h7, if_pos h7]
    exact ⟨φ, e.set hn hj _ _ (by rw [hcur]; rfl)⟩
  rw [if_neg h7, if_neg h7]
  by_cases h8 : k = 8
  · rw [if_pos h8, if_pos h8]
    by_cases hz : (args.getD 0 (0, 0)).1 = 0 ∨ args.getD 0 (0, 0) = (1, 0)
    · rw [if_pos hz, if_pos (upV_zero.2 hz)]
      exact ⟨φ, e.set hn hj _ _ (by rw [hcur]; rfl)⟩
    · rw [if_neg hz, if_neg (fun q => hz (upV_zero.1 q))]
      exact ⟨φ, e⟩
  rw [if_neg h8, if_neg h8]
  by_cases h9 : k = 9
  · rw [if_pos h9, if_pos h9]
    unfold callH
    rw [e.born]
    by_cases hb : 30 ≤ g.born
    · rw [if_pos hb, if_pos hb]
      exact ⟨φ, e.codes 3⟩
    rw [if_neg hb, if_neg hb, List.length_map]
    refine e.more d.g a _ _ (vals_append d.vals (vals_nones _ _)) ?_ _ _ rfl
    rw [List.map_append, List.map_replicate, upV_none]
  rw [if_neg h9, if_neg h9]
  by_cases h10 : k = 10
  · rw [if_pos h10, if_pos h10]
    unfold retH
    have hs : (curC h).sender = up φ (curC g).sender := by rw [hcur]; rfl
    have hcg := cur_at hn hj
    by_cases hneg : (curC g).sender < 0
    · rw [if_pos hneg, if_pos (by rw [hs, up_neg φ hneg]; exact hneg)]
      refine ⟨φ, ((e.leave hn hj).say ?_).codes 1⟩
      rw [(leave_at hn hj).1]
      simpa using v0
    · rw [if_neg hneg, if_neg (by rw [hs, up_pos φ (by omega)]; omega)]
      obtain ⟨s, hse⟩ : ∃ s : Nat, (curC g).sender = s := ⟨(curC g).sender.toNat, by omega⟩
      have hsl : s < g.calls.length := by
        have := (d.g.cl j hj).sd.2
        rw [← hcg, hse] at this
        omega
      refine ⟨φ, (e.leave hn hj).push (j := s) ?_ ?_ _ _ rfl⟩
      · rw [(leave_at hn hj).2.1, ← hcg, hse]
      · rw [(leave_at hn hj).1]; simpa using hsl
  rw [if_neg h10, if_neg h10]
  by_cases h11 : k = 11
  · rw [if_pos h11, if_pos h11]
    exact ⟨φ, e.push hn hj _ _ (by rw [e.now]; rfl)⟩
  rw [if_neg h11, if_neg h11]
  by_cases hl : k = 12 ∨ k = 13 ∨ k = 17 ∨ k = 18
  · rw [if_pos hl, if_pos hl]
    obtain ⟨r1, r2, hr⟩ := d.ref (by omega)
    refine ⟨φ, e.push hn hj _ _ ?_⟩
    have q : (upV φ (args.getD 0 (0, 0))).2.toNat = φ (args.getD 0 (0, 0)).2.toNat := by
      unfold upV
      rw [if_pos r1]
      simp only []
      rw [up_pos φ r2, Int.toNat_natCast]
    unfold lookV
    simp only [q, e.at hr]
    by_cases e12 : k = 12
    · rw [if_pos e12, if_pos e12]
      have z : (upC φ (g.calls.getD (args.getD 0 (0, 0)).2.toNat Cl.none)).sender = up φ (g.calls.getD (args.getD 0 (0, 0)).2.toNat Cl.none).sender := rfl
      rw [z]
      by_cases p : 0 ≤ (g.calls.getD (args.getD 0 (0, 0)).2.toNat Cl.none).sender
      · rw [if_pos p, if_pos ((up_sign φ _).2 p)]
        rfl
      · rw [if_neg p, if_neg (fun z => p ((up_sign φ _).1 z))]
        rfl
    rw [if_neg e12, if_neg e12]
    by_cases e13 : k = 13
    · rw [if_pos e13, if_pos e13, upC_none]
    rw [if_neg e13, if_neg e13]
    by_cases e17 : k = 17
    · rw [if_pos e17, if_pos e17]
      rfl
    rw [if_neg e17, if_neg e17]
    rfl
  rw [if_neg hl, if_neg hl]
  have hq : k = 14 ∨ k = 15 → (upV φ (args.getD 0 (0, 0))).2.toNat = φ (args.getD 0 (0, 0)).2.toNat ∧ (args.getD 0 (0, 0)).2.toNat < g.calls.length := fun z => by
    obtain ⟨r1, r2, hr⟩ := d.ref (by omega)
    refine ⟨?_, hr⟩
    unfold upV
    rw [if_pos r1]
    simp only []
    rw [up_pos φ r2, Int.toNat_natCast]
  by_cases h14 : k = 14
  · rw [if_pos h14, if_pos h14]
    obtain ⟨q, hr⟩ := hq (.inl h14)
    unfold pokeH
    rw [q]
    have z := e.put hr { g.calls.getD (args.getD 0 (0, 0)).2.toNat Cl.none with temps := (g.calls.getD (args.getD 0 (0, 0)).2.toNat Cl.none).temps.set a.toNat (args.getD 1 (0, 0)) }
    refine ⟨φ, ?_⟩
    rw [e.at hr]
    have y : upC φ { g.calls.getD (args.getD 0 (0, 0)).2.toNat Cl.none with temps := (g.calls.getD (args.getD 0 (0, 0)).2.toNat Cl.none).temps.set a.toNat (args.getD 1 (0, 0)) } = { upC φ (g.calls.getD (args.getD 0 (0, 0)).2.toNat Cl.none) with temps := (upC φ (g.calls.getD (args.getD 0 (0, 0)).2.toNat Cl.none)).temps.set a.toNat (upV φ (args.getD 1 (0, 0))) } := by
      simp [upC, List.map_set]
    rw [← y]
    exact z
  rw [if_neg h14, if_neg h14]
  by_cases h15 : k = 15
  · rw [if_pos h15, if_pos h15]
    obtain ⟨q, hr⟩ := hq (.inr h15)
    unfold backH
    rw [q, e.at hr]
    have hdd : (upC φ (g.calls.getD (args.getD 0 (0, 0)).2.toNat Cl.none)).dead = (g.calls.getD (args.getD 0 (0, 0)).2.toNat Cl.none).dead := rfl
    rw [hdd]
    by_cases hd : (g.calls.getD (args.getD 0 (0, 0)).2.toNat Cl.none).dead = true
    · rw [if_pos hd, if_pos hd]
      exact ⟨φ, e.codes 2⟩
    rw [if_neg hd, if_neg hd]
    obtain ⟨l, hw⟩ := d.g.w
    rw [getD_at hr] at hd
    have hbl : (args.getD 0 (0, 0)).2.toNat ∈ l := hw.all _ hr (by simpa using hd)
    have h6 : ∀ hb : (args.getD 0 (0, 0)).2.toNat < g.calls.length, g.calls[(args.getD 0 (0, 0)).2.toNat].stack.length < 6 := fun hb => by
      have hw2 := hw
      rw [d.now] at hw2
      obtain ⟨_, t, rfl, _⟩ := hw2.head
      rcases List.mem_cons.1 hbl with q | q
      · have := d.free (by subst h15; rw [takes_num (by decide)]; rfl)
        simp only [q]
        exact this
      · exact hw.room _ (by simpa using q) hb
    obtain ⟨_, _, r3, r4, _⟩ := Good.back g.calls.length g _ l d.g d.code hw hbl hw.len h6
    have hlh : l.length ≤ h.calls.length := by
      have z : (l.map φ).length ≤ (List.range h.calls.length).length := few_of_nodup _ _ ?_ fun k hk => ?_
      · simpa using z
      · exact nodup_map (fun x hx y hy => e.inj x y (hw.mem hx).1 (hw.mem hy).1) hw.nodup
      · obtain ⟨i, hi, rfl⟩ := List.mem_map.1 hk
        exact List.mem_range.2 (e.lt i (hw.mem hi).1)
    have eb := Emb.back (ms := ms) l g.calls.length h.calls.length g h _ e d.g d.code hw hbl hr hw.len hlh
    exact ⟨φ, eb.push r3 (by rw [r4]; exact hr) _ _ rfl⟩
  rw [if_neg h15, if_neg h15]
  by_cases h16 : k = 16
  · rw [if_pos h16, if_pos h16]
    exact ⟨φ, e.say v0⟩
  rw [if_neg h16, if_neg h16]
  exact ⟨φ, e⟩
theorem Emb.step {ms : Ms} {φ : Nat → Nat} {g h : Hp} (e : Emb φ g h) (gd : Good ms g) (hc : g.code = 0) : ∃ ψ, Emb ψ (stepH ms g) (stepH ms h) := by
  have hn0 : 0 ≤ g.now := by
    by_cases q : g.now < 0
    · have := gd.head.fin.2 q; omega
    · omega
  obtain ⟨j, hn⟩ : ∃ j : Nat, g.now = j := ⟨g.now.toNat, by omega⟩
  have hj : j < g.calls.length := by have := gd.head.now; omega
  have hcur := e.cur hn hj
  have e1 : (curC h).m = (curC g).m := by rw [hcur]; rfl
  have e2 : (curC h).pc = (curC g).pc := by rw [hcur]; rfl
  have e3 : opNext ms (curC h) = opNext ms (curC g) := by unfold opNext; rw [e1, e2]
  have e4 : (curC h).stack = (curC g).stack.map (upV φ) := by rw [hcur]; rfl
  unfold stepH
  simp only []
  rw [e1, e2, e3, e4, List.length_map]
  by_cases h1 : ((ms.getD (curC g).m.toNat (0, 0, [])).2.2.length : Int) ≤ (curC g).pc
  · rw [if_pos h1, if_pos h1]; exact ⟨φ, e.codes 2⟩
  rw [if_neg h1, if_neg h1]
  by_cases h2 : (((curC g).stack.length : Int) - (takesOf ms (opNext ms (curC g)).1 (opNext ms (curC g)).2).1 < 0 ∨ 6 < ((curC g).stack.length : Int) - (takesOf ms (opNext ms (curC g)).1 (opNext ms (curC g)).2).1 + (takesOf ms (opNext ms (curC g)).1 (opNext ms (curC g)).2).2)
  · rw [if_pos h2, if_pos h2]; exact ⟨φ, e.codes 2⟩
  rw [if_neg h2, if_neg h2, ← List.map_drop, kinds_up]
  by_cases h3 : kindsOk (opNext ms (curC g)).1 ((curC g).stack.drop (((curC g).stack.length : Int) - (takesOf ms (opNext ms (curC g)).1 (opNext ms (curC g)).2).1).toNat) = false
  · rw [if_pos h3, if_pos h3]; exact ⟨φ, e.codes 2⟩
  rw [if_neg h3, if_neg h3]
  obtain ⟨j', d⟩ := gd.doing hc h1 h2 (by simpa using h3)
  refine Emb.do (e.set hn hj _ _ ?_) d
  rw [hcur]
  simp [upC, List.map_take]
theorem Emb.run {ms : Ms} : ∀ (n : Nat) {φ : Nat → Nat} {g h : Hp}, Emb φ g h → Good ms g → ∃ ψ, Emb ψ (runH ms n g) (runH ms n h)
  | 0, φ, g, h, e, _ => ⟨φ, e⟩
  | n + 1, φ, g, h, e, gd => by
    unfold runH
    rw [e.code]
    by_cases hc : g.code = 0
    · rw [if_pos hc, if_pos hc]
      obtain ⟨ψ, e'⟩ := e.step gd hc
      exact Emb.run n e' (gd.step hc)
    · rw [if_neg hc, if_neg hc]
      exact ⟨φ, e⟩
/- the same is seen of both -/
theorem numOf_map {φ : Nat → Nat} {n : Nat} (inj : ∀ i j, i < n → j < n → φ i = φ j → i = j) {ps : List Nat} (hp : ∀ p ∈ ps, p < n) {a : Int} (ha : a < (n : Int)) : numOf (ps.map φ) (up φ a) = numOf ps a := by
  by_cases h0 : 0 ≤ a
  · obtain ⟨k, rfl⟩ := Int.eq_ofNat_of_zero_le h0
    have hk : k < n := by omega
    rw [up_nat]
    unfold numOf
    rw [List.findIdx?_map]
    have : ps.findIdx? ((fun (q : Nat) => (q : Int) == ((φ k : Nat) : Int)) ∘ φ) = ps.findIdx? (fun (q : Nat) => (q : Int) == (k : Int)) := by
      clear ha h0
      induction ps with
      | nil => rfl
      | cons x l ih =>
        rw [List.findIdx?_cons, List.findIdx?_cons, ih (fun p q => hp p (List.mem_cons_of_mem _ q))]
        have hx := hp x List.mem_cons_self
        have : ((fun (q : Nat) => (q : Int) == ((φ k : Nat) : Int)) ∘ φ) x = ((x : Int) == (k : Int)) := by
          simp only [Function.comp_apply]
          rw [Bool.eq_iff_iff, beq_iff_eq, beq_iff_eq]
          constructor
          · intro q
            have := inj x k hx hk (by exact_mod_cast q)
            omega
          · intro q
            have : x = k := by exact_mod_cast q
            rw [this]
        rw [this]
    rw [this]
  · rw [up_neg φ (by omega), numOf_neg (by omega), numOf_neg (by omega)]
theorem Emb.come {φ : Nat → Nat} {g h : Hp} (e : Emb φ g h) {ps : List Nat} (hp : PsOk g.calls.length ps) {a : Int} (ha : a < (g.calls.length : Int)) : comeP h.calls.length (ps.map φ) (up φ a) = (comeP g.calls.length ps a).map φ := by
  unfold comeP
  rw [numOf_map e.inj hp.lt ha]
  by_cases h0 : 0 ≤ a
  · have hl := e.lt a.toNat (by omega)
    by_cases hq : numOf ps a = -1
    · rw [if_pos ⟨by rw [up_pos φ h0]; omega, by rw [up_pos φ h0]; omega, hq⟩, if_pos ⟨h0, ha, hq⟩, List.map_append, up_pos φ h0, Int.toNat_natCast]
      rfl
    · rw [if_neg (fun z => hq z.2.2), if_neg (fun z => hq z.2.2)]
  · rw [if_neg (fun z => h0 ((up_sign φ a).1 z.1)), if_neg (fun z => h0 z.1)]
theorem Emb.comeV {φ : Nat → Nat} {g h : Hp} (e : Emb φ g h) : ∀ (vs : List (Int × Int)) {ps : List Nat}, PsOk g.calls.length ps → valsOk g.calls.length vs = true → comeV h.calls.length (ps.map φ) (vs.map (upV φ)) = (Go.Proofs.YtfpodljalccpnaaGreatDoor.comeV g.calls.length ps vs).map φ
  | [], ps, _, _ => rfl
  | v :: r, ps, hp, hv => by
    have hv0 := valsOk_iff.1 hv v List.mem_cons_self
    have hr : valsOk g.calls.length r = true := valsOk_iff.2 fun u hu => valsOk_iff.1 hv u (List.mem_cons_of_mem _ hu)
    show Go.Proofs.YtfpodljalccpnaaGreatDoor.comeV h.calls.length (if (upV φ v).1 = 2 then comeP h.calls.length (ps.map φ) (upV φ v).2 else ps.map φ) (r.map (upV φ)) = (Go.Proofs.YtfpodljalccpnaaGreatDoor.comeV g.calls.length (if v.1 = 2 then comeP g.calls.length ps v.2 else ps) r).map φ
    rw [upV_kind]
    by_cases h2 : v.1 = 2
    · rw [if_pos h2, if_pos h2]
      have q : (upV φ v).2 = up φ v.2 := by unfold upV; rw [if_pos h2]
      rw [h2] at hv0
      rw [q, e.come hp (valOk_ref' hv0).2]
      exact Emb.comeV e r (hp.come v.2) hr
    · rw [if_neg h2, if_neg h2]
      exact Emb.comeV e r hp hr
theorem Emb.comeC {ms : Ms} {φ : Nat → Nat} {g h : Hp} (e : Emb φ g h) {ps : List Nat} (hp : PsOk g.calls.length ps) {c : Cl} (hc : ClP ms g.calls.length c) : comeC h.calls.length (ps.map φ) (upC φ c) = (Go.Proofs.YtfpodljalccpnaaGreatDoor.comeC g.calls.length ps c).map φ := by
  unfold Go.Proofs.YtfpodljalccpnaaGreatDoor.comeC
  show Go.Proofs.YtfpodljalccpnaaGreatDoor.comeV _ (Go.Proofs.YtfpodljalccpnaaGreatDoor.comeV _ (comeP _ (ps.map φ) (up φ c.sender)) (c.temps.map (upV φ))) (c.stack.map (upV φ)) = _
  rw [e.come hp hc.sd.2, e.comeV _ (hp.come _) hc.vt, e.comeV _ ((hp.come _).comeV _) hc.vs]
theorem Emb.foundF {ms : Ms} {φ : Nat → Nat} {g h : Hp} (e : Emb φ g h) (gd : Good ms g) : ∀ (f f' j : Nat) {ps : List Nat}, PsOk g.calls.length ps → g.calls.length ≤ f + j → g.calls.length ≤ f' + j → foundF h.calls f' j (ps.map φ) = (Go.Proofs.YtfpodljalccpnaaGreatDoor.foundF g.calls f j ps).map φ
  | 0, f', j, ps, hp, hf, hf' => by
    have := hp.len
    rw [foundF_end _ (by simp; omega), foundF_end _ (by omega)]
  | f + 1, f', j, ps, hp, hf, hf' => by
    have hl := hp.len
    by_cases hj : j < ps.length
    · obtain ⟨f'', rfl⟩ : ∃ f'', f' = f'' + 1 := ⟨f' - 1, by omega⟩
      have hpj := hp.lt _ (List.getElem_mem hj)
      show (if q : j < (ps.map φ).length then Go.Proofs.YtfpodljalccpnaaGreatDoor.foundF h.calls f'' (j + 1) (Go.Proofs.YtfpodljalccpnaaGreatDoor.comeC h.calls.length (ps.map φ) (h.calls.getD (ps.map φ)[j] Cl.none)) else ps.map φ) = (if q : j < ps.length then Go.Proofs.YtfpodljalccpnaaGreatDoor.foundF g.calls f (j + 1) (Go.Proofs.YtfpodljalccpnaaGreatDoor.comeC g.calls.length ps (g.calls.getD ps[j] Cl.none)) else ps).map φ
      rw [dif_pos hj, dif_pos (by simpa using hj), List.getElem_map, e.at hpj, getD_at hpj, e.comeC hp (gd.cl _ hpj)]
      exact Emb.foundF e gd f f'' (j + 1) (hp.comeC _) (by omega) (by omega)
    · rw [foundF_end _ (by simpa using hj), foundF_end _ hj]
theorem Emb.found {ms : Ms} {φ : Nat → Nat} {g h : Hp} (e : Emb φ g h) (gd : Good ms g) : found h = (Go.Proofs.YtfpodljalccpnaaGreatDoor.found g).map φ := by
  unfold Go.Proofs.YtfpodljalccpnaaGreatDoor.found
  have h0 : PsOk g.calls.length ([] : List Nat) := ⟨List.nodup_nil, fun _ hp => by cases hp⟩
  have hlen : g.calls.length ≤ h.calls.length := by
    have z : ((List.range g.calls.length).map φ).length ≤ (List.range h.calls.length).length := few_of_nodup _ _ ?_ fun k hk => ?_
    · simpa using z
    · refine nodup_map (fun x hx y hy => e.inj x y (List.mem_range.1 hx) (List.mem_range.1 hy)) List.nodup_range
    · obtain ⟨i, hi, rfl⟩ := List.mem_map.1 hk
      exact List.mem_range.2 (e.lt i (List.mem_range.1 hi))
  have q := e.come (a := g.now) h0 gd.head.now.2
  rw [List.map_nil, ← e.now] at q
  rw [q]
  exact e.foundF gd _ _ 0 (h0.come _) (by omega) (by omega)
theorem Emb.view {ms : Ms} {φ : Nat → Nat} {g h : Hp} (e : Emb φ g h) (gd : Good ms g) : viewL h = viewL g := by
  have ho := found_ok g
  unfold viewL
  rw [e.found gd, List.map_map]
  refine List.map_congr_left fun p hp => ?_
  have hpl := ho.lt p hp
  have c := gd.cl p hpl
  have hv : ∀ l : List (Int × Int), valsOk g.calls.length l = true → (l.map (upV φ)).map (ren ((Go.Proofs.YtfpodljalccpnaaGreatDoor.found g).map φ)) = l.map (ren (Go.Proofs.YtfpodljalccpnaaGreatDoor.found g)) := fun l hl => by
    rw [List.map_map]
    refine List.map_congr_left fun v hv => ?_
    have hv0 := valsOk_iff.1 hl v hv
    simp only [Function.comp_apply]
    unfold ren
    rw [upV_kind]
    by_cases h2 : v.1 = 2
    · rw [if_pos h2, if_pos h2]
      have q : (upV φ v).2 = up φ v.2 := by unfold upV; rw [if_pos h2]
      rw [h2] at hv0
      rw [q, numOf_map e.inj ho.lt (valOk_ref' hv0).2]
    · rw [if_neg h2, if_neg h2, upV_not φ h2]
  simp only [Function.comp_apply]
  rw [e.at hpl, getD_at hpl]
  unfold viewC upC
  simp only []
  rw [hv _ c.vt, hv _ c.vs, numOf_map e.inj ho.lt c.sd.2]
theorem trim_emb {ms : Ms} {h : Hp} (g : Good ms h) : Emb (fun i => (found h).getD i 0) (trimH ms h) h := by
  have ho := found_ok h
  have hup : ∀ s : Int, -1 ≤ s → (0 ≤ s → numOf (found h) s ≠ -1) → up (fun i => (found h).getD i 0) (numOf (found h) s) = s := fun s h1 h2 => by
    by_cases h0 : 0 ≤ s
    · obtain ⟨i, hi, e1, e2⟩ := numOf_get (h2 h0)
      rw [e1, up_nat, getD_at hi]
      exact e2
    · obtain rfl : s = -1 := by omega
      rw [numOf_neg (by decide)]
      rfl
  rw [trim_eq g]
  have hlen := viewL_len h
  refine ⟨fun i j hi hj q => ?_, fun i hi => ?_, fun i hi => ?_, ?_, rfl, rfl, rfl⟩
  · have hi' : i < (found h).length := by rw [← hlen]; exact hi
    have hj' : j < (found h).length := by rw [← hlen]; exact hj
    simp only [getD_at hi', getD_at hj'] at q
    have hpw := List.pairwise_iff_getElem.1 ho.nd
    by_cases h1 : i < j
    · exact absurd q (hpw i j hi' hj' h1)
    · by_cases h2 : j < i
      · exact absurd q.symm (hpw j i hj' hi' h2)
      · omega
  · have hi' : i < (found h).length := by rw [← hlen]; exact hi
    simp only [getD_at hi']
    exact ho.lt _ (List.getElem_mem hi')
  · obtain ⟨hf, hp, hv⟩ := view_get hi
    simp only [getD_at hf]
    rw [getD_at hp]
    show _ = upC _ (viewL h)[i]
    rw [hv]
    have c := g.cl _ hp
    have hm := List.getElem_mem hf
    obtain ⟨i1, i2⟩ := found_vals h _ hm
    have hs := found_sender h _ hm
    rw [getD_at hp] at i1 i2
    have hl : ∀ l : List (Int × Int), valsOk h.calls.length l = true → ValIn h.calls.length (found h) l → (l.map (ren (found h))).map (upV fun i => (found h).getD i 0) = l := fun l q1 q2 => by
      rw [List.map_map]
      conv => rhs; rw [← List.map_id l]
      refine List.map_congr_left fun v hv => ?_
      have hv0 := valsOk_iff.1 q1 v hv
      simp only [Function.comp_apply, id_eq]
      unfold ren
      by_cases h2 : v.1 = 2
      · rw [if_pos h2]
        have hv1 := hv0
        rw [h2] at hv1
        have r := valOk_ref' hv1
        show upV _ (2, numOf (found h) v.2) = v
        unfold upV
        rw [if_pos rfl, hup _ (by omega) (fun _ => q2 v hv h2 r.1 r.2)]
        exact Prod.ext h2.symm rfl
      · rw [if_neg h2, upV_not _ h2]
    have hsd := c.sd
    have hs' : 0 ≤ h.calls[(found h)[i]].sender → numOf (found h) h.calls[(found h)[i]].sender ≠ -1 := fun z => by
      have := hs
      unfold SndIn at this
      rw [getD_at hp] at this
      exact this z hsd.2
    unfold viewC upC
    simp only []
    rw [hl _ c.vt i1, hl _ c.vs i2, hup _ hsd.1 hs']
  · show h.now = _
    rw [hup h.now g.head.now.1 (found_now g)]
theorem trim_run {ms : Ms} {h : Hp} (g : Good ms h) (n : Nat) : viewL (runH ms n (trimH ms h)) = viewL (runH ms n h) ∧ (runH ms n (trimH ms h)).said = (runH ms n h).said ∧ (runH ms n (trimH ms h)).code = (runH ms n h).code ∧ (runH ms n (trimH ms h)).born = (runH ms n h).born := by
  obtain ⟨ψ, e⟩ := Emb.run n (trim_emb g) g.trim
  exact ⟨(e.view (Good.run n _ g.trim)).symm, e.said.symm, e.code.symm, e.born.symm⟩
end Go.Proofs.YtfpodljalccpnaaGreatDoor

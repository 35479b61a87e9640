/-
  What MoveIn of the program hands out lies in blocks of its own, each list in one of its own role.
-/
import Derived.Test.YtmifhlkcceafkaaGreatMIn2
import Derived.Test.YtmifhlkcceafkaaGreatMMarkM
import Derived.Test.YtmifhlkcceafkaaGreatMInS3
import Derived.Test.YtmifhlkcceafkaaGreatMvFacts2
import Derived.Test.YtmifhlkcceafkaaGreatMThing5

namespace Go.Proofs.YtmifhlkcceafkaaGreat
open Go.RowKit
structure MvL (L : LvM) (n J : Nat) : Prop where
  n : L.pages.length = n
  e : ∀ q, 1 ≤ q → (hq : q < L.pages.length) → L.pages[q].frames = []
  f : ∀ h0 : 0 < L.pages.length, L.pages[0].frames = [] ∨ ∃ i, L.pages[0].frames = [⟨J, i⟩] ∧ J < L.bodies.length
  t : ∀ q, (hq : q < L.twins.length) → L.twins[q].page = -1 → L.twins[q].body = q ∧ q ≠ J
def rhoO (ρ : Nat → Rl) (B0 S X Wm Z : Nat) (v1 : Value) (J g : Nat) : Rl :=
  if g < B0 ∨ Z ≤ g then .other else if Wm ≤ g then .twins else if X ≤ g then (if v1.ownBlock = some g then .pages else .frames 0) else if S ≤ g then .live else
  match ρ g with
  | .order => .order
  | .temps k => if k = J then .body 0 else .temps k
  | .stack k => if k = J then .body 1 else .stack k
  | _ => .other
theorem mvo_of {B0 B S X n J : Nat} {ρ : Nat → Rl} {w' : World} {P : Lay} {v1 v3 v4 : Value} {said : List (Int × Int)} (hL : LvAt B ρ w' P) (hlt : LvLt S P) (hwf : P.L.wf) (hl : MvL P.L n J) (hn1 : 1 ≤ n) (hB : B0 ≤ B) (hB2 : B0 ≤ S) (hSX : S ≤ X)
    (hm : MachOut P X w' v1 v3) (hs : PairRow S w' v4 said) (hs4 : ∀ g, v4.ownBlock = some g → g < X) :
    ∃ ρ2 bs V fs t s TV, MvO B0 w'.heap.size ρ2 w' v1 P.vo v3 v4 n bs V fs t s P.L.order (P.L.twins.map (twM P.L)) TV said ∧ ((List.range n).map fun q => (⟨bs q, if q = 0 then fs else []⟩ : Pg)) = P.L.pages.map (pgM P.L) ∧
      (∀ x ∈ fs, x.temps = (bdAt P.L J).temps ∧ x.stack = (bdAt P.L J).stack ∧ J < P.L.bodies.length) := by
  obtain ⟨wm, B', h1, ⟨V, p1, p2⟩, h3, h4, h5, h6⟩ := hm
  have q1 := p1.kept h4 fun g e => h5 g (p1.lt g e).1 (p1.lt g e).2
  have q2 := fun q hq => (p2 q hq).1.kept h4 fun g e => h5 g ((p2 q hq).1.lt g e).1 ((p2 q hq).1.lt g e).2
  have hpn := hl.n
  rw [hpn] at p1 p2 q1 q2
  have rS : ∀ g, B0 ≤ g → g < S → rhoO ρ B0 S X wm.heap.size w'.heap.size v1 J g = (match ρ g with | .order => .order | .temps k => if k = J then .body 0 else .temps k | .stack k => if k = J then .body 1 else .stack k | _ => .other) := fun g a b => by
    unfold rhoO
    rw [if_neg (by omega), if_neg (by omega), if_neg (by omega), if_neg (by omega)]
  have hgd : ∀ q, (hq : q < P.L.pages.length) → P.L.pages.getD q ⟨-1, []⟩ = P.L.pages[q] := fun q hq => by simp [hq]
  have h0 : 0 < P.L.pages.length := by omega
  have hmap : ∀ (fs : List Fr), fs = P.L.pages[0].frames.map (frM P.L) → ((List.range n).map fun q => (⟨(P.L.pages.getD q ⟨-1, []⟩).base, if q = 0 then fs else []⟩ : Pg)) = P.L.pages.map (pgM P.L) := fun fs he => by
    refine List.ext_getElem (by simp [hpn]) fun q a b => ?_
    have hq : q < P.L.pages.length := by simpa using b
    rw [List.getElem_map, List.getElem_map, List.getElem_range, hgd q hq]
    by_cases e : q = 0
    · subst e
      rw [if_pos rfl, he]
      rfl
    · rw [if_neg e]
      unfold pgM
      rw [hl.e q (by omega) hq]
      rfl
  have hO := hL .order
  have hOr : IntRow B0 w' P.vo P.L.order ∧ ∀ g, P.vo.ownBlock = some g → rhoO ρ B0 S X wm.heap.size w'.heap.size v1 J g = .order := by
    refine ⟨hO.1.mono hB, fun g e => ?_⟩
    rw [rS g (by have := (hO.1.lt g e).1; omega) (hlt.1 g e), hO.2 g e]
  have hSd : PairRow B0 w' v4 said ∧ ∀ g, v4.ownBlock = some g → rhoO ρ B0 S X wm.heap.size w'.heap.size v1 J g = .live := by
    refine ⟨hs.mono hB2, fun g e => ?_⟩
    have := hs.lt g e
    have := hs4 g e
    unfold rhoO
    rw [if_neg (by omega), if_neg (by omega), if_neg (by omega), if_pos (by omega)]
  have hlim : ∀ g, rhoO ρ B0 S X wm.heap.size w'.heap.size v1 J g ≠ .other → B0 ≤ g ∧ g < w'.heap.size := fun g e => by
    by_cases a : g < B0 ∨ w'.heap.size ≤ g
    · unfold rhoO at e; rw [if_pos a] at e; exact absurd rfl e
    · omega
  obtain ⟨av, cv, hv1, hmx⟩ := q1.slice
  have hPr : ∃ g off c, v1 = .slice (some ⟨g, off, none⟩) n c ∧ n ≤ maxLen ∧ PRowM B0 w' g off n (fun q => (P.L.pages.getD q ⟨-1, []⟩).base) V ∧ rhoO ρ B0 S X wm.heap.size w'.heap.size v1 J g = .pages := by
    obtain ⟨g, off, c, e, hg1, hg2⟩ := q1.form (by omega)
    have hlt' := p1.lt g (by rw [e]; rfl)
    refine ⟨g, off, c, e, hmx, ⟨by omega, by omega, fun q hq => ?_, fun q hq => ?_⟩, ?_⟩
    · have c0 := flatM_at (f := fun q => [Value.int .i64 (P.L.pages.getD q ⟨-1, []⟩).base, V q]) (sz := 2) (fun i => rfl) n q 0 hq (by omega)
      have c1 := flatM_at (f := fun q => [Value.int .i64 (P.L.pages.getD q ⟨-1, []⟩).base, V q]) (sz := 2) (fun i => rfl) n q 1 hq (by omega)
      rw [e] at q1
      have k0 := (q1.cell c0).1
      have k1 := (q1.cell c1).1
      rw [← Nat.add_assoc] at k1
      exact ⟨k0, k1⟩
    · have c0 := flatM_at (f := fun q => [Value.int .i64 (P.L.pages.getD q ⟨-1, []⟩).base, V q]) (sz := 2) (fun i => rfl) n q 0 hq (by omega)
      rw [e] at q1
      exact (q1.cell c0).2
    · unfold rhoO
      rw [if_neg (by omega), if_neg (by omega), if_pos (by omega), if_pos (by rw [e]; rfl)]
  have hVe : ∀ q, 1 ≤ q → q < n → ∃ a c, V q = .slice a 0 c := fun q a b => by
    obtain ⟨x, c, e, _⟩ := (q2 q b).slice
    rw [hgd q (by omega), hl.e q a (by omega)] at e
    exact ⟨x, c, e⟩
  -- the twins
  have hTl : ∀ q, (hq : q < P.L.twins.length) → (P.L.twins.map (twM P.L))[q]'(by simpa using hq) = twM P.L P.L.twins[q] := fun q hq => by simp
  obtain ⟨at', ct, hv3, hm3⟩ := h6.slice
  have hTw : TwO B0 (rhoO ρ B0 S X wm.heap.size w'.heap.size v1 J) w' v3 (P.L.twins.map (twM P.L)) (fun i => if (P.L.twins.getD i ⟨-1, 0, 0, 0⟩).page = -1 then P.T (P.L.twins.getD i ⟨-1, 0, 0, 0⟩).body else (.slice none 0 0, .slice none 0 0)) := by
    refine ⟨⟨at', ct, by rw [List.length_map]; exact hv3, by rw [List.length_map]; exact hm3⟩, fun hp => ?_, fun i hi => ?_, fun i hi => ?_⟩
    · rw [List.length_map] at hp ⊢
      obtain ⟨g, off, c, e, hg1, hg2⟩ := h6.form hp
      have cells : ∀ q, (hq : q < P.L.twins.length) → ∀ r x, (twOut P q)[r]? = some x → w'.cell? ⟨g, off + q * 8 + r, none⟩ = some x ∧ w'.frozen? ⟨g, off + q * 8 + r, none⟩ = false := fun q hq r x hx => by
        have hr : r < 8 := by have := (List.getElem?_eq_some_iff.1 hx).1; rw [twOut_len] at this; exact this
        have hc := flatM_at (f := twOut P) (sz := 8) (fun i => twOut_len P i) P.L.twins.length q r hq hr
        rw [e] at h6
        have := h6.cell (hc.trans hx)
        rwa [← Nat.add_assoc] at this
      refine ⟨g, off, c, e, ⟨by omega, hg2, fun q hq r x hx => ?_, fun q r hq hr => ?_⟩, ?_⟩
      · have hq' : q < P.L.twins.length := by simpa using hq
        refine (cells q hq' r x ?_).1
        rw [hTl q hq'] at hx
        have hgt : P.L.twins.getD q ⟨-1, 0, 0, 0⟩ = P.L.twins[q] := by simp [hq']
        rw [hgt] at hx
        unfold twOut
        rw [hgt]
        by_cases hpg : P.L.twins[q].page = -1
        · rw [if_pos hpg] at hx ⊢
          unfold twM at hx
          rw [if_pos hpg] at hx
          exact hx
        · rw [if_neg hpg] at hx ⊢
          unfold twM at hx
          rw [if_neg hpg] at hx
          exact hx
      · have hq' : q < P.L.twins.length := by simpa using hq
        obtain ⟨x, hx⟩ : ∃ x, (twOut P q)[r]? = some x := ⟨_, List.getElem?_eq_getElem (by rw [twOut_len]; exact hr)⟩
        exact (cells q hq' r x hx).2
      · unfold rhoO
        have := h6.lt g (by rw [e]; rfl)
        rw [if_neg (by omega), if_pos (by omega)]
    · have hi' : i < P.L.twins.length := by simpa using hi
      have hgt : P.L.twins.getD i ⟨-1, 0, 0, 0⟩ = P.L.twins[i] := by simp [hi']
      rw [hTl i hi']
      simp only [hgt]
      unfold twM
      by_cases hpg : P.L.twins[i].page = -1
      · rw [if_pos hpg, if_pos hpg]
        have hk := hwf.tw i hi'
        have o1 := ((hL (.temps _)) hk).1
        have o2 := ((hL (.stack _)) hk).1
        rw [← bdAt_at hk] at o1 o2
        exact ⟨o1.mono hB, o2.mono hB⟩
      · rw [if_neg hpg, if_neg hpg]
        exact ⟨PairRow.nil _ _, PairRow.nil _ _⟩
    · have hi' : i < P.L.twins.length := by simpa using hi
      have hgt : P.L.twins.getD i ⟨-1, 0, 0, 0⟩ = P.L.twins[i] := by simp [hi']
      simp only [hgt]
      by_cases hpg : P.L.twins[i].page = -1
      · rw [if_pos hpg]
        have hk := hwf.tw i hi'
        obtain ⟨hb1, hb2⟩ := hl.t i hi' hpg
        have key : ∀ b, i = b → b < P.L.bodies.length → (∀ g, (P.T b).1.ownBlock = some g → rhoO ρ B0 S X wm.heap.size w'.heap.size v1 J g = .temps i) ∧ ∀ g, (P.T b).2.ownBlock = some g → rhoO ρ B0 S X wm.heap.size w'.heap.size v1 J g = .stack i := fun b hb hk => by
          subst hb
          have o1 := (hL (.temps _)) hk
          have o2 := (hL (.stack _)) hk
          have l1 := (hlt.2 _ hk).1
          have l2 := (hlt.2 _ hk).2
          refine ⟨fun g e => ?_, fun g e => ?_⟩
          · rw [rS g (by have := (o1.1.lt g e).1; omega) (l1 g e), o1.2 g e]
            exact if_neg hb2
          · rw [rS g (by have := (o2.1.lt g e).1; omega) (l2 g e), o2.2 g e]
            exact if_neg hb2
        exact key _ hb1.symm hk
      · rw [if_neg hpg]
        refine ⟨fun g e => ?_, fun g e => ?_⟩ <;> cases e
  rcases hl.f h0 with hf | ⟨i, hf, hJ⟩
  · refine ⟨_, _, V, [], .slice none 0 0, .slice none 0 0, _, ⟨⟨hPr, hVe, .inl ⟨rfl, ?_⟩⟩, hOr, hTw, hSd, hlim, Nat.le_refl _⟩, hmap [] (by rw [hf]; rfl), fun x hx => by cases hx⟩
    obtain ⟨x, c, e, _⟩ := (q2 0 (by omega)).slice
    rw [hgd 0 h0, hf] at e
    exact ⟨x, c, e⟩
  · have v0 := q2 0 (by omega)
    have v0m := (p2 0 (by omega)).1
    rw [hgd 0 h0, hf] at v0 v0m
    obtain ⟨g, off, c, e, hg1, hg2⟩ := v0.form (by show 0 < 1; omega)
    have hg3 := v0m.lt g (by rw [e]; rfl)
    have hnp := (p2 0 (by omega)).2 g (by rw [e]; rfl)
    have o1 := (hL (.temps _)) hJ
    have o2 := (hL (.stack _)) hJ
    have l1 := (hlt.2 _ hJ).1
    have l2 := (hlt.2 _ hJ).2
    rw [← bdAt_at hJ] at o1 o2
    refine ⟨_, _, V, [frM P.L ⟨J, i⟩], (P.T J).1, (P.T J).2, _, ⟨⟨hPr, hVe, .inr ⟨_, g, off, c, rfl, e, ⟨by omega, hg2, fun r y hy => ?_, fun r hr => ?_⟩, ?_, o1.1.mono hB, o2.1.mono hB, fun g' e' => ?_, fun g' e' => ?_⟩⟩, hOr, hTw, hSd, hlim, Nat.le_refl _⟩, hmap _ (by rw [hf]; rfl), fun x hx => ?_⟩
    · rw [e] at v0
      exact (v0.cell (j := r) (by rw [← hy]; rfl)).1
    · rw [e] at v0
      obtain ⟨y, hy⟩ : ∃ y, (frOut P [⟨J, i⟩] 0)[r]? = some y := ⟨_, List.getElem?_eq_getElem (by rw [frOut_len]; exact hr)⟩
      exact (v0.cell (j := r) (by rw [← hy]; rfl)).2
    · unfold rhoO
      rw [if_neg (by omega), if_neg (by omega), if_pos (by omega), if_neg hnp]
    · rw [rS g' (by have := (o1.1.lt g' e').1; omega) (l1 g' e'), o1.2 g' e']
      exact if_pos rfl
    · rw [rS g' (by have := (o2.1.lt g' e').1; omega) (l2 g' e'), o2.2 g' e']
      exact if_pos rfl
    · obtain rfl := List.mem_singleton.1 hx
      exact ⟨rfl, rfl, hJ⟩
theorem mvL_none (h : Hp) (n : Nat) (c : Int) : MvL (lvIn (mvM h n c)) n h.calls.length where
  n := by rw [pages_in, List.length_replicate]
  e := fun q _ hq => by simp only [pages_in, List.getElem_replicate]
  f := fun h0 => .inl (by simp only [pages_in, List.getElem_replicate])
  t := fun q hq _ => by
    rw [twins_in] at hq
    rw [twin_in h n c q hq]
    exact ⟨rfl, by omega⟩
theorem mvL_run {h : Hp} {n : Nat} {c : Int} {j : Nat} (hj : j < h.calls.length) : MvL (lvRun h n c j) n j where
  n := by
    show ((lvIn (mvM h n c)).pages.set 0 _).length = n
    rw [List.length_set, pages_in, List.length_replicate]
  e := fun q h1 hq => by
    have hq' : q < ((lvIn (mvM h n c)).pages.set 0 ⟨(h.calls.getD j Cl.none).sender, [⟨j, (j : Int)⟩]⟩).length := hq
    show (((lvIn (mvM h n c)).pages.set 0 ⟨(h.calls.getD j Cl.none).sender, [⟨j, (j : Int)⟩]⟩)[q]).frames = []
    rw [List.getElem_set_ne (by omega)]
    simp only [pages_in, List.getElem_replicate]
  f := fun h0 => .inr ⟨(j : Int), by
    have h0' : 0 < ((lvIn (mvM h n c)).pages.set 0 ⟨(h.calls.getD j Cl.none).sender, [⟨j, (j : Int)⟩]⟩).length := h0
    show (((lvIn (mvM h n c)).pages.set 0 ⟨(h.calls.getD j Cl.none).sender, [⟨j, (j : Int)⟩]⟩)[0]).frames = _
    rw [List.getElem_set_self], by
    show j < (lvIn (mvM h n c)).bodies.length
    rw [bodies_in, List.length_map]
    exact hj⟩
  t := fun q hq hp => by
    have hq' : q < ((lvIn (mvM h n c)).twins.set j ⟨((0 : Nat) : Int), 0, j, 0⟩).length := hq
    have hp' : (((lvIn (mvM h n c)).twins.set j ⟨((0 : Nat) : Int), 0, j, 0⟩)[q]).page = -1 := hp
    show (((lvIn (mvM h n c)).twins.set j ⟨((0 : Nat) : Int), 0, j, 0⟩)[q]).body = q ∧ q ≠ j
    by_cases e : j = q
    · subst e
      rw [List.getElem_set_self] at hp'
      cases hp'
    · rw [List.getElem_set_ne e]
      rw [List.length_set, twins_in] at hq'
      rw [twin_in h n c q hq']
      exact ⟨rfl, fun x => e x.symm⟩
theorem MvRaw.ans {B0 : Nat} {w' : World} {v1 v2 v3 v4 : Value} {h : Hp} {n : Nat} {c : Int} (k : MvRaw B0 w' v1 v2 v3 v4 h n c) (hn1 : 1 ≤ n) (hn4 : n ≤ 4) (h30 : h.calls.length ≤ 30) (hsm : ∀ i, (hi : i < h.calls.length) → h.calls[i].temps.length ≤ 1000 ∧ h.calls[i].stack.length ≤ 1000) (hsd : h.said.length ≤ 1048576) :
    ∃ Blk K Mk, IAns B0 w' (mvIn h n c) v1 v2 v3 v4 Blk K Mk := by
  obtain ⟨P, B, ρ, S, X, hB, hB2, hL, hlt, hwf, hn, rfl, hm, hs, hSX, hs4, heq, hor⟩ := k
  have hbod : P.L.bodies = h.calls.map bdOf ∧ P.L.twins.length = h.calls.length ∧ P.L.order = ordTo n n ∧ ∃ J, MvL P.L n J := by
    rcases hor with ⟨_, e⟩ | ⟨j, hj, _, e⟩
    · rw [e]
      exact ⟨bodies_in h n c, twins_in h n c, rfl, _, mvL_none h n c⟩
    · rw [e]
      refine ⟨bodies_in h n c, ?_, useOrd_last n hn1, _, mvL_run hj⟩
      show ((lvIn (mvM h n c)).twins.set j _).length = _
      rw [List.length_set, twins_in]
  obtain ⟨hb, ht, ho, J, hl⟩ := hbod
  have hbl : ∀ k, k < P.L.bodies.length → (bdAt P.L k).temps.length ≤ 1000 ∧ (bdAt P.L k).stack.length ≤ 1000 := fun k hk => by
    rw [bdAt_at hk]
    have hk' : k < h.calls.length := by rw [hb, List.length_map] at hk; exact hk
    have e : P.L.bodies[k] = bdOf h.calls[k] := by simp [hb]
    rw [e]
    exact hsm k hk'
  obtain ⟨ρ2, bs, V, fs, t, s, TV, hO, hpg, hfs⟩ := mvo_of hL hlt hwf hl hn1 hB hB2 hSX hm hs hs4
  have hfew : MvFew n fs P.L.order (P.L.twins.map (twM P.L)) h.said := by
    refine ⟨hn1, by omega, fun x hx => ?_, by rw [ho, ordTo_length]; omega, by rw [List.length_map]; omega, fun i hi => ?_, hsd⟩
    · obtain ⟨e1, e2, hJ⟩ := hfs x hx
      have := hbl J hJ
      rw [e1, e2]
      omega
    · have hi' : i < P.L.twins.length := by simpa using hi
      rw [List.getElem_map]
      unfold Tw.small twM
      have := hbl _ (hwf.tw i hi')
      split
      · show (bdAt P.L P.L.twins[i].body).temps.length ≤ _ ∧ (bdAt P.L P.L.twins[i].body).stack.length ≤ _
        omega
      · exact ⟨Nat.zero_le _, Nat.zero_le _⟩
  have heq2 : mvMc n bs fs P.L.order (P.L.twins.map (twM P.L)) h.said P.L.cells P.L.now h.born h.code = mvIn h n c := by
    rw [← heq]
    unfold mvMc outM
    rw [hpg]
  have := hO.ans P.L.cells P.L.now h.born h.code hfew
  rw [heq2] at this
  exact ⟨_, _, _, this⟩
end Go.Proofs.YtmifhlkcceafkaaGreat

/-
  What MoveIn answers, on both sides; and more plain facts of the machine that a heap is moved to.
-/
namespace Go.Proofs.YtmifhlkcceafkaaGreat
open Go.RowKit
section
variable {ms : Ms} {h : Hp} {n : Nat} {c : Int}
end
def mvAns (ms : List (Int × Int × List (Int × Int))) (h : Hp) (r c : Int) : Mc := if (heapOk ms h && roomsB r c) = true then mvIn h r.toNat c else zeroMc
theorem specMoveIn_ans (vp vc vs : Value) (ms : List (Int × Int × List (Int × Int))) (h : Hp) (r c : Int) (w : World) (hp : MethsAt w vp ms) (hh : HeapAt w vc vs h) (hn : h.calls.length ≤ 1048576) (hsd : h.said.length ≤ 1048576) :
    Calls Tryz.prog 6 #[.agg #[vp], .agg (hpCells vc vs h), .int .i64 r, .int .i64 c] w fun e w' => ∃ v1 v2 v3 v4, e = .returned (.tuple #[.agg (mcCells v1 v2 v3 v4 (mvAns ms h r c)).toArray, .bool (heapOk ms h && roomsB r c)]) ∧ From w.heap.size w' (fun z => MachAt z v1 v2 v3 v4 (mvAns ms h r c)) ∧ Below w.heap.size w w' := by
  refine (specMoveIn_any vp vc vs ms h r c w hp hh hn hsd).mono ?_
  rintro e w' ⟨hb, ⟨h0, rfl⟩ | ⟨h1, v, vo, vt, vsd, rfl, hN⟩⟩
  · have e1 : mvAns ms h r c = zeroMc := by unfold mvAns; rw [h0]; rfl
    exact ⟨_, _, _, _, by rw [e1, h0]; rfl, by rw [e1]; exact fun z _ _ => zero_at z, hb⟩
  · have e1 : mvAns ms h r c = mvIn h r.toNat c := by unfold mvAns; rw [if_pos h1]
    exact ⟨_, _, _, _, by rw [e1, h1], by rw [e1]; exact hN, hb⟩
end Go.Proofs.YtmifhlkcceafkaaGreat

/-
  MoveIn of both sides, as the exact law asks of them.
-/
namespace Go.Proofs.YtmifhlkcceafkaaGreat
open Go.RowKit
structure MX where
  a1 : Option Addr
  k1 : Nat
  a2 : Option Addr
  k2 : Nat
  a3 : Option Addr
  k3 : Nat
  a4 : Option Addr
  k4 : Nat
theorem specMoveIn_x (vp vc vs : Value) (ms : List (Int × Int × List (Int × Int))) (h : Hp) (r c : Int) (w : World) (hp : MethsAt w vp ms) (hh : HeapAt w vc vs h) (hs : h.small) :
    Calls Tryz.prog 6 #[.agg #[vp], .agg (hpCells vc vs h), .int .i64 r, .int .i64 c] w fun e w' => (∃ x : MX, e = .returned (.tuple #[.agg #[.int .i64 (mvAns ms h r c).cells, .slice x.a1 (mvAns ms h r c).pages.length x.k1, .slice x.a2 (mvAns ms h r c).order.length x.k2, .int .i64 (mvAns ms h r c).now, .slice x.a3 (mvAns ms h r c).twins.length x.k3, .int .i64 (mvAns ms h r c).born, .slice x.a4 (mvAns ms h r c).said.length x.k4, .int .i64 (mvAns ms h r c).code], .bool (heapOk ms h && roomsB r c)]) ∧
      From w.heap.size w' (fun z => MachAt z (.slice x.a1 (mvAns ms h r c).pages.length x.k1) (.slice x.a2 (mvAns ms h r c).order.length x.k2) (.slice x.a3 (mvAns ms h r c).twins.length x.k3) (.slice x.a4 (mvAns ms h r c).said.length x.k4) (mvAns ms h r c))) ∧ Below w.heap.size w w' := by
  refine (specMoveIn_ans vp vc vs ms h r c w hp hh hs.1 hs.2.2).mono ?_
  rintro e w' ⟨v1, v2, v3, v4, rfl, hF, hb⟩
  obtain ⟨a1, k1, rfl⟩ := hF.here.p.shape
  obtain ⟨a2, k2, rfl⟩ := hF.here.o.shape
  obtain ⟨a3, k3, rfl⟩ := hF.here.t.shape
  obtain ⟨a4, k4, rfl⟩ := hF.here.s.shape
  exact ⟨⟨⟨a1, k1, a2, k2, a3, k3, a4, k4⟩, rfl, hF⟩, hb⟩
theorem implMoveIn_x (vp vc vs : Value) (ms : List (Int × Int × List (Int × Int))) (h : Hp) (r c : Int) (w : World) (hp : MethsAt w vp ms) (hh : HeapAt w vc vs h) (hs : h.small) :
    Calls Tryz.prog 9 #[.agg #[vp], .agg (hpCells vc vs h), .int .i64 r, .int .i64 c] w fun e w' => (∃ x : MX, e = .returned (.tuple #[.agg #[.int .i64 (mvAns ms h r c).cells, .slice x.a1 (mvAns ms h r c).pages.length x.k1, .slice x.a2 (mvAns ms h r c).order.length x.k2, .int .i64 (mvAns ms h r c).now, .slice x.a3 (mvAns ms h r c).twins.length x.k3, .int .i64 (mvAns ms h r c).born, .slice x.a4 (mvAns ms h r c).said.length x.k4, .int .i64 (mvAns ms h r c).code], .bool (heapOk ms h && roomsB r c)]) ∧
      ∃ Blk K Mk, IAns w.heap.size w' (mvAns ms h r c) (.slice x.a1 (mvAns ms h r c).pages.length x.k1) (.slice x.a2 (mvAns ms h r c).order.length x.k2) (.slice x.a3 (mvAns ms h r c).twins.length x.k3) (.slice x.a4 (mvAns ms h r c).said.length x.k4) Blk K Mk) ∧ Below w.heap.size w w' := by
  refine (implMoveIn_raw vp vc vs ms h r c w hp hh hs.1 hs.2.2).mono ?_
  rintro e w' ⟨hb, ⟨h0, rfl⟩ | ⟨h1, v1, v2, v3, v4, rfl, hR⟩⟩
  · have e1 : mvAns ms h r c = zeroMc := by unfold mvAns; rw [h0]; rfl
    rw [e1, h0]
    exact ⟨⟨⟨none, 0, none, 0, none, 0, none, 0⟩, rfl, _, _, _, zero_ans _ _⟩, hb⟩
  · have e1 : mvAns ms h r c = mvIn h r.toNat c := by unfold mvAns; rw [if_pos h1]
    rw [e1, h1]
    obtain ⟨hok, hrm⟩ := Bool.and_eq_true_iff.1 h1
    have P := ok_parts hok
    obtain ⟨hr1, hr4, _, _⟩ := roomsB_true hrm
    obtain ⟨a1, k1, rfl⟩ := hR.at.p.shape
    obtain ⟨a2, k2, rfl⟩ := hR.at.o.shape
    obtain ⟨a3, k3, rfl⟩ := hR.at.t.shape
    obtain ⟨a4, k4, rfl⟩ := hR.at.s.shape
    obtain ⟨Blk, K, Mk, hA⟩ := hR.ans (by omega) (by omega) P.n30 (fun i hi => by have := P.small i hi; omega) hs.2.2
    exact ⟨⟨⟨a1, k1, a2, k2, a3, k3, a4, k4⟩, rfl, Blk, K, Mk, hA⟩, hb⟩
end Go.Proofs.YtmifhlkcceafkaaGreat

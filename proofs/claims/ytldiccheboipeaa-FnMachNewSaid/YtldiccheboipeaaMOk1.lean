/-
  Small pieces of the program's MachOk: where a number stands, how many calls there are, the order, what runs. (Written by mkmo.py.)
-/
import Derived.Test.YtldiccheboipeaaMFrames
import Derived.Test.YtldiccheboipeaaHImpl6
import Derived.Deep.DeepCutAuto
import Derived.Deep.RegionHeld3
namespace Go.Proofs.Ytldiccheboipeaa
open Go.RowKit

theorem ret_int {a b : Int} (h : a = b) : Ending.returned (.int .i64 a) = Ending.returned (.int .i64 b) := by rw [h]

/-- where a number first stands; -1, if nowhere -/
def idxI (xs : List Int) (v : Int) : Int := match xs.findIdx? (fun x => x == v) with | some i => (i : Int) | none => -1

theorem idxI_found {xs : List Int} {v : Int} {k : Nat} (hk : k < xs.length) (he : xs[k] = v) (hno : ∀ j, (hj : j < xs.length) → j < k → xs[j] ≠ v) : idxI xs v = (k : Int) := by
  have : xs.findIdx? (fun x => x == v) = some k := by
    rw [List.findIdx?_eq_some_iff_getElem]
    exact ⟨hk, by simp [he], fun j hj => by simp [hno j (by omega) hj]⟩
  unfold idxI
  rw [this]
theorem idxI_none {xs : List Int} {v : Int} (hno : ∀ j, (hj : j < xs.length) → xs[j] ≠ v) : idxI xs v = -1 := by
  have : xs.findIdx? (fun x => x == v) = none := by
    rw [List.findIdx?_eq_none_iff]
    intro x hx
    obtain ⟨j, hj, rfl⟩ := List.getElem_of_mem hx
    simp [hno j hj]
  unfold idxI
  rw [this]
theorem idxI_mem {xs : List Int} {v : Int} : decide (0 ≤ idxI xs v) = decide (v ∈ xs) := by
  by_cases h : v ∈ xs
  · obtain ⟨j, hj, e⟩ := List.getElem_of_mem h
    have hs : (xs.findIdx? (fun x => x == v)).isSome = true := by
      rw [List.findIdx?_isSome]
      exact List.any_eq_true.2 ⟨v, h, by simp⟩
    obtain ⟨i, hi⟩ := Option.isSome_iff_exists.1 hs
    unfold idxI
    rw [hi]
    simp [h]
  · have := idxI_none (xs := xs) (v := v) (fun j hj e => h (e ▸ List.getElem_mem hj))
    rw [this]
    simp [h]

set_option maxRecDepth 100000 in
set_option maxHeartbeats 4000000 in
theorem slicesIndex_any (v : Value) (xs : List Int) (x : Int) (w : World) (h : IntsAt w v xs) :
    Calls Try.prog 127 #[v, .int .i64 x] w fun e w' => e = .returned (.int .i64 (idxI xs x)) ∧ w' = w := by
  obtain ⟨a, cap, rfl, hl, hc⟩ := h
  unfold maxLen at hl
  go_enter Try.func127, Try.ntmps127
  go_wp2
  go_loopg [5, 8] xs.length (fun g _ i wr => ∃ k : Nat, k ≤ xs.length ∧ g = xs.length - k ∧ i = .int .i64 k ∧ wr = w ∧ ∀ j, (hj : j < xs.length) → j < k → xs[j] ≠ x)
  case atStart => exact ⟨0, Nat.zero_le _, rfl, rfl, rfl, fun j _ h => absurd h (Nat.not_lt_zero _)⟩
  case round =>
    obtain ⟨k, hk, rfl, rfl, hw, hall⟩ := hrel
    obtain rfl := hw.symm
    have H : Hid (∀ j, (hj : j < xs.length) → j < k → xs[j] ≠ x) := hall
    clear hall hw
    by_cases hlt : k < xs.length
    · obtain ⟨b, o, rfl, c0⟩ := hc k hlt
      have hkz : (k : Int) < (xs.length : Int) := by omega
      by_cases he : xs[k] = x
      · have HE : Hid (idxI xs x = (k : Int)) := idxI_found hlt he H.out
        rw [he] at c0
        go_wp2
        go_ret
        exact ⟨ret_int HE.out.symm, rfl⟩
      · have hne : (x == xs[k]) = false := by simp; exact fun e => he e.symm
        have HN : Hid (∀ j, (hj : j < xs.length) → j < k + 1 → xs[j] ≠ x) := fun j hj hjk => by
          by_cases e : j = k
          · subst e; exact he
          · exact H.out j hj (by omega)
        have hne2 : ¬ (x = xs[k]) := fun e => he e.symm
        clear H
        go_wp2
        go_roundg (xs.length - (k + 1))
        case measure => omega
        case rel => exact ⟨k + 1, by omega, rfl, by go_num, rfl, HN.out⟩
    · obtain rfl : k = xs.length := by omega
      have HE : Hid (idxI xs x = -1) := idxI_none fun j hj => H.out j hj hj
      go_wp2
      go_ret
      exact ⟨ret_int HE.out.symm, rfl⟩

theorem slicesContains_any (v : Value) (xs : List Int) (x : Int) (w : World) (h : IntsAt w v xs) :
    Calls Try.prog 88 #[v, .int .i64 x] w fun e w' => e = .returned (.bool (decide (x ∈ xs))) ∧ w' = w := by
  obtain ⟨a, cap, hv⟩ := h.shape
  subst hv
  go_enter Try.func88, Try.ntmps88
  go_wp2_with (go_at_call 127; refine (slicesIndex_any _ xs _ _ h).mono ?_; rintro e w' ⟨rfl, hw⟩; obtain rfl := hw.symm)
  go_ret
  exact ⟨ret_bool idxI_mem, rfl⟩

/-- how many of the first k twins are on no page -/
def offTo (ts : List Tw) (k : Nat) : Nat := ((ts.take k).filter fun t => t.page == -1).length
theorem offTo_succ {ts : List Tw} {k : Nat} (h : k < ts.length) : offTo ts (k + 1) = offTo ts k + (if ts[k].page = -1 then 1 else 0) := by
  unfold offTo
  rw [List.take_add_one, List.getElem?_eq_getElem h, List.filter_append]
  simp only [Option.toList_some, List.length_append]
  by_cases e : ts[k].page = -1 <;> simp [e]
theorem offTo_le (ts : List Tw) (k : Nat) : offTo ts k ≤ k := by
  unfold offTo
  exact Nat.le_trans (List.length_filter_le _ _) (by simp; omega)
/-- all frames, and all twins on no page -/
def callsN (m : Mc) : Nat := framesN m.pages + offTo m.twins m.twins.length


set_option maxRecDepth 100000 in
set_option maxHeartbeats 4000000 in
theorem callsOf_any (vp vo vt vs : Value) (m : Mc) (w : World) (h : MachAt w vp vo vt vs m) (hn : m.pages.length ≤ 1048576) (hf : framesN m.pages ≤ 1099511627776) (htn : m.twins.length ≤ 1099511627776) :
    Calls Try.prog 45 #[.agg (mcCells vp vo vt vs m).toArray] w fun e w' => e = .returned (.int .i64 (callsN m : Int)) ∧ Below w.heap.size w w' := by
  obtain ⟨ap, cp, hvp, hlp, hcp⟩ := id h.p
  obtain ⟨ao, co, hvo, hlo, hco⟩ := id h.o
  obtain ⟨at', ct, hvt, hlt', hct⟩ := id h.t
  obtain ⟨as', cs, hvs⟩ := h.s.shape
  subst hvp hvo hvt hvs
  unfold mcCells
  go_enter Try.func45, Try.ntmps45
  go_upto_region 1 with fail
  refine wp_gen (fun W => Below w.heap.size w W ∧ Bx W w.heap.size 33 [.int .i64 m.cells, .slice ap m.pages.length cp, .slice ao m.order.length co, .int .i64 m.now, .slice at' m.twins.length ct, .int .i64 m.born, .slice as' m.said.length cs, .int .i64 m.code]) ⟨(Below.refl _ _).alloc (Nat.le_refl _) _, Bx.new w _ _⟩ ?_
  rintro W ⟨hb, hm⟩
  obtain ⟨⟨m0, m1, m2, m3, m4, m5, m6, m7⟩, _⟩ := bx8 hm
  have HF := implMachFrames_any _ _ _ _ m W (h.below hb) hn hf
  unfold mcCells at HF
  have zb := hb.size
  go_wp2_with fail
  refine HF.mono ?_
  rintro e W1 ⟨rfl, t1⟩
  have hb1 := hb.trans (t1.mono zb)
  have hm1 := hm.below t1
  have z1 := hb1.size
  have HC : Hid (callsN m = framesN m.pages + offTo m.twins m.twins.length) := rfl
  clear HF t1 hm hb zb m0 m1 m2 m3 m4 m5 m6 m7
  obtain ⟨⟨_, _, _, _, m4, _, _, _⟩, _⟩ := bx8 hm1
  go_wp2_with fail
  go_loopg [3, 5, 11] m.twins.length (fun g n _ i wr => ∃ k : Nat, k ≤ m.twins.length ∧ g = m.twins.length - k ∧ i = .int .i64 k ∧ n = .int .i64 ((framesN m.pages + offTo m.twins k : Nat) : Int) ∧ Below w.heap.size w wr)
  case atStart => exact ⟨0, Nat.zero_le _, rfl, rfl, by simp [offTo], hb1⟩
  case round =>
    clear m4 hm1 hb1 z1
    obtain ⟨k, hk, rfl, rfl, rfl, hb⟩ := hrel
    by_cases hlt : k < m.twins.length
    · obtain ⟨b, o, vt, vs, rfl, htw⟩ := hct k hlt
      obtain ⟨d0, d1, d2, d3, d4, d5, d6, d7, dt, ds⟩ := htw.below hb
      obtain ⟨a1, k1, e1⟩ := dt.shape
      obtain ⟨a2, k2, e2⟩ := ds.shape
      rw [e1] at d4
      rw [e2] at d5
      have hkz : (k : Int) < (m.twins.length : Int) := by omega
      have hof := offTo_succ hlt
      have hol := offTo_le m.twins k
      have zb := hb.size
      have HB2 : Hid (∀ o, Below w.heap.size w (wr.alloc o)) := fun o => hb.alloc zb _
      clear e1 e2 dt ds htw hct
      obtain ⟨n, hn'⟩ : ∃ n, framesN m.pages + offTo m.twins k = n := ⟨_, rfl⟩
      have hnb : n ≤ 2199023255552 := by omega
      by_cases hp : m.twins[k].page = -1
      · rw [if_pos hp] at hof
        have HN : Hid (framesN m.pages + offTo m.twins (k + 1) = n + 1) := by show _ = _; omega
        rw [hp] at d0
        rw [hn']
        clear hof hn' hol hb
        go_wp2
        go_roundg (m.twins.length - (k + 1))
        case measure => omega
        case rel => exact ⟨k + 1, by omega, rfl, by go_num, by rw [HN.out]; simp, HB2.out _⟩
      · rw [if_neg hp] at hof
        have HN : Hid (framesN m.pages + offTo m.twins (k + 1) = n) := by show _ = _; omega
        have hpe : (m.twins[k].page == -1) = false := by simpa using hp
        rw [hn']
        clear hof hn' hol hb
        go_wp2
        go_roundg (m.twins.length - (k + 1))
        case measure => omega
        case rel => exact ⟨k + 1, by omega, rfl, by go_num, by rw [HN.out], HB2.out _⟩
    · obtain rfl : k = m.twins.length := by omega
      go_wp2
      go_ret
      exact ⟨ret_int (by rw [HC.out]), hb⟩


/-- whether the order is all pages, each once -/
def orderB (m : Mc) : Bool := decide (m.order.length = m.pages.length) && (List.range m.pages.length).all fun i => decide ((i : Int) ∈ m.order)

theorem orderB_no {m : Mc} {k : Nat} (hk : k < m.pages.length) (h : ¬ ((k : Int) ∈ m.order)) : orderB m = false := by
  unfold orderB
  rw [Bool.and_eq_false_iff]
  right
  rw [List.all_eq_false]
  exact ⟨k, List.mem_range.2 hk, by simpa using h⟩
theorem orderB_yes {m : Mc} (hl : m.order.length = m.pages.length) (h : ∀ k, k < m.pages.length → (k : Int) ∈ m.order) : orderB m = true := by
  unfold orderB
  rw [Bool.and_eq_true_iff]
  exact ⟨by simpa using hl, List.all_eq_true.2 fun k hk => by simpa using h k (List.mem_range.1 hk)⟩

set_option maxRecDepth 100000 in
set_option maxHeartbeats 4000000 in
theorem orderOk_any (vp vo vt vs : Value) (m : Mc) (w : World) (h : MachAt w vp vo vt vs m) :
    Calls Try.prog 42 #[.agg (mcCells vp vo vt vs m).toArray] w fun e w' => e = .returned (.bool (orderB m)) ∧ Below w.heap.size w w' := by
  obtain ⟨ap, cp, hvp, hlp, hcp⟩ := id h.p
  obtain ⟨ao, co, hvo, hlo, hco⟩ := id h.o
  obtain ⟨at', ct, hvt, hlt', hct⟩ := id h.t
  obtain ⟨as', cs, hvs⟩ := h.s.shape
  subst hvp hvo hvt hvs
  unfold mcCells
  unfold maxLen at hlp hlo
  have HO := h.o
  go_enter Try.func42, Try.ntmps42
  go_upto_region 1 with fail
  refine wp_gen (fun W => Below w.heap.size w W ∧ Bx W w.heap.size 33 [.int .i64 m.cells, .slice ap m.pages.length cp, .slice ao m.order.length co, .int .i64 m.now, .slice at' m.twins.length ct, .int .i64 m.born, .slice as' m.said.length cs, .int .i64 m.code]) ⟨(Below.refl _ _).alloc (Nat.le_refl _) _, Bx.new w _ _⟩ ?_
  rintro W ⟨hb, hm⟩
  obtain ⟨⟨m0, m1, m2, m3, m4, m5, m6, m7⟩, _⟩ := bx8 hm
  have HOW : Hid (IntsAt W (.slice ao m.order.length co) m.order) := HO.below hb
  by_cases hle : m.order.length = m.pages.length
  case neg =>
    have HE : Hid (orderB m = false) := by show _ = _; unfold orderB; simp [hle]
    have hlz : ¬ ((m.order.length : Int) = (m.pages.length : Int)) := by omega
    go_wp2
    go_ret
    exact ⟨ret_bool HE.out.symm, hb⟩
  have HLE : Hid (m.order.length = m.pages.length) := hle
  rw [hle] at m2 HOW
  clear hle
  go_wp2_with fail
  go_loopg [3, 14] m.pages.length (fun g _ i wr => ∃ k : Nat, k ≤ m.pages.length ∧ g = m.pages.length - k ∧ i = .int .i64 k ∧ wr = W ∧ ∀ j, j < k → (j : Int) ∈ m.order)
  case atStart => exact ⟨0, Nat.zero_le _, rfl, rfl, rfl, fun j h => absurd h (Nat.not_lt_zero _)⟩
  case round =>
    obtain ⟨k, hk, rfl, rfl, hw, hall⟩ := hrel
    obtain rfl := hw.symm
    have H : Hid (∀ j, j < k → (j : Int) ∈ m.order) := hall
    clear hall hw
    by_cases hlt : k < m.pages.length
    · have hkz : (k : Int) < (m.pages.length : Int) := by omega
      obtain ⟨f, hf⟩ : ∃ f, decide ((k : Int) ∈ m.order) = f := ⟨_, rfl⟩
      have HC := slicesContains_any _ m.order (k : Int) W HOW.out
      rw [hf] at HC
      go_wp2_with fail
      refine HC.mono ?_
      rintro e W1 ⟨rfl, hw⟩
      obtain rfl := hw.symm
      clear hw HC
      cases f
      · have HE : Hid (orderB m = false) := orderB_no hlt (by simpa using hf)
        go_wp2
        go_ret
        exact ⟨ret_bool HE.out.symm, hb⟩
      · have HN : Hid (∀ j, j < k + 1 → (j : Int) ∈ m.order) := fun j hj => by
          by_cases e : j = k
          · subst e; simpa using hf
          · exact H.out j (by omega)
        clear hf H
        go_wp2
        go_roundg (m.pages.length - (k + 1))
        case measure => omega
        case rel => exact ⟨k + 1, by omega, rfl, by go_num, rfl, HN.out⟩
    · obtain rfl : k = m.pages.length := by omega
      have HE : Hid (orderB m = true) := orderB_yes HLE.out H.out
      go_wp2
      go_ret
      exact ⟨ret_bool HE.out.symm, hb⟩

theorem cellsOf_any (a : Option Addr) (n c : Nat) (w : World) (hn : n ≤ 1099511627776) : Calls Try.prog 91 #[.slice a n c] w fun e w' => e = .returned (.int .i64 ((10 + n : Nat) : Int)) ∧ w' = w := by
  go_enter Try.func91, Try.ntmps91
  go_wp2
  go_ret
  exact ⟨ret_int (by omega), rfl⟩

end Go.Proofs.Ytldiccheboipeaa

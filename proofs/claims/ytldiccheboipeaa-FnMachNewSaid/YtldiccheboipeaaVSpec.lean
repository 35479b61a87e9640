/-
  What is seen of a heap, by the model: l11Has, l11Refs, l11Found, l11Names, l11Copy.
-/
import Derived.Test.YtldiccheboipeaaView1
import Derived.Test.YtldiccheboipeaaVals
import Derived.Deep.RegionHeld3
namespace Go.Proofs.Ytldiccheboipeaa
open Go.RowKit

theorem nums_at (l : List Nat) (i : Nat) (h : i < (nums l).length) : (nums l)[i] = ((l[i]'(by simpa [nums] using h) : Nat) : Int) := by simp [nums]

set_option maxRecDepth 100000 in
set_option maxHeartbeats 1000000 in
theorem l11Has_any (B : Nat) (v : Value) (ps : List Nat) (p : Int) (w : World) (h : IntRow B w v (nums ps)) :
    Calls Try.prog 164 #[v, .int .i64 p] w fun e w' => e = .returned (.int .i64 (numOf ps p)) ∧ w' = w := by
  obtain ⟨a, c, rfl, hl⟩ := h.slice
  rw [nums_len] at h hl ⊢
  unfold maxLen at hl
  go_enter Try.func164, Try.ntmps164
  go_wp2
  go_loopg [5] ps.length (fun g i wr => ∃ k : Nat, k ≤ ps.length ∧ g = ps.length - k ∧ i = .int .i64 k ∧ wr = w ∧ ∀ j, (hj : j < ps.length) → j < k → (ps[j] : Int) ≠ p)
  case atStart => exact ⟨0, Nat.zero_le _, rfl, rfl, rfl, fun j _ hj => absurd hj (Nat.not_lt_zero _)⟩
  case round =>
    obtain ⟨k, hk, rfl, rfl, hw, hne⟩ := hrel
    subst hw
    by_cases hlt : k < ps.length
    · obtain ⟨g1, o1, c1, e1, _⟩ := h.form (by rw [nums_len]; omega)
      obtain rfl : a = some ⟨g1, o1, none⟩ := by injection e1
      clear e1
      have d1 := (h.cell (i := k) (by rw [nums_len]; exact hlt)).1
      rw [nums_at] at d1
      have hkz : (k : Int) < (ps.length : Int) := by omega
      by_cases he : (ps[k] : Int) = p
      · have hN : Hid (numOf ps p = (k : Int)) := numOf_first hlt he (fun j hj => hne j (by omega) hj)
        clear hne
        go_wp2
        go_ret
        exact ⟨by rw [hN.out]; rfl, rfl⟩
      · have HNE : Hid (∀ j, (hj : j < ps.length) → j < k → (ps[j] : Int) ≠ p) := hne
        clear hne
        go_wp2
        go_roundg (ps.length - (k + 1))
        case measure => omega
        case rel => exact ⟨k + 1, by omega, rfl, by go_num, rfl, fun j hj hjk => by
            by_cases e : j = k
            · subst e; exact he
            · exact HNE.out j hj (by omega)⟩
    · obtain rfl : k = ps.length := by omega
      have hN : Hid (numOf ps p = -1) := numOf_none (fun j hj => hne j hj hj)
      clear hne
      go_wp2
      go_ret
      exact ⟨by rw [hN.out]; rfl, rfl⟩

/-- which calls a call tells of -/
def refsV (vs : List (Int × Int)) : List Int := (vs.filter fun v => v.1 == 2).map (·.2)
def refsC (c : Cl) : List Int := (if 0 ≤ c.sender then [c.sender] else []) ++ refsV (c.temps ++ c.stack)

theorem refsV_step {vs : List (Int × Int)} {k : Nat} (h : k < vs.length) : refsV (vs.take (k + 1)) = if vs[k].1 = 2 then refsV (vs.take k) ++ [vs[k].2] else refsV (vs.take k) := by
  unfold refsV
  rw [List.take_add_one, List.getElem?_eq_getElem h, List.filter_append, List.map_append]
  by_cases e : vs[k].1 = 2
  · simp [e]
  · simp [e]

theorem refsV_len : ∀ (vs : List (Int × Int)), (refsV vs).length ≤ vs.length := fun vs => by
  unfold refsV
  rw [List.length_map]
  exact List.length_filter_le _ _

theorem come_refsV (n : Nat) : ∀ (vs : List (Int × Int)) (ps : List Nat), (refsV vs).foldl (comeP n) ps = comeV n ps vs
  | [], _ => rfl
  | v :: r, ps => by
    have ih := come_refsV n r
    unfold refsV comeV at *
    by_cases e : v.1 = 2
    · simp [e, ih]
    · simp [e, ih]

theorem come_refsC (n : Nat) (ps : List Nat) (c : Cl) : (refsC c).foldl (comeP n) ps = comeC n ps c := by
  unfold refsC comeC
  rw [List.foldl_append, come_refsV, comeV_append]
  by_cases e : 0 ≤ c.sender
  · rw [if_pos e]; rfl
  · rw [if_neg e, comeP_out (p := c.sender) (by omega)]; rfl

/-- one number more, just laid into a block of its own -/
theorem append_i {ops : Array Oper} {rest : List Oper} {o : Oper} {act : Act} {Q : Exit → Act → World → Prop} (w : World) (hgd : o.guard = none) (s x : Operand)
    (ho : o.op = .call { callee := .builtin .append, args := #[s, x], argTypes := #[29, 29] }) (B : Nat) (v : Value) (L : List Int) (hs : act.eval s = v) (hown : IntRow B w v L) (k : Int) (H c : Nat) (hH : w.heap.size = H)
    (hx : act.eval x = .slice (some ⟨H, 0, none⟩) 1 c) (hL : L.length ≤ 900000) (hB : B ≤ H)
    (h : ∀ g off cap w', IntRow B w' (.slice (some ⟨g, off, none⟩) (L.length + 1) cap) (L ++ [k]) → w.grownBy w' v.ownBlock → (v.ownBlock = some g ∨ H ≤ g) → g < w'.heap.size →
      wpList Try.prog ops Q rest (act.put o.dst (.slice (some ⟨g, off, none⟩) (L.length + 1) cap)) w') :
    wpList Try.prog ops Q (o :: rest) act (w.alloc (.cells #[.int .i64 k] 3)) := by
  obtain ⟨i0, hi, hz0, hz1, hz2⟩ := info_parts Try.infoInt2
  exact append_int Try.underlying29 hi hz0 hz1 hz2 w hgd s x ho v L hs hown k H c hH hx hL hB h

end Go.Proofs.Ytldiccheboipeaa

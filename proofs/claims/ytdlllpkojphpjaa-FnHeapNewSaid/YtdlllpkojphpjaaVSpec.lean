/-
  What is seen of a heap, by the model: l11Has, l11Refs, l11Found, l11Names, l11Copy.
-/
import Derived.Test.YtdlllpkojphpjaaView1
import Derived.Test.YtdlllpkojphpjaaVals
import Derived.Deep.RegionHeld3
namespace Go.Proofs.Ytdlllpkojphpjaa
open Go.RowKit

theorem nums_at (l : List Nat) (i : Nat) (h : i < (nums l).length) : (nums l)[i] = ((l[i]'(by simpa [nums] using h) : Nat) : Int) := by simp [nums]

/-- which calls a call tells of -/
def refsV (vs : List (Int × Int)) : List Int := (vs.filter fun v => v.1 == 2).map (·.2)
def refsC (c : Cl) : List Int := (if 0 ≤ c.sender then [c.sender] else []) ++ refsV (c.temps ++ c.stack)

theorem refsV_step {vs : List (Int × Int)} {k : Nat} (h : k < vs.length) : refsV (vs.take (k + 1)) = if vs[k].1 = 2 then refsV (vs.take k) ++ [vs[k].2] else refsV (vs.take k) := by
  unfold refsV
  rw [List.take_add_one, List.getElem?_eq_getElem h, List.filter_append, List.map_append]
  by_cases e : vs[k].1 = 2
  · simp [e]
  · simp [e]

theorem refsV_len : ∀ (vs : List (Int × Int)), (refsV vs).length ≤ vs.length := fun vs => by
  unfold refsV
  rw [List.length_map]
  exact List.length_filter_le _ _

theorem come_refsV (n : Nat) : ∀ (vs : List (Int × Int)) (ps : List Nat), (refsV vs).foldl (comeP n) ps = comeV n ps vs
  | [], _ => rfl
  | v :: r, ps => by
    have ih := come_refsV n r
    unfold refsV comeV at *
    by_cases e : v.1 = 2
    · simp [e, ih]
    · simp [e, ih]

theorem come_refsC (n : Nat) (ps : List Nat) (c : Cl) : (refsC c).foldl (comeP n) ps = comeC n ps c := by
  unfold refsC comeC
  rw [List.foldl_append, come_refsV, comeV_append]
  by_cases e : 0 ≤ c.sender
  · rw [if_pos e]; rfl
  · rw [if_neg e, comeP_out (p := c.sender) (by omega)]; rfl

/-- one number more, just laid into a block of its own -/
theorem append_i {ops : Array Oper} {rest : List Oper} {o : Oper} {act : Act} {Q : Exit → Act → World → Prop} (w : World) (hgd : o.guard = none) (s x : Operand)
    (ho : o.op = .call { callee := .builtin .append, args := #[s, x], argTypes := #[56, 56] }) (B : Nat) (v : Value) (L : List Int) (hs : act.eval s = v) (hown : IntRow B w v L) (k : Int) (H c : Nat) (hH : w.heap.size = H)
    (hx : act.eval x = .slice (some ⟨H, 0, none⟩) 1 c) (hL : L.length ≤ 900000) (hB : B ≤ H)
    (h : ∀ g off cap w', IntRow B w' (.slice (some ⟨g, off, none⟩) (L.length + 1) cap) (L ++ [k]) → w.grownBy w' v.ownBlock → (v.ownBlock = some g ∨ H ≤ g) → g < w'.heap.size →
      wpList Try.prog ops Q rest (act.put o.dst (.slice (some ⟨g, off, none⟩) (L.length + 1) cap)) w') :
    wpList Try.prog ops Q (o :: rest) act (w.alloc (.cells #[.int .i64 k] 3)) := by
  obtain ⟨i0, hi, hz0, hz1, hz2⟩ := info_parts Try.infoInt2
  exact append_int Try.underlying56 hi hz0 hz1 hz2 w hgd s x ho v L hs hown k H c hH hx hL hB h

end Go.Proofs.Ytdlllpkojphpjaa

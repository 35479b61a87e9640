/-
  The document's model of ProgOk, spec.ProgOk itself.
-/
import Derived.Test.YtldiccheboipeaaSpecOk
namespace Go.Proofs.Ytldiccheboipeaa
open Go.RowKit

set_option maxHeartbeats 1000000 in
theorem specProgOk_any (v : Value) (ms : List (Int × Int × List (Int × Int))) (w : World) (h : MethsAt w v ms) :
    Calls Try.prog 32 #[.agg #[v]] w fun e w' => e = .returned (.bool (progOk ms)) ∧ Below w.heap.size w w' := by
  obtain ⟨a, cap, rfl, hl, hc⟩ := h
  have hl' := hl
  have hB : ∀ o1, Below w.heap.size w (w.alloc o1) := fun o1 => (Below.refl _ _).alloc (Nat.le_refl _) _
  unfold maxLen at hl
  cases h1 : inR ms.length 1 4
  · rw [show progOk ms = false by simp [progOk, h1]]
    go_enter Try.func32, Try.ntmps32
    go_wp2_with (go_at_call 33; refine (l6In_any _ _ _ _).mono ?_; rintro e w' ⟨rfl, rfl⟩)
    go_ret
    exact ⟨rfl, hB _⟩
  have hlen := inR_true.1 h1
  have h0lt : 0 < ms.length := by omega
  have hx0 : (ms.getD 0 (0, 0, [])).1 = ms[0].1 := by simp [h0lt]
  obtain ⟨b, o, vo0, rfl, c0, c1, c2, c3⟩ := hc 0 h0lt
  have e0 : w.cell? ⟨b, o, none⟩ = some (.int .i64 ms[0].1) := by simpa using c0
  have hblt := World.block_lt_of_cell? _ _ e0
  have E0 : ∀ o1, (w.alloc o1).cell? ⟨b, o, none⟩ = some (.int .i64 ms[0].1) := fun o1 => cell_below (hB o1) e0
  clear c0 c1 c2 c3 e0 hblt
  cases h2 : (ms[0].1 == 0)
  · rw [show progOk ms = false by simp only [progOk, h1, hx0, h2]; rfl]
    have h2' : (ms[0].1 != 0) = true := by simp only [bne, h2]; rfl
    go_enter Try.func32, Try.ntmps32
    go_wp2_with (go_at_call 33; refine (l6In_any _ _ _ _).mono ?_; rintro e w' ⟨rfl, rfl⟩)
    go_ret
    exact ⟨rfl, hB _⟩
  have H : Hid (progOk ms = ms.all (methOk ms.length)) := by
    show progOk ms = _
    simp only [progOk, h1, hx0, h2, Bool.true_and]
  have h2' : (ms[0].1 != 0) = false := by simp only [bne, h2]; rfl
  go_enter Try.func32, Try.ntmps32
  go_wp2_with (go_at_call 33; refine (l6In_any _ _ _ _).mono ?_; rintro e w' ⟨rfl, rfl⟩)
  clear h1 h2 h2' hx0 hB E0
  go_loopg [3] ms.length (fun g i wr => ∃ k : Nat, k ≤ ms.length ∧ g = ms.length - k ∧ i = .int .i64 k ∧ wr.cell? ⟨w.heap.size, 0, none⟩ = some (.slice (some ⟨b, o, none⟩) ms.length cap) ∧ Below w.heap.size w wr ∧ ∀ j, (hj : j < ms.length) → j < k → methOk ms.length ms[j] = true)
  case atStart => exact ⟨0, Nat.zero_le _, rfl, rfl, by simp [go_sem], (Below.refl _ _).alloc (Nat.le_refl _) _, fun j _ h => absurd h (Nat.not_lt_zero _)⟩
  case round =>
    obtain ⟨k, hk, rfl, rfl, bp, hb, hall⟩ := hrel
    have HA : Hid (∀ j, (hj : j < ms.length) → j < k → methOk ms.length ms[j] = true) := hall
    clear hall
    have hsz := hb.size
    by_cases hlt : k < ms.length
    · obtain ⟨b', o', vo, hbo, c0, c1, c2, c3⟩ := hc k hlt
      obtain ⟨rfl, rfl⟩ : b = b' ∧ o = o' := by simpa using hbo
      have d0 := cell_below hb c0
      have d1 := cell_below hb c1
      have d2 := cell_below hb c2
      have d3 := (c3.below hb).below (Below.refl _ _).drew
      clear c0 c1 c2 c3 hc hbo
      obtain ⟨ao, co, hvo, _⟩ := id d3
      rw [hvo] at d2 d3
      clear hvo
      have hkz : (k : Int) < (ms.length : Int) := by omega
      go_wp2_with fail
      go_region_held3 (fun w' => w'.cell? ⟨w.heap.size, 0, none⟩ = some (.slice (some ⟨b, o, none⟩) ms.length cap) ∧ w'.cell? ⟨b, o + k * 3, none⟩ = some (.int .i64 ms[k].1) ∧ w'.cell? ⟨b, o + k * 3 + 1, none⟩ = some (.int .i64 ms[k].2.1) ∧ w'.cell? ⟨b, o + k * 3 + 2, none⟩ = some (.slice ao ms[k].2.2.length co))
        (first | go_keep | (refine ⟨cell_below hb1 ?_, cell_below hb1 ?_, cell_below hb1 ?_, cell_below hb1 ?_⟩ <;> assumption))
        ((go_at_call 85; refine (l1Method_any _ _ _ _ _ _ _ _ d3 hl').mono ?_; rintro e w1 ⟨rfl, hb1⟩))
      have bp1 := cell_below hb1 bp
      have hb2 : Below w.heap.size w w1 := hb.drew.trans (hb1.mono hsz)
      clear hb1 bp hb d0 d1 d2 d3
      cases hq : methOk ms.length (ms[k].1, ms[k].2.1, ms[k].2.2)
      · have HF : Hid (progOk ms = false) := H.out.trans (all_not hlt hq)
        go_wp2
        go_ret
        exact ⟨ret_bool HF.out.symm, hb2⟩
      · have HQ : Hid (methOk ms.length ms[k] = true) := hq
        go_wp2
        go_roundg (ms.length - (k + 1))
        case measure => omega
        case rel =>
          refine ⟨k + 1, by omega, rfl, by go_num, bp1, hb2, fun j hj hjk => ?_⟩
          by_cases e : j = k
          · subst e; exact HQ.out
          · exact HA.out j hj (by omega)
    · obtain rfl : k = ms.length := by omega
      go_wp2
      go_ret
      exact ⟨ret_bool (H.out.trans (all_of fun i hi => HA.out i hi hi)).symm, hb⟩

end Go.Proofs.Ytldiccheboipeaa

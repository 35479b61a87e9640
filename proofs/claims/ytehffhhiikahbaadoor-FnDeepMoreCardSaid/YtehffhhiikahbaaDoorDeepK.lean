/-
  DeepMost of the document's model, walked.
-/
import Derived.Test.YtehffhhiikahbaaDoorDeepJ
namespace Go.Proofs.YtehffhhiikahbaaDoor
open Go.RowKit

set_option maxRecDepth 100000 in
set_option maxHeartbeats 4000000 in
theorem specDeepMost_any (v : Value) (ms : List (Int × Int × List (Int × Int))) (m : Int) (w : World) (h : MethsAt w v ms) :
    Calls Tryd.prog 17 #[.agg #[v], .int .i64 m] w fun e w' => Below w.heap.size w w' ∧ ∃ n : Int, e = .returned (.int .i64 n) ∧ MostRes ms m n := by
  obtain ⟨a, cap, rfl, hl, hc⟩ := id h
  have hA : Below w.heap.size w (w.alloc (.cells #[.slice a ms.length cap] 25)) := (Below.refl _ _).alloc (Nat.le_refl _) _
  have bp : (w.alloc (.cells #[.slice a ms.length cap] 25)).cell? ⟨w.heap.size, 0, none⟩ = some (.slice a ms.length cap) := by simp [go_sem]
  have z0 : (w.alloc (.cells #[.slice a ms.length cap] 25)).heap.size = w.heap.size + 1 := by simp
  unfold maxLen at hl
  go_enter Tryd.func17, Tryd.ntmps17
  go_wp2_with fail
  generalize w.alloc (.cells #[.slice a ms.length cap] 25) = W0 at *
  refine (specDeepAt_any _ ms _ _ (h.below hA)).mono ?_
  rintro e w1 ⟨hb1, v1, r1, rfl, f1, hres, hrow⟩
  have B1 : Below w.heap.size w w1 := hA.trans (hb1.mono hA.size)
  have bp1 := cell_below hb1 bp
  have z1 := B1.size
  clear hA bp hb1
  cases r1
  · have HR : Hid (MostRes ms m (-1)) := .inr ⟨res_nil hres, rfl⟩
    clear hres
    go_wp2
    go_ret
    exact ⟨B1, _, rfl, HR.out⟩
  have HR : Hid (DeepRes ms m true f1) := hres
  obtain ⟨hright, hbnd⟩ := res_right hres
  have hp := hright.1
  have hr' := inR_true.1 hright.2.1
  obtain ⟨mn, rfl⟩ := Int.eq_ofNat_of_zero_le hr'.1
  have hmn : mn < ms.length := by omega
  have hmz : (mn : Int) < (ms.length : Int) := by omega
  have HC : Hid (Closed ms ms[mn].2.2 f1) := by have := hright.2.2; rwa [opsOf_nat hmn] at this
  have HB : Hid (∀ i : Nat, i < f1.length → -1 ≤ gt f1 i ∧ gt f1 i ≤ 6) := hbnd
  have HT : Hid (∀ k a, 0 ≤ (takesOf ms k a).1 ∧ (takesOf ms k a).1 ≤ 2) := takes_ok hp
  have hlen : f1.length = ms[mn].2.2.length := HC.out.len
  have hpos : 0 < f1.length := by rw [hlen]; exact HC.out.pos
  have hz0 : gt f1 ((0 : Nat) : Int) = 0 := HC.out.zero
  have hl14 := len_ok hp hmn
  obtain ⟨b, o, vo, rfl, c0, c1, c2, c3⟩ := hc mn hmn
  obtain ⟨ao, co, rfl, hlo, hco⟩ := id c3
  have d2 := cell_below B1 c2
  have O1 := c3.below B1
  have M1 := h.below B1
  clear hres hright hbnd hp hr' hc c0 c1 c2 c3 hco h
  generalize ms[mn].2.2 = ops at *
  obtain ⟨g1, o1, cp1, rfl, hg1, hg1l⟩ := hrow.form hpos
  go_wp2
  go_loopg [7, 8] f1.length (fun g mv i wr => ∃ (k : Nat) (M : Int), k ≤ f1.length ∧ g = f1.length - k ∧ i = .int .i64 k ∧ mv = .int .i64 M ∧ -1 ≤ M ∧ M ≤ 6 ∧ Below w1.heap.size w1 wr ∧ (∀ j : Nat, j < k → gt f1 j ≤ M) ∧ ∃ j : Nat, j < f1.length ∧ gt f1 j = M)
  case atStart => exact ⟨0, 0, Nat.zero_le _, rfl, rfl, rfl, by omega, by omega, Below.refl _ _, fun j h => absurd h (Nat.not_lt_zero _), 0, hpos, hz0⟩
  case round =>
    obtain ⟨k, M, hk, rfl, rfl, rfl, hM0, hM6, hb, hle, hatt⟩ := hrel
    have HL : Hid (∀ j : Nat, j < k → gt f1 j ≤ M) := hle
    have HA : Hid (∃ j : Nat, j < f1.length ∧ gt f1 j = M) := hatt
    clear hle hatt
    have zr := hb.size
    by_cases hlt : k < f1.length
    · have hkz : (k : Int) < (f1.length : Int) := by omega
      have hko : k < ops.length := by omega
      have hkoz : (k : Int) < (ops.length : Int) := by omega
      have ck := ((hrow.below hb).cell hlt).1
      rw [← gt_nat f1 k hlt] at ck
      have hbk := HB.out k hlt
      by_cases h0 : 0 ≤ gt f1 k
      · obtain ⟨_, _, _, _, hop⟩ := id O1
        obtain ⟨bo, oo, hao, p0, p1⟩ := hop k hko
        clear hop
        subst hao
        have q0 := cell_below hb p0
        have q1 := cell_below hb p1
        have d2r := cell_below hb d2
        have bpr := cell_below hb bp1
        have Mr : MethsAt wr.drew _ ms := (M1.below hb).below (Below.refl _ _).drew
        obtain ⟨D, hD⟩ : ∃ D, deepP ms (ops[k].1, ops[k].2) (gt f1 k) = D := ⟨_, rfl⟩
        have HD : Hid (deepP ms (ops[k].1, ops[k].2) (gt f1 k) = D) := hD
        obtain ⟨b1, b2, b3⟩ := behind_att HC.out hko h0
        rw [opAt_nat ops k hko] at b1 b2 b3
        have hD' : deepP ms ops[k] (gt f1 k) = D := hD
        rw [hD'] at b1 b2 b3
        have HM : Hid ((∀ j : Nat, j < k + 1 → gt f1 j ≤ max M (max (gt f1 k) D)) ∧ ∃ j : Nat, j < f1.length ∧ gt f1 j = max M (max (gt f1 k) D)) := by
          refine ⟨fun j hj => ?_, ?_⟩
          · by_cases e : j = k
            · subst e; omega
            · have := HL.out j (by omega); omega
          · by_cases e : max (gt f1 k) D ≤ M
            · obtain ⟨j, hj, e'⟩ := HA.out; exact ⟨j, hj, by omega⟩
            · by_cases e2 : D ≤ gt f1 k
              · exact ⟨k, hlt, by omega⟩
              · rcases b3 with b3 | ⟨j, hj, e'⟩
                · omega
                · exact ⟨j, by omega, by omega⟩
        clear HL HA b3 hD hD'
        go_wp2_with fail
        go_region_held3 (fun w' => w'.cell? ⟨w.heap.size, 0, none⟩ = some (.slice (some ⟨b, o, none⟩) ms.length cap) ∧ w'.cell? ⟨b, o + mn * 3 + 2, none⟩ = some (.slice (some ⟨bo, oo, none⟩) ops.length co) ∧ w'.cell? ⟨bo, oo + k * 2, none⟩ = some (.int .i64 ops[k].1) ∧ w'.cell? ⟨bo, oo + k * 2 + 1, none⟩ = some (.int .i64 ops[k].2) ∧ w'.cell? ⟨g1, o1 + k, none⟩ = some (.int .i64 (gt f1 k)))
          (first | go_keep | (refine ⟨cell_below hb4 ?_, cell_below hb4 ?_, cell_below hb4 ?_, cell_below hb4 ?_, cell_below hb4 ?_⟩ <;> assumption))
          ((go_at_call 36; refine (l2Deep_any _ ms _ _ _ D _ Mr (HT.out _ _).1 (HT.out _ _).2 (leaves_nonneg _ _ _).1 (leaves_nonneg _ _ _).2 hbk.1 hbk.2 HD).mono ?_; rintro e w4 ⟨rfl, hb4⟩))
        have B4 : Below w1.heap.size w1 w4 := hb.drew.trans (hb4.mono zr)
        clear hb4
        go_wp2
        go_roundg (f1.length - (k + 1))
        case measure => omega
        case rel => exact ⟨k + 1, max M (max (gt f1 k) D), by omega, rfl, by go_num, rfl, by omega, by omega, B4, HM.out.1, HM.out.2⟩
      · have h0n : ¬ (0 ≤ gt f1 k) := h0
        have HM : Hid (∀ j : Nat, j < k + 1 → gt f1 j ≤ M) := fun j hj => by
          by_cases e : j = k
          · subst e; obtain ⟨j', hj', e'⟩ := HA.out; have := HB.out j' hj'; omega
          · exact HL.out j (by omega)
        clear HL
        go_wp2
        go_roundg (f1.length - (k + 1))
        case measure => omega
        case rel => exact ⟨k + 1, M, by omega, rfl, by go_num, rfl, hM0, hM6, hb, HM.out, HA.out⟩
    · obtain rfl : k = f1.length := by omega
      have HE : Hid (MostRes ms mn M) := .inl ⟨f1, HR.out, HL.out, HA.out⟩
      clear HL HA
      go_wp2
      go_ret
      exact ⟨B1.trans (hb.mono z1), M, rfl, HE.out⟩

end Go.Proofs.YtehffhhiikahbaaDoor

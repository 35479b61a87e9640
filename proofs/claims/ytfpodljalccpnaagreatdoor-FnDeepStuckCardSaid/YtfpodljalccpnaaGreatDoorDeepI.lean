/-
  DeepAt of the document's model, and DeepOk, the model's and the program's, walked.
-/
import Derived.Test.YtfpodljalccpnaaGreatDoorDeepH

namespace Go.Proofs.YtfpodljalccpnaaGreatDoor
open Go.RowKit
set_option maxRecDepth 100000 in
set_option maxHeartbeats 2000000 in
theorem specDeepAt_any (v : Value) (ms : List (Int × Int × List (Int × Int))) (m : Int) (w : World) (h : MethsAt w v ms) :
    Calls Tryz.prog 69 #[.agg #[v], .int .i64 m] w fun e w' => Below w.heap.size w w' ∧ DeepEnd ms m w.heap.size e w' := by
  obtain ⟨a, cap, rfl, hl, hc⟩ := id h
  have hA : Below w.heap.size w (w.alloc (.cells #[.slice a ms.length cap] 25)) := (Below.refl _ _).alloc (Nat.le_refl _) _
  have bp : (w.alloc (.cells #[.slice a ms.length cap] 25)).cell? ⟨w.heap.size, 0, none⟩ = some (.slice a ms.length cap) := by simp [go_sem]
  go_enter Tryz.func69, Tryz.ntmps69
  go_wp2_with fail
  generalize w.alloc (.cells #[.slice a ms.length cap] 25) = W0 at *
  refine (specProgOk_any _ ms _ (h.below hA)).mono ?_
  rintro e w1 ⟨rfl, hb1⟩
  have B1 : Below w.heap.size w w1 := hA.trans (hb1.mono hA.size)
  have bp1 := cell_below hb1 bp
  have z1 := B1.size
  clear hA bp hb1
  unfold maxLen at hl
  have hE : ∀ w' : World, w.heap.size ≤ w'.heap.size → IntRow w.heap.size (w'.alloc (.cells #[] 3)) (.slice (some ⟨w'.heap.size, 0, none⟩) 0 0) [] := fun w' hz => (IntRow.laid w' [] 3 (by simp)).mono hz
  cases hp : progOk ms
  · go_wp2
    go_ret2
    exact ⟨B1.alloc z1 _, deepEnd (.inr ⟨rfl, rfl, fun g hg => by have := hg.1; rw [hp] at this; cases this⟩) (hE _ z1)⟩
  cases hr : inR m 0 ((ms.length : Int) - 1)
  · go_wp2_with (go_at_call 49; refine (l6In_any _ _ _ _).mono ?_; rintro e w' ⟨rfl, hw⟩; obtain rfl := hw.symm)
    go_ret2
    exact ⟨B1.alloc z1 _, deepEnd (.inr ⟨rfl, rfl, fun g hg => by have := hg.2.1; rw [hr] at this; cases this⟩) (hE _ z1)⟩
  have hr' := inR_true.1 hr
  obtain ⟨mn, rfl⟩ := Int.eq_ofNat_of_zero_le hr'.1
  have hmn : mn < ms.length := by omega
  have hmz : (mn : Int) < (ms.length : Int) := by omega
  obtain ⟨b, o, vo, rfl, c0, c1, c2, c3⟩ := hc mn hmn
  have d0 := cell_below B1 c0
  have d1 := cell_below B1 c1
  have d2 := cell_below B1 c2
  have O1 : OpsAt w1.drew vo ms[mn].2.2 := (c3.below B1).below (Below.refl _ _).drew
  have M1 : MethsAt w1.drew _ ms := (h.below B1).below (Below.refl _ _).drew
  have hops := opsOf_nat (ms := ms) hmn
  have HY : ∀ ah, Hid (Inv ms ms[mn].2.2 (fun _ => False) ah [] → DeepRes ms mn true ah) := fun ah hI => DeepRes.yes hp hr (by rw [hops]; exact hI)
  have HN : Hid ((∀ g, ¬ Closed ms ms[mn].2.2 g) → DeepRes ms mn false []) := fun hI => DeepRes.no (by rw [hops]; exact hI)
  clear hc c0 c1 c2 c3 h hops
  obtain ⟨ao, co, hvo, _⟩ := id O1
  subst hvo
  go_wp2_with (go_at_call 49; refine (l6In_any _ _ _ _).mono ?_; rintro e w' ⟨rfl, hw⟩; obtain rfl := hw.symm)
  go_region_held3 (fun w' => w'.cell? ⟨w.heap.size, 0, none⟩ = some (.slice (some ⟨b, o, none⟩) ms.length cap) ∧ w'.cell? ⟨b, o + mn * 3, none⟩ = some (.int .i64 ms[mn].1) ∧ w'.cell? ⟨b, o + mn * 3 + 1, none⟩ = some (.int .i64 ms[mn].2.1) ∧ w'.cell? ⟨b, o + mn * 3 + 2, none⟩ = some (.slice ao ms[mn].2.2.length co))
    (first | go_keep | (refine ⟨cell_below hb2 ?_, cell_below hb2 ?_, cell_below hb2 ?_, cell_below hb2 ?_⟩ <;> assumption))
    ((go_at_call 94; refine (l2At_any _ _ ms _ _ _ mn _ hp hmn rfl M1 O1).mono ?_; rintro e w2 ⟨hb2, v2, r2, f2, rfl, hrow2, hres⟩))
  have B2 : Below w.heap.size w w2 := B1.drew.trans (hb2.mono z1)
  have z2 := B2.size
  have hrow : IntRow w.heap.size w2 v2 f2 := hrow2.mono z1
  clear hb2 hrow2 O1 M1 d0 d1 d2
  rcases hres with ⟨rfl, hI⟩ | ⟨rfl, hN⟩
  · have HD := (HY f2).out hI
    clear hI
    go_wp2
    go_ret2
    exact ⟨B2, deepEnd HD hrow⟩
  · have HD := HN.out hN
    clear hN
    go_wp2
    go_ret2
    exact ⟨B2.alloc z2 _, deepEnd HD (hE _ z2)⟩
def AllDeep (ms : List (Int × Int × List (Int × Int))) : Prop := progOk ms = true ∧ ∀ m : Nat, m < ms.length → ∃ f, DeepRes ms m true f
def OkEnd (ms : List (Int × Int × List (Int × Int))) (e : Ending) : Prop := ∃ r : Bool, e = .returned (.bool r) ∧ (r = true ↔ AllDeep ms)
theorem okYes {ms : List (Int × Int × List (Int × Int))} (h : AllDeep ms) : OkEnd ms (.returned (.bool true)) := ⟨true, rfl, ⟨fun _ => h, fun _ => rfl⟩⟩
theorem okNo {ms : List (Int × Int × List (Int × Int))} (h : ¬ AllDeep ms) : OkEnd ms (.returned (.bool false)) := ⟨false, rfl, ⟨fun e => (by cases e), fun e => absurd e h⟩⟩
theorem not_all {ms : List (Int × Int × List (Int × Int))} {m : Nat} {f : List Int} (hm : m < ms.length) (h : DeepRes ms m false f) : ¬ AllDeep ms := fun ⟨_, ha⟩ => by
  obtain ⟨f', h'⟩ := ha m hm
  have := (h.one h').1
  cases this
set_option maxRecDepth 100000 in
set_option maxHeartbeats 1000000 in
theorem specDeepOk_any (v : Value) (ms : List (Int × Int × List (Int × Int))) (w : World) (h : MethsAt w v ms) :
    Calls Tryz.prog 35 #[.agg #[v]] w fun e w' => Below w.heap.size w w' ∧ OkEnd ms e := by
  obtain ⟨a, cap, rfl, hl, _⟩ := id h
  unfold maxLen at hl
  go_enter Tryz.func35, Tryz.ntmps35
  go_wp2
  go_loopg [3] ms.length (fun g i wr => ∃ k : Nat, k ≤ ms.length ∧ g = ms.length - k ∧ i = .int .i64 k ∧ wr.cell? ⟨w.heap.size, 0, none⟩ = some (.slice a ms.length cap) ∧ Below w.heap.size w wr ∧ ∀ j : Nat, j < k → ∃ f, DeepRes ms j true f)
  case atStart => exact ⟨0, Nat.zero_le _, rfl, rfl, by simp [go_sem], (Below.refl _ _).alloc (Nat.le_refl _) _, fun j h => absurd h (Nat.not_lt_zero _)⟩
  case round =>
    obtain ⟨k, hk, rfl, rfl, bp, hb, hall⟩ := hrel
    have HA : Hid (∀ j : Nat, j < k → ∃ f, DeepRes ms j true f) := hall
    clear hall
    have hsz := hb.size
    by_cases hlt : k < ms.length
    · have hkz : (k : Int) < (ms.length : Int) := by omega
      go_wp2_with fail
      refine (specDeepAt_any _ ms _ _ (h.below hb)).mono ?_
      rintro e w1 ⟨hb1, v1, r1, rfl, f1, hres, hrow⟩
      have bp1 := cell_below hb1 bp
      have hb2 : Below w.heap.size w w1 := hb.trans (hb1.mono hsz)
      clear hb1 bp hb hrow
      cases r1
      · have HN : Hid (¬ AllDeep ms) := not_all hlt hres
        clear hres
        go_wp2
        go_ret
        exact ⟨hb2, okNo HN.out⟩
      · have HB : Hid (∀ j : Nat, j < k + 1 → ∃ f, DeepRes ms j true f) := fun j hj => by
          by_cases e : j = k
          · subst e; exact ⟨f1, hres⟩
          · exact HA.out j (by omega)
        clear hres
        go_wp2
        go_roundg (ms.length - (k + 1))
        case measure => omega
        case rel => exact ⟨k + 1, by omega, rfl, by go_num, bp1, hb2, HB.out⟩
    · obtain rfl : k = ms.length := by omega
      go_wp2_with fail
      refine (specProgOk_any _ ms _ (h.below hb)).mono ?_
      rintro e w1 ⟨rfl, hb1⟩
      have hb2 : Below w.heap.size w w1 := hb.trans (hb1.mono hsz)
      have HE : Hid (OkEnd ms (.returned (.bool (progOk ms)))) := ⟨progOk ms, rfl, ⟨fun e => ⟨e, HA.out⟩, fun e => e.1⟩⟩
      clear hb1 HA
      go_wp2
      go_ret
      exact ⟨hb2, HE.out⟩
set_option maxRecDepth 100000 in
set_option maxHeartbeats 1000000 in
theorem implDeepOk_any (v : Value) (ms : List (Int × Int × List (Int × Int))) (w : World) (h : MethsAt w v ms) (ht : TabAt w) :
    Calls Tryz.prog 34 #[.agg #[v]] w fun e w' => Below w.heap.size w w' ∧ OkEnd ms e := by
  obtain ⟨a, cap, rfl, hl, _⟩ := id h
  unfold maxLen at hl
  have hA : Below w.heap.size w (w.alloc (.cells #[.slice a ms.length cap] 25)) := (Below.refl _ _).alloc (Nat.le_refl _) _
  have bp : (w.alloc (.cells #[.slice a ms.length cap] 25)).cell? ⟨w.heap.size, 0, none⟩ = some (.slice a ms.length cap) := by simp [go_sem]
  go_enter Tryz.func34, Tryz.ntmps34
  go_wp2_with fail
  generalize w.alloc (.cells #[.slice a ms.length cap] 25) = W0 at *
  refine (implProgOk_any _ ms _ (h.below hA)).mono ?_
  rintro e w1 ⟨rfl, hb1⟩
  have B1 : Below w.heap.size w w1 := hA.trans (hb1.mono hA.size)
  have bp1 := cell_below hb1 bp
  clear hA bp hb1
  cases hp : progOk ms
  · have HN : Hid (¬ AllDeep ms) := fun hx => by have := hx.1; rw [hp] at this; cases this
    go_wp2
    go_ret
    exact ⟨B1, okNo HN.out⟩
  go_wp2
  go_loopg [12] ms.length (fun g i wr => ∃ k : Nat, k ≤ ms.length ∧ g = ms.length - k ∧ i = .int .i64 k ∧ wr.cell? ⟨w.heap.size, 0, none⟩ = some (.slice a ms.length cap) ∧ Below w.heap.size w wr ∧ ∀ j : Nat, j < k → ∃ f, DeepRes ms j true f)
  case atStart => exact ⟨0, Nat.zero_le _, rfl, rfl, bp1, B1, fun j h => absurd h (Nat.not_lt_zero _)⟩
  case round =>
    clear bp1 B1
    obtain ⟨k, hk, rfl, rfl, bp, hb, hall⟩ := hrel
    have HA : Hid (∀ j : Nat, j < k → ∃ f, DeepRes ms j true f) := hall
    clear hall
    have hsz := hb.size
    by_cases hlt : k < ms.length
    · have hkz : (k : Int) < (ms.length : Int) := by omega
      go_wp2_with fail
      refine (implDeepAt_any _ ms _ _ (h.below hb) (ht.below hb)).mono ?_
      rintro e w2 ⟨hb1, v1, r1, rfl, f1, hres, hrow⟩
      have bp1 := cell_below hb1 bp
      have hb2 : Below w.heap.size w w2 := hb.trans (hb1.mono hsz)
      clear hb1 bp hb hrow
      cases r1
      · have HN : Hid (¬ AllDeep ms) := not_all hlt hres
        clear hres
        go_wp2
        go_ret
        exact ⟨hb2, okNo HN.out⟩
      · have HB : Hid (∀ j : Nat, j < k + 1 → ∃ f, DeepRes ms j true f) := fun j hj => by
          by_cases e : j = k
          · subst e; exact ⟨f1, hres⟩
          · exact HA.out j (by omega)
        clear hres
        go_wp2
        go_roundg (ms.length - (k + 1))
        case measure => omega
        case rel => exact ⟨k + 1, by omega, rfl, by go_num, bp1, hb2, HB.out⟩
    · obtain rfl : k = ms.length := by omega
      have HE : Hid (AllDeep ms) := ⟨hp, HA.out⟩
      clear HA
      go_wp2
      go_ret
      exact ⟨hb, okYes HE.out⟩
end Go.Proofs.YtfpodljalccpnaaGreatDoor

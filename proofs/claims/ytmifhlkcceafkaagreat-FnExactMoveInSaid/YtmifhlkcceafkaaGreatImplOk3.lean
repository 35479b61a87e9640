/-
  The document's model of ProgOk, spec.ProgOk itself.
-/
import Derived.Test.YtmifhlkcceafkaaGreatImplOk
import Derived.Deep.RegionWith

namespace Go.Proofs.YtmifhlkcceafkaaGreat
open Go.RowKit
set_option maxHeartbeats 1000000 in
theorem specProgOk_any (v : Value) (ms : List (Int × Int × List (Int × Int))) (w : World) (h : MethsAt w v ms) :
    Calls Tryz.prog 53 #[.agg #[v]] w fun e w' => e = .returned (.bool (progOk ms)) ∧ Below w.heap.size w w' := by
  obtain ⟨a, cap, rfl, hl, hc⟩ := h
  have hl' := hl
  have hB : ∀ o1, Below w.heap.size w (w.alloc o1) := fun o1 => (Below.refl _ _).alloc (Nat.le_refl _) _
  unfold maxLen at hl
  cases h1 : inR ms.length 1 4
  · rw [show progOk ms = false by simp [progOk, h1]]
    go_enter Tryz.func53, Tryz.ntmps53
    go_wp2_with (go_at_call 54; refine (l6In_any _ _ _ _).mono ?_; rintro e w' ⟨rfl, rfl⟩)
    go_ret
    exact ⟨rfl, hB _⟩
  have hlen := inR_true.1 h1
  have h0lt : 0 < ms.length := by omega
  have hx0 : (ms.getD 0 (0, 0, [])).1 = ms[0].1 := by simp [h0lt]
  obtain ⟨b, o, vo0, rfl, c0, c1, c2, c3⟩ := hc 0 h0lt
  have e0 : w.cell? ⟨b, o, none⟩ = some (.int .i64 ms[0].1) := by simpa using c0
  have hblt := World.block_lt_of_cell? _ _ e0
  have E0 : ∀ o1, (w.alloc o1).cell? ⟨b, o, none⟩ = some (.int .i64 ms[0].1) := fun o1 => cell_below (hB o1) e0
  clear c0 c1 c2 c3 e0 hblt
  cases h2 : (ms[0].1 == 0)
  · rw [show progOk ms = false by simp only [progOk, h1, hx0, h2]; rfl]
    have h2' : (ms[0].1 != 0) = true := by simp only [bne, h2]; rfl
    go_enter Tryz.func53, Tryz.ntmps53
    go_wp2_with (go_at_call 54; refine (l6In_any _ _ _ _).mono ?_; rintro e w' ⟨rfl, rfl⟩)
    go_ret
    exact ⟨rfl, hB _⟩
  have H : Hid (progOk ms = ms.all (methOk ms.length)) := by
    show progOk ms = _
    simp only [progOk, h1, hx0, h2, Bool.true_and]
  have h2' : (ms[0].1 != 0) = false := by simp only [bne, h2]; rfl
  go_enter Tryz.func53, Tryz.ntmps53
  go_wp2_with (go_at_call 54; refine (l6In_any _ _ _ _).mono ?_; rintro e w' ⟨rfl, rfl⟩)
  clear h1 h2 h2' hx0 hB E0
  go_loopg [3] ms.length (fun g i wr => ∃ k : Nat, k ≤ ms.length ∧ g = ms.length - k ∧ i = .int .i64 k ∧ wr.cell? ⟨w.heap.size, 0, none⟩ = some (.slice (some ⟨b, o, none⟩) ms.length cap) ∧ Below w.heap.size w wr ∧ ∀ j, (hj : j < ms.length) → j < k → methOk ms.length ms[j] = true)
  case atStart => exact ⟨0, Nat.zero_le _, rfl, rfl, by simp [go_sem], (Below.refl _ _).alloc (Nat.le_refl _) _, fun j _ h => absurd h (Nat.not_lt_zero _)⟩
  case round =>
    obtain ⟨k, hk, rfl, rfl, bp, hb, hall⟩ := hrel
    have HA : Hid (∀ j, (hj : j < ms.length) → j < k → methOk ms.length ms[j] = true) := hall
    clear hall
    have hsz := hb.size
    by_cases hlt : k < ms.length
    · obtain ⟨b', o', vo, hbo, c0, c1, c2, c3⟩ := hc k hlt
      obtain ⟨rfl, rfl⟩ : b = b' ∧ o = o' := by simpa using hbo
      have d0 := cell_below hb c0
      have d1 := cell_below hb c1
      have d2 := cell_below hb c2
      have d3 := (c3.below hb).below (Below.refl _ _).drew
      clear c0 c1 c2 c3 hc hbo
      obtain ⟨ao, co, hvo, _⟩ := id d3
      rw [hvo] at d2 d3
      clear hvo
      have hkz : (k : Int) < (ms.length : Int) := by omega
      go_wp2_with fail
      go_region_held3 (fun w' => w'.cell? ⟨w.heap.size, 0, none⟩ = some (.slice (some ⟨b, o, none⟩) ms.length cap) ∧ w'.cell? ⟨b, o + k * 3, none⟩ = some (.int .i64 ms[k].1) ∧ w'.cell? ⟨b, o + k * 3 + 1, none⟩ = some (.int .i64 ms[k].2.1) ∧ w'.cell? ⟨b, o + k * 3 + 2, none⟩ = some (.slice ao ms[k].2.2.length co))
        (first | go_keep | (refine ⟨cell_below hb1 ?_, cell_below hb1 ?_, cell_below hb1 ?_, cell_below hb1 ?_⟩ <;> assumption))
        ((go_at_call 86; refine (l1Method_any _ _ _ _ _ _ _ _ d3 hl').mono ?_; rintro e w1 ⟨rfl, hb1⟩))
      have bp1 := cell_below hb1 bp
      have hb2 : Below w.heap.size w w1 := hb.drew.trans (hb1.mono hsz)
      clear hb1 bp hb d0 d1 d2 d3
      cases hq : methOk ms.length (ms[k].1, ms[k].2.1, ms[k].2.2)
      · have HF : Hid (progOk ms = false) := H.out.trans (all_not hlt hq)
        go_wp2
        go_ret
        exact ⟨ret_bool HF.out.symm, hb2⟩
      · have HQ : Hid (methOk ms.length ms[k] = true) := hq
        go_wp2
        go_roundg (ms.length - (k + 1))
        case measure => omega
        case rel =>
          refine ⟨k + 1, by omega, rfl, by go_num, bp1, hb2, fun j hj hjk => ?_⟩
          by_cases e : j = k
          · subst e; exact HQ.out
          · exact HA.out j hj (by omega)
    · obtain rfl : k = ms.length := by omega
      go_wp2
      go_ret
      exact ⟨ret_bool (H.out.trans (all_of fun i hi => HA.out i hi hi)).symm, hb⟩
end Go.Proofs.YtmifhlkcceafkaaGreat

/-
  The program's methodOk answers the plain function methOk; it writes to nothing that was there.
-/
namespace Go.Proofs.YtmifhlkcceafkaaGreat
open Go.RowKit
theorem Tryz.run_num (a : Int) (w : World) : (method 290 166 (.int .i64 a) "loop.example/gemel/impl.fits").run Tryz.prog w = .ok (124, .int .i64 a) w := by kernel_rfl
theorem Tryz.run_temp (a : Int) (w : World) : (method 290 167 (.int .i64 a) "loop.example/gemel/impl.fits").run Tryz.prog w = .ok (125, .int .i64 a) w := by kernel_rfl
theorem Tryz.run_place (a : Int) (w : World) : (method 290 168 (.int .i64 a) "loop.example/gemel/impl.fits").run Tryz.prog w = .ok (126, .int .i64 a) w := by kernel_rfl
theorem Tryz.run_method (a : Int) (w : World) : (method 290 169 (.int .i64 a) "loop.example/gemel/impl.fits").run Tryz.prog w = .ok (127, .int .i64 a) w := by kernel_rfl
theorem Tryz.run_peek (a : Int) (w : World) : (method 290 170 (.int .i64 a) "loop.example/gemel/impl.fits").run Tryz.prog w = .ok (128, .int .i64 a) w := by kernel_rfl
theorem Tryz.run_no (a : Int) (w : World) : (method 290 171 (.int .i64 a) "loop.example/gemel/impl.fits").run Tryz.prog w = .ok (129, .int .i64 a) w := by kernel_rfl
theorem methOk_x0 {nm : Nat} {x t : Int} {ops : List (Int × Int)} (h : x < 0) : methOk nm (x, t, ops) = false := methOk_no1 (inR_false.2 (by omega))
theorem methOk_x2 {nm : Nat} {x t : Int} {ops : List (Int × Int)} (h : 2 < x) : methOk nm (x, t, ops) = false := methOk_no1 (inR_false.2 (by omega))
theorem methOk_tx {nm : Nat} {x t : Int} {ops : List (Int × Int)} (h : t < x) : methOk nm (x, t, ops) = false := methOk_no2 (inR_false.2 (by omega))
theorem methOk_t4 {nm : Nat} {x t : Int} {ops : List (Int × Int)} (h : 4 < t) : methOk nm (x, t, ops) = false := methOk_no2 (inR_false.2 (by omega))
set_option maxRecDepth 100000 in
set_option maxHeartbeats 2000000 in
theorem methodOk_any (ap : Option Addr) (nm cp : Nat) (x t : Int) (vo : Value) (ops : List (Int × Int)) (w : World) (h : OpsAt w vo ops) :
    Calls Tryz.prog 91 #[.agg #[.slice ap nm cp], .agg #[.int .i64 x, .int .i64 t, vo]] w fun e w' => e = .returned (.bool (methOk nm (x, t, ops))) ∧ Below w.heap.size w w' := by
  obtain ⟨ao, co, rfl, hl, hc⟩ := h
  have hl' := hl
  have hB : ∀ o1 o2, Below w.heap.size w ((w.alloc o1).alloc o2) := fun o1 o2 => ((Below.refl _ _).alloc (Nat.le_refl _) _).alloc (by simp) _
  unfold maxLen at hl
  by_cases hx0 : x < 0
  · rw [methOk_x0 hx0]
    go_enter Tryz.func91, Tryz.ntmps91
    go_wp2
    go_ret
    exact ⟨rfl, hB _ _⟩
  by_cases hx2 : 2 < x
  · rw [methOk_x2 hx2]
    go_enter Tryz.func91, Tryz.ntmps91
    go_wp2
    go_ret
    exact ⟨rfl, hB _ _⟩
  by_cases htx : t < x
  · rw [methOk_tx htx]
    go_enter Tryz.func91, Tryz.ntmps91
    go_wp2
    go_ret
    exact ⟨rfl, hB _ _⟩
  by_cases ht4 : 4 < t
  · rw [methOk_t4 ht4]
    go_enter Tryz.func91, Tryz.ntmps91
    go_wp2
    go_ret
    exact ⟨rfl, hB _ _⟩
  by_cases h3 : ops.length ≤ 14
  case neg =>
    rw [methOk_no3 h3]
    have h3' : (14 : Int) < ops.length := by omega
    go_enter Tryz.func91, Tryz.ntmps91
    go_wp2
    go_ret
    exact ⟨rfl, hB _ _⟩
  have H : Hid (∀ b, opsOk nm t ops = b → methOk nm (x, t, ops) = b) := fun b hb => methOk_of (inR_true.2 (by omega)) (inR_true.2 (by omega)) h3 hb
  have h3' : ¬ (14 : Int) < ops.length := by omega
  go_enter Tryz.func91, Tryz.ntmps91
  go_wp2
  clear hB
  go_loopg [36] ops.length (fun g i wr => ∃ k : Nat, k ≤ ops.length ∧ g = ops.length - k ∧ i = .int .i64 k ∧ Boxes w wr (.slice ap nm cp) x t (.slice ao ops.length co) ∧ ∀ j, (hj : j < ops.length) → j < k → opOk nm ops.length t ops[j].1 ops[j].2 = true)
  case atStart => exact ⟨0, Nat.zero_le _, rfl, rfl, Boxes.new _ _ _ _ _ _ _, fun j _ h => absurd h (Nat.not_lt_zero _)⟩
  case round =>
    obtain ⟨k, hk, rfl, rfl, hbox, hall⟩ := hrel
    have HA : Hid (∀ j, (hj : j < ops.length) → j < k → opOk nm ops.length t ops[j].1 ops[j].2 = true) := hall
    clear hall
    obtain ⟨bp, ba, bb, bc, hb⟩ := id hbox
    have hsz := hb.size
    by_cases hlt : k < ops.length
    · obtain ⟨b, o, rfl, c0, c1⟩ := hc k hlt
      have d0 := cell_below hb c0
      have d1 := cell_below hb c1
      clear c0 c1 hc
      have hkz : (k : Int) < (ops.length : Int) := by omega
      have HO : Hid (∀ b', opOk nm ops.length t ops[k].1 ops[k].2 = b' → (b' = false → methOk nm (x, t, ops) = false) ∧ (b' = true → ∀ j, (hj : j < ops.length) → j < k + 1 → opOk nm ops.length t ops[j].1 ops[j].2 = true)) := fun b' hb' => ⟨fun e => H.out _ (opsOk_no hlt (hb'.trans e)), fun e j hj hjk => by
        by_cases e' : j = k
        · subst e'; exact hb'.trans e
        · exact HA.out j hj (by omega)⟩
      clear H HA
      generalize ops[k].1 = kk at *
      generalize ops[k].2 = aa at *
      go_wp2_with fail
      have q0 : (wr.alloc (.cells #[.int .i64 kk, .int .i64 aa] 156)).cell? ⟨wr.heap.size, 0, none⟩ = some (.int .i64 kk) := by simp [go_sem]
      have q1 : (wr.alloc (.cells #[.int .i64 kk, .int .i64 aa] 156)).cell? ⟨wr.heap.size, 1, none⟩ = some (.int .i64 aa) := by simp [go_sem]
      have hbox2 := hbox.go ((Below.refl _ _).alloc (Nat.le_refl _) (.cells #[.int .i64 kk, .int .i64 aa] 156))
      clear hbox bp ba bb bc d0 d1 hb
      generalize wr.alloc (.cells #[.int .i64 kk, .int .i64 aa] 156) = W2 at *
      obtain ⟨bp, ba, bb, bc, hb⟩ := id hbox2
      have hop := fun w => operandOf_any kk aa w
      cases hk18 : inR kk 1 18
      · have HF : Hid (methOk nm (x, t, ops) = false) := (HO.out _ (opOk_noKind hk18)).1 rfl
        clear hop
        go_region_with (go_at_call 100; refine (isKind_any _ _).mono ?_; rintro e w' ⟨rfl, rfl⟩)
        all_goals
          go_wp2
          go_ret
          exact ⟨ret_bool HF.out.symm, hbox2.below.drew⟩
      · rcases opTy_six kk with ⟨hT, hkk⟩ | ⟨hT, hkk⟩ | ⟨hT, hkk⟩ | ⟨hT, hkk⟩ | ⟨hT, hkk⟩ | ⟨hT, hkk⟩
        · have HV : Hid (opOk nm ops.length t kk aa = inR aa 0 99) := by subst hkk; exact rfl
          rw [hT] at hop
          have HP : Hid (∀ w, Calls _ _ _ w _) := hop
          have hm := Tryz.run_num aa
          clear hop hkk hT
          go_region_held3 (fun w' => w'.cell? ⟨w.heap.size, 0, none⟩ = some (.slice ap nm cp) ∧ w'.cell? ⟨w.heap.size + 1, 0, none⟩ = some (.int .i64 x) ∧ w'.cell? ⟨w.heap.size + 1, 1, none⟩ = some (.int .i64 t) ∧ w'.cell? ⟨w.heap.size + 1, 2, none⟩ = some (.slice (some ⟨b, o, none⟩) ops.length co) ∧ w'.cell? ⟨wr.heap.size, 0, none⟩ = some (.int .i64 kk) ∧ w'.cell? ⟨wr.heap.size, 1, none⟩ = some (.int .i64 aa))
            (first | go_keep | (refine ⟨cell_below hb2 ?_, cell_below hb2 ?_, cell_below hb2 ?_, cell_below hb2 ?_, cell_below hb2 ?_, cell_below hb2 ?_⟩ <;> assumption) | (refine ⟨cell_below hb1 ?_, cell_below hb1 ?_, cell_below hb1 ?_, cell_below hb1 ?_, cell_below hb1 ?_, cell_below hb1 ?_⟩ <;> assumption))
            ((first | (go_at_call 100; refine (isKind_any _ _).mono ?_; rintro e w' ⟨rfl, rfl⟩) | (go_at_call 101; refine (HP.out _).mono ?_; rintro e w1 ⟨rfl, hb1⟩) | (go_at_call 124; refine (numFits_any _ _ _ _ _ _ _ _ _ _).mono ?_; rintro e w2 ⟨rfl, hb2'⟩; have hb2 := hb1.trans (hb2'.mono hb1.size))))
          have hbox3 := (hbox2.go (Below.refl _ _).drew).go hb2
          clear hb2' hb2 hb1 hbox2 bp ba bb bc hb q0 q1 hm HP
          cases hq : inR aa 0 99
          · have HF : Hid (methOk nm (x, t, ops) = false) := (HO.out _ (HV.out.trans hq)).1 rfl
            clear HV
            go_wp2
            go_ret
            exact ⟨ret_bool HF.out.symm, hbox3.below⟩
          · have HQ : Hid (∀ j, (hj : j < ops.length) → j < k + 1 → opOk nm ops.length t ops[j].1 ops[j].2 = true) := (HO.out _ (HV.out.trans hq)).2 rfl
            clear HV
            go_wp2
            go_roundg (ops.length - (k + 1))
            case measure => omega
            case rel => exact ⟨k + 1, by omega, rfl, by go_num, hbox3, HQ.out⟩
        · have HV : Hid (opOk nm ops.length t kk aa = inR aa 0 (t - 1)) := by rcases hkk with rfl | rfl <;> exact rfl
          rw [hT] at hop
          have HP : Hid (∀ w, Calls _ _ _ w _) := hop
          have hm := Tryz.run_temp aa
          clear hop hkk hT
          go_region_held3 (fun w' => w'.cell? ⟨w.heap.size, 0, none⟩ = some (.slice ap nm cp) ∧ w'.cell? ⟨w.heap.size + 1, 0, none⟩ = some (.int .i64 x) ∧ w'.cell? ⟨w.heap.size + 1, 1, none⟩ = some (.int .i64 t) ∧ w'.cell? ⟨w.heap.size + 1, 2, none⟩ = some (.slice (some ⟨b, o, none⟩) ops.length co) ∧ w'.cell? ⟨wr.heap.size, 0, none⟩ = some (.int .i64 kk) ∧ w'.cell? ⟨wr.heap.size, 1, none⟩ = some (.int .i64 aa))
            (first | go_keep | (refine ⟨cell_below hb2 ?_, cell_below hb2 ?_, cell_below hb2 ?_, cell_below hb2 ?_, cell_below hb2 ?_, cell_below hb2 ?_⟩ <;> assumption) | (refine ⟨cell_below hb1 ?_, cell_below hb1 ?_, cell_below hb1 ?_, cell_below hb1 ?_, cell_below hb1 ?_, cell_below hb1 ?_⟩ <;> assumption))
            ((first | (go_at_call 100; refine (isKind_any _ _).mono ?_; rintro e w' ⟨rfl, rfl⟩) | (go_at_call 101; refine (HP.out _).mono ?_; rintro e w1 ⟨rfl, hb1⟩) | (go_at_call 125; refine (tempFits_any _ _ _ _ _ _ _ _ _ _).mono ?_; rintro e w2 ⟨rfl, hb2'⟩; have hb2 := hb1.trans (hb2'.mono hb1.size))))
          have hbox3 := (hbox2.go (Below.refl _ _).drew).go hb2
          clear hb2' hb2 hb1 hbox2 bp ba bb bc hb q0 q1 hm HP
          cases hq : inR aa 0 (t - 1)
          · have HF : Hid (methOk nm (x, t, ops) = false) := (HO.out _ (HV.out.trans hq)).1 rfl
            clear HV
            go_wp2
            go_ret
            exact ⟨ret_bool HF.out.symm, hbox3.below⟩
          · have HQ : Hid (∀ j, (hj : j < ops.length) → j < k + 1 → opOk nm ops.length t ops[j].1 ops[j].2 = true) := (HO.out _ (HV.out.trans hq)).2 rfl
            clear HV
            go_wp2
            go_roundg (ops.length - (k + 1))
            case measure => omega
            case rel => exact ⟨k + 1, by omega, rfl, by go_num, hbox3, HQ.out⟩
        · have HV : Hid (opOk nm ops.length t kk aa = inR aa 0 ((ops.length : Int) - 1)) := by rcases hkk with rfl | rfl <;> exact rfl
          rw [hT] at hop
          have HP : Hid (∀ w, Calls _ _ _ w _) := hop
          have hm := Tryz.run_place aa
          clear hop hkk hT
          go_region_held3 (fun w' => w'.cell? ⟨w.heap.size, 0, none⟩ = some (.slice ap nm cp) ∧ w'.cell? ⟨w.heap.size + 1, 0, none⟩ = some (.int .i64 x) ∧ w'.cell? ⟨w.heap.size + 1, 1, none⟩ = some (.int .i64 t) ∧ w'.cell? ⟨w.heap.size + 1, 2, none⟩ = some (.slice (some ⟨b, o, none⟩) ops.length co) ∧ w'.cell? ⟨wr.heap.size, 0, none⟩ = some (.int .i64 kk) ∧ w'.cell? ⟨wr.heap.size, 1, none⟩ = some (.int .i64 aa))
            (first | go_keep | (refine ⟨cell_below hb2 ?_, cell_below hb2 ?_, cell_below hb2 ?_, cell_below hb2 ?_, cell_below hb2 ?_, cell_below hb2 ?_⟩ <;> assumption) | (refine ⟨cell_below hb1 ?_, cell_below hb1 ?_, cell_below hb1 ?_, cell_below hb1 ?_, cell_below hb1 ?_, cell_below hb1 ?_⟩ <;> assumption))
            ((first | (go_at_call 100; refine (isKind_any _ _).mono ?_; rintro e w' ⟨rfl, rfl⟩) | (go_at_call 101; refine (HP.out _).mono ?_; rintro e w1 ⟨rfl, hb1⟩) | (go_at_call 126; refine (placeFits_any _ _ _ _ _ _ _ _ _ _).mono ?_; rintro e w2 ⟨rfl, hb2'⟩; have hb2 := hb1.trans (hb2'.mono hb1.size))))
          have hbox3 := (hbox2.go (Below.refl _ _).drew).go hb2
          clear hb2' hb2 hb1 hbox2 bp ba bb bc hb q0 q1 hm HP
          cases hq : inR aa 0 ((ops.length : Int) - 1)
          · have HF : Hid (methOk nm (x, t, ops) = false) := (HO.out _ (HV.out.trans hq)).1 rfl
            clear HV
            go_wp2
            go_ret
            exact ⟨ret_bool HF.out.symm, hbox3.below⟩
          · have HQ : Hid (∀ j, (hj : j < ops.length) → j < k + 1 → opOk nm ops.length t ops[j].1 ops[j].2 = true) := (HO.out _ (HV.out.trans hq)).2 rfl
            clear HV
            go_wp2
            go_roundg (ops.length - (k + 1))
            case measure => omega
            case rel => exact ⟨k + 1, by omega, rfl, by go_num, hbox3, HQ.out⟩
        · have HV : Hid (opOk nm ops.length t kk aa = inR aa 0 ((nm : Int) - 1)) := by subst hkk; exact rfl
          rw [hT] at hop
          have HP : Hid (∀ w, Calls _ _ _ w _) := hop
          have hm := Tryz.run_method aa
          clear hop hkk hT
          go_region_held3 (fun w' => w'.cell? ⟨w.heap.size, 0, none⟩ = some (.slice ap nm cp) ∧ w'.cell? ⟨w.heap.size + 1, 0, none⟩ = some (.int .i64 x) ∧ w'.cell? ⟨w.heap.size + 1, 1, none⟩ = some (.int .i64 t) ∧ w'.cell? ⟨w.heap.size + 1, 2, none⟩ = some (.slice (some ⟨b, o, none⟩) ops.length co) ∧ w'.cell? ⟨wr.heap.size, 0, none⟩ = some (.int .i64 kk) ∧ w'.cell? ⟨wr.heap.size, 1, none⟩ = some (.int .i64 aa))
            (first | go_keep | (refine ⟨cell_below hb2 ?_, cell_below hb2 ?_, cell_below hb2 ?_, cell_below hb2 ?_, cell_below hb2 ?_, cell_below hb2 ?_⟩ <;> assumption) | (refine ⟨cell_below hb1 ?_, cell_below hb1 ?_, cell_below hb1 ?_, cell_below hb1 ?_, cell_below hb1 ?_, cell_below hb1 ?_⟩ <;> assumption))
            ((first | (go_at_call 100; refine (isKind_any _ _).mono ?_; rintro e w' ⟨rfl, rfl⟩) | (go_at_call 101; refine (HP.out _).mono ?_; rintro e w1 ⟨rfl, hb1⟩) | (go_at_call 127; refine (methodFits_any _ _ _ _ _ _ _ _ _ _).mono ?_; rintro e w2 ⟨rfl, hb2'⟩; have hb2 := hb1.trans (hb2'.mono hb1.size))))
          have hbox3 := (hbox2.go (Below.refl _ _).drew).go hb2
          clear hb2' hb2 hb1 hbox2 bp ba bb bc hb q0 q1 hm HP
          cases hq : inR aa 0 ((nm : Int) - 1)
          · have HF : Hid (methOk nm (x, t, ops) = false) := (HO.out _ (HV.out.trans hq)).1 rfl
            clear HV
            go_wp2
            go_ret
            exact ⟨ret_bool HF.out.symm, hbox3.below⟩
          · have HQ : Hid (∀ j, (hj : j < ops.length) → j < k + 1 → opOk nm ops.length t ops[j].1 ops[j].2 = true) := (HO.out _ (HV.out.trans hq)).2 rfl
            clear HV
            go_wp2
            go_roundg (ops.length - (k + 1))
            case measure => omega
            case rel => exact ⟨k + 1, by omega, rfl, by go_num, hbox3, HQ.out⟩
        · have HV : Hid (opOk nm ops.length t kk aa = inR aa 0 3) := by rcases hkk with rfl | rfl <;> exact rfl
          rw [hT] at hop
          have HP : Hid (∀ w, Calls _ _ _ w _) := hop
          have hm := Tryz.run_peek aa
          clear hop hkk hT
          go_region_held3 (fun w' => w'.cell? ⟨w.heap.size, 0, none⟩ = some (.slice ap nm cp) ∧ w'.cell? ⟨w.heap.size + 1, 0, none⟩ = some (.int .i64 x) ∧ w'.cell? ⟨w.heap.size + 1, 1, none⟩ = some (.int .i64 t) ∧ w'.cell? ⟨w.heap.size + 1, 2, none⟩ = some (.slice (some ⟨b, o, none⟩) ops.length co) ∧ w'.cell? ⟨wr.heap.size, 0, none⟩ = some (.int .i64 kk) ∧ w'.cell? ⟨wr.heap.size, 1, none⟩ = some (.int .i64 aa))
            (first | go_keep | (refine ⟨cell_below hb2 ?_, cell_below hb2 ?_, cell_below hb2 ?_, cell_below hb2 ?_, cell_below hb2 ?_, cell_below hb2 ?_⟩ <;> assumption) | (refine ⟨cell_below hb1 ?_, cell_below hb1 ?_, cell_below hb1 ?_, cell_below hb1 ?_, cell_below hb1 ?_, cell_below hb1 ?_⟩ <;> assumption))
            ((first | (go_at_call 100; refine (isKind_any _ _).mono ?_; rintro e w' ⟨rfl, rfl⟩) | (go_at_call 101; refine (HP.out _).mono ?_; rintro e w1 ⟨rfl, hb1⟩) | (go_at_call 128; refine (peekFits_any _ _ _ _ _ _ _ _ _ _).mono ?_; rintro e w2 ⟨rfl, hb2'⟩; have hb2 := hb1.trans (hb2'.mono hb1.size))))
          have hbox3 := (hbox2.go (Below.refl _ _).drew).go hb2
          clear hb2' hb2 hb1 hbox2 bp ba bb bc hb q0 q1 hm HP
          cases hq : inR aa 0 3
          · have HF : Hid (methOk nm (x, t, ops) = false) := (HO.out _ (HV.out.trans hq)).1 rfl
            clear HV
            go_wp2
            go_ret
            exact ⟨ret_bool HF.out.symm, hbox3.below⟩
          · have HQ : Hid (∀ j, (hj : j < ops.length) → j < k + 1 → opOk nm ops.length t ops[j].1 ops[j].2 = true) := (HO.out _ (HV.out.trans hq)).2 rfl
            clear HV
            go_wp2
            go_roundg (ops.length - (k + 1))
            case measure => omega
            case rel => exact ⟨k + 1, by omega, rfl, by go_num, hbox3, HQ.out⟩
        · have HV : Hid (opOk nm ops.length t kk aa = (aa == 0)) := by obtain ⟨h1, h2, h3, h7, h8, h9, h13, h14⟩ := hkk; show _ = _; rw [opOk_else _ _ _ _ _ h1 h2 h3 h7 h8 h9 h13 h14, hk18]; rfl
          rw [hT] at hop
          have HP : Hid (∀ w, Calls _ _ _ w _) := hop
          have hm := Tryz.run_no aa
          clear hop hkk hT
          go_region_held3 (fun w' => w'.cell? ⟨w.heap.size, 0, none⟩ = some (.slice ap nm cp) ∧ w'.cell? ⟨w.heap.size + 1, 0, none⟩ = some (.int .i64 x) ∧ w'.cell? ⟨w.heap.size + 1, 1, none⟩ = some (.int .i64 t) ∧ w'.cell? ⟨w.heap.size + 1, 2, none⟩ = some (.slice (some ⟨b, o, none⟩) ops.length co) ∧ w'.cell? ⟨wr.heap.size, 0, none⟩ = some (.int .i64 kk) ∧ w'.cell? ⟨wr.heap.size, 1, none⟩ = some (.int .i64 aa))
            (first | go_keep | (refine ⟨cell_below hb2 ?_, cell_below hb2 ?_, cell_below hb2 ?_, cell_below hb2 ?_, cell_below hb2 ?_, cell_below hb2 ?_⟩ <;> assumption) | (refine ⟨cell_below hb1 ?_, cell_below hb1 ?_, cell_below hb1 ?_, cell_below hb1 ?_, cell_below hb1 ?_, cell_below hb1 ?_⟩ <;> assumption))
            ((first | (go_at_call 100; refine (isKind_any _ _).mono ?_; rintro e w' ⟨rfl, rfl⟩) | (go_at_call 101; refine (HP.out _).mono ?_; rintro e w1 ⟨rfl, hb1⟩) | (go_at_call 129; refine (noFits_any _ _ _ _ _ _ _ _ _ _).mono ?_; rintro e w2 ⟨rfl, hb2'⟩; have hb2 := hb1.trans (hb2'.mono hb1.size))))
          have hbox3 := (hbox2.go (Below.refl _ _).drew).go hb2
          clear hb2' hb2 hb1 hbox2 bp ba bb bc hb q0 q1 hm HP
          cases hq : (aa == 0)
          · have HF : Hid (methOk nm (x, t, ops) = false) := (HO.out _ (HV.out.trans hq)).1 rfl
            clear HV
            go_wp2
            go_ret
            exact ⟨ret_bool HF.out.symm, hbox3.below⟩
          · have HQ : Hid (∀ j, (hj : j < ops.length) → j < k + 1 → opOk nm ops.length t ops[j].1 ops[j].2 = true) := (HO.out _ (HV.out.trans hq)).2 rfl
            clear HV
            go_wp2
            go_roundg (ops.length - (k + 1))
            case measure => omega
            case rel => exact ⟨k + 1, by omega, rfl, by go_num, hbox3, HQ.out⟩
    · obtain rfl : k = ops.length := by omega
      go_wp2
      go_ret
      exact ⟨ret_bool (H.out _ (opsOk_yes fun i hi => HA.out i hi hi)).symm, hb⟩
end Go.Proofs.YtmifhlkcceafkaaGreat

/-
  The program's ProgOk answers the plain function progOk; it writes to nothing that was there.
-/
namespace Go.Proofs.YtmifhlkcceafkaaGreat
open Go.RowKit
set_option maxHeartbeats 1000000 in
theorem implProgOk_any (v : Value) (ms : List (Int × Int × List (Int × Int))) (w : World) (h : MethsAt w v ms) :
    Calls Tryz.prog 63 #[.agg #[v]] w fun e w' => e = .returned (.bool (progOk ms)) ∧ Below w.heap.size w w' := by
  obtain ⟨a, cap, rfl, hl, hc⟩ := h
  have hl' := hl
  have hB : ∀ o1, Below w.heap.size w (w.alloc o1) := fun o1 => (Below.refl _ _).alloc (Nat.le_refl _) _
  unfold maxLen at hl
  by_cases hz : ms.length = 0
  · rw [show progOk ms = false by simp only [progOk]; rw [inR_false.2 (by omega)]; rfl]
    have hz' : ((ms.length : Int) == 0) = true := by rw [beq_iff_eq]; omega
    go_enter Tryz.func63, Tryz.ntmps63
    go_wp2
    go_ret
    exact ⟨rfl, hB _⟩
  have hz' : ((ms.length : Int) == 0) = false := by rw [beq_eq_false_iff_ne]; omega
  by_cases h4 : 4 < (ms.length : Int)
  · rw [show progOk ms = false by simp only [progOk]; rw [inR_false.2 (by omega)]; rfl]
    go_enter Tryz.func63, Tryz.ntmps63
    go_wp2
    go_ret
    exact ⟨rfl, hB _⟩
  have h1 : inR ms.length 1 4 = true := inR_true.2 (by omega)
  have h0lt : 0 < ms.length := by omega
  have hx0 : (ms.getD 0 (0, 0, [])).1 = ms[0].1 := by simp [h0lt]
  obtain ⟨b, o, vo0, rfl, c0, c1, c2, c3⟩ := hc 0 h0lt
  have e0 : w.cell? ⟨b, o, none⟩ = some (.int .i64 ms[0].1) := by simpa using c0
  have E0 : ∀ o1, (w.alloc o1).cell? ⟨b, o, none⟩ = some (.int .i64 ms[0].1) := fun o1 => cell_below (hB o1) e0
  clear c0 c1 c2 c3 e0
  have h0z : (0 : Int) < ms.length := by omega
  cases h2 : (ms[0].1 == 0)
  · rw [show progOk ms = false by simp only [progOk, h1, hx0, h2]; rfl]
    have h2' : (ms[0].1 != 0) = true := by simp only [bne, h2]; rfl
    clear h1 hx0
    go_enter Tryz.func63, Tryz.ntmps63
    go_wp2
    go_ret
    exact ⟨rfl, hB _⟩
  have H : Hid (progOk ms = ms.all (methOk ms.length)) := by
    show progOk ms = _
    simp only [progOk, h1, hx0, h2, Bool.true_and]
  have h2' : (ms[0].1 != 0) = false := by simp only [bne, h2]; rfl
  clear h1 hx0
  go_enter Tryz.func63, Tryz.ntmps63
  go_wp2
  clear h2 h2' hB E0
  go_loopg [26] ms.length (fun g i wr => ∃ k : Nat, k ≤ ms.length ∧ g = ms.length - k ∧ i = .int .i64 k ∧ wr.cell? ⟨w.heap.size, 0, none⟩ = some (.slice (some ⟨b, o, none⟩) ms.length cap) ∧ Below w.heap.size w wr ∧ ∀ j, (hj : j < ms.length) → j < k → methOk ms.length ms[j] = true)
  case atStart => exact ⟨0, Nat.zero_le _, rfl, rfl, by simp [go_sem], (Below.refl _ _).alloc (Nat.le_refl _) _, fun j _ h => absurd h (Nat.not_lt_zero _)⟩
  case round =>
    obtain ⟨k, hk, rfl, rfl, bp, hb, hall⟩ := hrel
    have HA : Hid (∀ j, (hj : j < ms.length) → j < k → methOk ms.length ms[j] = true) := hall
    clear hall
    have hsz := hb.size
    by_cases hlt : k < ms.length
    · obtain ⟨b', o', vo, hbo, c0, c1, c2, c3⟩ := hc k hlt
      obtain ⟨rfl, rfl⟩ : b = b' ∧ o = o' := by simpa using hbo
      have d0 := cell_below hb c0
      have d1 := cell_below hb c1
      have d2 := cell_below hb c2
      have d3 := c3.below hb
      clear c0 c1 c2 c3 hc hbo
      obtain ⟨ao, co, hvo, _⟩ := id d3
      rw [hvo] at d2 d3
      clear hvo
      have hkz : (k : Int) < (ms.length : Int) := by omega
      have bp' : ∀ o1, (wr.alloc o1).cell? ⟨w.heap.size, 0, none⟩ = some (.slice (some ⟨b, o, none⟩) ms.length cap) := fun o1 => cell_below ((Below.refl _ _).alloc (Nat.le_refl _) _) bp
      have D3 : ∀ o1, OpsAt (wr.alloc o1) (.slice ao ms[k].2.2.length co) ms[k].2.2 := fun o1 => d3.below ((Below.refl _ _).alloc (Nat.le_refl _) _)
      clear d3
      go_wp2_with fail
      refine (methodOk_any _ _ _ _ _ _ _ _ (D3 _)).mono ?_
      rintro e w1 ⟨rfl, hb1⟩
      have bp1 := cell_below hb1 (bp' _)
      have hb2 : Below w.heap.size w w1 := (hb.alloc hsz _).trans (hb1.mono (by simp; omega))
      clear hb1 bp bp' D3 hb d0 d1 d2
      cases hq : methOk ms.length (ms[k].1, ms[k].2.1, ms[k].2.2)
      · have HF : Hid (progOk ms = false) := H.out.trans (all_not hlt hq)
        go_wp2
        go_ret
        exact ⟨ret_bool HF.out.symm, hb2⟩
      · have HQ : Hid (methOk ms.length ms[k] = true) := hq
        go_wp2
        go_roundg (ms.length - (k + 1))
        case measure => omega
        case rel =>
          refine ⟨k + 1, by omega, rfl, by go_num, bp1, hb2, fun j hj hjk => ?_⟩
          by_cases e : j = k
          · subst e; exact HQ.out
          · exact HA.out j hj (by omega)
    · obtain rfl : k = ms.length := by omega
      go_wp2
      go_ret
      exact ⟨ret_bool (H.out.trans (all_of fun i hi => HA.out i hi hi)).symm, hb⟩
end Go.Proofs.YtmifhlkcceafkaaGreat

/-
  The law FnDeepAt, walked: whatever bytes come in, it answers true and writes to nothing that was there, where the table opForms lies as its text lays it.
-/
import Derived.Test.YtehffhhiikahbaaDoorDrawDeep
import Derived.Test.YtehffhhiikahbaaDoorDeepJ
import Derived.Test.YtehffhhiikahbaaDoorLawInts
namespace Go.Proofs.YtehffhhiikahbaaDoor
open Go.RowKit

theorem nexts_jump {K A k : Int} (h : K = 7 ∨ K = 8) : A ∈ nexts (K, A) k := by
  unfold nexts
  rcases h with rfl | rfl <;> simp
theorem nexts_go {K A k : Int} (h7 : K ≠ 7) (h10 : K ≠ 10) : k + 1 ∈ nexts (K, A) k := by
  unfold nexts
  simp only [if_neg h7, if_neg h10]
  split <;> simp

set_option maxRecDepth 100000 in
set_option maxHeartbeats 8000000 in
theorem lawDeepAt_any (w : World) (a : Option Addr) (len cap : Nat) (h : BytesAt w a len cap) (hT : TabAt w) :
    Calls Tryd.prog 4 #[.slice a len cap] w fun e w' => e = .returned (.bool true) ∧ Below w.heap.size w w' := by
  have hc := h.1
  have hm := h.2.1
  unfold maxLen at hm
  have HB : Hid (BytesAt w a len cap) := h
  have HT : Hid (TabAt w) := hT
  clear h hT
  by_cases hl : 1048576 < len
  · have hlz : (1048576 : Int) < (len : Int) := by omega
    go_enter Tryd.func4, Tryd.ntmps4
    go_wp2
    go_ret
    exact ⟨rfl, Below.refl _ _⟩
  have hlz : (len : Int) ≤ 1048576 := by omega
  go_enter Tryd.func4, Tryd.ntmps4
  go_wp2_with fail
  refine (drawDeepAt_any _ a len cap HB.out).mono ?_
  rintro e w1 ⟨v, ms, m, rfl, hD1, hB1⟩
  obtain ⟨aV, cV, hvV⟩ := hD1.row.shape
  subst hvV
  have z1 := hB1.size
  clear HB
  go_upto_region 4 with fail
  have hN := (Below.refl w1.heap.size w1).alloc (Nat.le_refl _) (.cells #[.slice aV ms.length cV] 25)
  have hD2 := hD1.below hN
  have hB2 := hB1.trans (hN.mono z1)
  have x2 := pbox_new w1 (.slice aV ms.length cV)
  generalize w1.alloc (.cells #[.slice aV ms.length cV] 25) = w2 at *
  have c2 := x2.cell (i := 0) (by decide)
  have z2 := hB2.size
  clear hD1 hB1 hN x2
  go_wp2_with fail
  refine (specDeepAt_any _ (plainOf ms) m _ hD2.meths).mono ?_
  rintro e w3 ⟨hb3, v3, r3, rfl, f3, hres3, hrow3⟩
  have hD3 := hD2.below hb3
  have hB3 := hB2.trans (hb3.mono z2)
  have c3 := cell_below hb3 c2
  have z3 := hB3.size
  clear hD2 hB2 hb3 c2
  go_wp2_with fail
  refine (implDeepAt_any _ (plainOf ms) m _ hD3.meths (HT.out.below hB3)).mono ?_
  rintro e w4 ⟨hb4, v4, r4, rfl, f4, hres4, hrow4⟩
  obtain ⟨rfl, rfl⟩ := hres3.one hres4
  have hD4 := hD3.below hb4
  have hB4 := hB3.trans (hb4.mono z3)
  have c4 := cell_below hb4 c3
  have hrow3' := hrow3.below hb4
  have z4 := hB4.size
  clear hD3 hB3 hb4 c3 hrow3 hres3
  go_wp2_with fail
  refine (lmInts_same _ _ _ _ f3 _ hrow4 hrow3').mono ?_
  rintro e w5 ⟨rfl, hb5⟩
  have hD5 := hD4.below hb5
  have hB5 := hB4.trans (hb5.mono z4)
  have c5 := cell_below hb5 c4
  have hrowA := hrow4.below hb5
  have hrowB := hrow3'.below hb5
  have z5 := hB5.size
  clear hD4 hB4 hb5 c4 hrow3' hrow4
  cases r3
  · clear hres4
    go_wp2_with fail
    refine (lmInts_same _ _ _ _ f3 _ hrowA hrowB).mono ?_
    rintro e w6 ⟨rfl, hb6⟩
    have hB6 := hB5.trans (hb6.mono z5)
    clear hb6
    go_wp2
    go_ret
    exact ⟨rfl, hB6⟩
  obtain ⟨⟨hpk, hin, hcl⟩, hbd⟩ := res_right hres4
  rw [inR_true] at hin
  have hpl : (plainOf ms).length = ms.length := by simp [plainOf]
  rw [hpl] at hin
  obtain ⟨mn, rfl⟩ := Int.eq_ofNat_of_zero_le hin.1
  have hmn : mn < ms.length := by omega
  have hmz : (mn : Int) < (ms.length : Int) := by omega
  obtain ⟨gV, cV', hvV⟩ := hD5.row.shape1 (by omega)
  cases hvV
  have cs := (hD5.row.row.cell mn (by simpa using hmn)).2.2
  rw [PRow.ofMap hmn] at cs
  have hops := hD5.row.ops _ (List.getElem_mem hmn)
  have hol := hD5.ops _ (List.getElem_mem hmn)
  have hoo : opsOf (plainOf ms) (mn : Int) = ms[mn].2.2.2 := by
    have : mn < (plainOf ms).length := by omega
    simp [opsOf, plainOf, hmn]
  rw [hoo] at hcl
  generalize ms[mn].2.2.2 = L at *
  generalize ms[mn].2.2.1 = vo at *
  have hLp := hcl.pos
  have hfl := hcl.len
  have hf0 := hcl.zero
  obtain ⟨go, co, hvo⟩ := hops.shape1 (by omega)
  subst hvo
  obtain ⟨g4, o4, q4, e4, _⟩ := hrowA.form (by omega)
  have HCL : Hid (Closed (plainOf ms) L f3) := hcl
  have HBD : Hid (∀ i : Nat, i < f3.length → -1 ≤ gt f3 i ∧ gt f3 i ≤ 6) := hbd
  have HFL : Hid (f3.length = L.length) := hfl
  have HPK : Hid (progOk (plainOf ms) = true) := hpk
  subst e4
  clear hres4 hcl hbd hfl hpk hoo hpl hin hrowB
  go_wp2_with fail
  go_loopg [10] L.length (fun d i wr => ∃ k : Nat, k ≤ L.length ∧ d = L.length - k ∧ i = .int .i64 k ∧ Below w5.heap.size w5 wr)
  case atStart => exact ⟨0, Nat.zero_le _, rfl, rfl, Below.refl _ _⟩
  case round =>
    obtain ⟨k, hk, rfl, rfl, hbr⟩ := hrel
    have zr := hbr.size
    have hrowR := hrowA.below hbr
    by_cases hlt : k < L.length
    · have hkz : (k : Int) < (L.length : Int) := by omega
      have hkf : k < f3.length := by have := HFL.out; omega
      have hkfz : (k : Int) < (f3.length : Int) := by omega
      have opsR := World.ownsRow.kept hops (below_grown hbr none) (.inr (by simp [Value.ownBlock]))
      have oc := OpsRow.cell opsR k hlt
      have ac := (hrowR.cell hkf).1
      have hgk : gt f3 (k : Int) = f3[k] := gt_nat f3 k hkf
      have hbk := HBD.out k hkf
      rw [hgk] at hbk
      have HDA : Hid (0 ≤ f3[k] → Done (plainOf ms) L f3 k) := by
        have := HCL.out.each k hlt
        rw [hgk] at this
        exact this
      have hop : opAt L (k : Int) = L[k] := opAt_nat L k hlt
      obtain ⟨K, A, hKA⟩ : ∃ K A, L[k] = (K, A) := ⟨L[k].1, L[k].2, rfl⟩
      rw [hKA] at oc hop
      obtain ⟨o0, o1⟩ := oc
      simp only [] at o0 o1
      by_cases hneg : f3[k] < 0
      · generalize f3[k] = dk at *
        go_wp2
        go_roundg (L.length - (k + 1))
        case measure => omega
        case rel => exact ⟨k + 1, by omega, rfl, by go_num, hbr⟩
      · obtain ⟨e1, e2, e3⟩ := HDA.out (by omega)
        rw [hop, hgk] at e1 e2 e3
        have ht := takes_ok HPK.out K A
        have hlv := leaves_nonneg (plainOf ms) K A
        have HE3 : Hid (∀ j ∈ nexts (K, A) k, 0 ≤ j ∧ j < L.length ∧ gt f3 j = f3[k] - (takesOf (plainOf ms) K A).1 + (takesOf (plainOf ms) K A).2) := e3
        have e2' : f3[k] - (takesOf (plainOf ms) K A).1 + (takesOf (plainOf ms) K A).2 ≤ 6 := e2
        have e1' : (takesOf (plainOf ms) K A).1 ≤ f3[k] := e1
        clear e1 e2 e3 HDA hgk hop
        have hDr := hD5.below hbr
        have cr := cell_below hbr c5
        have hMd : MethsAt wr.drew _ (plainOf ms) := hDr.meths.below (Below.refl _ _).drew
        have hTd : TabAt wr.drew := (HT.out.below (hB5.trans (hbr.mono z5))).below (Below.refl _ _).drew
        obtain ⟨t, htq⟩ : ∃ t, (takesOf (plainOf ms) K A).1 = t := ⟨_, rfl⟩
        obtain ⟨l, hlq⟩ : ∃ l, (takesOf (plainOf ms) K A).2 = l := ⟨_, rfl⟩
        have HTQ : Hid ((takesOf (plainOf ms) K A).1 = t ∧ (takesOf (plainOf ms) K A).2 = l) := ⟨htq, hlq⟩
        rw [htq] at ht e1' e2'
        rw [hlq] at hlv e2'
        have HE : Hid (∀ j ∈ nexts (K, A) k, 0 ≤ j ∧ j < L.length ∧ gt f3 j = f3[k] - t + l) := by
          have := HE3.out
          rw [htq, hlq] at this
          exact this
        obtain ⟨dk, hdk⟩ : ∃ dk, f3[k] = dk := ⟨_, rfl⟩
        rw [hdk] at hneg e1' e2' hbk ac
        have HE' : Hid (∀ j ∈ nexts (K, A) k, 0 ≤ j ∧ j < L.length ∧ gt f3 j = dk - t + l) := by
          have := HE.out
          rw [hdk] at this
          exact this
        have HKA : Hid (L[k] = (K, A)) := hKA
        have HDK : Hid (f3[k] = dk) := hdk
        clear HE HE3 htq hlq hdk hKA
        go_upto_region 13 with fail
        go_region_law (go_simp; go_at_call 10; refine (implTakes_any _ (plainOf ms) K A _ hMd hTd).mono ?_; rintro e w7 ⟨rfl, hb7⟩; rw [HTQ.out.1, HTQ.out.2])
        all_goals
          have hb7' : Below w5.heap.size w5 w7 := hbr.drew.trans (hb7.mono zr)
          have hrow7 := hrowA.below hb7'
          have ops7 := World.ownsRow.kept hops (below_grown hb7' none) (.inr (by simp [Value.ownBlock]))
          have oc7 := OpsRow.cell ops7 k hlt
          rw [HKA.out] at oc7
          obtain ⟨p0, p1⟩ := oc7
          simp only [] at p0 p1
          have ac7 := (hrow7.cell hkf).1
          rw [HDK.out] at ac7
          have jc : ∀ j ∈ nexts (K, A) k, ∃ n : Nat, j = n ∧ n < L.length ∧ n < f3.length ∧ w7.cell? ⟨g4, o4 + n, none⟩ = some (.int .i64 (dk - t + l)) := fun j hj => by
            obtain ⟨j0, j1, j2⟩ := HE'.out j hj
            obtain ⟨n, rfl⟩ := Int.eq_ofNat_of_zero_le j0
            have hn : n < f3.length := by have := HFL.out; omega
            refine ⟨n, rfl, by omega, hn, ?_⟩
            rw [← j2, gt_nat f3 n hn]
            exact (hrow7.cell hn).1
          have JC : Hid (∀ j ∈ nexts (K, A) k, ∃ n : Nat, j = n ∧ n < L.length ∧ n < f3.length ∧ w7.cell? ⟨g4, o4 + n, none⟩ = some (.int .i64 (dk - t + l))) := jc
          clear jc hb7 hMd hTd cr hDr opsR hrowR o0 o1 ac HE' HTQ
          obtain ⟨ht0, ht2⟩ := ht
          obtain ⟨hl0, hl1⟩ := hlv
          obtain ⟨hd0, hd6⟩ := hbk
          have hd0' : 0 ≤ dk := by omega
          clear hneg hd0
          by_cases h7 : K = 7
          · subst h7
            obtain ⟨an, hA, hanL, hanF, can⟩ := JC.out A (nexts_jump (.inl rfl))
            subst hA
            have hanz : (an : Int) < (f3.length : Int) := by omega
            go_wp2
            go_roundg (L.length - (k + 1))
            case measure => omega
            case rel => exact ⟨k + 1, by omega, rfl, by go_num, hb7'⟩
          have ex7 : (K == 7) = false := beq_eq_false_iff_ne.2 h7
          have nx7 : (K != 7) = true := bne_iff_ne.2 h7
          by_cases h10 : K = 10
          · subst h10
            go_wp2
            go_roundg (L.length - (k + 1))
            case measure => omega
            case rel => exact ⟨k + 1, by omega, rfl, by go_num, hb7'⟩
          have ex10 : (K == 10) = false := beq_eq_false_iff_ne.2 h10
          have nx10 : (K != 10) = true := bne_iff_ne.2 h10
          obtain ⟨gn, hG, hgnL, hgnF, cgn⟩ := JC.out (k + 1) (nexts_go h7 h10)
          obtain rfl : gn = k + 1 := by omega
          clear hG
          have hk1z : (k : Int) + 1 < (L.length : Int) := by omega
          have hk1f : (k : Int) + 1 < (f3.length : Int) := by omega
          by_cases h8 : K = 8
          · subst h8
            obtain ⟨an, hA, hanL, hanF, can⟩ := JC.out A (nexts_jump (.inr rfl))
            subst hA
            have hanz : (an : Int) < (f3.length : Int) := by omega
            go_wp2
            go_roundg (L.length - (k + 1))
            case measure => omega
            case rel => exact ⟨k + 1, by omega, rfl, by go_num, hb7'⟩
          · have ex8 : (K == 8) = false := beq_eq_false_iff_ne.2 h8
            go_wp2
            go_roundg (L.length - (k + 1))
            case measure => omega
            case rel => exact ⟨k + 1, by omega, rfl, by go_num, hb7'⟩
    · obtain rfl : k = L.length := by omega
      have hfp : 0 < f3.length := by have := HFL.out; omega
      have a0 := (hrowR.cell hfp).1
      have hz0 : f3[0] = 0 := by rw [← gt_nat f3 0 hfp]; exact hf0
      rw [hz0] at a0
      have a0' : wr.cell? ⟨g4, o4, none⟩ = some (.int .i64 0) := by simpa using a0
      have hfpz : (0 : Int) < (f3.length : Int) := by omega
      have hfb : ((f3.length : Int) == (L.length : Int)) = true := by rw [beq_iff_eq]; have := HFL.out; omega
      have hBr := hB5.trans (hbr.mono z5)
      go_wp2
      go_ret
      exact ⟨rfl, hBr⟩

end Go.Proofs.YtehffhhiikahbaaDoor

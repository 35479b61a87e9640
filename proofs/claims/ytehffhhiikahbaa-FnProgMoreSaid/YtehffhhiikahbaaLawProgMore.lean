/-
  The law FnProgMore, walked: whatever bytes come in, it answers true and writes to nothing that was there.
-/
import Derived.Test.YtehffhhiikahbaaDrawProgOk
import Derived.Test.YtehffhhiikahbaaSpecOk2
import Derived.Test.YtehffhhiikahbaaImplOk3
namespace Go.Proofs.Ytehffhhiikahbaa
open Go.RowKit

theorem opOk_more {nm no : Nat} {t k a : Int} (h : opOk nm no t k a = true) : opOk (nm + 1) no t k a = true := by
  unfold opOk at h ⊢
  split
  · rw [if_pos (by assumption)] at h; exact h
  · rw [if_neg (by assumption)] at h
    split
    · rw [if_pos (by assumption)] at h; exact h
    · rw [if_neg (by assumption)] at h
      split
      · rw [if_pos (by assumption)] at h; exact h
      · rw [if_neg (by assumption)] at h
        split
        · rw [if_pos (by assumption)] at h
          rw [inR_true] at h ⊢
          omega
        · rw [if_neg (by assumption)] at h; exact h

/-- a method without anything is one more -/
theorem progOk_more {ms : List (Int × Int × List (Int × Int))} (h : progOk ms = true) : progOk (ms ++ [(0, 0, [])]) = decide (ms.length < 4) := by
  unfold progOk at h
  simp only [Bool.and_eq_true, inR_true] at h
  obtain ⟨⟨⟨h1, h4⟩, h0⟩, ha⟩ := h
  by_cases hl : ms.length < 4
  · rw [decide_eq_true hl]
    unfold progOk
    simp only [Bool.and_eq_true, inR_true]
    refine ⟨⟨⟨by simp; omega, by simp; omega⟩, ?_⟩, ?_⟩
    · obtain ⟨m, l, rfl⟩ : ∃ m l, ms = m :: l := by
        cases ms with
        | nil => simp at h1
        | cons m l => exact ⟨m, l, rfl⟩
      simpa using h0
    · rw [List.all_eq_true] at ha ⊢
      intro m hm
      have hlen : (ms ++ [((0, 0, []) : Int × Int × List (Int × Int))]).length = ms.length + 1 := by simp
      rw [hlen]
      rcases List.mem_append.1 hm with hm | hm
      · have := ha m hm
        unfold methOk at this ⊢
        simp only [Bool.and_eq_true] at this ⊢
        refine ⟨this.1, ?_⟩
        have h2 := this.2
        unfold opsOk at h2 ⊢
        rw [List.all_eq_true] at h2 ⊢
        exact fun o ho => opOk_more (h2 o ho)
      · simp at hm
        subst hm
        rfl
  · rw [decide_eq_false hl]
    unfold progOk
    have : inR ((ms ++ [((0, 0, []) : Int × Int × List (Int × Int))]).length : Int) 1 4 = false := by
      rw [inR_false]; simp; omega
    rw [this]
    rfl

theorem plainOf_length (ms : List MM) : (plainOf ms).length = ms.length := by simp [plainOf]

/-- a copy of methods, and one more that has nothing -/
theorem more_meths {w w' : World} {B : Nat} {v v' : Value} {ms : List MM} (h : Drawn B w v ms) (hb : Below w.heap.size w w') {B' : Nat} (hr : MRow B' w' v' (ms.map MM.tri ++ [(0, 0, .slice none 0 0)])) : MethsAt w' v' (plainOf ms ++ [(0, 0, [])]) := by
  have hD := h.below hb
  have hf := h.few
  rcases hr.2 with ⟨rfl, hn⟩ | ⟨g, cap, cur, hv, _⟩
  · simp at hn
  · subst hv
    refine ⟨some ⟨g, 0, none⟩, cap, by simp [plainOf], by simp [plainOf]; unfold maxLen; omega, fun i hi => ?_⟩
    have hi' : i < ms.length + 1 := by simpa [plainOf] using hi
    have c := hr.cell i (by simpa using hi')
    by_cases e : i < ms.length
    · have e1 : (ms.map MM.tri ++ [((0, 0, .slice none 0 0) : Int × Int × Value)])[i]'(by simp; omega) = (ms[i].1, ms[i].2.1, ms[i].2.2.1) := by
        rw [List.getElem_append_left (by simpa using e)]; simp [MM.tri]
      have e2 : (plainOf ms ++ [((0, 0, []) : Int × Int × List (Int × Int))])[i]'hi = (ms[i].1, ms[i].2.1, ms[i].2.2.2) := by
        rw [List.getElem_append_left (by simpa [plainOf] using e)]; simp [plainOf]
      rw [e1] at c
      rw [e2]
      refine ⟨g, 0, ms[i].2.2.1, rfl, by simpa using c.1, by simpa using c.2.1, by simpa using c.2.2, ?_⟩
      exact (hD.row.ops _ (List.getElem_mem e)).at (by have := h.ops _ (List.getElem_mem e); unfold maxLen; omega)
    · obtain rfl : i = ms.length := by omega
      have e1 : (ms.map MM.tri ++ [((0, 0, .slice none 0 0) : Int × Int × Value)])[ms.length]'(by simp) = (0, 0, .slice none 0 0) := by
        rw [List.getElem_append_right (by simp)]; simp
      have e2 : (plainOf ms ++ [((0, 0, []) : Int × Int × List (Int × Int))])[ms.length]'hi = (0, 0, []) := by
        rw [List.getElem_append_right (by simp [plainOf])]; simp [plainOf]
      rw [e1] at c
      rw [e2]
      exact ⟨g, 0, .slice none 0 0, rfl, by simpa using c.1, by simpa using c.2.1, by simpa using c.2.2, none, 0, rfl, Nat.zero_le _, fun j hj => absurd hj (Nat.not_lt_zero _)⟩

theorem meths_nil (w : World) : MethsAt w (.slice none 0 0) [] := ⟨none, 0, rfl, Nat.zero_le _, fun _ hi => absurd hi (Nat.not_lt_zero _)⟩

set_option maxRecDepth 100000 in
set_option maxHeartbeats 2000000 in
theorem law_any (w : World) (a : Option Addr) (len cap : Nat) (h : BytesAt w a len cap) :
    Calls Try.prog 3 #[.slice a len cap] w fun e w' => e = .returned (.bool true) ∧ Below w.heap.size w w' := by
  have hc := h.1
  have hm := h.2.1
  unfold maxLen at hm
  have HB : Hid (BytesAt w a len cap) := h
  clear h
  by_cases hl : 1048576 < len
  · have hlz : (1048576 : Int) < (len : Int) := by omega
    go_enter Try.func3, Try.ntmps3
    go_wp2
    go_ret
    exact ⟨rfl, Below.refl _ _⟩
  have hlz : (len : Int) ≤ 1048576 := by omega
  go_enter Try.func3, Try.ntmps3
  go_wp2_with fail
  refine (drawProgOk_any _ a len cap HB.out).mono ?_
  rintro e w1 ⟨v, ms, rfl, hD1, hB1⟩
  obtain ⟨aV, cV, hvV⟩ := hD1.row.shape
  subst hvV
  have z1 := hB1.size
  clear HB
  go_wp2_with fail
  have hN := (Below.refl w1.heap.size w1).alloc (Nat.le_refl _) (.cells #[.slice aV ms.length cV] 25)
  have hD2 := hD1.below hN
  have hB2 := hB1.trans (hN.mono z1)
  have x2 := pbox_new w1 (.slice aV ms.length cV)
  have z2' : (w1.alloc (.cells #[.slice aV ms.length cV] 25)).heap.size = w1.heap.size + 1 := by simp
  generalize w1.alloc (.cells #[.slice aV ms.length cV] 25) = w2 at *
  have c2 := x2.cell (i := 0) (by decide)
  have z2 := hB2.size
  clear hD1 hB1 hN x2
  go_wp2_with fail
  refine (implProgOk_any _ (plainOf ms) _ hD2.meths).mono ?_
  rintro e w3 ⟨rfl, hb3⟩
  have hD3 := hD2.below hb3
  have hB3 := hB2.trans (hb3.mono z2)
  have c3 := cell_below hb3 c2
  have z3 := hB3.size
  clear hD2 hB2 hb3 c2 z2
  go_wp2_with fail
  refine (specProgOk_any _ (plainOf ms) _ hD3.meths).mono ?_
  rintro e w4 ⟨rfl, hb4⟩
  have hD4 := hD3.below hb4
  have hB4 := hB3.trans (hb4.mono z3)
  have c4 := cell_below hb4 c3
  have z4 := hB4.size
  clear hD3 hB3 hb4 c3 z3
  by_cases hok : progOk (plainOf ms) = true
  · have hlen : 1 ≤ ms.length ∧ ms.length ≤ 4 := by
      unfold progOk at hok
      simp only [Bool.and_eq_true, inR_true, plainOf_length] at hok
      omega
    have hmore := progOk_more hok
    rw [plainOf_length] at hmore
    rw [hok]
    obtain ⟨gV, cV', hvV⟩ := hD4.row.shape1 hlen.1
    cases hvV
    have HS : Hid (∀ m ∈ ms.map MM.tri, IsSlice m.2.2) := fun m hm => by
      obtain ⟨m', hm', rfl⟩ := List.mem_map.1 hm
      obtain ⟨a1, c1, e1⟩ := (hD4.row.ops m' hm').shape
      exact ⟨a1, _, c1, e1⟩
    have mk := MRow.made w4
    have hlt4 : w1.heap.size < w4.heap.size := World.block_lt_of_cell? _ _ c4
    have c4' := fun o => cell_below ((Below.refl _ _).alloc (Nat.le_refl _) o) c4
    have src := World.ownsRow.alloc hD4.row.row (.cells #[] 30)
    have hl1 := hlen.1
    have hl4 := hlen.2
    clear hlen hok
    have HM : Hid (progOk (plainOf ms ++ [(0, 0, [])]) = decide (ms.length < 4)) := hmore
    clear hmore
    go_upto_region 8 with (first
      | (at_builtin; refine append_meths _ (by rfl) _ _ (by rfl) _ _ [] (by rfl) mk (ms.map MM.tri) HS.out ⟨gV, 0, none⟩ _ (by rw [List.length_map]; rfl) (World.ownsRow.cells src rfl) (by simp; omega) (by simp; omega) (by simp) ?_; intro g5 cp5 w5 hrow5 hg5 hB5 hlt5; simp only [List.length_nil, List.length_map, Nat.zero_add, List.nil_append] at hrow5)
      | (at_builtin; refine append_meths _ (by rfl) _ _ (by rfl) _ _ (ms.map MM.tri) (by first | rfl | (simp; rfl)) (World.ownsRow.alloc hrow5 _) [(0, 0, .slice none 0 0)] (by simp; exact ⟨_, _, _, rfl⟩) ⟨w5.heap.size, 0, none⟩ _ (by rfl) (World.news_of_block (Go.Deep.blk_alloc_new w5 _)) (by simp) (by simp; omega) (by have := hg5.size; simp at this; simp; omega) ?_; intro g6 cp6 w6 hrow6 hg6 hB6 hlt6; simp only [List.length_cons, List.length_nil, List.length_map, Nat.zero_add] at hrow6))
    have hb5 : Below w4.heap.size w4 w5 := ((Below.refl _ _).alloc (Nat.le_refl _) _).grown hg5 (by simp) (fun k e => by simp [Value.ownBlock] at e; omega)
    have hb6 : Below w4.heap.size w4 w6 := (hb5.alloc hb5.size _).grown hg6 (by have := hb5.size; simp; omega) (fun k e => by simp [Value.ownBlock] at e; omega)
    have hb7 := hb6.alloc hb6.size (.cells #[.slice (some ⟨g6, 0, none⟩) (ms.length + 1) cp6] 25)
    have hQ6 := more_meths hD4 hb6 hrow6
    have hQ7 := hQ6.below ((Below.refl w6.heap.size w6).alloc (Nat.le_refl _) (.cells #[.slice (some ⟨g6, 0, none⟩) (ms.length + 1) cp6] 25))
    have q7 := (pbox_new w6 (.slice (some ⟨g6, 0, none⟩) (ms.length + 1) cp6)).cell (i := 0) (by decide)
    have c7 := cell_below hb7 c4
    have hB7 := hB4.trans (hb7.mono z4)
    generalize w6.alloc (.cells #[.slice (some ⟨g6, 0, none⟩) (ms.length + 1) cp6] 25) = w7 at *
    have z7 := hB7.size
    have hQd : MethsAt w7.drew (.slice (some ⟨g6, 0, none⟩) (ms.length + 1) cp6) (plainOf ms ++ [(0, 0, [])]) := hQ7.below (Below.refl _ _).drew
    have c7d : w7.drew.cell? ⟨w1.heap.size, 0, none⟩ = some (.slice (some ⟨gV, 0, none⟩) ms.length cV) := c7
    have q7d : w7.drew.cell? ⟨w6.heap.size, 0, none⟩ = some (.slice (some ⟨g6, 0, none⟩) (ms.length + 1) cp6) := q7
    clear hrow5 hrow6 hg5 hg6 hB5 hB6 hlt5 hlt6 hb5 hb6 hb7 hQ6 hQ7 c4 c4' hB4 hD4 mk src HS hlt4
    by_cases h4 : ms.length < 4
    · have h4z : (ms.length : Int) < 4 := by omega
      have hpm : progOk (plainOf ms ++ [(0, 0, [])]) = true := by rw [HM.out]; exact decide_eq_true h4
      have HP : Hid (progOk (plainOf ms ++ [(0, 0, [])]) = true) := hpm
      clear hpm HM
      go_region_law (first
        | (have hh := hb8; clear hh; go_simp; go_at_call 5; refine (implProgOk_any _ [] _ (meths_nil _)).mono ?_; rintro e w9 ⟨rfl, hb9⟩; rw [show progOk [] = false from rfl])
        | (go_simp; go_at_call 5; refine (implProgOk_any _ (plainOf ms ++ [(0, 0, [])]) _ hQd).mono ?_; rintro e w8 ⟨rfl, hb8⟩; rw [HP.out]; have k1 := cell_below hb8 c7d; have k2 := cell_below hb8 q7d))
      all_goals
        have hB9 : Below w.heap.size w w9 := hB7.drew.trans ((hb8.mono z7).trans (hb9.mono (by have := hb8.size; simp at this; omega)))
        clear hb8 hb9
        go_wp2
        go_ret
        exact ⟨rfl, hB9⟩
    · have h4z : ¬ (ms.length : Int) < 4 := by omega
      have hpm : progOk (plainOf ms ++ [(0, 0, [])]) = false := by rw [HM.out]; exact decide_eq_false h4
      have HP : Hid (progOk (plainOf ms ++ [(0, 0, [])]) = false) := hpm
      clear hpm HM
      go_region_law (first
        | (have hh := hb8; clear hh; go_simp; go_at_call 5; refine (implProgOk_any _ [] _ (meths_nil _)).mono ?_; rintro e w9 ⟨rfl, hb9⟩; rw [show progOk [] = false from rfl])
        | (go_simp; go_at_call 5; refine (implProgOk_any _ (plainOf ms ++ [(0, 0, [])]) _ hQd).mono ?_; rintro e w8 ⟨rfl, hb8⟩; rw [HP.out]; have k1 := cell_below hb8 c7d; have k2 := cell_below hb8 q7d))
      all_goals
        have hB9 : Below w.heap.size w w9 := hB7.drew.trans ((hb8.mono z7).trans (hb9.mono (by have := hb8.size; simp at this; omega)))
        clear hb8 hb9
        go_wp2
        go_ret
        exact ⟨rfl, hB9⟩
  · have hok' : progOk (plainOf ms) = false := by simpa using hok
    rw [hok']
    go_wp2_with fail
    refine (specProgOk_any _ (plainOf ms) _ hD4.meths).mono ?_
    rintro e w5 ⟨rfl, hb5⟩
    have hB5 := hB4.trans (hb5.mono z4)
    clear hb5
    rw [hok']
    go_wp2
    go_ret
    exact ⟨rfl, hB5⟩

end Go.Proofs.Ytehffhhiikahbaa

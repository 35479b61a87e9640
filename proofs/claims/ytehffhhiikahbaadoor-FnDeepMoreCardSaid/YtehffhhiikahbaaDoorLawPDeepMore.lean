/-
  The law FnDeepMore, walked: whatever bytes come in, it answers true and writes to nothing that was there, where the table opForms lies as its text lays it.
-/
import Derived.Test.YtehffhhiikahbaaDoorDrawDeep
import Derived.Test.YtehffhhiikahbaaDoorDeepK
import Derived.Test.YtehffhhiikahbaaDoorLawInts
import Derived.Test.YtehffhhiikahbaaDoorMore
namespace Go.Proofs.YtehffhhiikahbaaDoor
open Go.RowKit

theorem takesOf_more {ms : List (Int × Int × List (Int × Int))} {k a : Int} (h : k = 9 → inR a 0 ((ms.length : Int) - 1) = true) : takesOf (ms ++ [(0, 0, [])]) k a = takesOf ms k a := by
  by_cases h9 : k = 9
  · subst h9
    have h1 := h rfl
    have h2 := inR_true.1 h1
    obtain ⟨n, rfl⟩ := Int.eq_ofNat_of_zero_le h2.1
    have hn : n < ms.length := by omega
    rw [takesOf_call hn, takesOf_call (by simp; omega), List.getElem_append_left hn]
  · simp [takesOf, h9]

theorem opOk_call {nm no : Nat} {t a : Int} (h : opOk nm no t 9 a = true) : inR a 0 ((nm : Int) - 1) = true := h

/-- the operations of an ok program call methods that there are -/
theorem calls_ok {ms : List (Int × Int × List (Int × Int))} (hp : progOk ms = true) {m : Nat} (hm : m < ms.length) {i : Nat} (hi : i < (ms[m].2.2).length) (h9 : (ms[m].2.2)[i].1 = 9) : inR (ms[m].2.2)[i].2 0 ((ms.length : Int) - 1) = true := by
  have hall : ms.all (methOk ms.length) = true := by
    simp only [progOk, Bool.and_eq_true] at hp
    exact hp.2
  rw [List.all_eq_true] at hall
  have h1 := hall _ (List.getElem_mem hm)
  unfold methOk at h1
  simp only [Bool.and_eq_true] at h1
  have h2 := h1.2
  unfold opsOk at h2
  rw [List.all_eq_true] at h2
  have h3 := h2 _ (List.getElem_mem hi)
  rw [h9] at h3
  exact opOk_call h3

theorem behind_more {ms : List (Int × Int × List (Int × Int))} {op : Int × Int} {d : Int} (h : op.1 = 9 → inR op.2 0 ((ms.length : Int) - 1) = true) : behind (ms ++ [(0, 0, [])]) op d = behind ms op d := by
  unfold behind
  rw [takesOf_more h]

theorem closed_more {ms : List (Int × Int × List (Int × Int))} {ops : List (Int × Int)} {f : List Int} (h : ∀ i : Nat, (hi : i < ops.length) → ops[i].1 = 9 → inR ops[i].2 0 ((ms.length : Int) - 1) = true) : Closed (ms ++ [(0, 0, [])]) ops f ↔ Closed ms ops f := by
  have hD : ∀ i : Nat, i < ops.length → (Done (ms ++ [(0, 0, [])]) ops f i ↔ Done ms ops f i) := fun i hi => by
    unfold Done
    rw [opAt_nat ops i hi, takesOf_more (h i hi), behind_more (h i hi)]
  exact ⟨fun c => ⟨c.len, c.pos, c.zero, fun i hi h0 => (hD i hi).1 (c.each i hi h0)⟩, fun c => ⟨c.len, c.pos, c.zero, fun i hi h0 => (hD i hi).2 (c.each i hi h0)⟩⟩

theorem right_more {ms : List (Int × Int × List (Int × Int))} (hp : progOk ms = true) (hl : ms.length < 4) {m : Nat} (hm : m < ms.length) {f : List Int} : Right (ms ++ [(0, 0, [])]) m f ↔ Right ms m f := by
  have e1 : opsOf (ms ++ [(0, 0, [])]) (m : Int) = ms[m].2.2 := by rw [opsOf_nat (by simp; omega), List.getElem_append_left hm]
  have e2 : opsOf ms (m : Int) = ms[m].2.2 := opsOf_nat hm
  have hc : Closed (ms ++ [(0, 0, [])]) ms[m].2.2 f ↔ Closed ms ms[m].2.2 f := closed_more (fun i hi h9 => calls_ok hp hm hi h9)
  unfold Right
  rw [e1, e2, hc, progOk_more hp, decide_eq_true hl, hp]
  have h1 : inR (m : Int) 0 (((ms ++ [((0, 0, []) : Int × Int × List (Int × Int))]).length : Int) - 1) = true := inR_true.2 (by simp; omega)
  have h2 : inR (m : Int) 0 ((ms.length : Int) - 1) = true := inR_true.2 (by omega)
  rw [h1, h2]

theorem res_more {ms : List (Int × Int × List (Int × Int))} (hp : progOk ms = true) (hl : ms.length < 4) {m : Nat} (hm : m < ms.length) {f : List Int} (h : DeepRes ms m true f) : DeepRes (ms ++ [(0, 0, [])]) m true f := by
  rcases h with ⟨_, hR, hb, hs⟩ | ⟨e, _⟩
  · exact .inl ⟨rfl, (right_more hp hl hm).2 hR, hb, fun g hg => hs g ((right_more hp hl hm).1 hg)⟩
  · cases e

/-- the method that is more has no table -/
theorem res_last (ms : List (Int × Int × List (Int × Int))) : DeepRes (ms ++ [(0, 0, [])]) (ms.length : Int) false [] := by
  refine .inr ⟨rfl, rfl, fun g hg => ?_⟩
  have := hg.2.2.pos
  rw [opsOf_nat (by simp)] at this
  simp at this

theorem most_more {ms : List (Int × Int × List (Int × Int))} (hp : progOk ms = true) (hl : ms.length < 4) {m : Nat} (hm : m < ms.length) {f : List Int} (h : DeepRes ms m true f) {n n' : Int} (h1 : MostRes ms m n) (h2 : MostRes (ms ++ [(0, 0, [])]) m n') : n' = n := by
  have h' := res_more hp hl hm h
  rcases h1 with ⟨f1, r1, x1⟩ | ⟨r1, _⟩
  · rcases h2 with ⟨f2, r2, x2⟩ | ⟨r2, _⟩
    · obtain rfl := (h.one r1).2
      obtain rfl := (h'.one r2).2
      exact x2.one x1
    · have := (h'.one r2).1; cases this
  · have := (h.one r1).1; cases this

set_option maxRecDepth 100000 in
set_option maxHeartbeats 8000000 in
theorem lawDeepMore_any (w : World) (a : Option Addr) (len cap : Nat) (h : BytesAt w a len cap) (hT : TabAt w) :
    Calls Tryd.prog 7 #[.slice a len cap] w fun e w' => e = .returned (.bool true) ∧ Below w.heap.size w w' := by
  have hc := h.1
  have hm := h.2.1
  unfold maxLen at hm
  have HB : Hid (BytesAt w a len cap) := h
  have HT : Hid (TabAt w) := hT
  clear h hT
  by_cases hl : 1048576 < len
  · have hlz : (1048576 : Int) < (len : Int) := by omega
    go_enter Tryd.func7, Tryd.ntmps7
    go_wp2
    go_ret
    exact ⟨rfl, Below.refl _ _⟩
  have hlz : (len : Int) ≤ 1048576 := by omega
  go_enter Tryd.func7, Tryd.ntmps7
  go_wp2_with fail
  refine (drawDeepAt_any _ a len cap HB.out).mono ?_
  rintro e w1 ⟨v, ms, m, rfl, hD1, hB1⟩
  obtain ⟨aV, cV, hvV⟩ := hD1.row.shape
  subst hvV
  have z1 := hB1.size
  clear HB
  go_upto_region 4 with fail
  have hN := (Below.refl w1.heap.size w1).alloc (Nat.le_refl _) (.cells #[.slice aV ms.length cV] 25)
  have hD2 := hD1.below hN
  have hB2 := hB1.trans (hN.mono z1)
  have x2 := pbox_new w1 (.slice aV ms.length cV)
  generalize w1.alloc (.cells #[.slice aV ms.length cV] 25) = w2 at *
  have c2 := x2.cell (i := 0) (by decide)
  have z2 := hB2.size
  clear hD1 hB1 hN x2
  go_wp2_with fail
  refine (specDeepAt_any _ (plainOf ms) m _ hD2.meths).mono ?_
  rintro e w3 ⟨hb3, v3, r3, rfl, f3, hres3, hrow3⟩
  have hD3 := hD2.below hb3
  have hB3 := hB2.trans (hb3.mono z2)
  have c3 := cell_below hb3 c2
  have z3 := hB3.size
  clear hD2 hB2 hb3 c2
  go_wp2_with fail
  refine (implDeepAt_any _ (plainOf ms) m _ hD3.meths (HT.out.below hB3)).mono ?_
  rintro e w4 ⟨hb4, v4, r4, rfl, f4, hres4, hrow4⟩
  obtain ⟨rfl, rfl⟩ := hres3.one hres4
  have hD4 := hD3.below hb4
  have hB4 := hB3.trans (hb4.mono z3)
  have c4 := cell_below hb4 c3
  have hrow3' := hrow3.below hb4
  have z4 := hB4.size
  clear hD3 hB3 hb4 c3 hrow3 hres3
  go_wp2_with fail
  refine (lmInts_same _ _ _ _ f3 _ hrow4 hrow3').mono ?_
  rintro e w5 ⟨rfl, hb5⟩
  have hD5 := hD4.below hb5
  have hB5 := hB4.trans (hb5.mono z4)
  have c5 := cell_below hb5 c4
  have hrowA := hrow4.below hb5
  have hrowB := hrow3'.below hb5
  have z5 := hB5.size
  clear hD4 hB4 hb5 c4 hrow3' hrow4
  cases r3
  · clear hres4
    go_wp2_with fail
    refine (lmInts_same _ _ _ _ f3 _ hrowA hrowB).mono ?_
    rintro e w6 ⟨rfl, hb6⟩
    have hB6 := hB5.trans (hb6.mono z5)
    clear hb6
    go_wp2
    go_ret
    exact ⟨rfl, hB6⟩
  obtain ⟨⟨hpk, hin, _⟩, _⟩ := res_right hres4
  rw [inR_true] at hin
  have hpl : (plainOf ms).length = ms.length := by simp [plainOf]
  rw [hpl] at hin
  obtain ⟨mn, rfl⟩ := Int.eq_ofNat_of_zero_le hin.1
  have hmn : mn < ms.length := by omega
  by_cases hl4 : ¬ ms.length < 4
  · have hl4z : (4 : Int) ≤ (ms.length : Int) := by omega
    clear hres4
    go_wp2_with fail
    refine (lmInts_same _ _ _ _ f3 _ hrowA hrowB).mono ?_
    rintro e w6 ⟨rfl, hb6⟩
    have hB6 := hB5.trans (hb6.mono z5)
    clear hb6
    go_wp2
    go_ret
    exact ⟨rfl, hB6⟩
  have hl3 : ms.length < 4 := by omega
  have hl3z : (ms.length : Int) < 4 := by omega
  have HRM : Hid (DeepRes (plainOf ms ++ [(0, 0, [])]) mn true f3) := res_more hpk (by omega) (by omega) hres4
  have HRL : Hid (DeepRes (plainOf ms ++ [(0, 0, [])]) (ms.length : Int) false []) := by have := res_last (plainOf ms); rw [hpl] at this; exact this
  have HMM : Hid (∀ n n', MostRes (plainOf ms) mn n → MostRes (plainOf ms ++ [(0, 0, [])]) mn n' → n' = n) := fun n n' h1 h2 => most_more hpk (by omega) (by omega) hres4 h1 h2
  obtain ⟨gV, cV', hvV⟩ := hD5.row.shape1 (by omega)
  cases hvV
  have HS : Hid (∀ m ∈ ms.map MM.tri, IsSlice m.2.2) := fun m hm => by
    obtain ⟨m', hm', rfl⟩ := List.mem_map.1 hm
    obtain ⟨a1, c1, e1⟩ := (hD5.row.ops m' hm').shape
    exact ⟨a1, _, c1, e1⟩
  have mk := MRow.made w5
  have hlt5' : w1.heap.size < w5.heap.size := World.block_lt_of_cell? _ _ c5
  have c5' := fun o => cell_below ((Below.refl _ _).alloc (Nat.le_refl _) o) c5
  have src := World.ownsRow.alloc hD5.row.row (.cells #[] 34)
  clear hres4 hl4 hpk hin hpl
  go_upto_region 9 with (first
    | (at_builtin; refine append_meths _ (by rfl) _ _ (by rfl) _ _ [] (by rfl) mk (ms.map MM.tri) HS.out ⟨gV, 0, none⟩ _ (by rw [List.length_map]; rfl) (World.ownsRow.cells src rfl) (by simp; omega) (by simp; omega) (by simp) ?_; intro g6 cp6 w6 hrow6 hg6 hB6 hlt6; simp only [List.length_nil, List.length_map, Nat.zero_add, List.nil_append] at hrow6)
    | (at_builtin; refine append_meths _ (by rfl) _ _ (by rfl) _ _ (ms.map MM.tri) (by first | rfl | (simp; rfl)) (World.ownsRow.alloc hrow6 _) [(0, 0, .slice none 0 0)] (by simp; exact ⟨_, _, _, rfl⟩) ⟨w6.heap.size, 0, none⟩ _ (by rfl) (World.news_of_block (Go.Deep.blk_alloc_new w6 _)) (by simp) (by simp; omega) (by have := hg6.size; simp at this; simp; omega) ?_; intro g7 cp7 w7 hrow7 hg7 hB7 hlt7; simp only [List.length_cons, List.length_nil, List.length_map, Nat.zero_add] at hrow7))
  have hb6 : Below w5.heap.size w5 w6 := ((Below.refl _ _).alloc (Nat.le_refl _) _).grown hg6 (by simp) (fun k e => by simp [Value.ownBlock] at e; omega)
  have hb7 : Below w5.heap.size w5 w7 := (hb6.alloc hb6.size _).grown hg7 (by have := hb6.size; simp; omega) (fun k e => by simp [Value.ownBlock] at e; omega)
  have hb8 := hb7.alloc hb7.size (.cells #[.slice (some ⟨g7, 0, none⟩) (ms.length + 1) cp7] 25)
  have hQ7 := more_meths hD5 hb7 hrow7
  have hQ8 := hQ7.below ((Below.refl w7.heap.size w7).alloc (Nat.le_refl _) (.cells #[.slice (some ⟨g7, 0, none⟩) (ms.length + 1) cp7] 25))
  have q8 := (pbox_new w7 (.slice (some ⟨g7, 0, none⟩) (ms.length + 1) cp7)).cell (i := 0) (by decide)
  have c8 := cell_below hb8 c5
  have hD8 := hD5.below hb8
  have hrow8 := hrowA.below hb8
  have hB8 := hB5.trans (hb8.mono z5)
  generalize w7.alloc (.cells #[.slice (some ⟨g7, 0, none⟩) (ms.length + 1) cp7] 25) = w8 at *
  have z8 := hB8.size
  clear hrow6 hrow7 hg6 hg7 hB6 hB7 hlt6 hlt7 hb6 hb7 hb8 hQ7 c5 c5' hB5 hD5 mk src HS hlt5' hrowA hrowB
  go_wp2_with fail
  refine (implDeepAt_any _ (plainOf ms ++ [(0, 0, [])]) _ _ hQ8 (HT.out.below hB8)).mono ?_
  rintro e w9 ⟨hb9, v9, r9, rfl, f9, hres9, hrow9⟩
  obtain ⟨rfl, rfl⟩ := HRM.out.one hres9
  have hQ9 := hQ8.below hb9
  have q9 := cell_below hb9 q8
  have c9 := cell_below hb9 c8
  have hD9 := hD8.below hb9
  have hrowA9 := hrow8.below hb9
  have hB9 := hB8.trans (hb9.mono z8)
  have z9 := hB9.size
  clear hb9 hQ8 q8 c8 hD8 hrow8 hB8 hres9 HRM
  go_wp2_with fail
  refine (implDeepAt_any _ (plainOf ms ++ [(0, 0, [])]) _ _ hQ9 (HT.out.below hB9)).mono ?_
  rintro e w10 ⟨hb10, v10, r10, rfl, f10, hres10, hrow10⟩
  obtain ⟨rfl, rfl⟩ := HRL.out.one hres10
  have hQ10 : MethsAt w10.drew _ _ := (hQ9.below hb10).below (Below.refl _ _).drew
  have q10 := cell_below hb10 q9
  have c10 := cell_below hb10 c9
  have hD10 : MethsAt w10.drew _ _ := (hD9.below hb10).meths.below (Below.refl _ _).drew
  have hrowA10 : IntRow _ w10.drew _ _ := (hrowA9.below hb10).below (Below.refl _ _).drew
  have hrowX10 : IntRow _ w10.drew _ _ := (hrow9.below hb10).below (Below.refl _ _).drew
  have hB10 := hB9.trans (hb10.mono z9)
  have hTd : TabAt w10.drew := (HT.out.below hB10).below (Below.refl _ _).drew
  have z10 := hB10.size
  clear hb10 hQ9 q9 c9 hD9 hrowA9 hrow9 hB9 hres10 HRL hrow10
  go_wp2_with fail
  have c10d : w10.drew.cell? ⟨w1.heap.size, 0, none⟩ = some (.slice (some ⟨gV, 0, none⟩) ms.length cV) := c10
  have q10d : w10.drew.cell? ⟨w7.heap.size, 0, none⟩ = some (.slice (some ⟨g7, 0, none⟩) (ms.length + 1) cp7) := q10
  clear z1 z2 z3 z4 z5 z8 z9 hm hc hl hlz hl3
  go_region_held3 (fun w' => w'.cell? ⟨w1.heap.size, 0, none⟩ = some (.slice (some ⟨gV, 0, none⟩) ms.length cV) ∧ w'.cell? ⟨w7.heap.size, 0, none⟩ = some (.slice (some ⟨g7, 0, none⟩) (ms.length + 1) cp7))
    (first | exact ⟨cM2, qM2⟩ | exact ⟨cM, qM⟩ | exact ⟨cI, qI⟩ | go_keep)
    ((first
      | (have hh := hbM1; clear hh; go_at_call 16; refine (implDeepMost_any _ (plainOf ms) _ _ hP1 hT1).mono ?_; rintro e wM2 ⟨hbM2, n2, rfl, hn2⟩; have cM2 := cell_below hbM2 cM; have qM2 := cell_below hbM2 qM; obtain rfl := HMM.out _ _ hn2 hn1)
      | (have hh := hbI; clear hh; go_at_call 16; refine (implDeepMost_any _ (plainOf ms ++ [(0, 0, [])]) _ _ hQI hTI).mono ?_; rintro e wM1 ⟨hbM1, n1, rfl, hn1⟩; have cM := cell_below hbM1 cI; have qM := cell_below hbM1 qI; have hP1 := hPI.below hbM1; have hT1 := hTI.below hbM1)
      | (go_at_call 14; refine (lmInts_same _ _ _ _ f3 _ hrowX10 hrowA10).mono ?_; rintro e wI ⟨rfl, hbI⟩; have cI := cell_below hbI c10d; have qI := cell_below hbI q10d; have hQI := hQ10.below hbI; have hPI := hD10.below hbI; have hTI := hTd.below hbI)))
  all_goals
    have hB11 : Below w.heap.size w wM2 := hB10.drew.trans ((hbI.mono z10).trans ((hbM1.mono (by have := hbI.size; simp at this; omega)).trans (hbM2.mono (by have := hbI.size; have := hbM1.size; simp at *; omega))))
    clear hbI hbM1 hbM2 hn1 hn2
    go_wp2
    go_ret
    exact ⟨rfl, hB11⟩

end Go.Proofs.YtehffhhiikahbaaDoor

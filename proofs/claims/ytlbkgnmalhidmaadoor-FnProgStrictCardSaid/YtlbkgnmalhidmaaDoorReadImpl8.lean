/-
  The program's ProgRead: whatever text comes in it returns; it is true just if the text is that of an ok program, and then it is that program; it writes to nothing that was there.
-/
import Derived.Test.YtlbkgnmalhidmaaDoorReadImpl7
import Derived.Test.YtlbkgnmalhidmaaDoorReadRunes
import Derived.Test.YtlbkgnmalhidmaaDoorTextImpl3
namespace Go.Proofs.YtlbkgnmalhidmaaDoor
open Go.RowKit

/-- what ProgRead tells -/
def ReadSaid (B : Nat) (w' : World) (T : ByteArray) (u : Value) (b : Bool) : Prop :=
  (b = true → ∃ ms : List MM, PRow B w' u ms ∧ ms.length ≤ 4 ∧ (∀ m ∈ ms, m.2.2.2.length ≤ 14) ∧ progOk (plainOf ms) = true ∧ textProg (plainOf ms) = T.toList) ∧
  (b = false → u = .slice none 0 0 ∧ ∀ ps, progOk ps = true → textProg ps ≠ T.toList)

def ReadEnd (B : Nat) (w' : World) (T : ByteArray) (e : Ending) : Prop := ∃ (u : Value) (b : Bool), e = .returned (.tuple #[.agg #[u], .bool b]) ∧ ReadSaid B w' T u b

/-- the text of an ok program is that of lines -/
theorem ok_valid {ps : List Meth} (h : progOk ps = true) {T : ByteArray} (ht : textProg ps = T.toList) {rs : List Int} (hr : (∀ c ∈ T.toList, c.toNat < 128) → rs = runes T.toList) : Valid (linesMs ps) rs ∧ gather (linesMs ps) = ps := by
  obtain ⟨h1, h2, h3⟩ := progOk_parts h
  have e : T.toList = textOf (linesMs ps) := by
    rw [← ht]
    unfold textProg
    rw [if_pos h, texts_lines h3]
  have hf : ∀ i ∈ linesMs ps, Fine i := by
    intro i hi
    obtain ⟨m, hm, hi⟩ := List.mem_flatMap.1 hi
    exact lines_fine (h3 m hm) i hi
  refine ⟨⟨hf, fun i l e' => ?_, ?_⟩, gather_lines h3⟩
  · cases ps with
    | nil => simp at h1
    | cons m ps => simp [linesMs, linesM] at e'; rw [← e'.1]
  · rw [hr (fun c hc => text_ascii hf c (by rw [← e]; exact hc)), e]

theorem ok_small {ms : List MM} (h : progOk (plainOf ms) = true) : ms.length ≤ 4 ∧ ∀ m ∈ ms, m.2.2.2.length ≤ 14 := by
  obtain ⟨h1, h2, h3⟩ := progOk_parts h
  refine ⟨by simpa [plainOf] using h2, fun m hm => ?_⟩
  have := (h3 (m.1, m.2.1, m.2.2.2) (by simp only [plainOf, List.mem_map]; exact ⟨m, hm, rfl⟩)).no
  exact this

theorem ok_len {ps : List Meth} (h : progOk ps = true) : (textProg ps).length ≤ 700 := by
  obtain ⟨h1, h2, h3⟩ := progOk_parts h
  unfold textProg
  rw [if_pos h]
  have := textMeths_le ps h3
  omega

theorem cell_new (W : World) (cs : Array Value) (t : TypeId) (i : Nat) : (W.alloc (.cells cs t)).drew.cell? ⟨W.heap.size, i, none⟩ = cs[i]? :=
  cell_of_row (W.alloc (.cells cs t)) W.heap.size i cs t _ (Go.Deep.blk_alloc_new W _)

theorem runes_at' (W : World) (rs : List Int) (hl : rs.length ≤ 700) (t : TypeId) (C : Nat) (hC : rs.length ≤ C) (X : Array Value) : RunesAt (W.alloc (.cells (runeCells rs ++ X) t)).drew (.slice (some ⟨W.heap.size, 0, none⟩) (runeCells rs).size C) rs := by
  have hs : (runeCells rs).size = rs.length := by simp [runeCells]
  refine ⟨some ⟨W.heap.size, 0, none⟩, C, by rw [hs], hC, hl, fun i hi => ⟨W.heap.size, 0, rfl, ?_⟩⟩
  rw [Nat.zero_add, cell_new, Array.getElem?_append_left (by omega)]
  simp [runeCells, hi]

/-- the row that []rune(text) makes -/
theorem runes_at (W : World) (rs : List Int) (hl : rs.length ≤ 700) (t e : TypeId) : RunesAt (W.alloc (.cells (runeCells rs ++ Array.replicate (grownCap W (runeCells rs).size 0 e - (runeCells rs).size) (.int .i32 0)) t)).drew (.slice (some ⟨W.heap.size, 0, none⟩) (runeCells rs).size (grownCap W (runeCells rs).size 0 e)) rs :=
  runes_at' W rs hl t _ (by have := grownCap_ge W (runeCells rs).size 0 e; have hs : (runeCells rs).size = rs.length := by simp [runeCells]
                            omega) _

set_option maxRecDepth 100000 in
set_option maxHeartbeats 2000000 in
theorem progRead_any (T : ByteArray) (w : World) (ht : TabW w) :
    Calls Tryd.prog 7 #[.string T] w fun e w' => Below w.heap.size w w' ∧ ReadEnd w.heap.size w' T e := by
  have HT : Hid (TabW w) := ht
  have hA : Below w.heap.size w (w.alloc (.cells #[.slice none 0 0] 26)) := (Below.refl _ _).alloc (Nat.le_refl _) _
  have q0 := pbox_new w (.slice none 0 0)
  have zA : (w.alloc (.cells #[.slice none 0 0] 26)).heap.size = w.heap.size + 1 := by simp
  clear ht
  by_cases hlen : (700 : Int) < (T.size : Int)
  · have HNo : Hid (∀ ps, progOk ps = true → textProg ps ≠ T.toList) := fun ps hp e => by
      have := ok_len hp
      rw [e, ByteArray.toList_eq, Array.length_toList] at this
      have : T.size ≤ 700 := this
      omega
    clear zA
    go_enter Tryd.func7, Tryd.ntmps7
    go_wp2
    refine bodyPost_ret (v := .tuple #[.agg #[.slice none 0 0], .bool false]) (by simp [results, Tryd.results7, go_sem]) rfl ?_
    exact ⟨hA, (.slice none 0 0), false, rfl, (fun h => by cases h), fun _ => ⟨rfl, HNo.out⟩⟩
  obtain ⟨rs, hrs, hrl, hra⟩ := runes_of T
  have HRA : Hid ((∀ c ∈ T.toList, c.toNat < 128) → rs = runes T.toList) := hra
  have hcv := fun w => run_runes_of_string (P := Tryd.prog) w 9 50 21 T Tryd.underlying9 Tryd.underlying50 Tryd.underlying21 (by rw [hrs]; simp [runeCells]; omega)
  rw [hrs] at hcv
  clear hra
  go_enter Tryd.func7, Tryd.ntmps7
  go_wp2_with fail
  have hRA := runes_at (w.alloc (.cells #[.slice none 0 0] 26)) rs (by omega) 21 21
  have hB2 : Below w.heap.size w ((w.alloc (.cells #[.slice none 0 0] 26)).alloc (.cells (runeCells rs ++ Array.replicate (grownCap (w.alloc (.cells #[.slice none 0 0] 26)) (runeCells rs).size 0 21 - (runeCells rs).size) (.int .i32 0)) 21)).drew := (hA.alloc (by omega) _).drew
  have q2 : ((w.alloc (.cells #[.slice none 0 0] 26)).alloc (.cells (runeCells rs ++ Array.replicate (grownCap (w.alloc (.cells #[.slice none 0 0] 26)) (runeCells rs).size 0 21 - (runeCells rs).size) (.int .i32 0)) 21)).drew.rowIs w.heap.size 26 1 (fun _ => .slice none 0 0) := q0.alloc _
  rw [zA] at hRA
  clear hcv hA q0
  generalize ((w.alloc (.cells #[.slice none 0 0] 26)).alloc (.cells (runeCells rs ++ Array.replicate (grownCap (w.alloc (.cells #[.slice none 0 0] 26)) (runeCells rs).size 0 21 - (runeCells rs).size) (.int .i32 0)) 21)).drew = W2 at *
  generalize grownCap (w.alloc (.cells #[.slice none 0 0] 26)) (runeCells rs).size 0 21 = C at *
  clear zA hrs
  have hsz2 := hB2.size
  refine (readMethods_any _ rs W2 hRA (HT.out.below hB2)).mono ?_
  rintro e w3 ⟨hb3, u, b, rfl, hyes, hno⟩
  have B3 := hB2.trans (hb3.mono hsz2)
  have q3 := row_below hb3 q2
  have hsz3 := B3.size
  have HV : Hid (∀ ps, progOk ps = true → textProg ps = T.toList → Valid (linesMs ps) rs ∧ gather (linesMs ps) = ps) := fun ps hp e => ok_valid hp e HRA.out
  clear hb3 q2 hRA
  cases b
  · obtain ⟨hu, hnv⟩ := hno rfl
    subst hu
    have HNo : Hid (∀ ps, progOk ps = true → textProg ps ≠ T.toList) := fun ps hp e => hnv _ (HV.out ps hp e).1
    have q4 : ∀ o, (w3.alloc o).rowIs w.heap.size 26 1 (fun _ => .slice none 0 0) := fun o => q3.alloc o
    have c4 := fun o => (q4 o).cell (i := 0) (by decide)
    have f4 := fun o => (q4 o).frozen 0
    have t7 := fun o => World.cell?_setCell_same (w3.alloc o) ⟨w.heap.size, 0, none⟩ (.slice none 0 0) (c4 o)
    have hb7 : ∀ o, Below w.heap.size w ((w3.alloc o).setCell ⟨w.heap.size, 0, none⟩ (.slice none 0 0)) := fun o => (B3.alloc hsz3 o).setCell (p := ⟨w.heap.size, 0, none⟩) (Nat.le_refl _) _
    clear hyes hno hnv
    go_wp2
    refine bodyPost_ret (v := .tuple #[.agg #[.slice none 0 0], .bool false]) (by simp [results, Tryd.results7, go_sem, t7]) rfl ?_
    exact ⟨hb7 _, (.slice none 0 0), false, rfl, (fun h => by cases h), fun _ => ⟨rfl, HNo.out⟩⟩
  obtain ⟨ms, hP, hml, hmo, hgat⟩ := hyes rfl
  have hP0 := hP.mono (show w.heap.size ≤ W2.heap.size from hsz2)
  have HGat : Hid (∀ ps, progOk ps = true → textProg ps = T.toList → plainOf ms = ps) := fun ps hp e => by
    obtain ⟨h1, h2⟩ := HV.out ps hp e
    rw [hgat _ h1, h2]
  obtain ⟨ap, cp, hvp⟩ := hP0.shape
  subst hvp
  have A4 : Below w3.heap.size w3 (w3.alloc (.cells #[.slice ap ms.length cp] 26)) := (Below.refl _ _).alloc (Nat.le_refl _) _
  have HP4 : Hid (PRow w.heap.size (w3.alloc (.cells #[.slice ap ms.length cp] 26)) (.slice ap ms.length cp) ms) := hP0.below A4
  have hM4 := HP4.out.meths (by unfold maxLen; omega) (fun m hm => by have := hmo m hm; unfold maxLen; omega)
  have q4 : (w3.alloc (.cells #[.slice ap ms.length cp] 26)).rowIs w.heap.size 26 1 (fun _ => .slice none 0 0) := q3.alloc _
  have p4 : (w3.alloc (.cells #[.slice ap ms.length cp] 26)).cell? ⟨w3.heap.size, 0, none⟩ = some (.slice ap ms.length cp) := by simp [go_sem]
  have B4 := B3.alloc hsz3 (.cells #[.slice ap ms.length cp] 26)
  have z4 := B4.size
  clear hyes hno hgat hP hP0 hml hmo q3 B3 HV
  go_wp2_with fail
  generalize w3.alloc (.cells #[.slice ap ms.length cp] 26) = w4 at *
  refine (implProgOk_any _ (plainOf ms) w4 hM4).mono ?_
  rintro e w5 ⟨rfl, hb5⟩
  have HP5 : Hid (PRow w.heap.size w5 (.slice ap ms.length cp) ms) := HP4.out.below hb5
  have hM5 := hM4.below hb5
  have q5 := row_below hb5 q4
  have p5 := cell_below hb5 p4
  have B5 := B4.trans (hb5.mono z4)
  have z5 := B5.size
  have c5 := q5.cell (i := 0) (by decide)
  have f5 := q5.frozen 0
  clear hb5 q4 p4 hM4 HP4 B4 z4
  cases hok : progOk (plainOf ms)
  · have HNo : Hid (∀ ps, progOk ps = true → textProg ps ≠ T.toList) := fun ps hp e => by
      have := HGat.out ps hp e
      rw [← this, hok] at hp
      cases hp
    have t7 := World.cell?_setCell_same w5 ⟨w.heap.size, 0, none⟩ (.slice none 0 0) c5
    have hb7 := B5.setCell (p := ⟨w.heap.size, 0, none⟩) (Nat.le_refl _) (.slice none 0 0)
    go_wp2
    refine bodyPost_ret (v := .tuple #[.agg #[.slice none 0 0], .bool false]) (by simp [results, Tryd.results7, go_sem, t7]) rfl ?_
    exact ⟨hb7, (.slice none 0 0), false, rfl, (fun h => by cases h), fun _ => ⟨rfl, HNo.out⟩⟩
  go_wp2_with fail
  refine (implProgText_any _ (plainOf ms) w5 hM5 (HT.out.below B5)).mono ?_
  rintro e w6 ⟨rfl, hb6⟩
  have HP6 : Hid (PRow w.heap.size w6 (.slice ap ms.length cp) ms) := HP5.out.below hb6
  have q6 := row_below hb6 q5
  have p6 := cell_below hb6 p5
  have B6 := B5.trans (hb6.mono z5)
  have c6 := q6.cell (i := 0) (by decide)
  have f6 := q6.frozen 0
  have HX : Hid ((bs (textProg (plainOf ms))).toList = textProg (plainOf ms)) := bs_list _
  clear hb6 q5 p5 hM5 HP5 B5 z5 c5 f5
  generalize bs (textProg (plainOf ms)) = X at *
  cases hq : (X.toList == T.toList)
  · have HNo : Hid (∀ ps, progOk ps = true → textProg ps ≠ T.toList) := fun ps hp e => by
      have h1 := HGat.out ps hp e
      rw [← h1, ← HX.out] at e
      rw [e] at hq
      simp at hq
    have t7 := World.cell?_setCell_same w6 ⟨w.heap.size, 0, none⟩ (.slice none 0 0) c6
    have hb7 := B6.setCell (p := ⟨w.heap.size, 0, none⟩) (Nat.le_refl _) (.slice none 0 0)
    go_wp2
    refine bodyPost_ret (v := .tuple #[.agg #[.slice none 0 0], .bool false]) (by simp [results, Tryd.results7, go_sem, t7]) rfl ?_
    exact ⟨hb7, (.slice none 0 0), false, rfl, (fun h => by cases h), fun _ => ⟨rfl, HNo.out⟩⟩
  · have HE : Hid (textProg (plainOf ms) = T.toList) := by show _ = _; rw [← HX.out]; simpa using hq
    have t7 := World.cell?_setCell_same w6 ⟨w.heap.size, 0, none⟩ (.slice ap ms.length cp) c6
    have hb7 := B6.setCell (p := ⟨w.heap.size, 0, none⟩) (Nat.le_refl _) (.slice ap ms.length cp)
    have HP7 : Hid (PRow w.heap.size (w6.setCell ⟨w.heap.size, 0, none⟩ (.slice ap ms.length cp)) (.slice ap ms.length cp) ms) := HP6.out.boxed q6 0 _
    have hsm := ok_small hok
    have HSM : Hid (ms.length ≤ 4 ∧ ∀ m ∈ ms, m.2.2.2.length ≤ 14) := hsm
    clear hsm
    go_wp2
    refine bodyPost_ret (v := .tuple #[.agg #[.slice ap ms.length cp], .bool true]) (by simp [results, Tryd.results7, go_sem, t7]) rfl ?_
    exact ⟨hb7, (.slice ap ms.length cp), true, rfl, (fun _ => ⟨ms, HP7.out, HSM.out.1, HSM.out.2, hok, HE.out⟩), fun h => by cases h⟩

end Go.Proofs.YtlbkgnmalhidmaaDoor

/-
  The model's ProgRead, walked.
-/
import Derived.Test.YtlbkgnmalhidmaaDoorSRead5A
import Derived.Test.YtlbkgnmalhidmaaDoorSRead5B
namespace Go.Proofs.YtlbkgnmalhidmaaDoor
open Go.RowKit

set_option maxRecDepth 100000 in
set_option maxHeartbeats 40000000 in
theorem specProgRead_any (T : ByteArray) (hT : T.size ≤ 1048576) (w : World) :
    Calls Tryd.prog 6 #[.string T] w fun e w' => Below w.heap.size w w' ∧ ReadEnd w.heap.size w' T e := by
  have hA : Below w.heap.size w ((w.alloc (.cells #[.slice none 0 0] 26)).alloc (.cells #[.slice none 0 0] 26)) := ((Below.refl _ _).alloc (Nat.le_refl _) _).alloc (by simp) _
  have q0 : ((w.alloc (.cells #[.slice none 0 0] 26)).alloc (.cells #[.slice none 0 0] 26)).rowIs w.heap.size 26 1 (fun _ => .slice none 0 0) := (pbox_new w (.slice none 0 0)).alloc _
  have q1 : ((w.alloc (.cells #[.slice none 0 0] 26)).alloc (.cells #[.slice none 0 0] 26)).rowIs (w.heap.size + 1) 26 1 (fun _ => .slice none 0 0) := by
    have := pbox_new (w.alloc (.cells #[.slice none 0 0] 26)) (.slice none 0 0)
    simpa using this
  go_enter Tryd.func6, Tryd.ntmps6
  go_wp2_with fail
  generalize (w.alloc (.cells #[.slice none 0 0] 26)).alloc (.cells #[.slice none 0 0] 26) = W at *
  refine (l1Split_any T 10 hT W).mono ?_
  rintro e w1 ⟨hb1, vL, lines, rfl, hrow, hcut⟩
  have hs1 := hA.size
  have B1 := hA.trans (hb1.mono hs1)
  have z0 := row_below hb1 q0
  have z1 := row_below hb1 q1
  have hlin := hrow.mono hs1
  have HCut : Hid (lines.map ByteArray.toList = cutS 10 [] T.toList) := hcut
  have HSm := split_small hcut
  have HSM : Hid (∀ s ∈ lines, s.size ≤ T.size) := HSm.2
  have hl1 := HSm.1.1
  have hl2 := HSm.1.2
  obtain ⟨gL, cL, hvL, hgL, _⟩ := hrow.at hl1
  subst hvL
  clear HSm hcut hrow hb1 q0 q1 hA
  have c0 := z0.cell (i := 0) (by decide)
  have f0 := z0.frozen 0
  have c1 := z1.cell (i := 0) (by decide)
  by_cases hlen : (700 : Int) < (T.size : Int)
  · have HNo : Hid (∀ ps, progOk ps = true → textProg ps ≠ T.toList) := fun ps hp e => by
      have := ok_len hp
      rw [e, ByteArray.toList_eq, Array.length_toList] at this
      have : T.size ≤ 700 := this
      omega
    have t7 := World.cell?_setCell_same w1 ⟨w.heap.size, 0, none⟩ (.slice none 0 0) c0
    have hb7 := B1.setCell (p := ⟨w.heap.size, 0, none⟩) (Nat.le_refl _) (.slice none 0 0)
    go_wp2
    refine bodyPost_ret (v := .tuple #[.agg #[.slice none 0 0], .bool false]) (by simp [results, Tryd.results6, go_sem, t7]) rfl ?_
    exact ⟨hb7, (.slice none 0 0), false, rfl, (fun h => by cases h), fun _ => ⟨rfl, HNo.out⟩⟩
  have hsp : SP w w1 T lines (.slice (some ⟨gL, 0, none⟩) lines.length cL) (.slice none 0 0) [] 0 := ⟨PRow.nil _ _, hlin, z1, z0, B1, by simp, by simp, fun items _ _ _ => ⟨Nat.zero_le _, rfl, .inl rfl⟩⟩
  clear z0 z1 c0 c1 f0 hlin B1
  go_wp2
  go_loopg [6] lines.length (fun d i wr => ∃ (k : Nat) (u : Value) (ms : List MM), k + 1 ≤ lines.length ∧ d = lines.length - k ∧ i = .int .i64 k ∧ SP w wr T lines (.slice (some ⟨gL, 0, none⟩) lines.length cL) u ms k)
  case atStart => exact ⟨0, _, [], by omega, rfl, rfl, hsp⟩
  case round =>
    obtain ⟨k, u, ms, hk, rfl, rfl, hSP⟩ := hrel
    have HSP : Hid (SP w wr T lines (.slice (some ⟨gL, 0, none⟩) lines.length cL) u ms k) := hSP
    obtain ⟨ap, cp, hvp⟩ := hSP.row.shape
    subst hvp
    have hb := hSP.bel
    have hsz := hb.size
    have p0 := hSP.box.cell (i := 0) (by decide)
    have pf := hSP.box.frozen 0
    have r0 := hSP.res.cell (i := 0) (by decide)
    have rf := hSP.res.frozen 0
    have hkf : ms.length ≤ k := hSP.few
    have HOL : Hid (∀ m ∈ ms, m.2.2.2.length ≤ k) := hSP.ops
    clear hsp hSP
    have hwk : IntKind.i64.wrap ((k : Int) + 1) = (k : Int) + 1 := by rw [IntKind.wrap_i64]; omega
    by_cases hlt : k + 1 < lines.length
    · have hlt' : (k : Int) + 1 < (lines.length : Int) := by omega
      have hkz : (k : Int) < (lines.length : Int) := by omega
      obtain ⟨gL', cL', hvL', _, hat⟩ := HSP.out.lin.at hl1
      cases hvL'
      have cl := hat k (by omega)
      have HSz : Hid ((lines[k]'(by omega)).size ≤ 1048576) := by have := HSM.out (lines[k]'(by omega)) (List.getElem_mem _); show _ ≤ _; omega
      clear hat
      go_wp2_with fail
      refine (l1Split_any _ 32 HSz.out wr).mono ?_
      rintro e w2 ⟨hb2, vW, ws, rfl, hrw, hcw⟩
      have HCW : Hid (ws.map ByteArray.toList = cutS 32 [] (lines[k]'(by omega)).toList) := hcw
      have hsm := split_small hcw
      have hw1 := hsm.1.1
      have HWs : Hid (∀ s ∈ ws, s.size ≤ 2000000) := fun s hs => by have := hsm.2 s hs; have := HSz.out; omega
      have hw2 : ws.length ≤ 2000000 := by have := hsm.1.2; have := HSz.out; omega
      obtain ⟨gw, cw, hvW, hgw, hatw⟩ := hrw.at hw1
      subst hvW
      have HSP2 : Hid (SP w w2 T lines (.slice (some ⟨gL, 0, none⟩) lines.length cL) (.slice ap ms.length cp) ms k) := ⟨HSP.out.row.below hb2, HSP.out.lin.below hb2, row_below hb2 HSP.out.box, row_below hb2 HSP.out.res, hb.trans (hb2.mono hsz), HSP.out.few, HSP.out.ops, HSP.out.far⟩
      have HRW : Hid (StrRow wr.heap.size w2 (.slice (some ⟨gw, 0, none⟩) ws.length cw) ws) := hrw
      have p2 := cell_below hb2 p0
      have B2 := hb.trans (hb2.mono hsz)
      have s2 := B2.size
      have hw0 : 0 < ws.length := hw1
      have e0 := hatw 0 hw0
      have HAt : Hid (StrsAt w2 gw ws) := hatw
      clear hsm hcw hrw hb2 p0 pf r0 rf hb cl hatw
      by_cases hA0 : ws[0].toList = methW ∧ ws.length = 3
      · obtain ⟨hA1, hA3⟩ := hA0
        have n1 : 1 < ws.length := by omega
        have n2 : 2 < ws.length := by omega
        have e1 := HAt.out 1 n1
        have e2 := HAt.out 2 n2
        have hA1' : (ws[0].toList == [109, 101, 116, 104, 111, 100]) = true := by rw [hA1]; rfl
        have hA3' : ((ws.length : Int) == 3) = true := by rw [beq_iff_eq]; omega
        have h1 : (1 : Int) < (ws.length : Int) := by omega
        have h2 : (2 : Int) < (ws.length : Int) := by omega
        have z1 : ws[1].size ≤ 2000000 := HWs.out _ (List.getElem_mem n1)
        have z2 : ws[2].size ≤ 2000000 := HWs.out _ (List.getElem_mem n2)
        have HLn : Hid (specLine (plainOf ms) (ws.map ByteArray.toList) (plainOf ms ++ [(numS 0 ws[1].toList, numS 0 ws[2].toList, [])])) := .inl ⟨by simp [hw0, hA1], by simp [hA3], by simp [n1, n2]⟩
        clear hA1 hA3
        generalize ws[0] = S0 at *
        generalize hS1 : ws[1] = S1 at *
        generalize hS2 : ws[2] = S2 at *
        have HS1 : Hid (ws[1] = S1) := hS1
        have HS2 : Hid (ws[2] = S2) := hS2
        clear hS1 hS2
        go_wp2_with fail
        refine region11 w w2 wr T lines ws gL cL gw cw cp k ap ms S1 S2 HSP2 HRW p2 s2 h1 h2 e1 e2 z1 z2 (by omega) _ _ _ _ _ _ _ _ _ _ _ _ _ _ _ _ _ _ _ _ _ _ _ _ _ _ _ _ _ _ _ _ _ _ _ _ _ _ _ _ _ _ _ _ _ _ _ _ _ _ _ _ _ _ _ _ _ _ _ _ _ _ _ _ _ _ _ _ _ _ _ _ _ _ _ _ _ _ _ _ _ _ _ _ _ ?_
        intro g5 cp5 w5 v41 v42 v43 v44 v45 v46 v47 v48 v49 v50 v51 v52 v53 v54 v55 hrow5 hg5 hR0 hR1 hR2
        have HST : Hid (SP w (w5.setCell ⟨w.heap.size + 1, 0, none⟩ (.slice (some ⟨g5, 0, none⟩) (ms.length + 1) cp5)) T lines (.slice (some ⟨gL, 0, none⟩) lines.length cL) (.slice (some ⟨g5, 0, none⟩) (ms.length + 1) cp5) (ms ++ [(numS 0 S1.toList, numS 0 S2.toList, .slice (some ⟨w2.heap.size, 0, none⟩) 0 0, [])]) (k + 1)) :=
          SP.meth HSP2.out hlt HCut.out HCW.out HLn.out (by simpa using hrow5) hg5 hR0 hR1 hR2
        clear hrow5 hg5 hR0 hR1 hR2
        go_wp2
        go_roundg (lines.length - (k + 1))
        case measure => omega
        case rel => exact ⟨k + 1, _, _, by omega, rfl, by go_num, HST.out⟩
      · have HNA : Hid (¬ ((ws.map ByteArray.toList).getD 0 [] = methW ∧ (ws.map ByteArray.toList).length = 3)) := fun h => hA0 ⟨by simpa [hw0] using h.1, by simpa using h.2⟩
        have hcon : (ws[0].toList == [109, 101, 116, 104, 111, 100]) = false ∨ ((ws[0].toList == [109, 101, 116, 104, 111, 100]) = true ∧ ((ws.length : Int) == 3) = false) := by
          cases hq : (ws[0].toList == [109, 101, 116, 104, 111, 100])
          · exact .inl rfl
          · refine .inr ⟨rfl, ?_⟩
            rw [beq_eq_false_iff_ne]
            intro h3
            exact hA0 ⟨by simpa [methW] using hq, by omega⟩
        clear hA0
        by_cases hz : ms.length = 0
        · have hz' : ¬ (0 < (ms.length : Int)) := by omega
          have HZ : Hid (ms = []) := List.length_eq_zero_iff.1 hz
          have HST : Hid (SP w w2 T lines (.slice (some ⟨gL, 0, none⟩) lines.length cL) (.slice ap ms.length cp) ms (k + 1)) := HSP2.out.step hlt HCut.out HCW.out (.inr (.inl ⟨HNA.out, by rw [HZ.out]; rfl, by rw [HZ.out]; rfl⟩)) HSP2.out.row HSP2.out.lin HSP2.out.box HSP2.out.res HSP2.out.bel (by omega) (fun m hm => by have := HOL.out m hm; omega)
          clear hz
          rcases hcon with hc1 | ⟨hc1, hc2⟩
          all_goals
            go_wp2
            go_roundg (lines.length - (k + 1))
            case measure => omega
            case rel => exact ⟨k + 1, _, _, by omega, rfl, by go_num, HST.out⟩
        · obtain ⟨gm, cm, hvm⟩ := HSP2.out.row.shape1 (by omega)
          cases hvm
          have hz' : 0 < (ms.length : Int) := by omega
          obtain ⟨n, hn⟩ : ∃ n, ms.length = n + 1 := ⟨ms.length - 1, by omega⟩
          have HNn : Hid (ms.length = n + 1) := hn
          have hnl : n < ms.length := by omega
          have hnz : (n : Int) < (ms.length : Int) := by omega
          have hnz0 : ¬ ((n : Int) < 0) := by omega
          have hwn : IntKind.i64.wrap ((ms.length : Int) - 1) = (n : Int) := by rw [IntKind.wrap_i64]; omega
          have hol : ms[n].2.2.2.length ≤ k := HOL.out _ (List.getElem_mem hnl)
          have hop := HSP2.out.row.ops _ (List.getElem_mem hnl)
          obtain ⟨ao, co, hvo⟩ := hop.shape
          have HVO : Hid (ms[n].2.2.1 = .slice ao ms[n].2.2.2.length co) := hvo
          have hcell0 := (MRow.cell HSP2.out.row.row n (by simpa using hnl)).2.2
          have hcell : w2.cell? ⟨gm, n * 3 + 2, none⟩ = some (.slice ao ms[n].2.2.2.length co) := by
            rw [PRow.ofMap hnl] at hcell0
            rw [← hvo]
            exact hcell0
          have hB2 : ∀ w3 : World, Below w2.drew.heap.size w2.drew w3 → Below w2.heap.size w2 w3 := fun w3 h => ((Below.refl _ _).drew).trans h
          have HAtd : Hid (StrsAt w2.drew gw ws) := HAt.out.below ((Below.refl _ _).drew)
          have HC3 : Hid (∀ w3 : World, Below w2.drew.heap.size w2.drew w3 → (w3.cell? ⟨w.heap.size + 1, 0, none⟩ = some (.slice (some ⟨gm, 0, none⟩) ms.length cp) ∧ w3.cell? ⟨gm, n * 3 + 2, none⟩ = some (.slice ao ms[n].2.2.2.length co)) ∧ ∀ o, ((w3.alloc o).cell? ⟨w.heap.size + 1, 0, none⟩ = some (.slice (some ⟨gm, 0, none⟩) ms.length cp) ∧ (w3.alloc o).cell? ⟨gm, n * 3 + 2, none⟩ = some (.slice ao ms[n].2.2.2.length co))) := fun w3 h3 =>
            ⟨⟨cell_below (hB2 w3 h3) p2, cell_below (hB2 w3 h3) hcell⟩, fun o => ⟨cell_below ((hB2 w3 h3).alloc (hB2 w3 h3).size o) p2, cell_below ((hB2 w3 h3).alloc (hB2 w3 h3).size o) hcell⟩⟩
          have HOR : Hid (∀ (w3 : World) o, Below w2.drew.heap.size w2.drew w3 → OpsRow w.heap.size (w3.alloc o) (.slice ao ms[n].2.2.2.length co) ms[n].2.2.2) := fun w3 o h3 => by
            have := (HSP2.out.row.below ((hB2 w3 h3).alloc (hB2 w3 h3).size o)).ops _ (List.getElem_mem hnl)
            rwa [hvo] at this
          have HNW : Hid (∀ (w3 : World) (q : Nat) (a : Int), ∀ j u, (flat [((q : Int), a)])[j]? = some u → (w3.alloc (.cells #[.int .i64 q, .int .i64 a] 47)).cell? ((⟨w3.heap.size, 0, none⟩ : Addr).add j) = some u) := fun w3 q a => World.news_of_block (w := w3.alloc (.cells #[.int .i64 q, .int .i64 a] 47)) (Go.Deep.blk_alloc_new w3 _)
          have HLn : Hid (∀ (q : Nat) (a : Int), ms[n].2.2.2.length + [((q : Int), a)].length ≤ 1000) := fun q a => by simp; omega
          have HBn : Hid (∀ (w3 : World) o, Below w2.drew.heap.size w2.drew w3 → w.heap.size ≤ (w3.alloc o).heap.size) := fun w3 o h3 => by have := (hB2 w3 h3).size; simp; omega
          have HAF : Hid (∀ (w3 w5 : World) o, Below w2.drew.heap.size w2.drew w3 → (w3.alloc o).grownBy w5 (Value.slice ao ms[n].2.2.2.length co).ownBlock → (w5.rowIs (w.heap.size + 1) 26 1 (fun _ => .slice (some ⟨gm, 0, none⟩) ms.length cp) ∧ w5.rowIs w.heap.size 26 1 (fun _ => .slice none 0 0)) ∧ StrRow w.heap.size w5 (.slice (some ⟨gL, 0, none⟩) lines.length cL) lines ∧ w5.cell? ⟨gm, n * 3 + 2, none⟩ = some (.slice ao ms[n].2.2.2.length co) ∧ w5.frozen? ⟨gm, n * 3 + 2, none⟩ = false) := fun w3 w5 o h3 hg5 => by
            have hBB := (hB2 w3 h3).alloc (hB2 w3 h3).size o
            have hP := HSP2.out.row.below hBB
            have hO := HOR.out w3 o h3
            have hm5 : MRow w.heap.size w5 (.slice (some ⟨gm, 0, none⟩) ms.length cp) (ms.map MM.tri) := hP.row.kept hg5 (fun g e hk => mrow_ne hP.row hO g hk e)
            have hc5 := (MRow.cell hm5 n (by simpa using hnl)).2.2
            rw [PRow.ofMap hnl] at hc5
            have b0 := row_below hBB HSP2.out.box
            have b1 := row_below hBB HSP2.out.res
            exact ⟨⟨row_kept b0 hg5 (fun e => row_ne_ops b0 hO (by decide) e.symm), row_kept b1 hg5 (fun e => row_ne_ops b1 hO (by decide) e.symm)⟩, (HSP2.out.lin.below hBB).kept hg5 (fun g e e' => str_ne_ops (HSP2.out.lin.below hBB) hO g e' e), by rw [← HVO.out]; exact hc5, hm5.frozen _⟩
          have HGM : Hid (w.heap.size ≠ gm ∧ w.heap.size + 1 ≠ gm) := ⟨fun e => row_ne_meths HSP2.out.res HSP2.out.row.row (by decide) (by rw [e]; rfl), fun e => row_ne_meths HSP2.out.box HSP2.out.row.row (by decide) (by rw [e]; rfl)⟩
          have HX : Hid (ms[n].2.2.2.length ≤ k) := hol
          clear hn hz hcell0 hvo hop hol
          generalize hL : ms[n].2.2.2 = L at *
          have HL : Hid (ms[n].2.2.2 = L) := hL
          clear hL
          generalize ws[0] = S0 at *
          rcases hcon with hc1 | ⟨hc1, hc2⟩
          all_goals
            go_wp2_with fail
            refine region13 w w2 lines ws gL cL gw cw cp n gm ao co ms L hw1 hw2 HWs p2 hnz hwn HAtd hcell HC3 HOR HNW HLn HBn HAF _ _ _ _ _ _ _ _ _ _ _ _ _ _ _ _ _ _ _ _ _ _ _ _ _ _ _ _ _ _ _ _ _ _ _ _ _ _ _ _ _ _ _ _ _ _ _ _ _ _ _ _ _ _ _ _ _ _ _ _ _ _ _ _ _ _ _ _ _ _ _ _ _ _ _ _ _ _ _ _ _ _ _ _ ?_
            intro q a g5 cp5 w3 w5 v59 v60 v61 v62 v63 v64 v65 v66 v67 v68 v69 v70 v71 v72 v73 v74 v75 H3 HK3 hrow5 hg5 hat5 hR0 hR1 hR2
            have HST : Hid (SP w (w5.setCell ⟨gm, n * 3 + 2, none⟩ (.slice (some ⟨g5, 0, none⟩) (L.length + 1) cp5)) T lines (.slice (some ⟨gL, 0, none⟩) lines.length cL) (.slice (some ⟨gm, 0, none⟩) ms.length cp) (ms.set n (ms[n].1, ms[n].2.1, .slice (some ⟨g5, 0, none⟩) (L.length + 1) cp5, L ++ [((q : Int), a)])) (k + 1)) :=
              SP.op HSP2.out hlt HCut.out HCW.out hw0 HNA.out HNn.out HL.out HVO.out (hB2 w3 H3) HK3 hrow5 hg5 hat5 (HOR.out w3 _ H3) hR0 hR1 hR2
            clear hrow5 hg5 hat5 hR0 hR1 hR2 HOR HNW HLn HBn HAF HC3 HAtd HGM HX H3 HK3
            go_wp2
            go_roundg (lines.length - (k + 1))
            case measure => omega
            case rel => exact ⟨k + 1, _, _, by omega, rfl, by go_num, HST.out⟩
    · have hlt' : ¬ ((k : Int) + 1 < (lines.length : Int)) := by omega
      have HK : Hid (k + 1 = lines.length) := by show _ = _; omega
      clear hlt
      have HG : Hid (∀ ps, progOk ps = true → textProg ps = T.toList → plainOf ms = ps) := fun ps hp e => by
        obtain ⟨hv, hg⟩ := ok_valid (rs := runes T.toList) hp e (fun _ => rfl)
        obtain ⟨h1, h2, h3⟩ := progOk_parts hp
        have e2 : T.toList = textOf (linesMs ps) := by
          rw [← e]; unfold textProg; rw [if_pos hp, texts_lines h3]
        have hF := HSP.out.far _ hv.fine hv.first e2
        have hc := HCut.out
        rw [e2, cut_text hv.fine] at hc
        have hlen := congrArg List.length hc
        simp at hlen
        have := HK.out
        rw [hF.gat, List.take_of_length_le (by omega), hg]
      cases hem : (T.toList == [])
      case true =>
        have HNo : Hid (∀ ps, progOk ps = true → textProg ps ≠ T.toList) := fun ps hp e => by
          have := textProg_some hp
          rw [e] at this
          exact this (by simpa using hem)
        have t7 := World.cell?_setCell_same wr ⟨w.heap.size, 0, none⟩ (.slice none 0 0) r0
        have hb7 := hb.setCell (p := ⟨w.heap.size, 0, none⟩) (Nat.le_refl _) (.slice none 0 0)
        go_wp2
        refine bodyPost_ret (v := .tuple #[.agg #[.slice none 0 0], .bool false]) (by simp [results, Tryd.results6, go_sem, t7]) rfl ?_
        exact ⟨hb7, (.slice none 0 0), false, rfl, (fun h => by cases h), fun _ => ⟨rfl, HNo.out⟩⟩
      have hM := HSP.out.row.meths (by unfold maxLen; omega) (fun m hm => by have := HOL.out m hm; unfold maxLen; omega)
      go_wp2_with fail
      refine (specProgText_any _ (plainOf ms) wr hM).mono ?_
      rintro e w6 ⟨rfl, hb6⟩
      have HP6 : Hid (PRow w.heap.size w6 (.slice ap ms.length cp) ms) := HSP.out.row.below hb6
      have q6 := row_below hb6 HSP.out.res
      have p6 := cell_below hb6 p0
      have B6 := hb.trans (hb6.mono hsz)
      have c6 := q6.cell (i := 0) (by decide)
      have f6 := q6.frozen 0
      have HX : Hid ((bs (textProg (plainOf ms))).toList = textProg (plainOf ms)) := bs_list _
      clear hb6 p0 pf r0 rf hb hM
      generalize bs (textProg (plainOf ms)) = X at *
      cases hq : (X.toList == T.toList)
      · have HNo : Hid (∀ ps, progOk ps = true → textProg ps ≠ T.toList) := fun ps hp e => by
          have h1 := HG.out ps hp e
          rw [← h1, ← HX.out] at e
          rw [e] at hq
          simp at hq
        have t7 := World.cell?_setCell_same w6 ⟨w.heap.size, 0, none⟩ (.slice none 0 0) c6
        have hb7 := B6.setCell (p := ⟨w.heap.size, 0, none⟩) (Nat.le_refl _) (.slice none 0 0)
        go_wp2
        refine bodyPost_ret (v := .tuple #[.agg #[.slice none 0 0], .bool false]) (by simp [results, Tryd.results6, go_sem, t7]) rfl ?_
        exact ⟨hb7, (.slice none 0 0), false, rfl, (fun h => by cases h), fun _ => ⟨rfl, HNo.out⟩⟩
      · have HE : Hid (textProg (plainOf ms) = T.toList) := by show _ = _; rw [← HX.out]; simpa using hq
        have hok : progOk (plainOf ms) = true := by
          cases h : progOk (plainOf ms)
          · have := textProg_none h
            rw [HE.out] at this
            rw [this] at hem
            simp at hem
          · rfl
        have HOk : Hid (progOk (plainOf ms) = true ∧ ms.length ≤ 4 ∧ ∀ m ∈ ms, m.2.2.2.length ≤ 14) := ⟨hok, ok_small hok⟩
        have t7 := World.cell?_setCell_same w6 ⟨w.heap.size, 0, none⟩ (.slice ap ms.length cp) c6
        have hb7 := B6.setCell (p := ⟨w.heap.size, 0, none⟩) (Nat.le_refl _) (.slice ap ms.length cp)
        have HP7 : Hid (PRow w.heap.size (w6.setCell ⟨w.heap.size, 0, none⟩ (.slice ap ms.length cp)) (.slice ap ms.length cp) ms) := HP6.out.boxed q6 0 _
        clear hok
        go_wp2
        refine bodyPost_ret (v := .tuple #[.agg #[.slice ap ms.length cp], .bool true]) (by simp [results, Tryd.results6, go_sem, t7]) rfl ?_
        exact ⟨hb7, (.slice ap ms.length cp), true, rfl, (fun _ => ⟨ms, HP7.out, HOk.out.2.1, HOk.out.2.2, HOk.out.1, HE.out⟩), fun h => by cases h⟩

end Go.Proofs.YtlbkgnmalhidmaaDoor

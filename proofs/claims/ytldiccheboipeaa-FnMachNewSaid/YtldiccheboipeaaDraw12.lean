/-
  What draws: l71Bent draws a program in which something is not as it was.
-/
import Derived.Test.YtldiccheboipeaaDraw11

namespace Go.Proofs.Ytldiccheboipeaa
open Go.RowKit
set_option maxRecDepth 100000 in
set_option maxHeartbeats 4000000 in
theorem l71Bent_any (w : World) (b : Nat) (a : Option Addr) (len cap p : Nat) (hr : Rd w b a len cap p) (hp : p + 10 ≤ 1000000) (B : Nat) (hbB : b < B) (vp : Value) (ms0 : List MM) (hsrc : PRow B w vp ms0) (hl2 : 2 ≤ ms0.length) (hl4 : ms0.length ≤ 4) (hmo : ∀ m ∈ ms0, mmOk m) :
    Calls Try.prog 84 #[.pointer (some ⟨b, 0, none⟩), .agg #[vp]] w fun e w' => ∃ (v : Value) (ms : List MM) (p' : Nat), e = .returned (.agg #[v]) ∧ PRow w.heap.size w' v ms ∧ ms.length ≤ 7 ∧ (∀ m ∈ ms, m.2.2.2.length ≤ 14) ∧ p ≤ p' ∧ p' ≤ p + 10 ∧ Rd w' b a len cap p' ∧ w.grownBy w' (some b) := by
  have hbw : b < w.heap.size := World.block_lt_of_cell? _ _ hr.s
  have hrB := hr.alloc (.cells #[vp] 25)
  have hszB : (w.alloc (.cells #[vp] 25)).heap.size = w.heap.size + 1 := by simp
  have hgB := grown_alloc (grown_refl w (some b)) (.cells #[vp] 25)
  have hsB := hsrc.kept (World.grownBy_alloc w (.cells #[vp] 25) none) (fun g e => by cases e)
  have pbB := pbox_new w vp
  have hP : PS (w.alloc (.cells #[vp] 25)) (((w.alloc (.cells #[vp] 25)).alloc (.cells #[.slice none 0 0] 25)).alloc (.cells #[.slice none 0 0] 25)) b a len cap p (w.heap.size + 1 + 1) (.slice none 0 0) [] (.slice none 0 0) [] := by
    refine ⟨(hrB.alloc _).alloc _, grown_alloc (grown_alloc (grown_refl _ _) _) _, World.ownsRow_nil _ _ _ _, ?_, ?_, PRow.nil _ _, ?_, ⟨p, hrB⟩⟩
    · have := pbox_new ((w.alloc (.cells #[vp] 25)).alloc (.cells #[.slice none 0 0] 25)) (.slice none 0 0)
      simpa using this
    · simp
    · exact (pbox_new (w.alloc (.cells #[vp] 25)) (.slice none 0 0)).alloc _
  obtain ⟨gS, cS, hvS⟩ := hsrc.shape1 (by omega)
  subst hvS
  have pc := pbB.cell (i := 0) (by decide)
  clear hsrc pbB
  go_enter Try.func84, Try.ntmps84
  go_wp2_with fail
  generalize (((w.alloc (.cells #[.slice (some ⟨gS, 0, none⟩) ms0.length cS] 25)).alloc (.cells #[.slice none 0 0] 25)).alloc (.cells #[.slice none 0 0] 25)) = W2 at hP ⊢
  generalize w.alloc (.cells #[.slice (some ⟨gS, 0, none⟩) ms0.length cS] 25) = W at *
  go_loopg [6] ms0.length (fun d i wr => ∃ (k : Nat) (v : Value) (ms : List MM), k ≤ ms0.length ∧ d = ms0.length - k ∧ i = .int .i64 k ∧ ms.length = k ∧ (∀ m ∈ ms, mmOk m) ∧ PS W wr b a len cap p (w.heap.size + 1 + 1) (.slice none 0 0) [] v ms)
  case atStart => exact ⟨0, _, [], Nat.zero_le _, rfl, rfl, rfl, by simp, hP⟩
  case round =>
    obtain ⟨k, v, ms, hk, rfl, rfl, HML, hmo', hPS⟩ := hrel
    have hml : Hid (ms.length = k) := HML
    clear HML
    have hm4 : ms.length ≤ 4 := by have := hml.out; omega
    have hszr := hPS.gr.size
    have hsr := hsB.low hPS.gr hbB
    have pcr := hPS.gr.cell pc (by simp; omega)
    have ob := hPS.c0
    have of := hPS.f0
    clear hP
    by_cases hlt : k < ms0.length
    · have hkz : (k : Int) < (ms0.length : Int) := by omega
      have hok := hsr.ops _ (List.getElem_mem hlt)
      have cs := hsr.row.cell k (by simpa using hlt)
      rw [PRow.ofMap hlt] at cs
      have hmk := hmo _ (List.getElem_mem hlt)
      generalize ms0[k] = m0 at hok cs hmk
      obtain ⟨A, T, vo, L⟩ := m0
      simp only [] at hok cs
      obtain ⟨d0, d1, d2⟩ := cs
      obtain ⟨hL2, hL14⟩ : 2 ≤ L.length ∧ L.length ≤ 14 := hmk
      obtain ⟨go, co, hvo⟩ := hok.shape1 (by omega)
      subst hvo
      obtain ⟨aV, cV, hvV⟩ := hPS.row.shape
      subst hvV
      have bm := box_new wr A T (.slice (some ⟨go, 0, none⟩) L.length co)
      have om := OpsRow.made (wr.alloc (.cells #[.int .i64 A, .int .i64 T, .slice (some ⟨go, 0, none⟩) L.length co] 83))
      have hok2 := World.ownsRow.alloc (World.ownsRow.alloc hok (.cells #[.int .i64 A, .int .i64 T, .slice (some ⟨go, 0, none⟩) L.length co] 83)) (.cells #[] 175)
      simp only [World.size_alloc] at om
      go_upto_region 7 with (at_builtin; refine append_ops _ (by rfl) _ _ (by rfl) _ _ [] (by rfl) om L go _ (by rfl) (World.ownsRow.cells hok2 rfl) (by omega) (by simp; omega) (by simp) ?_; intro g2 cp2 w2 hrow2 hg2 hB2 hlt2; have bm2 := row_kept (bm.alloc (.cells #[] 175)) hg2 (by simp [Value.ownBlock]); have x2 := bm2.cell (i := 2) (by decide); have y2 := bm2.frozen 2)
      simp only [List.length_nil, Nat.zero_add, List.nil_append] at hrow2
      have hBel : Below wr.heap.size wr (w2.setCell ⟨wr.heap.size, 2, none⟩ (.slice (some ⟨g2, 0, none⟩) L.length cp2)) :=
        ((((Below.refl _ _).alloc (Nat.le_refl _) _).alloc (by simp) _).grown hg2 (by simp; omega) (fun k e => by simp [Value.ownBlock] at e; omega)).setCell (Nat.le_refl _) _
      have hP3 := hPS.below hBel
      have hrow3 : OpsRow wr.heap.size (w2.setCell ⟨wr.heap.size, 2, none⟩ (.slice (some ⟨g2, 0, none⟩) L.length cp2)) (.slice (some ⟨g2, 0, none⟩) L.length cp2) L :=
        (hrow2.mono (Nat.le_succ _)).kept (grown_set w2 wr.heap.size 2 _) (fun q hq hk => by cases hq; exact row_ne bm2 hrow2 (by decide) hk)
      have bm3 := (bm2.set 2 (.slice (some ⟨g2, 0, none⟩) L.length cp2))
      generalize w2.setCell ⟨wr.heap.size, 2, none⟩ (.slice (some ⟨g2, 0, none⟩) L.length cp2) = w3 at *
      have e0 : w3.cell? ⟨wr.heap.size, 0, none⟩ = some (.int .i64 A) := bm3.cell (i := 0) (by decide)
      have e1 : w3.cell? ⟨wr.heap.size, 1, none⟩ = some (.int .i64 T) := bm3.cell (i := 1) (by decide)
      have e2 : w3.cell? ⟨wr.heap.size, 2, none⟩ = some (.slice (some ⟨g2, 0, none⟩) L.length cp2) := bm3.cell (i := 2) (by decide)
      have HD : Hid (∀ m ∈ ms, ∀ k, m.2.2.1.ownBlock = some k → k < wr.heap.size) := fun m hm k e => ((hPS.row.ops m hm).lt k e).2
      have o3 := hP3.c0
      have hsz3 := hP3.gr.size
      clear bm om hok hok2 hg2 bm2 x2 y2 hB2 hlt2 hrow2 hPS ob of hBel bm3 d0 d1 d2 pcr hsr
      go_wp2_with (at_builtin; refine append_meths _ (by rfl) _ _ (by rfl) W.heap.size _ (ms.map MM.tri) (by rfl) (World.ownsRow.alloc hP3.row.row _) [(A, T, .slice (some ⟨g2, 0, none⟩) L.length cp2)] (by simp; exact ⟨_, _, _, rfl⟩) ⟨w3.heap.size, 0, none⟩ _ (by rfl) (World.news_of_block (Go.Deep.blk_alloc_new w3 _)) (by simp) (by simp; omega) (by simp; omega) ?_; intro g5 cp5 w5 hrow5 hg5 hB5 hlt5; have hap := (hP3.alloc _).appended hg5; have q0 := hap.2.2.2.1.cell (i := 0) (by decide); have f0 := hap.2.2.2.1.frozen 0)
      simp only [List.length_map, List.length_cons, List.length_nil, Nat.zero_add] at hrow5
      have hPY := (hP3.alloc _).stored hg5 hrow5 (World.ownsRow.alloc (hrow3.mono hszr) _) (fun m hm j e e' => by have := HD.out m hm j e; have := (hrow3.lt j e').1; omega)
      have hmo2 : ∀ m ∈ ms ++ [((A, T, .slice (some ⟨g2, 0, none⟩) L.length cp2, L) : MM)], mmOk m := fun m hm => by
        rcases List.mem_append.1 hm with hm | hm
        · exact hmo' m hm
        · simp at hm; subst hm; exact ⟨hL2, hL14⟩
      clear hap q0 f0 hg5 hrow5 hB5 hlt5 hP3 HD hrow3 o3 e0 e1 e2
      go_wp2
      go_roundg (ms0.length - (k + 1))
      case measure => omega
      case rel => exact ⟨k + 1, _, _, by omega, rfl, by go_num, by have := hml.out; simp; omega, hmo2, hPY⟩
    · obtain rfl : k = ms0.length := by omega
      obtain ⟨gm, cm, hvm⟩ := hPS.row.shape1 (by have := hml.out; omega)
      subst hvm
      have hm2 : 2 ≤ ms.length := by have := hml.out; omega
      clear hml hsB hmo hl2 hl4 hsr pc hk hlt
      go_wp2_with fail
      refine (pick_any _ _ _ _ _ _ (ms.length : Int) hPS.rd (by omega) (by omega) (by omega)).mono ?_
      rintro e w6 ⟨x, rfl, hx0, hx1, hrd6, hg6⟩
      have hP6 := hPS.pick hrd6 hg6
      clear hPS hrd6 hg6 ob of pcr
      obtain ⟨k, rfl⟩ := Int.eq_ofNat_of_zero_le hx0
      have hk : k < ms.length := by omega
      have hok := hP6.row.ops _ (List.getElem_mem hk)
      have hmk := hmo' _ (List.getElem_mem hk)
      obtain ⟨gk, ck, hvk⟩ := hok.shape1 (by have := hmk.1; omega)
      obtain ⟨ln, hln⟩ : ∃ ln, ms[k].2.2.2.length = ln := ⟨_, rfl⟩
      rw [hln] at hvk
      have HV : Hid (ms[k].2.2.1 = .slice (some ⟨gk, 0, none⟩) ln ck) := hvk
      have HL : Hid (ms[k].2.2.2.length = ln) := hln
      have hL2 : 2 ≤ ln := by have := hmk.1; rw [hln] at this; exact this
      have hL14 : ln ≤ 14 := by have := hmk.2; rw [hln] at this; exact this
      have hkz : (k : Int) < (ms.length : Int) := by omega
      rw [hvk] at hok
      have hlc : ln ≤ ck := hok.room
      clear hvk hln hok hmk
      obtain ⟨t0, t1, ⟨z2, t2⟩, ⟨z3, t3⟩, t4, t5, t6, t7, ⟨z8, t8⟩, ⟨z9, t9⟩, t10, t11⟩ := hP6.read k hk HV.out HL.out 0 (by omega)
      go_wp2_with fail
      refine (pick_any _ _ _ _ _ _ (ln : Int) hP6.rd (by omega) (by omega) (by omega)).mono ?_
      rintro e w7 ⟨x, rfl, hx0, hx1, hrd7, hg7⟩
      have hP7 := hP6.pick hrd7 hg7
      clear hP6 hrd7 hg7 t0 t1 t2 t3 t4 t5 t6 t7 t8 t9 t10 t11
      obtain ⟨i, rfl⟩ := Int.eq_ofNat_of_zero_le hx0
      have hi : i < ln := by omega
      have hiz : (i : Int) < (ln : Int) := by omega
      have hick : i ≤ ck := by omega
      go_wp2_with fail
      refine (pick_any _ _ _ _ _ _ 6 hP7.rd (by omega) (by omega) (by omega)).mono ?_
      rintro e w8 ⟨x, rfl, hx0, hx1, hrd8, hg8⟩
      have hP8 := hP7.pick hrd8 hg8
      clear hP7 hrd8 hg8
      have hP8d := hP8.drew
      obtain ⟨t0, t1, ⟨z2, t2⟩, ⟨z3, t3⟩, t4, t5, t6, t7, ⟨z8, t8⟩, ⟨z9, t9⟩, t10, t11⟩ := hP8.read k hk HV.out HL.out i hi
      by_cases hx_0 : x = 0
      · subst hx_0
        go_wp2_with fail
        go_region_law ((go_simp; go_at_call 83; refine (pick_any _ _ _ _ _ _ 20 hP8d.rd (by omega) (by omega) (by omega)).mono ?_; rintro e w9 ⟨y, rfl, hy0, hy1, hrd9, hg9⟩; have hP9 := hP8d.pick hrd9 hg9; obtain ⟨s0, s1, ⟨z2, s2⟩, ⟨z3, s3⟩, s4, s5, s6, s7, ⟨z8, s8⟩, ⟨z9, s9⟩, s10, s11⟩ := hP9.read k hk HV.out HL.out i hi))
        all_goals
          obtain ⟨L', hL', hPF⟩ := hP9.opBoth k hk (by rw [HL.out]; exact HV.out) i (by rw [HL.out]; exact hi) y 0
          have hF7 : (ms.set k (ms[k].1, ms[k].2.1, ms[k].2.2.1, L')).length ≤ 7 := by simp; omega
          have hF14 : ∀ m ∈ ms.set k (ms[k].1, ms[k].2.1, ms[k].2.2.1, L'), m.2.2.2.length ≤ 14 := fun m hm => by
            rcases List.mem_or_eq_of_mem_set hm with hm | rfl
            · exact (hmo' m hm).2
            · have := HL.out; show L'.length ≤ 14; omega
          go_upto_region 25 with fail
          generalize (w9.setCell ⟨gk, i * 2, none⟩ (.int .i64 y)).setCell ⟨gk, i * 2 + 1, none⟩ (.int .i64 0) = wF at *
          clear s0 s1 s2 s3 s4 s5 s6 s7 s8 s9 s10 s11 hP9 hrd9 hg9 hP8 hP8d t0 t1 t2 t3 t4 t5 t6 t7 t8 t9 t10 t11
          have hFs := hPF.gr.size
          have c0 := hPF.c0
          have r0 := hPF.res.cell (i := 0) (by decide)
          have rf := hPF.res.frozen 0
          have hF := hPF.final
          rw [hszB] at hF r0 rf
          clear hPF
          go_wp2
          generalize wF.setCell ⟨w.heap.size + 1, 0, none⟩ (.slice (some ⟨gm, 0, none⟩) ms.length cm) = W3 at hF ⊢
          obtain ⟨h1, h2, h3, dF⟩ := hF
          exact bodyPost_ret (v := .agg #[(.slice (some ⟨gm, 0, none⟩) ms.length cm)]) (by simp [results, Try.results84, go_sem, dF]) rfl ⟨_, _, _, rfl, h1.mono (Nat.le_succ _), hF7, hF14, by omega, by omega, h2, grown_trans hgB h3⟩
      have ex_0 : (x == 0) = false := beq_eq_false_iff_ne.2 hx_0
      by_cases hx_1 : x = 1
      · subst hx_1
        go_wp2_with fail
        go_region_law ((go_simp; go_at_call 83; refine (pick_any _ _ _ _ _ _ 20 hP8d.rd (by omega) (by omega) (by omega)).mono ?_; rintro e w9 ⟨y, rfl, hy0, hy1, hrd9, hg9⟩; have hP9 := hP8d.pick hrd9 hg9; obtain ⟨s0, s1, ⟨z2, s2⟩, ⟨z3, s3⟩, s4, s5, s6, s7, ⟨z8, s8⟩, ⟨z9, s9⟩, s10, s11⟩ := hP9.read k hk HV.out HL.out i hi))
        all_goals
          obtain ⟨L', hL', hPF⟩ := hP9.opA k hk (by rw [HL.out]; exact HV.out) i (by rw [HL.out]; exact hi) (IntKind.i64.wrap (y - 1))
          have hF7 : (ms.set k (ms[k].1, ms[k].2.1, ms[k].2.2.1, L')).length ≤ 7 := by simp; omega
          have hF14 : ∀ m ∈ ms.set k (ms[k].1, ms[k].2.1, ms[k].2.2.1, L'), m.2.2.2.length ≤ 14 := fun m hm => by
            rcases List.mem_or_eq_of_mem_set hm with hm | rfl
            · exact (hmo' m hm).2
            · have := HL.out; show L'.length ≤ 14; omega
          go_upto_region 25 with fail
          generalize w9.setCell ⟨gk, i * 2 + 1, none⟩ (.int .i64 (IntKind.i64.wrap (y - 1))) = wF at *
          clear s0 s1 s2 s3 s4 s5 s6 s7 s8 s9 s10 s11 hP9 hrd9 hg9 hP8 hP8d t0 t1 t2 t3 t4 t5 t6 t7 t8 t9 t10 t11
          have hFs := hPF.gr.size
          have c0 := hPF.c0
          have r0 := hPF.res.cell (i := 0) (by decide)
          have rf := hPF.res.frozen 0
          have hF := hPF.final
          rw [hszB] at hF r0 rf
          clear hPF
          go_wp2
          generalize wF.setCell ⟨w.heap.size + 1, 0, none⟩ (.slice (some ⟨gm, 0, none⟩) ms.length cm) = W3 at hF ⊢
          obtain ⟨h1, h2, h3, dF⟩ := hF
          exact bodyPost_ret (v := .agg #[(.slice (some ⟨gm, 0, none⟩) ms.length cm)]) (by simp [results, Try.results84, go_sem, dF]) rfl ⟨_, _, _, rfl, h1.mono (Nat.le_succ _), hF7, hF14, by omega, by omega, h2, grown_trans hgB h3⟩
      have ex_1 : (x == 1) = false := beq_eq_false_iff_ne.2 hx_1
      by_cases hx_2 : x = 2
      · subst hx_2
        go_wp2_with fail
        go_region_law ((go_simp; go_at_call 83; refine (pick_any _ _ _ _ _ _ 7 hP8d.rd (by omega) (by omega) (by omega)).mono ?_; rintro e w9 ⟨y, rfl, hy0, hy1, hrd9, hg9⟩; have hP9 := hP8d.pick hrd9 hg9; obtain ⟨s0, s1, ⟨z2, s2⟩, ⟨z3, s3⟩, s4, s5, s6, s7, ⟨z8, s8⟩, ⟨z9, s9⟩, s10, s11⟩ := hP9.read k hk HV.out HL.out i hi))
        all_goals
          have hPF := hP9.mTemps rfl k hk (IntKind.i64.wrap (y - 1))
          have hF7 : (ms.set k (ms[k].1, IntKind.i64.wrap (y - 1), ms[k].2.2.1, ms[k].2.2.2)).length ≤ 7 := by simp; omega
          have hF14 : ∀ m ∈ ms.set k (ms[k].1, IntKind.i64.wrap (y - 1), ms[k].2.2.1, ms[k].2.2.2), m.2.2.2.length ≤ 14 := fun m hm => by
            rcases List.mem_or_eq_of_mem_set hm with hm | rfl
            · exact (hmo' m hm).2
            · have := HL.out; show ms[k].2.2.2.length ≤ 14; omega
          go_upto_region 25 with fail
          generalize w9.setCell ⟨gm, k * 3 + 1, none⟩ (.int .i64 (IntKind.i64.wrap (y - 1))) = wF at *
          clear s0 s1 s2 s3 s4 s5 s6 s7 s8 s9 s10 s11 hP9 hrd9 hg9 hP8 hP8d t0 t1 t2 t3 t4 t5 t6 t7 t8 t9 t10 t11
          have hFs := hPF.gr.size
          have c0 := hPF.c0
          have r0 := hPF.res.cell (i := 0) (by decide)
          have rf := hPF.res.frozen 0
          have hF := hPF.final
          rw [hszB] at hF r0 rf
          clear hPF
          go_wp2
          generalize wF.setCell ⟨w.heap.size + 1, 0, none⟩ (.slice (some ⟨gm, 0, none⟩) ms.length cm) = W3 at hF ⊢
          obtain ⟨h1, h2, h3, dF⟩ := hF
          exact bodyPost_ret (v := .agg #[(.slice (some ⟨gm, 0, none⟩) ms.length cm)]) (by simp [results, Try.results84, go_sem, dF]) rfl ⟨_, _, _, rfl, h1.mono (Nat.le_succ _), hF7, hF14, by omega, by omega, h2, grown_trans hgB h3⟩
      have ex_2 : (x == 2) = false := beq_eq_false_iff_ne.2 hx_2
      by_cases hx_3 : x = 3
      · subst hx_3
        go_wp2_with fail
        go_region_law ((go_simp; go_at_call 83; refine (pick_any _ _ _ _ _ _ 4 hP8d.rd (by omega) (by omega) (by omega)).mono ?_; rintro e w9 ⟨y, rfl, hy0, hy1, hrd9, hg9⟩; have hP9 := hP8d.pick hrd9 hg9; obtain ⟨s0, s1, ⟨z2, s2⟩, ⟨z3, s3⟩, s4, s5, s6, s7, ⟨z8, s8⟩, ⟨z9, s9⟩, s10, s11⟩ := hP9.read k hk HV.out HL.out i hi))
        all_goals
          have hPF := hP9.mArgs rfl k hk y
          have hF7 : (ms.set k (y, ms[k].2.1, ms[k].2.2.1, ms[k].2.2.2)).length ≤ 7 := by simp; omega
          have hF14 : ∀ m ∈ ms.set k (y, ms[k].2.1, ms[k].2.2.1, ms[k].2.2.2), m.2.2.2.length ≤ 14 := fun m hm => by
            rcases List.mem_or_eq_of_mem_set hm with hm | rfl
            · exact (hmo' m hm).2
            · have := HL.out; show ms[k].2.2.2.length ≤ 14; omega
          go_upto_region 25 with fail
          generalize w9.setCell ⟨gm, k * 3, none⟩ (.int .i64 y) = wF at *
          clear s0 s1 s2 s3 s4 s5 s6 s7 s8 s9 s10 s11 hP9 hrd9 hg9 hP8 hP8d t0 t1 t2 t3 t4 t5 t6 t7 t8 t9 t10 t11
          have hFs := hPF.gr.size
          have c0 := hPF.c0
          have r0 := hPF.res.cell (i := 0) (by decide)
          have rf := hPF.res.frozen 0
          have hF := hPF.final
          rw [hszB] at hF r0 rf
          clear hPF
          go_wp2
          generalize wF.setCell ⟨w.heap.size + 1, 0, none⟩ (.slice (some ⟨gm, 0, none⟩) ms.length cm) = W3 at hF ⊢
          obtain ⟨h1, h2, h3, dF⟩ := hF
          exact bodyPost_ret (v := .agg #[(.slice (some ⟨gm, 0, none⟩) ms.length cm)]) (by simp [results, Try.results84, go_sem, dF]) rfl ⟨_, _, _, rfl, h1.mono (Nat.le_succ _), hF7, hF14, by omega, by omega, h2, grown_trans hgB h3⟩
      have ex_3 : (x == 3) = false := beq_eq_false_iff_ne.2 hx_3
      by_cases hx_4 : x = 4
      · subst hx_4
        go_wp2_with fail
        go_region
        all_goals
          have hPF : PS W (w8.setCell ⟨gm, k * 3 + 2, none⟩ (.slice (some ⟨gk, 0, none⟩) i ck)).drew b a len cap (p + 1 + 1 + 1) (w.heap.size + 1 + 1) (.slice none 0 0) [] (.slice (some ⟨gm, 0, none⟩) ms.length cm) (ms.set k (ms[k].1, ms[k].2.1, .slice (some ⟨gk, 0, none⟩) i ck, ms[k].2.2.2.take i)) := hP8d.mCut rfl k hk (by rw [HL.out]; exact HV.out) i (by rw [HL.out]; omega)
          have hF7 : (ms.set k (ms[k].1, ms[k].2.1, .slice (some ⟨gk, 0, none⟩) i ck, ms[k].2.2.2.take i)).length ≤ 7 := by simp; omega
          have hF14 : ∀ m ∈ ms.set k (ms[k].1, ms[k].2.1, .slice (some ⟨gk, 0, none⟩) i ck, ms[k].2.2.2.take i), m.2.2.2.length ≤ 14 := fun m hm => by
            rcases List.mem_or_eq_of_mem_set hm with hm | rfl
            · exact (hmo' m hm).2
            · have := HL.out; show (ms[k].2.2.2.take i).length ≤ 14; simp; omega
          go_upto_region 25 with fail
          generalize (w8.setCell ⟨gm, k * 3 + 2, none⟩ (.slice (some ⟨gk, 0, none⟩) i ck)).drew = wF at *
          clear hP8 hP8d t0 t1 t2 t3 t4 t5 t6 t7 t8 t9 t10 t11
          have hFs := hPF.gr.size
          have c0 := hPF.c0
          have r0 := hPF.res.cell (i := 0) (by decide)
          have rf := hPF.res.frozen 0
          have hF := hPF.final
          rw [hszB] at hF r0 rf
          clear hPF
          go_wp2
          generalize wF.setCell ⟨w.heap.size + 1, 0, none⟩ (.slice (some ⟨gm, 0, none⟩) ms.length cm) = W3 at hF ⊢
          obtain ⟨h1, h2, h3, dF⟩ := hF
          exact bodyPost_ret (v := .agg #[(.slice (some ⟨gm, 0, none⟩) ms.length cm)]) (by simp [results, Try.results84, go_sem, dF]) rfl ⟨_, _, _, rfl, h1.mono (Nat.le_succ _), hF7, hF14, by omega, by omega, h2, grown_trans hgB h3⟩
      have ex_4 : (x == 4) = false := beq_eq_false_iff_ne.2 hx_4
      go_wp2_with fail
      clear t0 t1 t2 t3 t4 t5 t6 t7 t8 t9 t10 t11 hP8d HV HL hk hkz hi hiz
      go_loopg [10] 3 (fun d i wr => ∃ (k : Nat) (v : Value) (ms : List MM), k ≤ 3 ∧ d = 3 - k ∧ i = .int .i64 k ∧ ms.length ≤ 4 + k ∧ (∀ m ∈ ms, m.2.2.2.length ≤ 14) ∧ PS W wr b a len cap (p + 1 + 1 + 1) (w.heap.size + 1 + 1) (.slice none 0 0) [] v ms)
      case atStart => exact ⟨0, _, ms, Nat.zero_le _, rfl, rfl, hm4, fun m hm => (hmo' m hm).2, hP8⟩
      case round =>
        obtain ⟨k, v, ms, hk, rfl, rfl, hl7, hl14, hPS⟩ := hrel
        have hszr := hPS.gr.size
        obtain ⟨aV, cV, hvV⟩ := hPS.row.shape
        subst hvV
        by_cases hlt : k < 3
        · have hkz : (k : Int) < 3 := by omega
          have ob := hPS.c0
          go_wp2_with (at_builtin; refine append_meths _ (by rfl) _ _ (by rfl) W.heap.size _ (ms.map MM.tri) (by rfl) (World.ownsRow.alloc hPS.row.row _) [(0, 0, .slice none 0 0)] (by simp; exact ⟨_, _, _, rfl⟩) ⟨wr.heap.size, 0, none⟩ _ (by rfl) (World.news_of_block (Go.Deep.blk_alloc_new wr _)) (by simp) (by simp; omega) (by simp; omega) ?_; intro g5 cp5 w5 hrow5 hg5 hB5 hlt5; have hap := (hPS.alloc _).appended hg5; have q0 := hap.2.2.2.1.cell (i := 0) (by decide); have f0 := hap.2.2.2.1.frozen 0)
          simp only [List.length_map, List.length_cons, List.length_nil, Nat.zero_add] at hrow5
          have hPY := (hPS.alloc _).stored hg5 hrow5 (OpsRow.nil _ _) (fun m hm j e e' => by cases e')
          have hl14' : ∀ m ∈ ms ++ [((0, 0, .slice none 0 0, []) : MM)], m.2.2.2.length ≤ 14 := fun m hm => by
            rcases List.mem_append.1 hm with hm | hm
            · exact hl14 m hm
            · simp at hm; subst hm; simp
          clear hap q0 f0 hg5 hrow5 hB5 hlt5 hPS ob
          go_wp2
          go_roundg (3 - (k + 1))
          case measure => omega
          case rel => exact ⟨k + 1, _, _, by omega, rfl, by go_num, by simp; omega, hl14', hPY⟩
        · obtain rfl : k = 3 := by omega
          have hPF := hPS
          have hF7 : ms.length ≤ 7 := hl7
          have hF14 := hl14
          clear hPS
          have hFs := hPF.gr.size
          have c0 := hPF.c0
          have r0 := hPF.res.cell (i := 0) (by decide)
          have rf := hPF.res.frozen 0
          have hF := hPF.final
          rw [hszB] at hF r0 rf
          clear hPF
          go_wp2
          generalize wr.setCell ⟨w.heap.size + 1, 0, none⟩ (.slice aV ms.length cV) = W3 at hF ⊢
          obtain ⟨h1, h2, h3, dF⟩ := hF
          exact bodyPost_ret (v := .agg #[(.slice aV ms.length cV)]) (by simp [results, Try.results84, go_sem, dF]) rfl ⟨_, _, _, rfl, h1.mono (Nat.le_succ _), hF7, hF14, by omega, by omega, h2, grown_trans hgB h3⟩
end Go.Proofs.Ytldiccheboipeaa

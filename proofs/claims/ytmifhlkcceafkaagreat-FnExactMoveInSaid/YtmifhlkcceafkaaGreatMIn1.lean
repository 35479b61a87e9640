/-
  A machine whose calls are all things of their own is made ready for work: livePagesOf.
-/
import Derived.Test.YtmifhlkcceafkaaGreatMThing4
import Derived.Test.YtmifhlkcceafkaaGreatMOrder
import Derived.Test.YtmifhlkcceafkaaGreatMPut2
import Derived.Test.YtmifhlkcceafkaaGreatMRow
import Derived.Test.YtmifhlkcceafkaaGreatRFV
import Derived.Carry

namespace Go.Proofs.YtmifhlkcceafkaaGreat
open Go.RowKit
theorem Tryz.infoLPage : (Tryz.prog.info? 127).map (fun i => (i.zero, i.size, i.bytes)) = some (some (.agg #[.int .i64 0, .slice none 0 0]), 2, 32) := by kernel_rfl
theorem liveFramesOf_none (a : Option Addr) (c : Nat) (w : World) : Calls Tryz.prog 71 #[.slice a 0 c] w fun e w' => e = .returned (.slice none 0 0) ∧ Below w.heap.size w w' := by
  go_enter Tryz.func71, Tryz.ntmps71
  go_wp2_with fail
  go_loopg [3, 5, 6, 9] 0 (fun d u _ _ q wr => d = 0 ∧ u = .slice none 0 0 ∧ q = .int .i64 0 ∧ wr = w)
  case atStart => exact ⟨rfl, rfl, rfl, rfl⟩
  case round =>
    obtain ⟨rfl, rfl, rfl, rfl⟩ := hrel
    go_wp2_with fail
    go_ret
    exact ⟨rfl, Below.refl _ _⟩
def pgIn (p : Pg) : LvP := ⟨p.base, []⟩
def twIn (ts : List Tw) : List LvT := ts.zipIdx.map fun t => ⟨-1, 0, t.2, t.1.left.sender⟩
theorem twIn_len (ts : List Tw) : (twIn ts).length = ts.length := by simp [twIn]
theorem twIn_snoc (ts : List Tw) (t : Tw) : twIn (ts ++ [t]) = twIn ts ++ [⟨-1, 0, ts.length, t.left.sender⟩] := by simp [twIn, List.zipIdx_append]
def lvIn (m : Mc) : LvM := ⟨m.cells, m.pages.map pgIn, m.order, m.now, twIn m.twins, m.twins.map fun t => bdOf t.left⟩
set_option maxRecDepth 100000 in
set_option maxHeartbeats 4000000 in
theorem livePagesOf_things (vp vo vt vs : Value) (m : Mc) (w : World) (h : MachAt w vp vo vt vs m) (hol : m.order.length ≤ 1000) (hpl : m.pages.length ≤ 1000) (hft : m.twins.length ≤ 800000) (hnf : ∀ i, (hi : i < m.pages.length) → m.pages[i].frames = []) (hnt : ∀ i, (hi : i < m.twins.length) → m.twins[i].page = -1) (hsm : ∀ i, (hi : i < m.twins.length) → m.twins[i].left.temps.length ≤ 1000 ∧ m.twins[i].left.stack.length ≤ 1000) :
    Calls Tryz.prog 30 #[.agg (mcCells vp vo vt vs m).toArray] w fun e w' => ∃ (P : Lay) (ρ : Nat → Rl), LvAt (w.heap.size + 1) ρ w' P ∧ e = .returned (.pointer (some ⟨P.bl, 0, none⟩)) ∧ P.L = lvIn m ∧ (lvIn m).wf ∧ Below w.heap.size w w' := by
  have HNF : Hid (∀ i, (hi : i < m.pages.length) → m.pages[i].frames = []) := hnf
  have HNT : Hid (∀ i, (hi : i < m.twins.length) → m.twins[i].page = -1) := hnt
  have HSM : Hid (∀ i, (hi : i < m.twins.length) → m.twins[i].left.temps.length ≤ 1000 ∧ m.twins[i].left.stack.length ≤ 1000) := hsm
  have HPL : Hid (m.pages.length ≤ 1000) := hpl
  clear hnf hnt hsm hpl
  have HM : Hid (MachAt w vp vo vt vs m) := h
  obtain ⟨ap, cp, hvp, hlp, hcp⟩ := id h.p
  obtain ⟨ao, co, hvo, hlo, hco⟩ := id h.o
  obtain ⟨at', ct, hvt, hlt', hct⟩ := id h.t
  obtain ⟨as', cs, hvs⟩ := h.s.shape
  subst hvp hvo hvt hvs
  unfold mcCells
  go_enter Tryz.func30, Tryz.ntmps30
  go_upto_region 1 with fail
  refine wp_gen (fun W => Below w.heap.size w W ∧ Bx W w.heap.size 36 [.int .i64 m.cells, .slice ap m.pages.length cp, .slice ao m.order.length co, .int .i64 m.now, .slice at' m.twins.length ct, .int .i64 m.born, .slice as' m.said.length cs, .int .i64 m.code]) ⟨(Below.refl _ _).alloc (Nat.le_refl _) _, Bx.new w _ _⟩ ?_
  rintro W ⟨hb, hm⟩
  have zb := hb.size
  have m0 := hm.cell 0 rfl
  have m2 := hm.cell 2 rfl
  have m3 := hm.cell 3 rfl
  have hlW := hm.lt
  have HCL : Hid (∀ X, Below W.heap.size W X → Calls Tryz.prog 70 #[.slice ao m.order.length co] X fun e w' => ∃ v', e = .returned v' ∧ IntRow X.heap.size w' v' m.order ∧ Below X.heap.size X w') := fun X hX => cloneInts_any _ _ X ((HM.out.o.below hb).below hX) hol
  have hmm := @run_makeMap Tryz.prog
  have HS : ∀ w' : World, Below W.heap.size W w' → ((w'.cell? ⟨w.heap.size, 0, none⟩ = some (.int .i64 m.cells) ∧ w'.cell? ⟨w.heap.size, 2, none⟩ = some (.slice ao m.order.length co) ∧ w'.cell? ⟨w.heap.size, 3, none⟩ = some (.int .i64 m.now)) ∧ Below W.heap.size W w') := fun w' hb => ⟨⟨cell_below hb m0, cell_below hb m2, cell_below hb m3⟩, hb⟩
  have HMB : Hid (Bx W w.heap.size 36 [.int .i64 m.cells, .slice ap m.pages.length cp, .slice ao m.order.length co, .int .i64 m.now, .slice at' m.twins.length ct, .int .i64 m.born, .slice as' m.said.length cs, .int .i64 m.code]) := hm
  clear m0 m2 m3 hm
  go_cut [3] (fun v3 wx => ∃ (bl bm : Nat) (vo : Value) (ρ : Nat → Rl), v3 = .pointer (some ⟨bl, 0, none⟩) ∧ LvAt (w.heap.size + 1) ρ wx ⟨bl, .slice none 0 0, vo, bm, fun _ => undef, fun _ => 0, fun _ => (undef, undef), ⟨m.cells, [], m.order, m.now, [], []⟩⟩ ∧ Below w.heap.size w wx ∧ Bx wx w.heap.size 36 [.int .i64 m.cells, .slice ap m.pages.length cp, .slice ao m.order.length co, .int .i64 m.now, .slice at' m.twins.length ct, .int .i64 m.born, .slice as' m.said.length cs, .int .i64 m.code])
  case first =>
    go_region_held3 (fun w' => (w'.cell? ⟨w.heap.size, 0, none⟩ = some (.int .i64 m.cells) ∧ w'.cell? ⟨w.heap.size, 2, none⟩ = some (.slice ao m.order.length co) ∧ w'.cell? ⟨w.heap.size, 3, none⟩ = some (.int .i64 m.now)) ∧ Below W.heap.size W w')
      ((refine HS _ ?_; first
        | (with_reducible exact (‹(_ ∧ _ ∧ _) ∧ Below W.heap.size W _›).2)
        | (with_reducible exact (Below.refl _ _).drew)
        | (with_reducible exact ((Below.refl _ _).alloc (Nat.le_refl _) _).drew)
        | (with_reducible exact hBT)
        | (with_reducible exact hBT.alloc hBT.size _)
        | (with_reducible exact (hBT.alloc hBT.size _).alloc (hBT.alloc hBT.size _).size _)))
      ((go_at_call 70; refine (HCL.out _ (‹(_ ∧ _ ∧ _) ∧ Below W.heap.size W _›).2).mono ?_; rintro e wT ⟨vT, rfl, hrT, hbT⟩; have hBT := Below.trans (‹(_ ∧ _ ∧ _) ∧ Below W.heap.size W _›).2 (hbT.mono ((‹(_ ∧ _ ∧ _) ∧ Below W.heap.size W _›).2).size); obtain ⟨aT, kT, hvT, _⟩ := hrT.slice; subst hvT))
    · have hszT : W.heap.size ≤ wT.heap.size := hBT.size
      have hlt := hrT.lt
      have hzd : W.drew.heap.size = W.heap.size := rfl
      have ht := TMap.made wT
      obtain ⟨W3, hW3⟩ : ∃ W3, wT.alloc (.map #[] 0) = W3 := ⟨_, rfl⟩
      have hs3 : W3.heap.size = wT.heap.size + 1 := by rw [← hW3]; simp
      have hb3 : Below wT.heap.size wT W3 := by rw [← hW3]; exact (Below.refl _ _).alloc (Nat.le_refl _) _
      have HF := LvAt.start (B := w.heap.size + 1) (w := W3.alloc (.cells #[.int .i64 m.cells, .slice none 0 0, .slice aT m.order.length kT, .int .i64 m.now, .map (some wT.heap.size)] 123)) (bl := W3.heap.size) (bm := wT.heap.size) (vo := .slice aT m.order.length kT) (order := m.order) (Bx.new W3 123 [.int .i64 m.cells, .slice none 0 0, .slice aT m.order.length kT, .int .i64 m.now, .map (some wT.heap.size)]) (by omega) ((by rw [← hW3]; exact ht : TMap W3 wT.heap.size []).below ((Below.refl _ _).alloc (Nat.le_refl _) _)) (by omega) (by omega) (((hrT.below hb3).below ((Below.refl _ _).alloc (Nat.le_refl _) _)).mono (by omega)) (fun e => by have := (hlt _ e).2; omega) (fun e => by have := (hlt _ e).2; omega)
      have HB : Below w.heap.size w (W3.alloc (.cells #[.int .i64 m.cells, .slice none 0 0, .slice aT m.order.length kT, .int .i64 m.now, .map (some wT.heap.size)] 123)) := ((hb.trans (hBT.mono zb)).trans (hb3.mono (by omega))).alloc (by omega) _
      have HX := ((HMB.out.below hBT).below hb3).alloc (.cells #[.int .i64 m.cells, .slice none 0 0, .slice aT m.order.length kT, .int .i64 m.now, .map (some wT.heap.size)] 123)
      rw [hs3] at HF
      subst hW3
      go_wp2_with fail
      go_meet
      exact ⟨_, _, _, _, rfl, HF, HB, HX⟩
    · have hlt := hrT.lt
      have hzm : (W.alloc (.map #[] 0)).drew.heap.size = W.heap.size + 1 := by
        show (W.alloc (.map #[] 0)).heap.size = _
        simp
      have hszT := hbT.size
      have ht : TMap wT W.heap.size [] := ((TMap.made W).below (Below.refl _ _).drew).below hbT
      have HF := LvAt.start (B := w.heap.size + 1) (w := wT.alloc (.cells #[.int .i64 m.cells, .slice none 0 0, .slice aT m.order.length kT, .int .i64 m.now, .map (some W.heap.size)] 123)) (bl := wT.heap.size) (bm := W.heap.size) (vo := .slice aT m.order.length kT) (order := m.order) (Bx.new wT 123 [.int .i64 m.cells, .slice none 0 0, .slice aT m.order.length kT, .int .i64 m.now, .map (some W.heap.size)]) (by omega) (ht.below ((Below.refl _ _).alloc (Nat.le_refl _) _)) (by omega) (by omega) ((hrT.below ((Below.refl _ _).alloc (Nat.le_refl _) _)).mono (by omega)) (fun e => by have := (hlt _ e).2; omega) (fun e => by have := (hlt _ e).1; omega)
      have HB : Below w.heap.size w (wT.alloc (.cells #[.int .i64 m.cells, .slice none 0 0, .slice aT m.order.length kT, .int .i64 m.now, .map (some W.heap.size)] 123)) := (hb.trans (hBT.mono zb)).alloc (by have := hBT.size; omega) _
      have HX := (HMB.out.below hBT).alloc (.cells #[.int .i64 m.cells, .slice none 0 0, .slice aT m.order.length kT, .int .i64 m.now, .map (some W.heap.size)] 123)
      go_wp2_with fail
      go_meet
      exact ⟨_, _, _, _, rfl, HF, HB, HX⟩
  case rest =>
    obtain ⟨bl, bm, vo, ρ0, rfl, L0, b0, x0⟩ := hcut
    have x1 := x0.cell 1 rfl
    obtain ⟨i0, hii, hz0, hz1, hz2⟩ := info_parts Tryz.infoLPage
    have HB : Hid (w.heap.size + 1 ≤ bl) := (L0 .live).2.2
    have HBM : Hid (w.heap.size + 1 ≤ bm) := (L0 .twins).2.2
    clear HCL HMB HS hmm hb hlW zb
    go_wp2_with fail
    clear x1
    go_loopg [5, 21] m.pages.length (fun d _ q wr => ∃ (k : Nat) (ρ : Nat → Rl) (vp : Value) (F : Nat → Value), k ≤ m.pages.length ∧ d = m.pages.length - k ∧ q = .int .i64 (k : Int) ∧ LvAt (w.heap.size + 1) ρ wr ⟨bl, vp, vo, bm, F, fun _ => 0, fun _ => (undef, undef), ⟨m.cells, (m.pages.take k).map pgIn, m.order, m.now, [], []⟩⟩ ∧ Below w.heap.size w wr ∧ Bx wr w.heap.size 36 [.int .i64 m.cells, .slice ap m.pages.length cp, .slice ao m.order.length co, .int .i64 m.now, .slice at' m.twins.length ct, .int .i64 m.born, .slice as' m.said.length cs, .int .i64 m.code])
    case atStart => exact ⟨0, ρ0, _, _, Nat.zero_le _, rfl, rfl, L0, b0, x0⟩
    case round =>
      obtain ⟨k, ρ, vp, F, hk, rfl, rfl, hL, hb, hx⟩ := hrel
      clear L0 b0 x0
      have zr := hb.size
      have hwr := hx.lt
      obtain ⟨ps, hps⟩ : ∃ ps, (m.pages.take k).map pgIn = ps := ⟨_, rfl⟩
      have hpl : ps.length = k := by rw [← hps]; simp; omega
      by_cases hlt : k < m.pages.length
      · have hsl : ∃ av cv, vp = .slice av ps.length cv := by
          obtain ⟨av, cv, e, _⟩ := (hL .pages).1.slice
          exact ⟨av, cv, by rw [← hps]; exact e⟩
        obtain ⟨av, cv, e⟩ := hsl
        subst e
        have htk : (m.pages.take (k + 1)).map pgIn = ps ++ [⟨m.pages[k].base, []⟩] := by
          rw [List.take_add_one, List.map_append, hps]
          simp [hlt, pgIn]
        rw [hps] at hL
        have hkz : (k : Int) < (m.pages.length : Int) := by omega
        obtain ⟨gp, op, vf, hap, hpg⟩ := hcp k hlt
        subst hap
        have c0 := cell_below hb hpg.c0
        have c1 := cell_below hb hpg.c1
        obtain ⟨aF, cF, hvf, _⟩ := hpg.f
        have hnf := HNF.out k hlt
        rw [hnf] at hvf
        subst hvf
        obtain ⟨Q, hQ⟩ : ∃ Q, m.pages[k] = Q := ⟨_, rfl⟩
        rw [hQ] at c0 htk
        clear hpg
        dsimp only [List.length_nil] at c1
        go_upto_region 5 with fail
        refine wp_gen (fun W' => Below wr.heap.size wr W' ∧ Bx W' wr.heap.size 61 [.int .i64 Q.base, .slice aF 0 cF]) ⟨(Below.refl _ _).alloc (Nat.le_refl _) _, Bx.new _ _ _⟩ ?_
        rintro W2 ⟨t2, y2⟩
        have hb2 := hb.trans (t2.mono zr)
        have z2 := hb2.size
        have zt := t2.size
        have hL2 := hL.below t2
        have hx2 := hx.below t2
        have hbx2 : Bx W2 bl 123 [.int .i64 m.cells, .slice av ps.length cv, vo, .int .i64 m.now, .map (some bm)] := hL2.box
        have m1 := hbx2.cell 1 rfl
        have n0 := y2.cell 0 rfl
        have n1 := y2.cell 1 rfl
        have hbl := HB.out
        have hlen := HPL.out
        have hy := y2.lt
        have hblW := hbx2.lt
        clear c0 c1 hQ
        refine wp_region_fv [[], [], [1], [1, 2], [1, 2, 3], [], [5], [], [7], [7, 8], [5, 6, 7, 8, 9], [5, 6, 7, 8, 9, 10], [1, 2, 3, 4, 5, 6, 7, 8, 9, 10, 11], [0, 1, 2, 3, 4, 5, 6, 7, 8, 9, 10, 11, 12], [0, 1, 2, 3, 4, 5, 6, 7, 8, 9, 10, 11, 12, 13], [0, 1, 2, 3, 4, 5, 6, 7, 8, 9, 10, 11, 12, 13, 14]] [[0], [1], [2], [3], [4], [5], [6], [7], [8], [9], [10], [11], [], [], [], []] [[], [], [], [], [], [], [], [], [], [], [], [], [], [], [], []] [fIs (.pointer (some ⟨bl, 0, none⟩)), fIs (.pointer (some ⟨bl, 0, none⟩)), fIs (.pointer (some ⟨bl, 0, none⟩)), fIs (.pointer (some ⟨bl, 1, none⟩)), fIs (.slice av ps.length cv), fIs (.pointer (some ⟨wr.heap.size, 0, none⟩)), fIs (.int .i64 Q.base), fIs (.pointer (some ⟨wr.heap.size, 1, none⟩)), fIs (.slice aF 0 cF), fIs (.slice none 0 0), fIs (.agg #[.int .i64 Q.base, .slice none 0 0]), fGh 11 (fun (x : Nat) l => l = [.slice (some ⟨x, 0, none⟩) 1 1]) (fun x w1 => ∀ j u, ([.int .i64 Q.base, .slice none 0 0] : List Value)[j]? = some u → w1.cell? ⟨x, j, none⟩ = some u), fOf fun _ => True, fOf fun _ => True, fOf fun _ => True, fOf fun _ => True] 12 3 0 (.pointer (some ⟨bl, 0, none⟩)) rfl (by kernel_rfl) (by kernel_rfl) (by kernel_rfl) (by kernel_rfl) (by decide) (by kernel_rfl) (by kernel_rfl) (by kernel_rfl) (by kernel_rfl) (fun _ _ _ h => h) rfl (.inl ⟨rfl, fun w => by unfold execOp; go_simp⟩) rfl ?_ ?_
        · refine all_lt_succ (all_lt_succ (all_lt_succ (all_lt_succ (all_lt_succ (all_lt_succ (all_lt_succ (all_lt_succ (all_lt_succ (all_lt_succ (all_lt_succ (all_lt_succ (all_lt_zero) ?_) ?_) ?_) ?_) ?_) ?_) ?_) ?_) ?_) ?_) ?_) ?_
          · intro a w val own hB hf hown hk
            have s3 := hf.at (d := 3) (v := .pointer (some ⟨bl, 0, none⟩)) (by kernel_rfl) rfl
            exact rf_pure (v := .pointer (some ⟨bl, 0, none⟩)) hB rfl rfl (by unfold execOp; go_simp) rfl
          · intro a w val own hB hf hown hk
            have s3 := hf.at (d := 3) (v := .pointer (some ⟨bl, 0, none⟩)) (by kernel_rfl) rfl
            exact rf_pure (v := .pointer (some ⟨bl, 0, none⟩)) hB rfl rfl (by unfold execOp; go_simp) rfl
          · intro a w val own hB hf hown hk
            obtain ⟨k1, f1⟩ := hk 1 (show 1 ∈ [1] by decide)
            have s26 := k1 26 rfl
            rw [fIs_out f1] at s26
            clear k1 f1
            exact rf_pure (v := .pointer (some ⟨bl, 0, none⟩)) hB rfl rfl (by unfold execOp; go_simp) rfl
          · intro a w val own hB hf hown hk
            obtain ⟨k2, f2⟩ := hk 2 (show 2 ∈ [1, 2] by decide)
            have s27 := k2 27 rfl
            rw [fIs_out f2] at s27
            clear k2 f2
            exact rf_pure (v := .pointer (some ⟨bl, 1, none⟩)) hB rfl rfl (by unfold execOp; go_simp) rfl
          · intro a w val own hB hf hown hk
            obtain ⟨k3, f3⟩ := hk 3 (show 3 ∈ [1, 2, 3] by decide)
            have s28 := k3 28 rfl
            rw [fIs_out f3] at s28
            clear k3 f3
            have cm1 := cell_below hB m1
            exact rf_pure (v := .slice av ps.length cv) hB rfl rfl (by unfold execOp; go_simp) rfl
          · intro a w val own hB hf hown hk
            have s5 := hf.at (d := 5) (v := .pointer (some ⟨wr.heap.size, 0, none⟩)) (by kernel_rfl) rfl
            exact rf_pure (v := .pointer (some ⟨wr.heap.size, 0, none⟩)) hB rfl rfl (by unfold execOp; go_simp) rfl
          · intro a w val own hB hf hown hk
            obtain ⟨k5, f5⟩ := hk 5 (show 5 ∈ [5] by decide)
            have s30 := k5 30 rfl
            rw [fIs_out f5] at s30
            clear k5 f5
            have cn0 := cell_below hB n0
            exact rf_pure (v := .int .i64 Q.base) hB rfl rfl (by unfold execOp; go_simp) rfl
          · intro a w val own hB hf hown hk
            have s5 := hf.at (d := 5) (v := .pointer (some ⟨wr.heap.size, 0, none⟩)) (by kernel_rfl) rfl
            exact rf_pure (v := .pointer (some ⟨wr.heap.size, 1, none⟩)) hB rfl rfl (by unfold execOp; go_simp) rfl
          · intro a w val own hB hf hown hk
            obtain ⟨k7, f7⟩ := hk 7 (show 7 ∈ [7] by decide)
            have s32 := k7 32 rfl
            rw [fIs_out f7] at s32
            clear k7 f7
            have cn1 := cell_below hB n1
            exact rf_pure (v := .slice aF 0 cF) hB rfl rfl (by unfold execOp; go_simp) rfl
          · intro a w val own hB hf hown hk
            obtain ⟨k8, f8⟩ := hk 8 (show 8 ∈ [7, 8] by decide)
            have s33 := k8 33 rfl
            rw [fIs_out f8] at s33
            clear k8 f8
            exact rf_call hB rfl rfl (by unfold execOp; go_simp) ((liveFramesOf_none aF cF w).mono fun e w' ⟨he, hb⟩ => ⟨_, he, hb, rfl⟩)
          · intro a w val own hB hf hown hk
            obtain ⟨k6, f6⟩ := hk 6 (show 6 ∈ [5, 6, 7, 8, 9] by decide)
            have s31 := k6 31 rfl
            rw [fIs_out f6] at s31
            clear k6 f6
            obtain ⟨k9, f9⟩ := hk 9 (show 9 ∈ [5, 6, 7, 8, 9] by decide)
            have s34 := k9 34 rfl
            rw [fIs_out f9] at s34
            clear k9 f9
            exact rf_pure (v := .agg #[.int .i64 Q.base, .slice none 0 0]) hB rfl rfl (by unfold execOp; go_simp) rfl
          · intro a w val own hB hf hown hk
            obtain ⟨k10, f10⟩ := hk 10 (show 10 ∈ [5, 6, 7, 8, 9, 10] by decide)
            have s35 := k10 35 rfl
            rw [fIs_out f10] at s35
            clear k10 f10
            refine rf_new (v := .slice (some ⟨w.heap.size, 0, none⟩) 1 1) (w' := w.alloc (.cells #[.int .i64 Q.base, .slice none 0 0] 127)) hB rfl rfl (by unfold execOp; go_simp) ((Below.refl _ _).alloc (Nat.le_refl _) _) ⟨w.heap.size, rfl, Made.new fun w1 _ _ hr => ?_⟩
            exact fun j u hu => ((Bx.new w 127 [.int .i64 Q.base, .slice none 0 0]).kept (hr _ (Nat.le_refl _) (by simp))).cell j hu
        intro aE w10 val own hB hf hown hk
        obtain ⟨kb, H, eb, mb⟩ := hk 11 (by decide)
        have vb := one_eq eb
        have s36 := kb 36 rfl
        rw [vb] at s36
        have mh := mb.here hB
        obtain ⟨kq, fq⟩ := hk 0 (by decide)
        have s25 := kq 25 rfl
        rw [fIs_out fq] at s25
        clear kq fq
        obtain ⟨kq, fq⟩ := hk 4 (by decide)
        have s29 := kq 29 rfl
        rw [fIs_out fq] at s29
        clear kq fq
        have hB0 : Below W2.heap.size W2 w10 := hB
        have hz0' := hB0.size
        have L10 := hL2.below hB0
        have hrow10 : CRow (w.heap.size + 1) 2 w10 (.slice av ps.length cv) ps.length (cells2 (pgPairs F ps)) := (L10 .pages).1
        obtain ⟨v', W3, hrun, hrow3, hg3, hor3⟩ := run_append_el (P := Tryz.prog) (t := 121) (ty := 121) Tryz.underlying121 hii hz0 hz1 rfl (by omega) hrow10 [.int .i64 Q.base, .slice none 0 0] rfl (by intro u hu; simp at hu; rcases hu with rfl | rfl <;> rfl) H 1 mh (by omega) (by omega)
        obtain ⟨a9, c9, hv9, _⟩ := hrow3.slice
        subst hv9
        have hne : (Value.slice av ps.length cv).ownBlock ≠ some bl := fun e => Rl.noConfusion (((L10 .pages).2 bl e).symm.trans (L10 .live).2.1)
        have bx3 : Bx W3 bl 123 [.int .i64 m.cells, .slice av ps.length cv, vo, .int .i64 m.now, .map (some bm)] := Bx.grown (show Bx w10 bl 123 [.int .i64 m.cells, .slice av ps.length cv, vo, .int .i64 m.now, .map (some bm)] from L10.box) hg3 hne
        have g1 := bx3.cell 1 rfl
        have gf1 := bx3.frozen 1
        have hb3 : Below w.heap.size w W3 := (hb2.trans (hB0.mono z2)).grown hg3 (by omega) fun q e => by have := (hrow10.lt q e).1; omega
        have hx3 := (hx2.below hB0).grown hg3 (fun e => by have := (hrow10.lt _ e).1; omega)
        have HE : Hid (∃ (ρ9 : Nat → Rl) (F9 : Nat → Value), LvAt (w.heap.size + 1) ρ9 (W3.setCell ⟨bl, 1, none⟩ (.slice a9 (ps.length + 1) c9)) ⟨bl, .slice a9 (ps.length + 1) c9, vo, bm, F9, fun _ => 0, fun _ => (undef, undef), ⟨m.cells, (m.pages.take (k + 1)).map pgIn, m.order, m.now, [], []⟩⟩ ∧ Below w.heap.size w (W3.setCell ⟨bl, 1, none⟩ (.slice a9 (ps.length + 1) c9)) ∧ Bx (W3.setCell ⟨bl, 1, none⟩ (.slice a9 (ps.length + 1) c9)) w.heap.size 36 [.int .i64 m.cells, .slice (some ⟨gp, op, none⟩) m.pages.length cp, .slice ao m.order.length co, .int .i64 m.now, .slice at' m.twins.length ct, .int .i64 m.born, .slice as' m.said.length cs, .int .i64 m.code]) := ⟨_, _, by rw [htk]; exact L10.addPage (by omega) Q.base hrow3 hg3 hor3, hb3.setCell (p := ⟨bl, 1, none⟩) (by show w.heap.size ≤ bl; omega) _, hx3.other (by omega) _⟩
        clear hrow10 hrow3 hg3 hor3 hne bx3 hb3 hx3 L10 hB0
        clear kb eb vb mb mh
        have hu := frame_sets hf [25, 26, 27, 28, 29, 30, 31, 32, 33, 34, 35, 36] (by kernel_rfl)
        dsimp only at hu
        simp only [List.foldl_cons, List.foldl_nil, List.setIfInBounds_toArray, List.set_cons_succ, List.set_cons_zero] at hu
        rw [s25, s29, s36] at hu
        generalize aE.tmps[26]?.getD undef = u26 at hu
        generalize aE.tmps[27]?.getD undef = u27 at hu
        generalize aE.tmps[28]?.getD undef = u28 at hu
        generalize aE.tmps[30]?.getD undef = u30 at hu
        generalize aE.tmps[31]?.getD undef = u31 at hu
        generalize aE.tmps[32]?.getD undef = u32 at hu
        generalize aE.tmps[33]?.getD undef = u33 at hu
        generalize aE.tmps[34]?.getD undef = u34 at hu
        generalize aE.tmps[35]?.getD undef = u35 at hu
        obtain rfl := act_eq hu (show aE.defers = [] from hf.defers)
        clear hu hk hown hf s25 s29 s36
        refine wpOp_val (v := .slice a9 (ps.length + 1) c9) (w' := W3) rfl rfl (append_runD rfl (by go_simp) (by go_simp) hrun) ?_
        simp only [Act.put]
        refine wpOp_val (v := .pointer (some ⟨bl, 0, none⟩)) (w' := W3) rfl rfl (by unfold execOp; go_simp) ?_
        simp only [Act.put]
        refine wpOp_val (v := .pointer (some ⟨bl, 1, none⟩)) (w' := W3) rfl rfl (by unfold execOp; go_simp) ?_
        simp only [Act.put]
        refine wpOp_skip (w' := (W3.setCell ⟨bl, 1, none⟩ (.slice a9 (ps.length + 1) c9))) rfl rfl (by unfold execOp; go_simp) ?_
        simp only [Act.put]
        clear hrun hB g1 gf1
        refine ex_gen (fun W9 => ∃ (ρ9 : Nat → Rl) (F9 : Nat → Value), LvAt (w.heap.size + 1) ρ9 W9 ⟨bl, .slice a9 (ps.length + 1) c9, vo, bm, F9, fun _ => 0, fun _ => (undef, undef), ⟨m.cells, (m.pages.take (k + 1)).map pgIn, m.order, m.now, [], []⟩⟩ ∧ Below w.heap.size w W9 ∧ Bx W9 w.heap.size 36 [.int .i64 m.cells, .slice (some ⟨gp, op, none⟩) m.pages.length cp, .slice ao m.order.length co, .int .i64 m.now, .slice at' m.twins.length ct, .int .i64 m.born, .slice as' m.said.length cs, .int .i64 m.code]) HE.out ?_
        rintro W9 ⟨ρ9, F9, k1, k2, k3⟩
        clear HE
        go_wp2
        go_roundg (m.pages.length - (k + 1))
        case measure => omega
        case rel => exact ⟨k + 1, ρ9, _, F9, by omega, rfl, by go_num, k1, k2, k3⟩
      · obtain rfl : k = m.pages.length := by omega
        rw [List.take_length] at hps
        rw [List.take_length] at hL
        have x4 := hx.cell 4 rfl
        go_wp2_with fail
        clear x4
        go_loopg [6, 7, 44] m.twins.length (fun d _ _ q wt => ∃ (k : Nat) (ρ : Nat → Rl) (D : Nat → Nat) (T : Nat → Value × Value), k ≤ m.twins.length ∧ d = m.twins.length - k ∧ q = .int .i64 (k : Int) ∧ LvAt (w.heap.size + 1) ρ wt ⟨bl, vp, vo, bm, F, D, T, ⟨m.cells, m.pages.map pgIn, m.order, m.now, twIn (m.twins.take k), (m.twins.take k).map fun t => bdOf t.left⟩⟩ ∧ LvM.wf ⟨m.cells, m.pages.map pgIn, m.order, m.now, twIn (m.twins.take k), (m.twins.take k).map fun t => bdOf t.left⟩ ∧ Below w.heap.size w wt ∧ Bx wt w.heap.size 36 [.int .i64 m.cells, .slice ap m.pages.length cp, .slice ao m.order.length co, .int .i64 m.now, .slice at' m.twins.length ct, .int .i64 m.born, .slice as' m.said.length cs, .int .i64 m.code])
        case atStart => exact ⟨0, ρ, _, _, Nat.zero_le _, rfl, rfl, hL, ⟨fun i hi k hk => by simp [pgIn] at hk, fun j hj => absurd hj (Nat.not_lt_zero _)⟩, hb, hx⟩
        case round =>
          obtain ⟨k, ρ, D, T, hk, rfl, rfl, hL, hwk, hb, hx⟩ := hrel
          have zr := hb.size
          have hwr := hx.lt
          obtain ⟨ts, hts⟩ : ∃ ts, twIn (m.twins.take k) = ts := ⟨_, rfl⟩
          obtain ⟨bs, hbs⟩ : ∃ bs, ((m.twins.take k).map fun t => bdOf t.left) = bs := ⟨_, rfl⟩
          have htl : ts.length = k := by rw [← hts, twIn_len]; simp; omega
          have hbsl : bs.length = k := by rw [← hbs]; simp; omega
          by_cases hlt : k < m.twins.length
          · have htk : twIn (m.twins.take (k + 1)) = ts ++ [⟨-1, 0, bs.length, m.twins[k].left.sender⟩] := by
              rw [List.take_add_one, List.getElem?_eq_getElem hlt, Option.toList_some, twIn_snoc, hts, hbsl, List.length_take, Nat.min_eq_left (by omega)]
            have hbk : ((m.twins.take (k + 1)).map fun t => bdOf t.left) = bs ++ [bdOf m.twins[k].left] := by
              rw [List.take_add_one, List.getElem?_eq_getElem hlt, Option.toList_some, List.map_append, hbs]
              rfl
            rw [hts, hbs] at hL hwk
            have hkz : (k : Int) < (m.twins.length : Int) := by omega
            obtain ⟨gt, ot, v1, v2, hat, hta⟩ := hct k hlt
            subst hat
            obtain ⟨a1, k1, hv1⟩ := hta.t.shape
            obtain ⟨a2, k2, hv2⟩ := hta.s.shape
            have hnt := HNT.out k hlt
            have c0 := cell_below hb hta.c0
            have c1 := cell_below hb hta.c1
            have c2 := cell_below hb hta.c2
            have c3 := cell_below hb hta.c3
            have c4 := cell_below hb hta.c4
            have c5 := cell_below hb hta.c5
            have c6 := cell_below hb hta.c6
            have c7 := cell_below hb hta.c7
            rw [hnt] at c0
            rw [hv1] at c4
            rw [hv2] at c5
            have ht1 := hta.t.below hb
            have hs1 := hta.s.below hb
            rw [hv1] at ht1
            rw [hv2] at hs1
            have hsm := HSM.out k hlt
            obtain ⟨Q, hQ⟩ : ∃ Q, m.twins[k] = Q := ⟨_, rfl⟩
            rw [hQ] at c1 c2 c3 c4 c5 c6 c7 htk hbk ht1 hs1 hsm
            clear hta hv1 hv2 hnt hQ
            have HT1 : Hid (OpsAt wr (.slice a1 Q.left.temps.length k1) Q.left.temps ∧ OpsAt wr (.slice a2 Q.left.stack.length k2) Q.left.stack) := ⟨ht1, hs1⟩
            clear ht1 hs1
            go_upto_region 11 with fail
            refine wp_gen (fun W' => Below wr.heap.size wr W' ∧ Bx W' wr.heap.size 66 [.int .i64 (-1), .int .i64 Q.place, .int .i64 Q.left.m, .int .i64 Q.left.pc, .slice a1 Q.left.temps.length k1, .slice a2 Q.left.stack.length k2, .int .i64 Q.left.sender, .bool Q.left.dead]) ⟨(Below.refl _ _).alloc (Nat.le_refl _) _, Bx.new _ _ _⟩ ?_
            rintro W2 ⟨t2, y2⟩
            have hb2 := hb.trans (t2.mono zr)
            have z2 := hb2.size
            have zt := t2.size
            have hL2 := hL.below t2
            have hx2 := hx.below t2
            have hbx2 : Bx W2 bl 123 [.int .i64 m.cells, vp, vo, .int .i64 m.now, .map (some bm)] := hL2.box
            have m4 := hbx2.cell 4 rfl
            have n2 := y2.cell 2 rfl
            have n3 := y2.cell 3 rfl
            have n4 := y2.cell 4 rfl
            have n5 := y2.cell 5 rfl
            have n6 := y2.cell 6 rfl
            have n7 := y2.cell 7 rfl
            have hbm := HBM.out
            have HC : Hid (∀ X, Below W2.heap.size W2 X → Calls Tryz.prog 72 #[.agg #[.int .i64 Q.left.m, .int .i64 Q.left.pc, .slice a1 Q.left.temps.length k1, .slice a2 Q.left.stack.length k2, .int .i64 Q.left.sender, .bool Q.left.dead]] X fun e w' => ∃ (d : Nat) (vt' vs' : Value), e = .returned (.pointer (some ⟨d, 0, none⟩)) ∧ LvBody X.heap.size w' d vt' vs' Q.left ∧ Below X.heap.size X w') := fun X hX => lvBodyOf_any Q.left _ _ X ((HT1.out.1.below t2).below hX) ((HT1.out.2.below t2).below hX) hsm
            clear c0 c1 c2 c3 c4 c5 c6 c7
            refine wp_region_fu [[], [0], [0, 1], [0, 1, 2], [], [], [5], [5, 6], [], [8], [8, 9], [5, 6, 7, 8, 9, 10], [0, 1, 2, 3, 4, 5, 6, 7, 8, 9, 10, 11]] [[0], [1], [2], [3], [4], [5], [6], [7], [8], [9], [10], [7, 11], []] [[], [], [], [], [], [], [], [], [], [], [], [], []] [fIs (.pointer (some ⟨bl, 0, none⟩)), fIs (.pointer (some ⟨bl, 0, none⟩)), fIs (.pointer (some ⟨bl, 4, none⟩)), fIs (.map (some bm)), fIs (.int .i64 (k : Int)), fIs (.pointer (some ⟨wr.heap.size, 2, none⟩)), fIs (.agg #[.int .i64 Q.left.m, .int .i64 Q.left.pc, .slice a1 Q.left.temps.length k1, .slice a2 Q.left.stack.length k2, .int .i64 Q.left.sender, .bool Q.left.dead]), fGh 7 (fun (x : Nat × Value × Value) l => l = [.pointer (some ⟨x.1, 0, none⟩)]) (fun x w1 => LvBody W2.heap.size w1 x.1 x.2.1 x.2.2 Q.left), fIs (.pointer (some ⟨wr.heap.size, 2, none⟩)), fIs (.pointer (some ⟨wr.heap.size, 6, none⟩)), fIs (.int .i64 Q.left.sender), fOf fun l => ∃ x : Nat, l = [.pointer (some ⟨x, 0, none⟩), .agg #[.int .i64 (-1), .int .i64 0, .pointer (some ⟨x, 0, none⟩), .int .i64 Q.left.sender]], fOf fun _ => True] 12 0 rfl (by kernel_rfl) (by kernel_rfl) (by kernel_rfl) (by kernel_rfl) ?_ ?_
            · refine all_lt_succ (all_lt_succ (all_lt_succ (all_lt_succ (all_lt_succ (all_lt_succ (all_lt_succ (all_lt_succ (all_lt_succ (all_lt_succ (all_lt_succ (all_lt_succ (all_lt_zero) ?_) ?_) ?_) ?_) ?_) ?_) ?_) ?_) ?_) ?_) ?_) ?_
              · intro a w val own hB hf hown hk
                have s3 := hf.at (d := 3) (v := .pointer (some ⟨bl, 0, none⟩)) (by kernel_rfl) rfl
                exact rf_pure (v := .pointer (some ⟨bl, 0, none⟩)) hB rfl rfl (by unfold execOp; go_simp) rfl
              · intro a w val own hB hf hown hk
                obtain ⟨k0, f0⟩ := hk 0 (show 0 ∈ [0] by decide)
                have s52 := k0 52 rfl
                rw [fIs_out f0] at s52
                clear k0 f0
                exact rf_pure (v := .pointer (some ⟨bl, 0, none⟩)) hB rfl rfl (by unfold execOp; go_simp) rfl
              · intro a w val own hB hf hown hk
                obtain ⟨k1, f1⟩ := hk 1 (show 1 ∈ [0, 1] by decide)
                have s53 := k1 53 rfl
                rw [fIs_out f1] at s53
                clear k1 f1
                exact rf_pure (v := .pointer (some ⟨bl, 4, none⟩)) hB rfl rfl (by unfold execOp; go_simp) rfl
              · intro a w val own hB hf hown hk
                obtain ⟨k2, f2⟩ := hk 2 (show 2 ∈ [0, 1, 2] by decide)
                have s54 := k2 54 rfl
                rw [fIs_out f2] at s54
                clear k2 f2
                have cm4 := cell_below hB m4
                exact rf_pure (v := .map (some bm)) hB rfl rfl (by unfold execOp; go_simp) rfl
              · intro a w val own hB hf hown hk
                have s6 := hf.at (d := 6) (v := .int .i64 (k : Int)) (by kernel_rfl) rfl
                exact rf_pure (v := .int .i64 (k : Int)) hB rfl rfl (by unfold execOp; go_simp) rfl
              · intro a w val own hB hf hown hk
                have s7 := hf.at (d := 7) (v := .pointer (some ⟨wr.heap.size, 0, none⟩)) (by kernel_rfl) rfl
                exact rf_pure (v := .pointer (some ⟨wr.heap.size, 2, none⟩)) hB rfl rfl (by unfold execOp; go_simp) rfl
              · intro a w val own hB hf hown hk
                obtain ⟨k5, f5⟩ := hk 5 (show 5 ∈ [5] by decide)
                have s57 := k5 57 rfl
                rw [fIs_out f5] at s57
                clear k5 f5
                have cn2 := cell_below hB n2
                have cn3 := cell_below hB n3
                have cn4 := cell_below hB n4
                have cn5 := cell_below hB n5
                have cn6 := cell_below hB n6
                have cn7 := cell_below hB n7
                exact rf_pure (v := .agg #[.int .i64 Q.left.m, .int .i64 Q.left.pc, .slice a1 Q.left.temps.length k1, .slice a2 Q.left.stack.length k2, .int .i64 Q.left.sender, .bool Q.left.dead]) hB rfl rfl (by unfold execOp; go_simp) rfl
              · intro a w val own hB hf hown hk
                obtain ⟨k6, f6⟩ := hk 6 (show 6 ∈ [5, 6] by decide)
                have s58 := k6 58 rfl
                rw [fIs_out f6] at s58
                clear k6 f6
                have hzB := hB.size
                refine rf_call hB rfl rfl (by unfold execOp; go_simp) ((HC.out w hB).mono ?_)
                rintro e w' ⟨d, v1, v2, rfl, r1, hb'⟩
                refine ⟨_, rfl, hb', (d, v1, v2), rfl, Made.new fun w1 hs hbw hr => ?_⟩
                exact (r1.kept hs hr).mono hzB
              · intro a w val own hB hf hown hk
                have s7 := hf.at (d := 7) (v := .pointer (some ⟨wr.heap.size, 0, none⟩)) (by kernel_rfl) rfl
                exact rf_pure (v := .pointer (some ⟨wr.heap.size, 2, none⟩)) hB rfl rfl (by unfold execOp; go_simp) rfl
              · intro a w val own hB hf hown hk
                obtain ⟨k8, f8⟩ := hk 8 (show 8 ∈ [8] by decide)
                have s60 := k8 60 rfl
                rw [fIs_out f8] at s60
                clear k8 f8
                exact rf_pure (v := .pointer (some ⟨wr.heap.size, 6, none⟩)) hB rfl rfl (by unfold execOp; go_simp) rfl
              · intro a w val own hB hf hown hk
                obtain ⟨k9, f9⟩ := hk 9 (show 9 ∈ [8, 9] by decide)
                have s61 := k9 61 rfl
                rw [fIs_out f9] at s61
                clear k9 f9
                have cn6 := cell_below hB n6
                exact rf_pure (v := .int .i64 Q.left.sender) hB rfl rfl (by unfold execOp; go_simp) rfl
              · intro a w val own hB hf hown hk
                obtain ⟨kc, xc, ec, mc⟩ := hk 7 (show 7 ∈ [5, 6, 7, 8, 9, 10] by decide)
                have vc := one_eq ec
                have s59 := kc 59 rfl
                rw [vc] at s59
                clear kc ec mc
                obtain ⟨k10, f10⟩ := hk 10 (show 10 ∈ [5, 6, 7, 8, 9, 10] by decide)
                have s62 := k10 62 rfl
                rw [fIs_out f10] at s62
                clear k10 f10
                exact rf_pure (v := .agg #[.int .i64 (-1), .int .i64 0, .pointer (some ⟨xc.1, 0, none⟩), .int .i64 Q.left.sender]) hB rfl rfl (by unfold execOp; go_simp) ⟨xc.1, by show [val 7, _] = _; rw [vc]; rfl⟩
            intro aE w10 val own hB hf hown hk
            obtain ⟨kc, xc, ec, mc⟩ := hk 7 (by decide)
            have vc := one_eq ec
            have mh := mc.here hB
            clear kc ec mc
            obtain ⟨kd, xd, ed⟩ := hk 11 (by decide)
            have ed' : [val 7, val 11] = _ := ed
            injection ed' with ed1 ed2
            have vd := one_eq ed2
            rw [vc] at ed1
            have s63 := kd 63 rfl
            rw [vd] at s63
            clear kd ed ed2 vd
            have hxx : xd = xc.1 := by injection ed1 with ed1; injection ed1 with ed1; injection ed1 with ed1; exact ed1.symm
            subst hxx
            clear ed1 vc
            obtain ⟨kq, fq⟩ := hk 3 (by decide)
            have s55 := kq 55 rfl
            rw [fIs_out fq] at s55
            clear kq fq
            obtain ⟨kq, fq⟩ := hk 4 (by decide)
            have s56 := kq 56 rfl
            rw [fIs_out fq] at s56
            clear kq fq
            have hB0 : Below W2.heap.size W2 w10 := hB
            have hz0' := hB0.size
            obtain ⟨W3, ρ9, D9, T9, hrun', L9, wf9, hg3⟩ := hL2.addTwin hwk (by omega) hB0 mh Q.left.sender htl
            have hrun : (Instr.mapUpdate 120 (.map (some bm)) (.int .i64 (k : Int)) (.agg #[.int .i64 (-1), .int .i64 0, .pointer (some ⟨xc.1, 0, none⟩), .int .i64 Q.left.sender])).run Tryz.prog w10 = .ok () W3 := hrun'
            have hg4 : w10.grownBy W3 (some bm) := hg3
            have hb3 : Below w.heap.size w W3 := (hb2.trans (hB0.mono z2)).grown hg4 (by omega) fun q e => by injection e with e; omega
            have hx3 := (hx2.below hB0).grown hg4 (fun e => by injection e with e; omega)
            have HE : Hid (∃ (ρ9 : Nat → Rl) (D9 : Nat → Nat) (T9 : Nat → Value × Value), LvAt (w.heap.size + 1) ρ9 W3 ⟨bl, vp, vo, bm, F, D9, T9, ⟨m.cells, m.pages.map pgIn, m.order, m.now, twIn (m.twins.take (k + 1)), (m.twins.take (k + 1)).map fun t => bdOf t.left⟩⟩ ∧ LvM.wf ⟨m.cells, m.pages.map pgIn, m.order, m.now, twIn (m.twins.take (k + 1)), (m.twins.take (k + 1)).map fun t => bdOf t.left⟩ ∧ Below w.heap.size w W3 ∧ Bx W3 w.heap.size 36 [.int .i64 m.cells, .slice ap m.pages.length cp, .slice ao m.order.length co, .int .i64 m.now, .slice (some ⟨gt, ot, none⟩) m.twins.length ct, .int .i64 m.born, .slice as' m.said.length cs, .int .i64 m.code]) := ⟨_, _, _, by rw [htk, hbk]; exact L9, by rw [htk, hbk]; exact wf9, hb3, hx3⟩
            clear hrun' L9 wf9 hg3 hg4 hb3 hx3 hB0 mh
            have hu := frame_sets hf [52, 53, 54, 55, 56, 57, 58, 59, 60, 61, 62, 63] (by kernel_rfl)
            dsimp only at hu
            simp only [List.foldl_cons, List.foldl_nil, List.setIfInBounds_toArray, List.set_cons_succ, List.set_cons_zero] at hu
            rw [s55, s56, s63] at hu
            generalize aE.tmps[52]?.getD undef = u52 at hu
            generalize aE.tmps[53]?.getD undef = u53 at hu
            generalize aE.tmps[54]?.getD undef = u54 at hu
            generalize aE.tmps[57]?.getD undef = u57 at hu
            generalize aE.tmps[58]?.getD undef = u58 at hu
            generalize aE.tmps[59]?.getD undef = u59 at hu
            generalize aE.tmps[60]?.getD undef = u60 at hu
            generalize aE.tmps[61]?.getD undef = u61 at hu
            generalize aE.tmps[62]?.getD undef = u62 at hu
            obtain rfl := act_eq hu (show aE.defers = [] from hf.defers)
            clear hu hk hown hf s55 s56 s63
            refine wpOp_skip (w' := W3) rfl rfl (by unfold execOp; go_simp) ?_
            simp only [Act.put]
            clear hrun hB
            refine ex_gen (fun W9 => ∃ (ρ9 : Nat → Rl) (D9 : Nat → Nat) (T9 : Nat → Value × Value), LvAt (w.heap.size + 1) ρ9 W9 ⟨bl, vp, vo, bm, F, D9, T9, ⟨m.cells, m.pages.map pgIn, m.order, m.now, twIn (m.twins.take (k + 1)), (m.twins.take (k + 1)).map fun t => bdOf t.left⟩⟩ ∧ LvM.wf ⟨m.cells, m.pages.map pgIn, m.order, m.now, twIn (m.twins.take (k + 1)), (m.twins.take (k + 1)).map fun t => bdOf t.left⟩ ∧ Below w.heap.size w W9 ∧ Bx W9 w.heap.size 36 [.int .i64 m.cells, .slice ap m.pages.length cp, .slice ao m.order.length co, .int .i64 m.now, .slice (some ⟨gt, ot, none⟩) m.twins.length ct, .int .i64 m.born, .slice as' m.said.length cs, .int .i64 m.code]) HE.out ?_
            rintro W9 ⟨ρ9, D9, T9, k1, k2, k3, k4⟩
            clear HE
            go_wp2
            go_roundg (m.twins.length - (k + 1))
            case measure => omega
            case rel => exact ⟨k + 1, ρ9, D9, T9, by omega, rfl, by go_num, k1, k2, k3, k4⟩
          · obtain rfl : k = m.twins.length := by omega
            rw [List.take_length] at hL hwk
            go_wp2_with fail
            go_ret
            exact ⟨_, _, hL, rfl, rfl, hwk, hb⟩
end Go.Proofs.YtmifhlkcceafkaaGreat

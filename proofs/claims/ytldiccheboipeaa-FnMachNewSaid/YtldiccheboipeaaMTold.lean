/-
  The program's MachView of a machine all of which tells of what is there: callsAreThere, pageToldIsThere, twinToldIsThere, toldIsThere answer true. (Written by mktd.py.)
-/
import Derived.Test.YtldiccheboipeaaMThing1
import Derived.Test.YtldiccheboipeaaMThing6

namespace Go.Proofs.Ytldiccheboipeaa
open Go.RowKit
def ValsTell (n : Nat) (l : List (Int × Int)) : Prop := ∀ q, (hq : q < l.length) → l[q].1 = 2 → inR l[q].2 0 ((n : Int) - 1) = true
structure Tells (m : Mc) : Prop where
  fr : ∀ i k, (hi : i < m.pages.length) → (hk : k < m.pages[i].frames.length) → (m.pages[i].frames[k].twin == -1 || inR m.pages[i].frames[k].twin 0 ((m.twins.length : Int) - 1)) = true ∧ ValsTell m.twins.length m.pages[i].frames[k].temps ∧ ValsTell m.twins.length m.pages[i].frames[k].stack
  bs : ∀ i, (hi : i < m.pages.length) → (m.pages[i].base == -1 || inR m.pages[i].base 0 ((m.twins.length : Int) - 1)) = true
  tw : ∀ j, (hj : j < m.twins.length) → (m.twins[j].page ≠ -1 → frB m m.twins[j].page m.twins[j].place = true) ∧ (m.twins[j].page = -1 → (m.twins[j].left.sender == -1 || inR m.twins[j].left.sender 0 ((m.twins.length : Int) - 1)) = true ∧ ValsTell m.twins.length m.twins[j].left.temps ∧ ValsTell m.twins.length m.twins[j].left.stack)
theorem isPlaceT {j : Int} {n : Nat} (w : World) (h : inR j 0 ((n : Int) - 1) = true) : Calls Try.prog 56 #[.int .i64 j, .int .i64 n] w fun e w' => e = .returned (.bool true) ∧ w' = w := by
  have := isPlace_any j n w
  rwa [h] at this
theorem isCallT {j : Int} {n : Nat} (w : World) (h : (j == -1 || inR j 0 ((n : Int) - 1)) = true) : Calls Try.prog 129 #[.int .i64 j, .int .i64 n] w fun e w' => e = .returned (.bool true) ∧ w' = w := by
  have := implIsCallOrNone_any j n w
  rwa [h] at this
set_option maxRecDepth 100000 in
set_option maxHeartbeats 4000000 in
theorem callsAreThere_yes (vp vo vt vs : Value) (m : Mc) (v : Value) (l : List (Int × Int)) (w : World) (h : MachAt w vp vo vt vs m) (hv : OpsAt w v l) (hT : ValsTell m.twins.length l) :
    Calls Try.prog 134 #[.agg (mcCells vp vo vt vs m).toArray, v] w fun e w' => e = .returned (.bool true) ∧ Below w.heap.size w w' := by
  have HT : Hid (ValsTell m.twins.length l) := hT
  clear hT
  obtain ⟨av, cv, hvv, hlv, hcv⟩ := hv
  subst hvv
  unfold maxLen at hlv
  obtain ⟨ap, cp, hvp, hlp, hcp⟩ := id h.p
  obtain ⟨ao, co, hvo, hlo, hco⟩ := id h.o
  obtain ⟨at', ct, hvt, hlt', hct⟩ := id h.t
  obtain ⟨as', cs, hvs⟩ := h.s.shape
  subst hvp hvo hvt hvs
  unfold mcCells
  go_enter Try.func134, Try.ntmps134
  go_upto_region 1 with fail
  refine wp_gen (fun W => Below w.heap.size w W ∧ Bx W w.heap.size 33 [.int .i64 m.cells, .slice ap m.pages.length cp, .slice ao m.order.length co, .int .i64 m.now, .slice at' m.twins.length ct, .int .i64 m.born, .slice as' m.said.length cs, .int .i64 m.code]) ⟨(Below.refl _ _).alloc (Nat.le_refl _) _, Bx.new w _ _⟩ ?_
  rintro W ⟨hb, hm⟩
  obtain ⟨⟨m0, m1, m2, m3, m4, m5, m6, m7⟩, _⟩ := bx8 hm
  have zb := hb.size
  clear hcp hco hct hlp hlo hlt'
  go_wp2_with fail
  go_loopg [6, 9] l.length (fun d _ v wr => ∃ k : Nat, k ≤ l.length ∧ d = l.length - k ∧ v = .int .i64 (k : Int) ∧ Below w.heap.size w wr ∧ Below W.heap.size W wr)
  case atStart => exact ⟨0, Nat.zero_le _, rfl, rfl, hb, Below.refl _ _⟩
  case round =>
    obtain ⟨k, hk, rfl, rfl, hbr, hbW⟩ := hrel
    have zr := hbr.size
    have zW := hbW.size
    have hmr := hm.below hbW
    by_cases hlt : k < l.length
    · obtain ⟨b, o, rfl, c0, c1⟩ := hcv k hlt
      have d0 := cell_below hbr c0
      have d1 := cell_below hbr c1
      have HTk := HT.out k hlt
      obtain ⟨L, hL⟩ : ∃ L, l[k] = L := ⟨_, rfl⟩
      rw [hL] at d0 d1 HTk
      have hkz : (k : Int) < (l.length : Int) := by omega
      clear hcv c0 c1 hL
      go_upto_region 4 with fail
      refine wp_gen (fun W' => Below wr.heap.size wr W' ∧ Bx W' wr.heap.size 130 [.int .i64 L.1, .int .i64 L.2]) ⟨(Below.refl _ _).alloc (Nat.le_refl _) _, Bx.new _ _ _⟩ ?_
      rintro W2 ⟨t2, y2⟩
      have hb2 := hbr.trans (t2.mono zr)
      have hb3 := hbW.trans (t2.mono zW)
      have hm2 := hmr.below t2
      have z2 := hb2.size
      have z3 := hb3.size
      clear t2 hmr d0 d1 m0 m1 m2 m3 m4 m5 m6 m7
      obtain ⟨⟨m0, m1, m2, m3, m4, m5, m6, m7⟩, _⟩ := bx8 hm2
      have y0 := y2.cell 0 rfl
      have y1 := y2.cell 1 rfl
      by_cases h2 : L.1 = 2
      · have HP := isPlaceT W2 (HTk h2)
        rw [h2] at y0
        clear HTk
        go_wp2_with fail
        refine HP.mono ?_
        rintro e W3 ⟨rfl, hw⟩
        obtain rfl := hw.symm
        clear hw HP
        go_wp2
        go_roundg (l.length - (k + 1))
        case measure => omega
        case rel => exact ⟨k + 1, by omega, rfl, by go_num, hb2, hb3⟩
      · have h2b : (L.1 == 2) = false := by simpa using h2
        clear HTk
        go_wp2
        go_roundg (l.length - (k + 1))
        case measure => omega
        case rel => exact ⟨k + 1, by omega, rfl, by go_num, hb2, hb3⟩
    · obtain rfl : k = l.length := by omega
      go_wp2
      go_ret
      exact ⟨rfl, hbr⟩
set_option maxRecDepth 100000 in
set_option maxHeartbeats 4000000 in
theorem pageToldIsThere_yes (vp vo vt vs : Value) (m : Mc) (i : Nat) (w : World) (h : MachAt w vp vo vt vs m) (hi : i < m.pages.length) (hT : Tells m) (af : Option Addr) (cf : Nat) (hf : FramesAt w (.slice af m.pages[i].frames.length cf) m.pages[i].frames) :
    Calls Try.prog 100 #[.agg (mcCells vp vo vt vs m).toArray, .agg #[.int .i64 m.pages[i].base, .slice af m.pages[i].frames.length cf]] w fun e w' => e = .returned (.bool true) ∧ Below w.heap.size w w' := by
  have HT : Hid (Tells m) := hT
  clear hT
  have HM : Hid (MachAt w vp vo vt vs m) := h
  obtain ⟨P, hP⟩ : ∃ P, m.pages[i] = P := ⟨_, rfl⟩
  have hbs := HT.out.bs i hi
  have hfr : ∀ k, (hk : k < P.frames.length) → (P.frames[k].twin == -1 || inR P.frames[k].twin 0 ((m.twins.length : Int) - 1)) = true ∧ ValsTell m.twins.length P.frames[k].temps ∧ ValsTell m.twins.length P.frames[k].stack := fun k hk => by
    have e := hP
    subst e
    exact HT.out.fr i k hi hk
  rw [hP] at hf hbs ⊢
  have HBS : Hid ((P.base == -1 || inR P.base 0 ((m.twins.length : Int) - 1)) = true) := hbs
  clear hP hbs HT
  obtain ⟨_, _, e0, hlf, hcf⟩ := hf
  cases e0
  unfold maxLen at hlf
  obtain ⟨ap, cp, hvp, hlp, hcp⟩ := id h.p
  obtain ⟨ao, co, hvo, hlo, hco⟩ := id h.o
  obtain ⟨at', ct, hvt, hlt', hct⟩ := id h.t
  obtain ⟨as', cs, hvs⟩ := h.s.shape
  subst hvp hvo hvt hvs
  unfold mcCells
  go_enter Try.func100, Try.ntmps100
  go_upto_region 1 with fail
  refine wp_gen (fun W => Below w.heap.size w W ∧ Bx W w.heap.size 33 [.int .i64 m.cells, .slice ap m.pages.length cp, .slice ao m.order.length co, .int .i64 m.now, .slice at' m.twins.length ct, .int .i64 m.born, .slice as' m.said.length cs, .int .i64 m.code] ∧ Bx W (w.heap.size + 1) 51 [.int .i64 P.base, .slice af P.frames.length cf]) ⟨((Below.refl _ _).alloc (Nat.le_refl _) _).alloc (by simp) _, (Bx.new w _ _).alloc _, Bx.newAt _ _ _ (by simp)⟩ ?_
  rintro W ⟨hb, hm, hx⟩
  obtain ⟨⟨m0, m1, m2, m3, m4, m5, m6, m7⟩, _⟩ := bx8 hm
  have x0 := hx.cell 0 rfl
  have x1 := hx.cell 1 rfl
  have zb := hb.size
  clear hcp hco hct hlp hlo hlt'
  go_wp2_with fail
  go_loopg [6, 10] P.frames.length (fun d _ v wr => ∃ k : Nat, k ≤ P.frames.length ∧ d = P.frames.length - k ∧ v = .int .i64 (k : Int) ∧ Below w.heap.size w wr ∧ Below W.heap.size W wr)
  case atStart => exact ⟨0, Nat.zero_le _, rfl, rfl, hb, Below.refl _ _⟩
  case round =>
    obtain ⟨k, hk, rfl, rfl, hbr, hbW⟩ := hrel
    have zr := hbr.size
    have zW := hbW.size
    have hmr := hm.below hbW
    have hxr := hx.below hbW
    clear m0 m1 m2 m3 m4 m5 m6 m7 x0 x1
    by_cases hlt : k < P.frames.length
    · obtain ⟨bf, of, v1, v2, rfl, hF⟩ := hcf k hlt
      obtain ⟨HF1, HF2, HF3⟩ := hfr k hlt
      obtain ⟨F, hFe⟩ : ∃ F, P.frames[k] = F := ⟨_, rfl⟩
      rw [hFe] at hF HF1 HF2 HF3
      obtain ⟨d0, d1, d2, d3, d4, dt, ds⟩ := hF.below hbr
      obtain ⟨a1, k1, e1⟩ := dt.shape
      obtain ⟨a2, k2, e2⟩ := ds.shape
      subst e1 e2
      have hkz : (k : Int) < (P.frames.length : Int) := by omega
      clear hcf hfr hF hFe
      go_upto_region 4 with fail
      refine wp_gen (fun W' => Below wr.heap.size wr W' ∧ Bx W' wr.heap.size 53 [.int .i64 F.m, .int .i64 F.pc, .int .i64 F.twin, .slice a1 F.temps.length k1, .slice a2 F.stack.length k2]) ⟨(Below.refl _ _).alloc (Nat.le_refl _) _, Bx.new _ _ _⟩ ?_
      rintro W2 ⟨t2, y2⟩
      have hb2 := hbr.trans (t2.mono zr)
      have hb3 := hbW.trans (t2.mono zW)
      have hm2 := hmr.below t2
      have dt2 := dt.below t2
      have ds2 := ds.below t2
      have z2 := hb2.size
      have z3 := hb3.size
      clear t2 hmr hxr dt ds d0 d1 d2 d3 d4
      obtain ⟨⟨m0, m1, m2, m3, m4, m5, m6, m7⟩, _⟩ := bx8 hm2
      have y2' := y2.cell 2 rfl
      have y3 := y2.cell 3 rfl
      have y4 := y2.cell 4 rfl
      have HP := isCallT W2 HF1
      go_wp2_with fail
      refine HP.mono ?_
      rintro e W3 ⟨rfl, hw⟩
      obtain rfl := hw.symm
      clear hw HP
      have HQ := callsAreThere_yes _ _ _ _ m _ F.temps W2 (HM.out.below hb2) dt2 HF2
      unfold mcCells at HQ
      go_wp2_with fail
      refine HQ.mono ?_
      rintro e W3 ⟨rfl, t3⟩
      have hb4 := hb2.trans (t3.mono z2)
      have hb5 := hb3.trans (t3.mono z3)
      have hm3 := hm2.below t3
      have ds3 := ds2.below t3
      have y24 := cell_below t3 y4
      have z4 := hb4.size
      have z5 := hb5.size
      clear HQ t3 hm2 dt2 ds2 m0 m1 m2 m3 m4 m5 m6 m7 y2' y3 y4 y2
      obtain ⟨⟨m0, m1, m2, m3, m4, m5, m6, m7⟩, _⟩ := bx8 hm3
      have HR := callsAreThere_yes _ _ _ _ m _ F.stack W3 (HM.out.below hb4) ds3 HF3
      unfold mcCells at HR
      go_wp2_with fail
      refine HR.mono ?_
      rintro e W4 ⟨rfl, t4⟩
      have hb6 := hb4.trans (t4.mono z4)
      have hb7 := hb5.trans (t4.mono z5)
      clear HR t4 m0 m1 m2 m3 m4 m5 m6 m7
      go_wp2
      go_roundg (P.frames.length - (k + 1))
      case measure => omega
      case rel => exact ⟨k + 1, by omega, rfl, by go_num, hb6, hb7⟩
    · obtain rfl : k = P.frames.length := by omega
      obtain ⟨⟨m0, m1, m2, m3, m4, m5, m6, m7⟩, _⟩ := bx8 hmr
      have x0 := hxr.cell 0 rfl
      clear hcf hfr
      go_wp2_with fail
      refine (isCallT _ HBS.out).mono ?_
      rintro e W2 ⟨rfl, hw⟩
      obtain rfl := hw.symm
      go_wp2
      go_ret
      exact ⟨rfl, hbr⟩
set_option maxRecDepth 100000 in
set_option maxHeartbeats 4000000 in
theorem twinToldIsThere_yes (vp vo vt vs : Value) (m : Mc) (j : Nat) (w : World) (h : MachAt w vp vo vt vs m) (hj : j < m.twins.length) (hT : Tells m) (w1 w2 : Value) (h1 : OpsAt w w1 m.twins[j].left.temps) (h2 : OpsAt w w2 m.twins[j].left.stack) :
    Calls Try.prog 101 #[.agg (mcCells vp vo vt vs m).toArray, .agg #[.int .i64 m.twins[j].page, .int .i64 m.twins[j].place, .int .i64 m.twins[j].left.m, .int .i64 m.twins[j].left.pc, w1, w2, .int .i64 m.twins[j].left.sender, .bool m.twins[j].left.dead]] w fun e w' => e = .returned (.bool true) ∧ Below w.heap.size w w' := by
  have HM : Hid (MachAt w vp vo vt vs m) := h
  obtain ⟨hT1, hT2⟩ := hT.tw j hj
  obtain ⟨T, hTe⟩ : ∃ T, m.twins[j] = T := ⟨_, rfl⟩
  rw [hTe] at h1 h2 hT1 hT2 ⊢
  have HT1 : Hid (T.page ≠ -1 → frB m T.page T.place = true) := hT1
  have HT2 : Hid (T.page = -1 → (T.left.sender == -1 || inR T.left.sender 0 ((m.twins.length : Int) - 1)) = true ∧ ValsTell m.twins.length T.left.temps ∧ ValsTell m.twins.length T.left.stack) := hT2
  clear hT hT1 hT2 hTe
  obtain ⟨a1, k1, e1⟩ := h1.shape
  obtain ⟨a2, k2, e2⟩ := h2.shape
  subst e1 e2
  obtain ⟨ap, cp, hvp, hlp, hcp⟩ := id h.p
  obtain ⟨ao, co, hvo, hlo, hco⟩ := id h.o
  obtain ⟨at', ct, hvt, hlt', hct⟩ := id h.t
  obtain ⟨as', cs, hvs⟩ := h.s.shape
  subst hvp hvo hvt hvs
  unfold mcCells
  go_enter Try.func101, Try.ntmps101
  go_upto_region 1 with fail
  refine wp_gen (fun W => Below w.heap.size w W ∧ Bx W w.heap.size 33 [.int .i64 m.cells, .slice ap m.pages.length cp, .slice ao m.order.length co, .int .i64 m.now, .slice at' m.twins.length ct, .int .i64 m.born, .slice as' m.said.length cs, .int .i64 m.code] ∧ Bx W (w.heap.size + 1) 90 [.int .i64 T.page, .int .i64 T.place, .int .i64 T.left.m, .int .i64 T.left.pc, .slice a1 T.left.temps.length k1, .slice a2 T.left.stack.length k2, .int .i64 T.left.sender, .bool T.left.dead]) ⟨((Below.refl _ _).alloc (Nat.le_refl _) _).alloc (by simp) _, (Bx.new w _ _).alloc _, Bx.newAt _ _ _ (by simp)⟩ ?_
  rintro W ⟨hb, hm, hx⟩
  obtain ⟨⟨m0, m1, m2, m3, m4, m5, m6, m7⟩, _⟩ := bx8 hm
  obtain ⟨⟨x0, x1, x2, x3, x4, x5, x6, x7⟩, _⟩ := bx8 hx
  have zb := hb.size
  clear hcp hco hct hlp hlo hlt'
  by_cases hp : T.page = -1
  · obtain ⟨t1, t2, tq⟩ := HT2.out hp
    rw [hp] at x0
    have HP := isCallT W t1
    go_wp2_with fail
    refine HP.mono ?_
    rintro e W3 ⟨rfl, hw⟩
    obtain rfl := hw.symm
    clear hw HP
    have HQ := callsAreThere_yes _ _ _ _ m _ T.left.temps W (HM.out.below hb) (h1.below hb) t2
    unfold mcCells at HQ
    go_wp2_with fail
    refine HQ.mono ?_
    rintro e W3 ⟨rfl, t3⟩
    have hb3 := hb.trans (t3.mono zb)
    have hm3 := hm.below t3
    have hx3 := hx.below t3
    have z3 := hb3.size
    clear HQ t3 hm hx m0 m1 m2 m3 m4 m5 m6 m7 x0 x1 x2 x3 x4 x5 x6 x7
    obtain ⟨⟨m0, m1, m2, m3, m4, m5, m6, m7⟩, _⟩ := bx8 hm3
    obtain ⟨⟨x0, x1, x2, x3, x4, x5, x6, x7⟩, _⟩ := bx8 hx3
    have HR := callsAreThere_yes _ _ _ _ m _ T.left.stack W3 (HM.out.below hb3) (h2.below hb3) (by assumption)
    unfold mcCells at HR
    go_wp2_with fail
    refine HR.mono ?_
    rintro e W4 ⟨rfl, t4⟩
    have hb4 := hb3.trans (t4.mono z3)
    clear HR t4
    go_wp2
    go_ret
    exact ⟨rfl, hb4⟩
  · have hpb : (T.page == -1) = false := by simpa using hp
    have HF := isFrame_any _ _ _ _ m T.page T.place W (HM.out.below hb)
    rw [HT1.out hp] at HF
    unfold mcCells at HF
    go_wp2_with fail
    refine HF.mono ?_
    rintro e W2 ⟨rfl, t2⟩
    have hb2 := hb.trans (t2.mono zb)
    go_wp2
    go_ret
    exact ⟨rfl, hb2⟩
set_option maxRecDepth 100000 in
set_option maxHeartbeats 4000000 in
theorem toldIsThere_yes (vp vo vt vs : Value) (m : Mc) (w : World) (h : MachAt w vp vo vt vs m) (hT : Tells m) :
    Calls Try.prog 52 #[.agg (mcCells vp vo vt vs m).toArray] w fun e w' => e = .returned (.bool true) ∧ Below w.heap.size w w' := by
  have HT : Hid (Tells m) := hT
  clear hT
  have HM : Hid (MachAt w vp vo vt vs m) := h
  obtain ⟨ap, cp, hvp, hlp, hcp⟩ := id h.p
  obtain ⟨ao, co, hvo, hlo, hco⟩ := id h.o
  obtain ⟨at', ct, hvt, hlt', hct⟩ := id h.t
  obtain ⟨as', cs, hvs⟩ := h.s.shape
  subst hvp hvo hvt hvs
  unfold mcCells
  go_enter Try.func52, Try.ntmps52
  go_upto_region 1 with fail
  refine wp_gen (fun W => Below w.heap.size w W ∧ Bx W w.heap.size 33 [.int .i64 m.cells, .slice ap m.pages.length cp, .slice ao m.order.length co, .int .i64 m.now, .slice at' m.twins.length ct, .int .i64 m.born, .slice as' m.said.length cs, .int .i64 m.code]) ⟨(Below.refl _ _).alloc (Nat.le_refl _) _, Bx.new w _ _⟩ ?_
  rintro W ⟨hb, hm⟩
  obtain ⟨⟨m0, m1, m2, m3, m4, m5, m6, m7⟩, _⟩ := bx8 hm
  have zb := hb.size
  unfold maxLen at hlp hlt'
  clear hco
  go_wp2_with fail
  go_loopg [4, 10] m.pages.length (fun d _ v wr => ∃ k : Nat, k ≤ m.pages.length ∧ d = m.pages.length - k ∧ v = .int .i64 (k : Int) ∧ Below w.heap.size w wr ∧ Below W.heap.size W wr)
  case atStart => exact ⟨0, Nat.zero_le _, rfl, rfl, hb, Below.refl _ _⟩
  case round =>
    obtain ⟨k, hk, rfl, rfl, hbr, hbW⟩ := hrel
    have zr := hbr.size
    have zW := hbW.size
    have hmr := hm.below hbW
    clear m0 m1 m2 m3 m4 m5 m6 m7
    obtain ⟨⟨m0, m1, m2, m3, m4, m5, m6, m7⟩, _⟩ := bx8 hmr
    by_cases hlt : k < m.pages.length
    · obtain ⟨bp, op, vf, rfl, hpg⟩ := hcp k hlt
      obtain ⟨af, cf, hvf⟩ := hpg.f.shape
      subst hvf
      have g0 := cell_below hbr hpg.c0
      have g1 := cell_below hbr hpg.c1
      have HFA : Hid (FramesAt w (.slice af m.pages[k].frames.length cf) m.pages[k].frames) := hpg.f
      have hkz : (k : Int) < (m.pages.length : Int) := by omega
      clear hpg hcp hct
      go_upto_region 4 with fail
      refine wp_gen (fun W' => Below wr.heap.size wr W' ∧ Bx W' wr.heap.size 51 [.int .i64 m.pages[k].base, .slice af m.pages[k].frames.length cf]) ⟨(Below.refl _ _).alloc (Nat.le_refl _) _, Bx.new _ _ _⟩ ?_
      rintro W2 ⟨t2, y2⟩
      have hb2 := hbr.trans (t2.mono zr)
      have hb3 := hbW.trans (t2.mono zW)
      have hm2 := hmr.below t2
      have z2 := hb2.size
      have z3 := hb3.size
      clear t2 hmr g0 g1 m0 m1 m2 m3 m4 m5 m6 m7
      obtain ⟨⟨m0, m1, m2, m3, m4, m5, m6, m7⟩, _⟩ := bx8 hm2
      have y0 := y2.cell 0 rfl
      have y1 := y2.cell 1 rfl
      have HC := pageToldIsThere_yes _ _ _ _ m k W2 (HM.out.below hb2) hlt HT.out af cf (HFA.out.below hb2)
      unfold mcCells at HC
      go_wp2_with fail
      refine HC.mono ?_
      rintro e W3 ⟨rfl, t3⟩
      have hb4 := hb2.trans (t3.mono z2)
      have hb5 := hb3.trans (t3.mono z3)
      clear HC t3 m0 m1 m2 m3 m4 m5 m6 m7 y0 y1 y2
      go_wp2
      go_roundg (m.pages.length - (k + 1))
      case measure => omega
      case rel => exact ⟨k + 1, by omega, rfl, by go_num, hb4, hb5⟩
    · obtain rfl : k = m.pages.length := by omega
      clear hcp
      go_wp2_with fail
      go_loopg [6, 22] m.twins.length (fun d _ v wt => ∃ k : Nat, k ≤ m.twins.length ∧ d = m.twins.length - k ∧ v = .int .i64 (k : Int) ∧ Below w.heap.size w wt ∧ Below wr.heap.size wr wt)
      case atStart => exact ⟨0, Nat.zero_le _, rfl, rfl, hbr, Below.refl _ _⟩
      case round =>
        obtain ⟨k, hk, rfl, rfl, hbt, hbT⟩ := hrel
        have zt := hbt.size
        have zT := hbT.size
        have hmt := hmr.below hbT
        clear m0 m1 m2 m3 m4 m5 m6 m7
        obtain ⟨⟨m0, m1, m2, m3, m4, m5, m6, m7⟩, _⟩ := bx8 hmt
        by_cases hlt : k < m.twins.length
        · obtain ⟨bt, ot, w1, w2, rfl, htw⟩ := hct k hlt
          have h1 := htw.t
          have h2 := htw.s
          obtain ⟨d0, d1, d2, d3, d4, d5, d6, d7, dt, ds⟩ := htw.below hbt
          obtain ⟨a1, k1, e1⟩ := dt.shape
          obtain ⟨a2, k2, e2⟩ := ds.shape
          subst e1 e2
          have H1 : Hid (OpsAt w (.slice a1 m.twins[k].left.temps.length k1) m.twins[k].left.temps ∧ OpsAt w (.slice a2 m.twins[k].left.stack.length k2) m.twins[k].left.stack) := ⟨h1, h2⟩
          have hkz : (k : Int) < (m.twins.length : Int) := by omega
          have HCT : Hid (∀ W2, Below w.heap.size w W2 → Calls Try.prog 101 #[.agg (mcCells (.slice ap m.pages.length cp) (.slice ao m.order.length co) (.slice (some ⟨bt, ot, none⟩) m.twins.length ct) (.slice as' m.said.length cs) m).toArray, .agg #[.int .i64 m.twins[k].page, .int .i64 m.twins[k].place, .int .i64 m.twins[k].left.m, .int .i64 m.twins[k].left.pc, .slice a1 m.twins[k].left.temps.length k1, .slice a2 m.twins[k].left.stack.length k2, .int .i64 m.twins[k].left.sender, .bool m.twins[k].left.dead]] W2 fun e w' => e = .returned (.bool true) ∧ Below W2.heap.size W2 w') := fun W2 hW => twinToldIsThere_yes _ _ _ _ m k W2 (HM.out.below hW) hlt HT.out _ _ (H1.out.1.below hW) (H1.out.2.below hW)
          obtain ⟨T, hTe⟩ : ∃ T, m.twins[k] = T := ⟨_, rfl⟩
          rw [hTe] at d0 d1 d2 d3 d4 d5 d6 d7 HCT
          clear hct htw dt ds h1 h2 H1 hTe
          go_upto_region 10 with fail
          refine wp_gen (fun W' => Below wr.heap.size wr W' ∧ Bx W' wr.heap.size 90 [.int .i64 T.page, .int .i64 T.place, .int .i64 T.left.m, .int .i64 T.left.pc, .slice a1 T.left.temps.length k1, .slice a2 T.left.stack.length k2, .int .i64 T.left.sender, .bool T.left.dead]) ⟨(Below.refl _ _).alloc (Nat.le_refl _) _, Bx.new _ _ _⟩ ?_
          rintro W2 ⟨t2, y2⟩
          have hb2 := hbt.trans (t2.mono zt)
          have hb3 := hbT.trans (t2.mono zT)
          have hm2 := hmt.below t2
          have z2 := hb2.size
          have z3 := hb3.size
          clear t2 hmt d0 d1 d2 d3 d4 d5 d6 d7 m0 m1 m2 m3 m4 m5 m6 m7
          obtain ⟨⟨m0, m1, m2, m3, m4, m5, m6, m7⟩, _⟩ := bx8 hm2
          obtain ⟨⟨y0, y1, y2', y3, y4, y5, y6, y7⟩, _⟩ := bx8 y2
          have HC := HCT.out W2 hb2
          clear HCT
          unfold mcCells at HC
          go_wp2_with fail
          refine HC.mono ?_
          rintro e W3 ⟨rfl, t3⟩
          have hb4 := hb2.trans (t3.mono z2)
          have hb5 := hb3.trans (t3.mono z3)
          clear HC t3 m0 m1 m2 m3 m4 m5 m6 m7 y0 y1 y2 y2' y3 y4 y5 y6 y7
          go_wp2
          go_roundg (m.twins.length - (k + 1))
          case measure => omega
          case rel => exact ⟨k + 1, by omega, rfl, by go_num, hb4, hb5⟩
        · obtain rfl : k = m.twins.length := by omega
          go_wp2
          go_ret
          exact ⟨rfl, hbt⟩
end Go.Proofs.Ytldiccheboipeaa

/-
  A machine that is handed out, each of its lists in a block of its own role: markMach and heldMach, and what an exact law asks of it as an answer.
-/
import Derived.Test.YtmifhlkcceafkaaGreatMMarkP
import Derived.Test.YtmifhlkcceafkaaGreatMThing5

namespace Go.Proofs.YtmifhlkcceafkaaGreat
open Go.RowKit
def mvMc (n : Nat) (bs : Nat → Int) (fs : List Fr) (ord : List Int) (ts : List Tw) (said : List (Int × Int)) (c now born code : Int) : Mc := ⟨c, (List.range n).map fun q => ⟨bs q, if q = 0 then fs else []⟩, ord, now, ts, born, said, code⟩
structure MvO (B S : Nat) (ρ : Nat → Rl) (w : World) (v1 v2 v3 v4 : Value) (n : Nat) (bs : Nat → Int) (V : Nat → Value) (fs : List Fr) (t s : Value) (ord : List Int) (ts : List Tw) (TV : Nat → Value × Value) (said : List (Int × Int)) : Prop where
  p : PgO B ρ w v1 n bs V fs t s
  o : IntRow B w v2 ord ∧ ∀ g, v2.ownBlock = some g → ρ g = .order
  t : TwO B ρ w v3 ts TV
  s : PairRow B w v4 said ∧ ∀ g, v4.ownBlock = some g → ρ g = .live
  lim : ∀ g, ρ g ≠ .other → B ≤ g ∧ g < S
  hS : S ≤ w.heap.size
theorem PgR.some {r : Rl} (h : PgR r) : r ≠ .other := by rcases h with rfl | rfl | rfl | rfl <;> exact fun e => by cases e
theorem TwR.some {r : Rl} (h : TwR r) : r ≠ .other := by rcases h with rfl | ⟨i, rfl⟩ | ⟨i, rfl⟩ <;> exact fun e => by cases e
section
variable {B S : Nat} {ρ : Nat → Rl} {w w' : World} {v1 v2 v3 v4 : Value} {n : Nat} {bs : Nat → Int} {V : Nat → Value} {fs : List Fr} {t s : Value} {ord : List Int} {ts : List Tw} {TV : Nat → Value × Value} {said : List (Int × Int)}
theorem MvO.kept (h : MvO B S ρ w v1 v2 v3 v4 n bs V fs t s ord ts TV said) (hs : w.heap.size ≤ w'.heap.size) (hb : ∀ g, B ≤ g → g < S → w'.heap[g]? = w.heap[g]?) : MvO B S ρ w' v1 v2 v3 v4 n bs V fs t s ord ts TV said := by
  have hb' : ∀ g, ρ g ≠ .other → w'.heap[g]? = w.heap[g]? := fun g hg => hb g (h.lim g hg).1 (h.lim g hg).2
  exact ⟨h.p.kept hs fun g h1 _ _ => hb' g h1.some, ⟨h.o.1.kept hs fun g e => hb' g (by rw [h.o.2 g e]; exact fun e => by cases e), h.o.2⟩, h.t.kept hs fun g h1 _ _ => hb' g h1.some,
    ⟨h.s.1.kept hs fun g e => hb' g (by rw [h.s.2 g e]; exact fun e => by cases e), h.s.2⟩, h.lim, Nat.le_trans h.hS hs⟩
theorem MvO.below (h : MvO B S ρ w v1 v2 v3 v4 n bs V fs t s ord ts TV said) (hb : Below w.heap.size w w') : MvO B S ρ w' v1 v2 v3 v4 n bs V fs t s ord ts TV said := h.kept hb.size fun g _ h2 => hb.block g (Nat.lt_of_lt_of_le h2 h.hS)
theorem MvO.at (h : MvO B S ρ w v1 v2 v3 v4 n bs V fs t s ord ts TV said) (c now born code : Int) : MachAt w v1 v2 v3 v4 (mvMc n bs fs ord ts said c now born code) := ⟨h.p.at, h.o.1.at, h.t.at, h.s.1.at⟩
end
def mvK (n : Nat) (fs : List Fr) (ord : List Int) (ts : List Tw) (said : List (Int × Int)) : Int := tAt (mkP (spanF fs) n + (ord.length : Int)) ts ts.length + 2 * (said.length : Int)
structure MvFew (n : Nat) (fs : List Fr) (ord : List Int) (ts : List Tw) (said : List (Int × Int)) : Prop where
  n1 : 1 ≤ n
  n4 : n ≤ 1000
  f : ∀ x ∈ fs, x.temps.length ≤ 1000000 ∧ x.stack.length ≤ 1000000
  o : ord.length ≤ 1000
  t : ts.length ≤ 1000
  ts : ∀ i, (hi : i < ts.length) → ts[i].small
  s : said.length ≤ 1048576
set_option maxRecDepth 100000 in
set_option maxHeartbeats 4000000 in
theorem markMach_mv {B S : Nat} {ρ : Nat → Rl} {v1 v2 v3 v4 : Value} {n : Nat} {bs : Nat → Int} {V : Nat → Value} {fs : List Fr} {t s : Value} {ord : List Int} {ts : List Tw} {TV : Nat → Value × Value} {said : List (Int × Int)} (c now born code : Int) (w : World)
    (h : MvO B S ρ w v1 v2 v3 v4 n bs V fs t s ord ts TV said) (hf : MvFew n fs ord ts said) :
    Calls Tryz.prog 15 #[.agg #[.int .i64 c, v1, v2, .int .i64 now, v3, .int .i64 born, v4, .int .i64 code], .int .i64 1] w fun e w' => e = .returned (.int .i64 (mvK n fs ord ts said)) ∧
      MvO B S ρ w' v1 v2 v3 v4 n (mkP (spanF fs)) V (fs.map (markFr 2)) t s (markI (mkP (spanF fs) n) ord.length) (markTs (mkP (spanF fs) n + (ord.length : Int)) ts) TV (markV (tAt (mkP (spanF fs) n + (ord.length : Int)) ts ts.length) said.length) ∧ Wr (fun g => B ≤ g ∧ g < S) w w' := by
  obtain ⟨gp, op, cp, hv1, _⟩ := h.p.r
  obtain ⟨ao, co, hv2, _⟩ := h.o.1.slice
  obtain ⟨at', ct, hv3, _⟩ := h.t.sh
  obtain ⟨as', cs, hv4, _⟩ := h.s.1.slice
  have HF : Hid (MvFew n fs ord ts said) := hf
  have HL : Hid (∀ g, ρ g ≠ .other → B ≤ g ∧ g < S) := h.lim
  have HRO : Hid (∀ g, v2.ownBlock = some g → ρ g = .order) := h.o.2
  have HRS : Hid (∀ g, v4.ownBlock = some g → ρ g = .live) := h.s.2
  have hS := h.hS
  have hsb := spanF_bound hf.f
  have hn4 := hf.n4
  have ho4 := hf.o
  have hs4 := hf.s
  have hmb : 1 ≤ mkP (spanF fs) n ∧ mkP (spanF fs) n ≤ 4100000 := by unfold mkP; split <;> omega
  obtain ⟨K, hK⟩ : ∃ K, mkP (spanF fs) n = K := ⟨_, rfl⟩
  have hkt := tAt_le (K + (ord.length : Int)) ts hf.ts ts.length (Nat.le_refl _)
  have ht4 := hf.t
  have HK : Hid (mkP (spanF fs) n = K) := hK
  rw [hK] at hmb
  clear hK hf
  unfold mvK
  rw [HK.out]
  subst hv1 hv2 hv3 hv4
  go_enter Tryz.func15, Tryz.ntmps15
  go_upto_region 1 with fail
  refine wp_gen (fun W => Below w.heap.size w W ∧ Bx W w.heap.size 36 [.int .i64 c, .slice (some ⟨gp, op, none⟩) n cp, .slice ao ord.length co, .int .i64 now, .slice at' ts.length ct, .int .i64 born, .slice as' said.length cs, .int .i64 code]) ⟨(Below.refl _ _).alloc (Nat.le_refl _) _, Bx.new w _ _⟩ ?_
  rintro W0 ⟨B0, x0⟩
  have h0 := h.below B0
  have HB0 : Hid (Wr (fun g => B ≤ g ∧ g < S) w W0) := Wr.of_below B0
  clear h B0
  have p1 := x0.cell 1 rfl
  go_wp2_with fail
  refine (markPageS_o B ρ _ n bs V fs t s _ h0.p HF.out.n1 HF.out.n4 HF.out.f).mono ?_
  rintro e W1 ⟨rfl, hp1, w1⟩
  have x1 := w1.bx x0 (fun e => by have := (HL.out _ e.some).2; omega)
  have ho1 := w1.ints h0.o.1 (fun g e e2 => by rw [HRO.out g e] at e2; rcases e2 with e2 | e2 | e2 | e2 <;> cases e2)
  have ht1 := h0.t.wr w1 (fun g e e2 => by rcases e with e | ⟨i, e⟩ | ⟨i, e⟩ <;> rw [e] at e2 <;> rcases e2 with e2 | e2 | e2 | e2 <;> cases e2)
  have hs1 := w1.pair h0.s.1 (fun g e e2 => by rw [HRS.out g e] at e2; rcases e2 with e2 | e2 | e2 | e2 <;> cases e2)
  have HB1 : Hid (Wr (fun g => B ≤ g ∧ g < S) w W1) := HB0.out.trans (w1.mono fun g e => HL.out g e.some)
  clear w1 x0 h0 HB0 p1
  rw [HK.out]
  have p2 := x1.cell 2 rfl
  go_wp2_with fail
  refine (markIntS_any B _ ord _ _ ho1 (by omega) (by omega) (by omega)).mono ?_
  rintro e W2 ⟨rfl, ho2, w2⟩
  have x2 := w2.bx x1 (fun e => by have := (HL.out _ (by rw [HRO.out _ e]; exact fun e => by cases e)).2; omega)
  have hp2 := hp1.wr w2 (fun g e e2 => by rw [HRO.out g e2] at e; rcases e with e | e | e | e <;> cases e)
  have ht2 := ht1.wr w2 (fun g e e2 => by rw [HRO.out g e2] at e; rcases e with e | ⟨i, e⟩ | ⟨i, e⟩ <;> cases e)
  have hs2 := w2.pair hs1 (fun g e e2 => by have := HRS.out g e; rw [HRO.out g e2] at this; cases this)
  have HB2 : Hid (Wr (fun g => B ≤ g ∧ g < S) w W2) := HB1.out.trans (w2.mono fun g e => HL.out g (by rw [HRO.out g e]; exact fun e => by cases e))
  clear w2 x1 hp1 ht1 hs1 ho1 HB1 p2
  obtain ⟨K1, hK1⟩ : ∃ K1, K + (ord.length : Int) = K1 := ⟨_, rfl⟩
  have HK1 : Hid (K + (ord.length : Int) = K1) := hK1
  have hK1b : 0 ≤ K1 ∧ K1 ≤ 10000000 := by omega
  rw [hK1] at hkt
  rw [hK1]
  clear hK1
  have p4 := x2.cell 4 rfl
  go_wp2_with fail
  refine (markTwinS_any B ρ _ ts TV _ _ ht2 (by omega) HF.out.ts (by omega) (by omega)).mono ?_
  rintro e W3 ⟨rfl, ht3, w3⟩
  have x3 := w3.bx x2 (fun e => by have := (HL.out _ e.some).2; omega)
  have hp3 := hp2.wr w3 (fun g e e2 => by rcases e2 with e2 | ⟨i, e2⟩ | ⟨i, e2⟩ <;> rw [e2] at e <;> rcases e with e | e | e | e <;> cases e)
  have ho3 := w3.ints ho2 (fun g e e2 => by rw [HRO.out g e] at e2; rcases e2 with e2 | ⟨i, e2⟩ | ⟨i, e2⟩ <;> cases e2)
  have hs3 := w3.pair hs2 (fun g e e2 => by rw [HRS.out g e] at e2; rcases e2 with e2 | ⟨i, e2⟩ | ⟨i, e2⟩ <;> cases e2)
  have HB3 : Hid (Wr (fun g => B ≤ g ∧ g < S) w W3) := HB2.out.trans (w3.mono fun g e => HL.out g e.some)
  clear w3 x2 hp2 ht2 hs2 ho2 HB2 p4
  obtain ⟨K2, hK2⟩ : ∃ K2, tAt K1 ts ts.length = K2 := ⟨_, rfl⟩
  have HK2 : Hid (tAt K1 ts ts.length = K2) := hK2
  rw [hK2] at hkt
  rw [hK2]
  clear hK2
  have p6 := x3.cell 6 rfl
  go_wp2_with fail
  refine (markValS_any B _ said _ _ hs3 (by omega) (by omega) (by omega)).mono ?_
  rintro e W4 ⟨rfl, hs4', w4⟩
  have hp4 := hp3.wr w4 (fun g e e2 => by rw [HRS.out g e2] at e; rcases e with e | e | e | e <;> cases e)
  have ho4' := w4.ints ho3 (fun g e e2 => by have := HRO.out g e; rw [HRS.out g e2] at this; cases this)
  have ht4' := ht3.wr w4 (fun g e e2 => by rw [HRS.out g e2] at e; rcases e with e | ⟨i, e⟩ | ⟨i, e⟩ <;> cases e)
  have HB4 : Hid (Wr (fun g => B ≤ g ∧ g < S) w W4) := HB3.out.trans (w4.mono fun g e => HL.out g (by rw [HRS.out g e]; exact fun e => by cases e))
  have hz := HB4.out.size
  have HM : Hid (MvO B S ρ W4 (.slice (some ⟨gp, op, none⟩) n cp) (.slice ao ord.length co) (.slice at' ts.length ct) (.slice as' said.length cs) n (mkP (spanF fs)) V (fs.map (markFr 2)) t s (markI K ord.length) (markTs K1 ts) TV (markV K2 said.length)) :=
    ⟨hp4, ⟨ho4', HRO.out⟩, ht4', ⟨hs4', HRS.out⟩, HL.out, by omega⟩
  clear w4 hp3 hp4 ho3 ho4' ht3 ht4' hs3 hs4' x3 HB3 p6
  go_wp2
  go_ret
  rw [HK1.out, HK2.out]
  exact ⟨rfl, HM.out, HB4.out⟩
set_option maxRecDepth 100000 in
set_option maxHeartbeats 4000000 in
theorem heldMach_mv {B S : Nat} {ρ : Nat → Rl} {v1 v2 v3 v4 : Value} {n : Nat} {V : Nat → Value} {fs : List Fr} {t s : Value} {ord : List Int} {ts : List Tw} {TV : Nat → Value × Value} {said : List (Int × Int)} (c now born code : Int) (w : World)
    (h : MvO B S ρ w v1 v2 v3 v4 n (mkP (spanF fs)) V (fs.map (markFr 2)) t s (markI (mkP (spanF fs) n) ord.length) (markTs (mkP (spanF fs) n + (ord.length : Int)) ts) TV (markV (tAt (mkP (spanF fs) n + (ord.length : Int)) ts ts.length) said.length)) (hf : MvFew n fs ord ts said) :
    Calls Tryz.prog 16 #[.agg #[.int .i64 c, v1, v2, .int .i64 now, v3, .int .i64 born, v4, .int .i64 code], .int .i64 1] w fun e w' => e = .returned (.int .i64 (mvK n fs ord ts said)) ∧ Below w.heap.size w w' := by
  obtain ⟨gp, op, cp, hv1, _⟩ := h.p.r
  obtain ⟨ao, co, hv2, _⟩ := h.o.1.slice
  obtain ⟨at', ct, hv3, _⟩ := h.t.sh
  obtain ⟨as', cs, hv4, _⟩ := h.s.1.slice
  rw [markI_length] at hv2
  rw [markTs_length] at hv3
  rw [markV_length] at hv4
  have HF : Hid (MvFew n fs ord ts said) := hf
  have hsb := spanF_bound hf.f
  have hn4 := hf.n4
  have ho4 := hf.o
  have hs4 := hf.s
  have ht4 := hf.t
  have hmb : 1 ≤ mkP (spanF fs) n ∧ mkP (spanF fs) n ≤ 4100000 := by unfold mkP; split <;> omega
  obtain ⟨K, hK⟩ : ∃ K, mkP (spanF fs) n = K := ⟨_, rfl⟩
  obtain ⟨K1, hK1⟩ : ∃ K1, K + (ord.length : Int) = K1 := ⟨_, rfl⟩
  have hkt := tAt_le K1 ts hf.ts ts.length (Nat.le_refl _)
  obtain ⟨K2, hK2⟩ : ∃ K2, tAt K1 ts ts.length = K2 := ⟨_, rfl⟩
  unfold mvK
  rw [hK, hK1, hK2] at h ⊢
  have HK : Hid (mkP (spanF fs) n = K) := hK
  have HK1 : Hid (K + (ord.length : Int) = K1) := hK1
  have HK2 : Hid (tAt K1 ts ts.length = K2) := hK2
  have hK1b : 0 ≤ K1 ∧ K1 ≤ 10000000 := by omega
  rw [hK] at hmb
  rw [hK2] at hkt
  clear hK hK1 hK2 hf
  subst hv1 hv2 hv3 hv4
  go_enter Tryz.func16, Tryz.ntmps16
  go_upto_region 1 with fail
  refine wp_gen (fun W => Below w.heap.size w W ∧ Bx W w.heap.size 36 [.int .i64 c, .slice (some ⟨gp, op, none⟩) n cp, .slice ao ord.length co, .int .i64 now, .slice at' ts.length ct, .int .i64 born, .slice as' said.length cs, .int .i64 code]) ⟨(Below.refl _ _).alloc (Nat.le_refl _) _, Bx.new w _ _⟩ ?_
  rintro W0 ⟨B0, x0⟩
  have h0 := h.below B0
  have HO : OpsAt W0 (.slice as' said.length cs) (markV K2 said.length) := h0.s.1.at
  have HI : IntsAt W0 (.slice ao ord.length co) (markI K ord.length) := h0.o.1.at
  have HT : TwinsAt W0 (.slice at' ts.length ct) (markTs K1 ts) := h0.t.at
  have HP : Hid (PgO B ρ W0 (.slice (some ⟨gp, op, none⟩) n cp) n (mkP (spanF fs)) V (fs.map (markFr 2)) t s) := h0.p
  clear h h0
  obtain ⟨⟨_, p1, p2, _, p4, _, p6, _⟩, _⟩ := bx8 x0
  go_wp2_with fail
  refine (heldPageS_o B ρ _ n V fs t s _ HP.out HF.out.n1 HF.out.n4 HF.out.f).mono ?_
  rintro e W1 ⟨rfl, hw⟩
  obtain rfl := hw.symm
  clear hw
  rw [HK.out]
  have hn0 : ¬ (K < 0) := by omega
  go_wp2_with fail
  refine (heldIntS_any _ ord.length _ _ HI (by omega) (by omega) (by omega)).mono ?_
  rintro e W2 ⟨rfl, hw⟩
  obtain rfl := hw.symm
  clear hw
  rw [HK1.out]
  have hn1 : ¬ (K1 < 0) := by omega
  go_wp2_with fail
  refine (heldTwinS_any _ ts _ _ HT (by omega) HF.out.ts (by omega) (by omega)).mono ?_
  rintro e W3 ⟨rfl, hw⟩
  obtain rfl := hw.symm
  clear hw
  rw [HK2.out]
  have hn2 : ¬ (K2 < 0) := by omega
  go_wp2_with fail
  refine (heldValS_any _ said.length _ _ HO (by omega) (by omega) (by omega)).mono ?_
  rintro e W4 ⟨rfl, hw⟩
  obtain rfl := hw.symm
  clear hw
  have hn3 : ¬ (K2 + 2 * (said.length : Int) < 0) := by omega
  go_wp2
  go_ret
  exact ⟨rfl, B0⟩
theorem mvK_le {n : Nat} {fs : List Fr} {ord : List Int} {ts : List Tw} {said : List (Int × Int)} (hf : MvFew n fs ord ts said) : 0 ≤ mvK n fs ord ts said := by
  have hsb := spanF_bound hf.f
  have hmb : 1 ≤ mkP (spanF fs) n := by unfold mkP; split <;> omega
  have := (tAt_le (mkP (spanF fs) n + (ord.length : Int)) ts hf.ts ts.length (Nat.le_refl _)).1
  unfold mvK
  omega
theorem MvO.ans {B : Nat} {ρ : Nat → Rl} {w : World} {v1 v2 v3 v4 : Value} {n : Nat} {bs : Nat → Int} {V : Nat → Value} {fs : List Fr} {t s : Value} {ord : List Int} {ts : List Tw} {TV : Nat → Value × Value} {said : List (Int × Int)} (c now born code : Int)
    (h : MvO B w.heap.size ρ w v1 v2 v3 v4 n bs V fs t s ord ts TV said) (hf : MvFew n fs ord ts said) :
    IAns B w (mvMc n bs fs ord ts said c now born code) v1 v2 v3 v4 (fun g => B ≤ g ∧ g < w.heap.size) (mvK n fs ord ts said) (fun z => MvO B w.heap.size ρ z v1 v2 v3 v4 n (mkP (spanF fs)) V (fs.map (markFr 2)) t s (markI (mkP (spanF fs) n) ord.length) (markTs (mkP (spanF fs) n + (ord.length : Int)) ts) TV (markV (tAt (mkP (spanF fs) n + (ord.length : Int)) ts ts.length) said.length)) where
  lt := fun _ h => h
  stay := fun w' hs hk => by
    have h' := h.kept hs fun g h1 h2 => hk g ⟨h1, h2⟩
    exact ⟨h'.at c now born code, markMach_mv c now born code w' h' hf⟩
  go := fun w1 w2 hm hb => hm.below hb
  held := fun w1 hm => heldMach_mv c now born code w1 hm hf
  k0 := mvK_le hf
end Go.Proofs.YtmifhlkcceafkaaGreat

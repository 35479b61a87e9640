/-
  The law FnHeapDeep, walked: whatever bytes come in, it answers true and writes to nothing that was there.
-/
import Derived.Test.YtleodeffmfkfkaaDrawHeapView
import Derived.Test.YtleodeffmfkfkaaViewAgain
import Derived.Test.YtleodeffmfkfkaaVImpl5
namespace Go.Proofs.Ytleodeffmfkfkaa
open Go.RowKit

set_option maxRecDepth 100000 in
set_option maxHeartbeats 2000000 in
theorem specHeapDeep_any (vc vs : Value) (h : Hp) (w : World) (hh : HeapAt w vc vs h) (hn : h.calls.length ≤ 900000) :
    Calls Try.prog 22 #[.agg (hpCells vc vs h)] w fun e w' => e = .returned (.int .i64 ((chainOf h.calls h.now).length : Nat)) ∧ Below w.heap.size w w' := by
  have hA : Below w.heap.size w (w.alloc (.cells (hpCells vc vs h) 29)) := (Below.refl _ _).alloc (Nat.le_refl _) _
  have bx : (w.alloc (.cells (hpCells vc vs h) 29)).rowIs w.heap.size 29 5 (five vc (.int .i64 h.now) (.int .i64 h.born) vs (.int .i64 h.code)) := five_new w 29 vc (.int .i64 h.now) (.int .i64 h.born) vs (.int .i64 h.code)
  have HC := l11Chain_any vc vs h _ (hh.below hA) hn
  unfold hpCells at *
  obtain ⟨ac, kc, hvc⟩ := hh.c.shape
  obtain ⟨aD, kD, hvs⟩ := hh.s.shape
  subst hvc hvs
  go_enter Try.func22, Try.ntmps22
  go_upto_region 1 with fail
  generalize w.alloc (.cells #[.slice ac h.calls.length kc, .int .i64 h.now, .int .i64 h.born, .slice aD h.said.length kD, .int .i64 h.code] 29) = W1 at *
  obtain ⟨⟨x0, x1, x2, x3, x4⟩, _⟩ := five_cells bx
  go_wp2_with fail
  refine HC.mono ?_
  rintro e w2 ⟨v, rfl, hv, hb⟩
  obtain ⟨a2, k2, hv2, _⟩ := hv.slice
  rw [nums_len] at hv2
  subst hv2
  go_wp2
  go_ret
  exact ⟨rfl, hA.trans (hb.mono hA.size)⟩

theorem chain_few (cs : List Cl) (now : Int) : (chainOf cs now).length ≤ cs.length := by
  unfold chainOf
  cases e : walkC cs cs.length now with
  | none => exact Nat.zero_le _
  | some l =>
    have := few_of_nodup l (List.range cs.length) (walkC_nodup _ _ _ e) (fun k hk => by obtain ⟨h, _⟩ := walkC_in _ _ _ e k hk; simpa using h)
    simpa using this

/-- one comes by callers through what is seen, and to its end -/
theorem view_walk {h : Hp} (hp : 0 < (chainOf h.calls h.now).length) : ∃ l : List Nat, l.length = (chainOf h.calls h.now).length ∧ (∀ h0 : 0 < l.length, l[0] = 0) ∧ ∀ i, (hi : i < l.length) → ∃ hb : l[i] < (viewL h).length, (∀ h2 : i + 1 < l.length, (viewL h)[l[i]].sender = (l[i + 1] : Int)) ∧ (i + 1 = l.length → (viewL h)[l[i]].sender = -1) := by
  unfold chainOf at hp ⊢
  cases e : walkC h.calls h.calls.length h.now with
  | none => rw [e] at hp; exact absurd hp (Nat.lt_irrefl _)
  | some l =>
    rw [e] at hp
    simp only [Option.getD_some] at hp ⊢
    obtain ⟨s1, s2, s3⟩ := walk_seq _ _ _ e
    have hn0 := s1 hp
    obtain ⟨hb0, _⟩ := s3 0 hp
    have hf : found h ≠ [] := fun ef => by
      have hin : 0 ≤ h.now ∧ h.now < (h.calls.length : Int) := by omega
      obtain ⟨t, ht⟩ := foundF_pre h.calls h.calls.length 0 (comeP h.calls.length [] h.now)
      obtain ⟨k, hk⟩ := Int.eq_ofNat_of_zero_le hin.1
      have hn : numOf [] (k : Int) = -1 := rfl
      unfold found at ef
      rw [ht, hk, comeP_yes (by omega) hn] at ef
      simp at ef
    obtain ⟨k, k1, k2, k3⟩ := found_first hf
    have hl : 0 < (found h).length := List.length_pos_iff.2 hf
    have e0 : (found h)[0] = k := by
      obtain ⟨t, ht⟩ := foundF_pre h.calls h.calls.length 0 [k]
      have : found h = [k] ++ t := by unfold found; rw [k3]; exact ht
      simp [this]
    have hz : numOf (found h) h.now = 0 := by
      rw [k1]
      exact numOf_first (i := 0) hl (by rw [e0]) (fun q hq => absurd hq (Nat.not_lt_zero _))
    have hv := walk_view _ _ _ e (fun _ => by rw [hz]; decide)
    rw [hz] at hv
    obtain ⟨v1, v2, v3⟩ := walk_seq _ _ _ hv
    refine ⟨l.map fun (p : Nat) => (numOf (found h) p).toNat, List.length_map _, fun h0 => by have := v1 h0; omega, fun i hi => ?_⟩
    obtain ⟨q1, q2, q3⟩ := v3 i hi
    refine ⟨q1, q2, fun h2 => ?_⟩
    have h3 := q3 h2
    have : ∀ j, (hj : j < (viewL h).length) → -1 ≤ (viewL h)[j].sender := fun j hj => by
      have e1 : (viewL h)[j].sender = numOf (found h) (h.calls.getD ((found h)[j]'(by rw [← viewL_len]; exact hj)) Cl.none).sender := by simp [viewL, viewC]
      rw [e1]
      exact numOf_ge _ _
    have := this _ q1
    omega

set_option maxRecDepth 100000 in
set_option maxHeartbeats 4000000 in
theorem lawHeapDeep_any (w : World) (a : Option Addr) (len cap : Nat) (h : BytesAt w a len cap) :
    Calls Try.prog 6 #[.slice a len cap] w fun e w' => e = .returned (.bool true) ∧ Below w.heap.size w w' := by
  have hc := h.1
  have hm := h.2.1
  unfold maxLen at hm
  have HB : Hid (BytesAt w a len cap) := h
  clear h
  by_cases hl : 1048576 < len
  · have hlz : (1048576 : Int) < (len : Int) := by omega
    go_enter Try.func6, Try.ntmps6
    go_wp2
    go_ret
    exact ⟨rfl, Below.refl _ _⟩
  have hlz : (len : Int) ≤ 1048576 := by omega
  go_enter Try.func6, Try.ntmps6
  go_wp2_with fail
  refine (drawHeapDeep_any _ a len cap HB.out).mono ?_
  rintro e w1 ⟨vc, vs, H, rfl, hH1, hfi, hB1⟩
  obtain ⟨ac, kc, hvc⟩ := hH1.c.shape
  obtain ⟨aD, kD, hvs⟩ := hH1.s.shape
  subst hvc hvs
  have z1 := hB1.size
  have l30 := hfi.l30
  have HFI : Hid (HpFine H) := hfi
  clear HB hfi
  unfold hpCells
  go_upto_region 4 with fail
  have N2 : Below w1.heap.size w1 (w1.alloc (.cells #[.slice ac H.calls.length kc, .int .i64 H.now, .int .i64 H.born, .slice aD H.said.length kD, .int .i64 H.code] 29)) := (Below.refl _ _).alloc (Nat.le_refl _) _
  have rh := five_new w1 29 (.slice ac H.calls.length kc) (.int .i64 H.now) (.int .i64 H.born) (.slice aD H.said.length kD) (.int .i64 H.code)
  generalize w1.alloc (.cells #[.slice ac H.calls.length kc, .int .i64 H.now, .int .i64 H.born, .slice aD H.said.length kD, .int .i64 H.code] 29) = W2 at *
  have hH2 := hH1.below N2
  have hB2 := hB1.trans (N2.mono z1)
  have z2 := hB2.size
  clear hH1 hB1 N2
  have HS : Hid (∀ wx, Below W2.heap.size W2 wx → Calls Try.prog 22 #[.agg #[.slice ac H.calls.length kc, .int .i64 H.now, .int .i64 H.born, .slice aD H.said.length kD, .int .i64 H.code]] wx fun e w' => e = .returned (.int .i64 ((chainOf H.calls H.now).length : Nat)) ∧ Below wx.heap.size wx w') := fun wx hb => specHeapDeep_any _ _ H wx (hH2.below hb) (by omega)
  have HD : Hid (Calls Try.prog 12 #[.agg #[.slice ac H.calls.length kc, .int .i64 H.now, .int .i64 H.born, .slice aD H.said.length kD, .int .i64 H.code]] W2 fun e w' => e = .returned (.int .i64 ((chainOf H.calls H.now).length : Nat)) ∧ Below W2.heap.size W2 w') := by
    have := implHeapDeep_any _ _ H W2 hH2 (by omega)
    rw [HFI.out.deep] at this
    exact this
  have HV : Hid (∀ wx, Below W2.heap.size W2 wx → Calls Try.prog 18 #[.agg #[.slice ac H.calls.length kc, .int .i64 H.now, .int .i64 H.born, .slice aD H.said.length kD, .int .i64 H.code]] wx fun e w' => ∃ av kv, e = .returned (.slice av (viewL H).length kv) ∧ CallsAt w' (.slice av (viewL H).length kv) (viewL H) ∧ Below wx.heap.size wx w') := fun wx hb => by
    refine (implHeapView_any _ _ H wx (hH2.below hb) ⟨by omega, fun i hi => by have := HFI.out.ts _ (List.getElem_mem hi); omega⟩ l30).mono ?_
    rintro e w' ⟨⟨v, V, rfl, hv⟩, hb'⟩
    have := hv.at
    obtain ⟨av, kv, hvv⟩ := this.shape
    subst hvv
    exact ⟨av, kv, rfl, this, hb'⟩
  have HW : Hid (0 < (chainOf H.calls H.now).length → ∃ l : List Nat, l.length = (chainOf H.calls H.now).length ∧ (∀ h0 : 0 < l.length, l[0] = 0) ∧ ∀ i, (hi : i < l.length) → ∃ hb : l[i] < (viewL H).length, (∀ h2 : i + 1 < l.length, (viewL H)[l[i]].sender = (l[i + 1] : Int)) ∧ (i + 1 = l.length → (viewL H)[l[i]].sender = -1)) := fun hp => view_walk hp
  have hln : (chainOf H.calls H.now).length ≤ 30 := by
    have := chain_few H.calls H.now
    omega
  clear hH2 HFI
  obtain ⟨VL, hVL⟩ : ∃ VL, viewL H = VL := ⟨_, rfl⟩
  rw [hVL] at HV HW
  clear hVL
  generalize (chainOf H.calls H.now).length = D at *
  obtain ⟨⟨d0, d1, d2, d3, d4⟩, _⟩ := five_cells rh
  go_wp2_with fail
  refine HD.out.mono ?_
  rintro e w3 ⟨rfl, hb3⟩
  have rh3 := row_below hb3 rh
  have z3 := hb3.size
  clear d0 d1 d2 d3 d4 HD
  obtain ⟨⟨d0, d1, d2, d3, d4⟩, _⟩ := five_cells rh3
  go_wp2_with fail
  refine (HV.out w3 hb3).mono ?_
  rintro e w4 ⟨a4, k4, rfl, hA4, hb4⟩
  have rh4 := row_below hb4 rh3
  have b4 := hb3.trans (hb4.mono z3)
  clear d0 d1 d2 d3 d4 HV hb3 rh3
  obtain ⟨⟨d0, d1, d2, d3, d4⟩, _⟩ := five_cells rh4
  go_wp2_with fail
  refine (HS.out w4 b4).mono ?_
  rintro e w5 ⟨rfl, hb5⟩
  have rh5 := row_below hb5 rh4
  have b5 := b4.trans (hb5.mono b4.size)
  have hA5 := hA4.below hb5
  have hB5 := hB2.trans (b5.mono z2)
  have z5 := hB5.size
  clear d0 d1 d2 d3 d4 hb4 hb5 rh4 hA4 b4
  obtain ⟨⟨d0, d1, d2, d3, d4⟩, _⟩ := five_cells rh5
  by_cases hD0 : D = 0
  · subst hD0
    go_wp2_with fail
    refine (HS.out w5 b5).mono ?_
    rintro e w6 ⟨rfl, hb6⟩
    go_wp2
    go_ret
    exact ⟨rfl, hB5.trans (hb6.mono hB5.size)⟩
  · have hDz : ((D : Int) == 0) = false := beq_eq_false_iff_ne.2 (by omega)
    obtain ⟨l, hll, hl0, hls⟩ := HW.out (by omega)
    have HLS : Hid (∀ i, (hi : i < l.length) → ∃ hb : l[i] < VL.length, (∀ h2 : i + 1 < l.length, VL[l[i]].sender = (l[i + 1] : Int)) ∧ (i + 1 = l.length → VL[l[i]].sender = -1)) := hls
    have HA5 : Hid (CallsAt w5 (.slice a4 VL.length k4) VL) := hA5
    clear HW HS hls hA5 d0 d1 d2 d3 d4 rh5
    go_wp2
    go_loopg [6, 7] D (fun g at_ i wr => ∃ k : Nat, ∃ hk : k < l.length, g = D - k ∧ at_ = .int .i64 (l[k] : Nat) ∧ i = .int .i64 (k + 1 : Nat) ∧ wr = w5)
    case atStart => exact ⟨0, by omega, rfl, by rw [hl0 (by omega)]; rfl, rfl, rfl⟩
    case round =>
      obtain ⟨k, hk, rfl, rfl, rfl, rfl⟩ := hrel
      obtain ⟨hb, hs1, hs2⟩ := HLS.out k hk
      obtain ⟨b, o, vt, vs', hac, hcl⟩ := HA5.out.cl hb
      have c4 := hcl.c4
      clear hcl
      subst hac
      have hbz : ((l[k] : Nat) : Int) < (VL.length : Int) := by omega
      by_cases hlt : k + 1 < l.length
      · obtain ⟨y, hy1, hy2⟩ : ∃ y : Nat, VL[l[k]].sender = (y : Int) ∧ ∀ h2 : k + 1 < l.length, l[k + 1] = y := ⟨l[k + 1], hs1 hlt, fun _ => rfl⟩
        rw [hy1] at c4
        have hkz : ((k + 1 : Nat) : Int) < (D : Int) := by omega
        have hnz : ¬ ((y : Nat) : Int) < 0 := by omega
        have HX : Hid (k + 1 < l.length) := hlt
        have HY : Hid (∀ h2 : k + 1 < l.length, l[k + 1] = y) := hy2
        clear hs1 hs2 hy1 hy2
        generalize l[k] = xx at *
        go_wp2
        go_roundg (D - (k + 1))
        case measure => omega
        case rel => exact ⟨k + 1, HX.out, rfl, by rw [HY.out HX.out], by go_num, rfl⟩
      · have hke : k + 1 = l.length := by omega
        have hsn := hs2 hke
        rw [hsn] at c4
        have hkz : ¬ ((k + 1 : Nat) : Int) < (D : Int) := by omega
        clear hs1 hs2 hsn
        generalize l[k] = xx at *
        go_wp2
        go_ret
        exact ⟨rfl, hB5⟩

end Go.Proofs.Ytleodeffmfkfkaa

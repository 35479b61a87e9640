/-
  HeapTrim of both sides: without what cannot be come to.
-/
import Derived.Test.YtfpodljalccpnaaVImpl5
import Derived.Test.YtfpodljalccpnaaHNew
import Derived.Test.YtfpodljalccpnaaStepS
import Derived.Lib.MinMax
import Derived.Test.YtfpodljalccpnaaViewAgain
import Derived.Test.YtfpodljalccpnaaHChain

namespace Go.Proofs.Ytfpodljalccpnaa
open Go.RowKit
theorem run_append_rows2 {P : Program} {t tx ty e : TypeId} {i : TypeInfo} {z : Value} {B : Nat} (ht : P.underlying t = some (.slice e)) (hi : P.info? e = some i) (hz : i.zero = some z) (hzs : z.cells.size = i.size) (hby : i.bytes ≤ 1000)
    {w : World} {v : Value} {n : Nat} {xs : List Value} (hown : CRow B i.size w v n xs) (x : Value) (m : Nat) (news : List Value) (hs : Src P i.size tx x m news w) (hL : n + m ≤ 2000000) (hB : B ≤ w.heap.size) :
    ∃ v' w', (Builtin.append_ #[t, tx] ty #[v, x]).run P w = .ok v' w' ∧ CRow B i.size w' v' (n + m) (xs ++ news) ∧ w.grownBy w' v.ownBlock ∧ (v'.ownBlock = v.ownBlock ∨ v'.ownBlock = some w.heap.size) := by
  obtain ⟨hxl, hown⟩ := hown
  have hll : (xs ++ news).length = (n + m) * i.size := by rw [List.length_append, hxl, hs.newsLen, Nat.add_mul]
  have hgrown : ∀ (k : Nat), n + m ≤ k → k ≤ maxLen →
      CRow B i.size (w.drew.alloc (.cells ((xs ++ news).toArray ++ Builtin.zeroCells z.cells (k - (n + m))) e)) (.slice (some ⟨w.heap.size, 0, none⟩) (n + m) k) (n + m) (xs ++ news) := by
    intro k hqk hk
    have hsz0 : (Builtin.zeroCells z.cells (k - (n + m))).size = (k - (n + m)) * i.size := by rw [size_zeroCells, hzs]
    have hblk : (w.drew.alloc (.cells ((xs ++ news).toArray ++ Builtin.zeroCells z.cells (k - (n + m))) e)).heap[w.heap.size]? = some (.cells ((xs ++ news).toArray ++ Builtin.zeroCells z.cells (k - (n + m))) e) := Go.Deep.blk_alloc_new w.drew _
    have hsum : (n + m) * i.size + (k - (n + m)) * i.size = k * i.size := by rw [← Nat.add_mul]; congr 1; omega
    refine ⟨hll, .inr ⟨w.heap.size, 0, k, rfl, hB, by simp, hqk, hk, fun j hj => ?_, fun j hj => ?_⟩⟩
    · refine ⟨?_, ?_⟩
      · rw [Nat.zero_add, cell_of_row _ _ _ _ _ _ hblk]
        rw [Array.getElem?_eq_getElem (by rw [Array.size_append, hsz0, List.size_toArray, hll]; omega)]; rfl
      · unfold World.frozen?
        rw [hblk]
        simp
    · rw [Nat.zero_add, cell_of_row _ _ _ _ _ _ hblk, Array.getElem?_append_left (by rw [List.size_toArray]; exact hj)]
      simp [List.getElem?_eq_getElem hj]
  have hgb : ∀ (o : Obj) (row : Option Nat), w.grownBy (w.drew.alloc o) row := fun o row =>
    ⟨rfl, rfl, rfl, Nat.le_of_lt (by rw [World.size_alloc]; exact Nat.lt_succ_self _), fun k hk _ => Below.heap_alloc w.drew _ k hk⟩
  rcases hown with ⟨rfl, rfl⟩ | ⟨g, off, cap, rfl, hBg, hg, hl, hmx, hsp, hx⟩
  · obtain rfl : xs = [] := List.eq_nil_of_length_eq_zero (by simpa using hxl)
    by_cases hm0 : m = 0
    · subst hm0
      obtain rfl : news = [] := List.eq_nil_of_length_eq_zero (by simpa using hs.newsLen)
      refine ⟨.slice none 0 0, w, ?_, CRow.nil _ _ _, World.grownBy.refl _ _, .inl rfl⟩
      rcases hs.kind with ⟨e', hk⟩ | hk <;> simp [Builtin.append_, run_underlying ht, run_underlying hk, sizeOf, typeInfo, hi, hs.len, hs.cells]
    · have hr := run_append_grow_src (P := P) w t tx ty e i z ht hi hz none 0 0 [] (run_firstCells_none _ _ _ _ _) x m news hs (by omega) (by omega) (growslice_fits (by omega) (by have := Nat.mul_le_mul (show 0 + m ≤ 2000000 by omega) hby; omega))
      refine ⟨_, _, hr, ?_, hgb _ _, .inr rfl⟩
      exact hgrown (grownCap w (0 + m) 0 e) (grownCap_ge _ _ _ _) (grownCap_le_maxLen _ _ _ _ (by unfold maxLen; omega))
  · by_cases hroom : n + m ≤ cap
    · have hle : n * i.size + news.length ≤ cap * i.size := by rw [hs.newsLen, ← Nat.add_mul]; exact Nat.mul_le_mul_right _ hroom
      have hc : ∀ j, j < news.length → (w.cell? ⟨g, off + n * i.size + j, none⟩).isSome = true := fun j hj => by
        have := (hsp (n * i.size + j) (by omega)).1
        rwa [← Nat.add_assoc] at this
      have hf : ∀ j, j < news.length → w.frozen? ⟨g, off + n * i.size + j, none⟩ = false := fun j hj => by
        have := (hsp (n * i.size + j) (by omega)).2
        rwa [← Nat.add_assoc] at this
      have hr := run_append_room_src (P := P) w t tx ty e i ht hi g off n cap x m news hs hroom hc hf
      obtain ⟨r1, r2, r3⟩ := setCells_rest g news (off + n * i.size) w
      refine ⟨_, _, hr, ⟨hll, .inr ⟨g, off, cap, rfl, hBg, by rw [setCells_size]; exact hg, hroom, hmx, fun j hj => ?_, fun j hj => ?_⟩⟩, ⟨r1, r2, r3, by rw [setCells_size]; exact Nat.le_refl _, fun k _ hk => setCells_other _ _ _ _ _ (fun e => hk (by rw [e]; rfl))⟩, .inl rfl⟩
      · rw [World.frozen?_setCells]
        refine ⟨?_, (hsp j hj).2⟩
        by_cases hin : n * i.size ≤ j ∧ j < n * i.size + news.length
        · have := World.cell?_setCells_in g news (off + n * i.size) w hc (j - n * i.size) (by omega)
          rw [show off + n * i.size + (j - n * i.size) = off + j by omega] at this
          rw [this]; rfl
        · rw [World.cell?_setCells_out g _ _ _ _ (fun _ _ => by simp; omega)]
          exact (hsp j hj).1
      · rw [List.length_append] at hj
        by_cases hin : j < xs.length
        · rw [World.cell?_setCells_out g _ _ _ _ (fun _ _ => by simp; omega), hx j hin]
          simp [hin]
        · have := World.cell?_setCells_in g news (off + n * i.size) w hc (j - n * i.size) (by omega)
          rw [show off + n * i.size + (j - n * i.size) = off + j by omega] at this
          rw [this, List.getElem_append_right (by omega)]
          simp only [hxl]
    · have hr := run_append_grow_src (P := P) w t tx ty e i z ht hi hz (some ⟨g, off, none⟩) n cap xs (run_firstCells_some _ _ _ _ _ _ _ hxl (fun j u hu => by
          by_cases hj : j < xs.length
          · rw [List.getElem?_eq_getElem hj] at hu
            have h1 := hx j hj
            rw [Addr.add_lit]
            show w.cell? _ = _
            rw [h1]
            simpa using hu
          · rw [List.getElem?_eq_none (by omega)] at hu; simp at hu)) x m news hs (by omega) (by omega) (growslice_fits (by omega) (by have := Nat.mul_le_mul (show n + m ≤ 2000000 by omega) hby; omega))
      refine ⟨_, _, hr, ?_, hgb _ _, .inr rfl⟩
      exact hgrown (grownCap w (n + m) cap e) (grownCap_ge _ _ _ _) (grownCap_le_maxLen _ _ _ _ (by unfold maxLen; omega))
theorem run_append_vals2 {ty : TypeId} {B : Nat} {w : World} {v xv : Value} {L M : List (Int × Int)} (hown : PairRow B w v L) (hM : OpsAt w xv M) (hL : L.length + M.length ≤ 2000000) (hB : B ≤ w.heap.size) :
    ∃ v' w', (Builtin.append_ #[27, 27] ty #[v, xv]).run Try.prog w = .ok v' w' ∧ PairRow B w' v' (L ++ M) ∧ w.grownBy w' v.ownBlock ∧ (v'.ownBlock = v.ownBlock ∨ v'.ownBlock = some w.heap.size) := by
  obtain ⟨i0, hi, hz0, hz1, hz2⟩ := info_parts Try.infoVal
  have h1 := hown.crow
  have h2 := src_vals (P := Try.prog) Try.underlying27 hM
  rw [← hz1] at h1 h2
  obtain ⟨v', w', hr, hc, hg, hb⟩ := run_append_rows2 (P := Try.prog) (ty := ty) Try.underlying27 hi hz0 (by rw [hz1]; rfl) (by rw [hz2]; omega) h1 xv M.length (pcells M) h2 hL hB
  refine ⟨v', w', hr, ?_, hg, hb⟩
  rw [hz1, ← pcells_append] at hc
  exact hc.pair (by simp)
theorem append_vals2 {ops : Array Oper} {rest : List Oper} {o : Oper} {act : Act} {Q : Exit → Act → World → Prop} (w : World) (hgd : o.guard = none) (s x : Operand)
    (ho : o.op = .call { callee := .builtin .append, args := #[s, x], argTypes := #[27, 27] }) (B : Nat) (v xv : Value) (L M : List (Int × Int)) (hs : act.eval s = v) (hx : act.eval x = xv) (hown : PairRow B w v L) (hM : OpsAt w xv M)
    (hL : L.length + M.length ≤ 2000000) (hB : B ≤ w.heap.size)
    (h : ∀ v' w', PairRow B w' v' (L ++ M) → w.grownBy w' v.ownBlock → (v'.ownBlock = v.ownBlock ∨ v'.ownBlock = some w.heap.size) → wpList Try.prog ops Q rest (act.put o.dst v') w') :
    wpList Try.prog ops Q (o :: rest) act w := by
  obtain ⟨v', w', hr, h2, h3, h4⟩ := run_append_vals2 (ty := o.type) hown hM hL hB
  refine wpList_plain hgd fun K hK => ?_
  unfold Oper.wp execOp
  simp only [ho, resolve, invoke, builtin, Sem.run_bind, Sem.run_pure, Result.andThen_ok, List.map_toArray, List.map_cons, List.map_nil, hs, hx, hr]
  exact hK _ _ (h v' w' h2 h3 h4)
set_option maxRecDepth 100000 in
set_option maxHeartbeats 1000000 in
theorem clone_big (v : Value) (xs : List (Int × Int)) (w : World) (h : OpsAt w v xs) (hl : xs.length ≤ 1048576) :
    Calls Try.prog 16 #[v] w fun e w' => ∃ v', e = .returned v' ∧ PairRow w.heap.size w' v' xs ∧ Below w.heap.size w w' := by
  obtain ⟨a, c, rfl, hlm, hc⟩ := id h
  have hnil : ∀ (W : World) (a : Option Addr) (n c : Nat), (binOp .eql 27 (.slice a n c) (.slice none 0 0)).run Try.prog W = .ok (.bool a.isNone) W := fun W a n c => Lib.run_eql_slice_nil W _ _ a n c 0 0 Try.underlying27
  cases a with
  | none =>
    have hx : xs = [] := by
      cases xs with
      | nil => rfl
      | cons y t => obtain ⟨b, o, e, _⟩ := hc 0 (by simp); cases e
    subst hx
    go_enter Try.func16, Try.ntmps16
    go_wp2
    go_ret
    exact ⟨_, rfl, PairRow.nil _ _, Below.refl _ _⟩
  | some ad =>
    have N1 := (Below.refl w.heap.size w).alloc (Nat.le_refl _) (.cells #[] 45)
    have mk := PairRow.made (B := w.heap.size) (w := w) (e := 45) (Nat.le_refl _)
    have h1 := h.below N1
    go_enter Try.func16, Try.ntmps16
    go_wp2_with (at_builtin; refine append_vals2 _ (by rfl) _ _ (by rfl) w.heap.size _ _ [] xs (by rfl) (by rfl) mk h1 (by simp; omega) N1.size ?_; intro v2 w2 hrow2 hg2 hb2; rw [List.nil_append] at hrow2)
    have B2 := N1.grown hg2 N1.size (fun q e => (mk.lt q e).1)
    clear hg2 hb2
    go_ret
    exact ⟨_, rfl, hrow2, B2⟩
def trimH (ms : List (Int × Int × List (Int × Int))) (h : Hp) : Hp := if heapOk ms h = true then ⟨viewL h, if h.now = -1 then -1 else 0, h.born, h.said, h.code⟩ else ⟨[], 0, 0, [], 0⟩
structure OkParts (h : Hp) : Prop where
  sh : h.short
  n30 : h.calls.length ≤ 30
  sd : ∀ i, (hi : i < h.calls.length) → -1 ≤ h.calls[i].sender
  now0 : -1 ≤ h.now
  small : ∀ i, (hi : i < h.calls.length) → h.calls[i].temps.length ≤ 4 ∧ h.calls[i].stack.length ≤ 6
theorem ok_parts {ms : List (Int × Int × List (Int × Int))} {h : Hp} (e : heapOk ms h = true) : OkParts h := by
  unfold heapOk at e
  simp only [Bool.and_eq_true] at e
  obtain ⟨⟨eh, ec⟩, _⟩ := e
  have hcl : ∀ i, (hi : i < h.calls.length) → clOk ms h.calls.length h.calls[i] = true := fun i hi => List.all_eq_true.1 ec _ (List.getElem_mem hi)
  unfold headOk at eh
  simp only [Bool.and_eq_true, inR_true, decide_eq_true_iff] at eh
  obtain ⟨⟨⟨⟨⟨⟨ep, en⟩, eb⟩, ecb⟩, _⟩, _⟩, _⟩ := eh
  have hms : ∀ m ∈ ms, m.2.1 ≤ 4 := fun m hm => by
    unfold progOk at ep
    simp only [Bool.and_eq_true] at ep
    have := List.all_eq_true.1 ep.2 m hm
    unfold methOk at this
    simp only [Bool.and_eq_true, inR_true] at this
    omega
  have hsm : ∀ i, (hi : i < h.calls.length) → h.calls[i].temps.length ≤ 4 ∧ h.calls[i].stack.length ≤ 6 := fun i hi => by
    have hc := hcl i hi
    simp only [clOk, Bool.and_eq_true, inR_true, decide_eq_true_iff] at hc
    obtain ⟨⟨⟨⟨hm, _⟩, ht⟩, hst⟩, _⟩ := hc
    refine ⟨?_, hst⟩
    have hlt : h.calls[i].m.toNat < ms.length := by omega
    have hg : ms.getD h.calls[i].m.toNat (0, 0, []) = ms[h.calls[i].m.toNat] := by simp [hlt]
    rw [hg] at ht
    have := hms _ (List.getElem_mem hlt)
    omega
  exact ⟨⟨by omega, fun i hi => by have := hsm i hi; omega⟩, by omega, fun i hi => (clOk_sender (hcl i hi)).1, by omega, hsm⟩
end Go.Proofs.Ytfpodljalccpnaa

/-
  A heap without what cannot be come to, in plain words: it is ok, all that wait are seen, and it is its own trimmed heap.
-/
namespace Go.Proofs.Ytfpodljalccpnaa
open Go.RowKit
def ValIn (n : Nat) (ps : List Nat) (vs : List (Int × Int)) : Prop := ∀ v ∈ vs, v.1 = 2 → 0 ≤ v.2 → v.2 < (n : Int) → numOf ps v.2 ≠ -1
theorem ValIn.more {n : Nat} {ps : List Nat} {vs : List (Int × Int)} (h : ValIn n ps vs) (t : List Nat) : ValIn n (ps ++ t) vs := fun v hv h2 h0 h1 => by
  rw [numOf_pre t (h v hv h2 h0 h1)]; exact h v hv h2 h0 h1
theorem comeV_in (n : Nat) : ∀ (vs : List (Int × Int)) (ps : List Nat), ValIn n (comeV n ps vs) vs
  | [], _ => fun v hv => by cases hv
  | u :: vs, ps => by
    have e : comeV n ps (u :: vs) = comeV n (if u.1 = 2 then comeP n ps u.2 else ps) vs := rfl
    rw [e]
    intro v hv h2 h0 h1
    rcases List.mem_cons.1 hv with rfl | hv
    · rw [if_pos h2]
      obtain ⟨t, ht⟩ := comeV_pre n vs (comeP n ps v.2)
      rw [ht, numOf_pre t (come_in h0 h1)]
      exact come_in h0 h1
    · exact comeV_in n vs _ v hv h2 h0 h1
def AllIn (cs : List Cl) (ps : List Nat) (p : Nat) : Prop := ValIn cs.length ps (cs.getD p Cl.none).temps ∧ ValIn cs.length ps (cs.getD p Cl.none).stack
theorem foundF_vals {cs : List Cl} : ∀ (k j : Nat) (ps : List Nat), k = cs.length - j → PsOk cs.length ps → (∀ i, (hi : i < ps.length) → i < j → AllIn cs ps ps[i]) → ∀ p ∈ foundF cs (cs.length - j) j ps, AllIn cs (foundF cs (cs.length - j) j ps) p
  | k, j, ps, hk, hps, hin => by
    by_cases hj : j < ps.length
    · have hp : ps[j] < cs.length := hps.lt _ (List.getElem_mem hj)
      have hjn : j < cs.length := by have := hps.len; omega
      rw [foundF_step hps hj hp]
      obtain ⟨t1, h1⟩ := comeC_pre cs.length ps cs[ps[j]]
      refine foundF_vals (k - 1) (j + 1) _ (by omega) (hps.comeC _) fun i hi hij => ?_
      have hip : i < ps.length := by omega
      have he : (comeC cs.length ps cs[ps[j]])[i] = ps[i] := by simp only [h1]; rw [List.getElem_append_left hip]
      rw [he]
      by_cases e : i = j
      · subst e
        have eg : cs.getD ps[i] Cl.none = cs[ps[i]] := by simp [hp]
        unfold AllIn
        rw [eg]
        refine ⟨?_, comeV_in _ _ _⟩
        obtain ⟨t3, h3⟩ := comeV_pre cs.length cs[ps[i]].stack (comeV cs.length (comeP cs.length ps cs[ps[i]].sender) cs[ps[i]].temps)
        unfold comeC
        rw [h3]
        exact (comeV_in _ _ _).more _
      · rw [h1]
        exact ⟨(hin i hip (by omega)).1.more _, (hin i hip (by omega)).2.more _⟩
    · rw [foundF_end _ hj]
      intro p hp
      obtain ⟨i, hi, rfl⟩ := List.getElem_of_mem hp
      exact hin i hi (by omega)
  termination_by k => k
  decreasing_by omega
theorem found_vals (h : Hp) : ∀ p ∈ found h, AllIn h.calls (found h) p :=
  foundF_vals (h.calls.length - 0) 0 _ rfl (PsOk.come ⟨List.nodup_nil, fun _ hp => by cases hp⟩ _) fun i _ hij => absurd hij (Nat.not_lt_zero _)
theorem ren_ok {n : Nat} {ps : List Nat} {vs : List (Int × Int)} (h : valsOk (n : Int) vs = true) (hin : ValIn n ps vs) : valsOk (ps.length : Int) (vs.map (ren ps)) = true := by
  unfold valsOk at *
  rw [List.all_eq_true] at *
  intro u hu
  obtain ⟨v, hv, rfl⟩ := List.mem_map.1 hu
  have hk := h v hv
  unfold ren
  by_cases h2 : v.1 = 2
  · rw [if_pos h2]
    have e1 : valOk (n : Int) v.1 v.2 = inR v.2 0 ((n : Int) - 1) := by unfold valOk; simp [h2]
    rw [e1, inR_true] at hk
    obtain ⟨i, hi, e, _⟩ := numOf_get (hin v hv h2 hk.1 (by omega))
    have e2 : valOk (ps.length : Int) 2 (numOf ps v.2) = inR (numOf ps v.2) 0 ((ps.length : Int) - 1) := by unfold valOk; simp
    rw [e2, inR_true, e]
    omega
  · rw [if_neg h2]
    have e1 : valOk (ps.length : Int) v.1 v.2 = valOk (n : Int) v.1 v.2 := by
      unfold valOk
      simp only [h2, if_false]
    rw [e1]
    exact hk
theorem numOf_bound (ps : List Nat) (p : Int) : -1 ≤ numOf ps p ∧ numOf ps p < (ps.length : Int) := by
  by_cases h : numOf ps p = -1
  · omega
  · obtain ⟨i, hi, e, _⟩ := numOf_get h
    omega
theorem mem_of_num {ps : List Nat} {p : Nat} (h : numOf ps (p : Int) ≠ -1) : p ∈ ps := by
  obtain ⟨i, hi, _, e⟩ := numOf_get h
  have : ps[i] = p := by exact_mod_cast e
  rw [← this]
  exact List.getElem_mem hi
theorem walk_found {h : Hp} : ∀ (f : Nat) (a : Int) (l : List Nat), walkC h.calls f a = some l → (0 ≤ a → numOf (found h) a ≠ -1) → ∀ p ∈ l, numOf (found h) (p : Int) ≠ -1
  | f, a, l, hw, ha => by
    by_cases h0 : a < 0
    · rw [walkC_neg h0] at hw
      intro p hp
      have : l = [] := by simpa using hw.symm
      rw [this] at hp
      cases hp
    · obtain ⟨g, n, hn, t, hf, hl, e, _, ht⟩ := walkC_some hw (by omega)
      subst hf hl e
      have hin := ha (by omega)
      intro p hp
      rcases List.mem_cons.1 hp with rfl | hp
      · exact hin
      · refine walk_found g _ t ht (fun hs0 => ?_) p hp
        have hsn := found_sender h n (mem_of_num hin)
        unfold SndIn at hsn
        rw [show h.calls.getD n Cl.none = h.calls[n] by simp [hn]] at hsn
        by_cases hlt : h.calls[n].sender < (h.calls.length : Int)
        · exact hsn hs0 hlt
        · exfalso
          obtain ⟨k, hk⟩ := Int.eq_ofNat_of_zero_le hs0
          rw [hk, walkC_past (by omega)] at ht
          cases ht
  termination_by f => f
theorem view_get {h : Hp} {i : Nat} (hi : i < (viewL h).length) : ∃ (hf : i < (found h).length) (hp : (found h)[i] < h.calls.length), (viewL h)[i] = viewC (found h) h.calls[(found h)[i]] := by
  have hf : i < (found h).length := by rw [viewL_len] at hi; exact hi
  have hp := (found_ok h).lt _ (List.getElem_mem hf)
  refine ⟨hf, hp, ?_⟩
  simp [viewL, hp]
theorem found_now {ms : Ms} {h : Hp} (g : Good ms h) : 0 ≤ h.now → numOf (found h) h.now ≠ -1 := fun h0 => by
  have hc := come_in (ps := []) h0 g.head.now.2
  obtain ⟨t, ht⟩ := foundF_pre h.calls h.calls.length 0 (comeP h.calls.length [] h.now)
  unfold found
  rw [ht, numOf_pre t hc]
  exact hc
theorem numOf_neg {ps : List Nat} {p : Int} (h : p < 0) : numOf ps p = -1 := numOf_none fun k _ => by omega
theorem num_now {ms : Ms} {h : Hp} (g : Good ms h) : numOf (found h) h.now = if h.now = -1 then -1 else 0 := by
  by_cases h0 : 0 ≤ h.now
  · obtain ⟨k, hk⟩ := Int.eq_ofNat_of_zero_le h0
    have hkl : k < h.calls.length := by have := g.head.now.2; omega
    have e : comeP h.calls.length [] h.now = [k] := by rw [hk, comeP_yes hkl rfl]; rfl
    obtain ⟨t, ht⟩ := foundF_pre h.calls h.calls.length 0 (comeP h.calls.length [] h.now)
    rw [if_neg (by omega)]
    have e1 : numOf [k] h.now = 0 := by
      have hn := come_in (n := h.calls.length) (ps := []) h0 (by omega)
      rw [e] at hn
      obtain ⟨i, hi, e2, _⟩ := numOf_get hn
      have : i = 0 := by simpa using hi
      rw [e2, this]
      rfl
    unfold found
    rw [ht, e, numOf_pre t (by rw [e1]; decide), e1]
  · have := g.head.now.1
    rw [if_pos (by omega), numOf_neg (by omega)]
theorem trim_eq {ms : Ms} {h : Hp} (g : Good ms h) : trimH ms h = ⟨viewL h, numOf (found h) h.now, h.born, h.said, h.code⟩ := by
  unfold trimH
  rw [if_pos (good_iff.2 g), num_now g]
theorem Good.trim {ms : Ms} {h : Hp} (g : Good ms h) : Good ms (trimH ms h) := by
  rw [trim_eq g]
  have hln : (viewL h).length = (found h).length := viewL_len h
  have hlf := (found_ok h).len
  have hb := numOf_bound (found h) h.now
  obtain ⟨l, hw⟩ := g.w
  obtain ⟨f, hf⟩ := hw.ch
  have hwv := walk_view f h.now l hf (found_now g)
  refine ⟨⟨g.head.p, ⟨hb.1, by show numOf (found h) h.now < ((viewL h).length : Int); omega⟩, g.head.born, by show ((viewL h).length : Int) ≤ h.born; have := g.head.few; omega, g.head.code, g.head.said, ?_⟩, fun i hi => ?_, _, ⟨f, hwv⟩, ?_, ?_⟩
  · show h.code = 1 ↔ numOf (found h) h.now < 0
    rw [g.head.fin]
    have e := num_now g
    constructor
    · intro hn
      rw [numOf_neg hn]
      decide
    · intro hn
      rw [e] at hn
      split at hn
      · omega
      · omega
  · obtain ⟨hf', hp, e⟩ := view_get (h := h) hi
    have c := g.cl _ hp
    have ha := found_vals h _ (List.getElem_mem hf')
    have eg : h.calls.getD (found h)[i] Cl.none = h.calls[(found h)[i]] := by simp [hp]
    unfold AllIn at ha
    rw [eg] at ha
    show ClP ms (viewL h).length (viewL h)[i]
    rw [e, hln]
    have hsd := numOf_bound (found h) h.calls[(found h)[i]].sender
    refine ⟨c.m, c.pc, by show ((List.map _ _).length : Int) = _; rw [List.length_map]; exact c.t, by show (List.map _ _).length ≤ 6; rw [List.length_map]; exact c.s, hsd, ren_ok c.vt ha.1, ren_ok c.vs ha.2, fun hd => ?_⟩
    have hdd := c.dd hd
    refine ⟨?_, ?_⟩
    · show numOf _ _ = -1
      rw [hdd.1]
      exact numOf_neg (by decide)
    · show List.map _ _ = []
      rw [hdd.2]
      rfl
  · intro k hk hd
    obtain ⟨hf', hp, e⟩ := view_get (h := h) hk
    have hd' : h.calls[(found h)[k]].dead = false := by
      have : (viewL h)[k].dead = false := hd
      rw [e] at this
      exact this
    have hm := hw.all _ hp hd'
    refine List.mem_map.2 ⟨(found h)[k], hm, ?_⟩
    obtain ⟨i, hi, e2, e3⟩ := numOf_get (numOf_mem (List.getElem_mem hf'))
    rw [e2, Int.toNat_natCast]
    have : (found h)[i] = (found h)[k] := by exact_mod_cast e3
    have hnd := List.pairwise_iff_getElem.1 (found_ok h).nd
    rcases Nat.lt_trichotomy i k with hlt | hlt | hlt
    · exact absurd this (hnd i k hi hf' hlt)
    · exact hlt
    · exact absurd this.symm (hnd k i hf' hi hlt)
  · intro k hk hk2
    rw [← List.map_drop] at hk
    obtain ⟨p, hp, rfl⟩ := List.mem_map.1 hk
    obtain ⟨hf', hpl, e⟩ := view_get (h := h) hk2
    show ((viewL h)[(numOf (found h) (p : Int)).toNat]'hk2).stack.length < 6
    rw [e]
    show (List.map _ _).length < 6
    rw [List.length_map]
    obtain ⟨hpc, _⟩ := hw.mem (List.mem_of_mem_drop hp)
    have hr := hw.room p hp hpc
    have hnp := walk_found f h.now l hf (found_now g) p (List.mem_of_mem_drop hp)
    obtain ⟨i, hi, e2, e3⟩ := numOf_get hnp
    have e4 : (found h)[i] = p := by exact_mod_cast e3
    have e5 : (numOf (found h) (p : Int)).toNat = i := by rw [e2]; rfl
    have e6 : (found h)[(numOf (found h) (p : Int)).toNat]'hf' = p := by simp only [e5]; exact e4
    have e7 : h.calls[(found h)[(numOf (found h) (p : Int)).toNat]'hf'].stack = h.calls[p].stack := by simp only [e6]
    rw [e7]
    exact hr
theorem found_nil {ms : Ms} {h : Hp} (_ : Good ms h) (hn : h.now = -1) : found h = [] := by
  by_cases hne : found h = []
  · exact hne
  · obtain ⟨k, e, _⟩ := found_first hne
    omega
theorem view_nil {h : Hp} (e : found h = []) : viewL h = [] := by
  unfold viewL
  rw [e]
  rfl
theorem trim_twice {ms : Ms} {h : Hp} (g : Good ms h) : trimH ms (trimH ms h) = trimH ms h := by
  have g2 := g.trim
  have hn := num_now g
  rw [trim_eq g2]
  rw [trim_eq g] at g2 ⊢
  have hn2 := num_now g2
  by_cases h1 : h.now = -1
  · have ev : viewL h = [] := view_nil (found_nil g h1)
    rw [if_pos h1] at hn
    rw [hn] at g2 hn2 ⊢
    have ev2 : viewL ⟨viewL h, -1, h.born, h.said, h.code⟩ = [] := view_nil (found_nil g2 rfl)
    rw [ev2, hn2, ev]
    rfl
  · rw [if_neg h1] at hn
    rw [hn] at g2 hn2 ⊢
    have hne : found h ≠ [] := fun e => by
      have h0 : 0 ≤ h.now := by have := g.head.now.1; omega
      have := found_now g h0
      rw [e] at this
      exact this rfl
    rw [view_again hne h.born h.said h.code, hn2]
    rfl
theorem trim_chain {ms : Ms} {h : Hp} (g : Good ms h) : (chainOf (trimH ms h).calls (trimH ms h).now).length = (chainOf h.calls h.now).length := by
  rw [trim_eq g]
  obtain ⟨l, hw⟩ := g.w
  obtain ⟨f, hf⟩ := hw.ch
  have g2 := g.trim
  rw [trim_eq g] at g2
  obtain ⟨l2, hw2⟩ := g2.w
  have hwv := walk_view f h.now l hf (found_now g)
  rw [hw.chain, hw2.chain]
  obtain ⟨f2, hf2⟩ := hw2.ch
  have e1 := walkC_more _ f (l.length + l2.length) _ hwv (by rw [List.length_map]; omega)
  have e2 := walkC_more _ f2 (l.length + l2.length) _ hf2 (by omega)
  have e3 := e1.symm.trans e2
  injection e3 with e3
  rw [← e3, List.length_map]
end Go.Proofs.Ytfpodljalccpnaa

/-
  What is said of a heap without what cannot be come to, in plain words. Nothing of the translation is used here.
-/
namespace Go.Proofs.Ytfpodljalccpnaa
open Go.RowKit
theorem fine_small {h : Hp} (f : HpFine h) : h.small := by
  have h1 := f.l30
  have h2 := f.sd
  refine ⟨by omega, fun i hi => ?_, by omega⟩
  have := f.ts _ (List.getElem_mem hi)
  exact ⟨by omega, by omega⟩
theorem fine_short {h : Hp} (f : HpFine h) : h.short := by
  have h1 := f.l30
  exact ⟨by omega, fun i hi => by have := f.ts _ (List.getElem_mem hi); omega⟩
theorem good_deep {ms : Ms} {h : Hp} (g : Good ms h) : deepOf h.calls h.now = (chainOf h.calls h.now).length :=
  deepOf_chain (fun i hi => (g.cl i hi).sd) g.head.now.1 g.head.now.2
theorem good_short {ms : Ms} {h : Hp} (g : Good ms h) : h.short ∧ h.calls.length ≤ 30 := by
  obtain ⟨l1, l2⟩ := g.lens
  exact ⟨⟨by omega, fun i hi => by have := l2 i hi; omega⟩, l1⟩
theorem trim_says {ms : Ms} {h : Hp} (g : Good ms h) (hs : h.said.length ≤ 100) : Good ms (trimH ms h) ∧ trimH ms (trimH ms h) = trimH ms h ∧ viewL (trimH ms h) = viewL h ∧ deepOf (trimH ms h).calls (trimH ms h).now = deepOf h.calls h.now ∧ (trimH ms h).small ∧ (trimH ms h).short ∧ (trimH ms h).calls.length ≤ 30 := by
  have gR := g.trim
  have e1 := trim_twice g
  have e2 := trim_eq g
  have e3 := trim_eq gR
  have hsd : (trimH ms h).said = h.said := by rw [e2]
  obtain ⟨l1, l2⟩ := gR.lens
  refine ⟨gR, e1, ?_, ?_, ⟨by omega, fun i hi => ⟨by have := l2 i hi; omega, by have := l2 i hi; omega⟩, by rw [hsd]; omega⟩, (good_short gR).1, l1⟩
  · have q : (trimH ms (trimH ms h)).calls = viewL (trimH ms h) := by rw [e3]
    rw [← q, e1, e2]
  · rw [good_deep gR, good_deep g, trim_chain g]
end Go.Proofs.Ytfpodljalccpnaa

/-
  The program's step, its parts: who does an operation.
-/
import Derived.Test.YtlpbklgkafjfmaaGreatDoorLStep1
import Derived.Laws.EntriesVeiled
import Derived.Deep.MidRow

namespace Go.Proofs.YtlpbklgkafjfmaaGreatDoor
open Go.RowKit
def doers : List Value := [.nilFunc, .func (.func 85) #[] #[], .func (.func 86) #[] #[], .func (.func 87) #[] #[], .func (.func 88) #[] #[], .func (.func 89) #[] #[], .func (.func 90) #[] #[], .func (.func 91) #[] #[], .func (.func 92) #[] #[], .func (.func 93) #[] #[], .func (.func 94) #[] #[], .func (.func 95) #[] #[], .func (.func 96) #[] #[], .func (.func 97) #[] #[], .func (.func 98) #[] #[], .func (.func 99) #[] #[], .func (.func 100) #[] #[], .func (.func 101) #[] #[], .func (.func 102) #[] #[]]
theorem nils_row (w : World) (t : TypeId) : (w.alloc (.cells #[.nilFunc, .nilFunc, .nilFunc, .nilFunc, .nilFunc, .nilFunc, .nilFunc, .nilFunc, .nilFunc, .nilFunc, .nilFunc, .nilFunc, .nilFunc, .nilFunc, .nilFunc, .nilFunc, .nilFunc, .nilFunc, .nilFunc] t)).rowIs w.heap.size t 19 (fun _ => .nilFunc) :=
  ⟨_, Go.Deep.blk_alloc_new _ _, rfl, fun i hi => by
    have : i = 0 ∨ i = 1 ∨ i = 2 ∨ i = 3 ∨ i = 4 ∨ i = 5 ∨ i = 6 ∨ i = 7 ∨ i = 8 ∨ i = 9 ∨ i = 10 ∨ i = 11 ∨ i = 12 ∨ i = 13 ∨ i = 14 ∨ i = 15 ∨ i = 16 ∨ i = 17 ∨ i = 18 := by omega
    rcases this with rfl | rfl | rfl | rfl | rfl | rfl | rfl | rfl | rfl | rfl | rfl | rfl | rfl | rfl | rfl | rfl | rfl | rfl | rfl <;> rfl⟩
theorem below_setCells {B b : Nat} {w : World} : ∀ (vs : List Value) (o : Nat) {W : World}, Below B w W → B ≤ b → Below B w (W.setCells b o vs)
  | [], _, _, h, _ => h
  | v :: vs, o, _, h, hB => below_setCells vs (o + 1) (h.setCell (p := ⟨b, o, none⟩) hB v) hB
set_option maxRecDepth 100000 in
set_option maxHeartbeats 4000000 in
theorem doings_any (w : World) :
    Calls Tryz.prog 68 #[] w fun e w' => e = .returned (.agg doers.toArray) ∧ Below w.heap.size w w' := by
  have hA : Below w.heap.size w (w.alloc (.cells #[.nilFunc, .nilFunc, .nilFunc, .nilFunc, .nilFunc, .nilFunc, .nilFunc, .nilFunc, .nilFunc, .nilFunc, .nilFunc, .nilFunc, .nilFunc, .nilFunc, .nilFunc, .nilFunc, .nilFunc, .nilFunc, .nilFunc] 121)) := (Below.refl _ _).alloc (Nat.le_refl _) _
  have r := nils_row w 121
  go_enter Tryz.func68, Tryz.ntmps68
  go_upto_region 1 with fail
  generalize w.alloc (.cells #[.nilFunc, .nilFunc, .nilFunc, .nilFunc, .nilFunc, .nilFunc, .nilFunc, .nilFunc, .nilFunc, .nilFunc, .nilFunc, .nilFunc, .nilFunc, .nilFunc, .nilFunc, .nilFunc, .nilFunc, .nilFunc, .nilFunc] 121) = W at *
  have hT : W.there w.heap.size 0 doers.toArray.size := fun i hi => ⟨by rw [Nat.zero_add, r.cell hi]; rfl, r.frozen _⟩
  refine wp_region_list ?_
  refine wpList_plain (by rfl) (fun K hK => ?_)
  go_simp
  refine hK _ _ ?_
  refine wpList_store_mid (by rfl) 121 _ _ (by rfl) w.heap.size 0 doers.toArray (by rfl) (by rfl) hT (by kernel_rfl) (all_oneCell_toArray (by simp [doers, Value.oneCell'])) ?_
  have hR := World.rangeAt_setCells_same W w.heap.size 0 doers hT
  have B9 := below_setCells doers 0 hA (Nat.le_refl _)
  generalize W.setCells w.heap.size 0 doers.toArray.toList = W9 at *
  go_wp2
  have hl : (loadVar 121 ⟨w.heap.size, 0, none⟩).run Tryz.prog W9 = .ok (.agg doers.toArray) W9 := run_loadVar_mid W9 w.heap.size 0 121 doers _ hR Tryz.underlying121 rfl (by kernel_rfl)
  exact bodyPost_ret (v := .agg doers.toArray) (by simp [results, Tryz.results68, Act.put, asAddr, hl]) rfl ⟨rfl, B9⟩
end Go.Proofs.YtlpbklgkafjfmaaGreatDoor

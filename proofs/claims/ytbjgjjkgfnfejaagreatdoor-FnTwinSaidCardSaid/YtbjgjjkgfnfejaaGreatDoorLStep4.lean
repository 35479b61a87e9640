/-
  The program's step, its parts: who does an operation.
-/
import Derived.Test.YtbjgjjkgfnfejaaGreatDoorMLive3
import Derived.Laws.EntriesVeiled
namespace Go.Proofs.YtbjgjjkgfnfejaaGreatDoor
open Go.RowKit
def wB:List Value:=[.nilFunc,.func (.func 146) #[] #[],.func (.func 147) #[] #[],.func (.func 148) #[] #[],.func (.func 149) #[] #[],.func (.func 150) #[] #[],.func (.func 151) #[] #[],.func (.func 152) #[] #[],.func (.func 153) #[] #[],.func (.func 154) #[] #[],.func (.func 155) #[] #[],.func (.func 156) #[] #[],.func (.func 157) #[] #[],.func (.func 158) #[] #[],.func (.func 159) #[] #[],.func (.func 160) #[] #[],.func (.func 161) #[] #[],.func (.func 162) #[] #[],.func (.func 163) #[] #[]]
theorem zd9 (w:World) (t:TypeId):(w.alloc (.cells #[.nilFunc,.nilFunc,.nilFunc,.nilFunc,.nilFunc,.nilFunc,.nilFunc,.nilFunc,.nilFunc,.nilFunc,.nilFunc,.nilFunc,.nilFunc,.nilFunc,.nilFunc,.nilFunc,.nilFunc,.nilFunc,.nilFunc] t)).rowIs w.heap.size t 19 (fun _=>.nilFunc) :=
 ⟨_,Go.Deep.blk_alloc_new _ _,rfl,fun i hi=>by
  have:i=0\/i=1\/i=2\/i=3\/i=4\/i=5\/i=6\/i=7\/i=8\/i=9\/i=10\/i=11\/i=12\/i=13\/i=14\/i=15\/i=16\/i=17\/i=18:=by omega
  rcases this with rfl | rfl | rfl | rfl | rfl | rfl | rfl | rfl | rfl | rfl | rfl | rfl | rfl | rfl | rfl | rfl | rfl | rfl | rfl <;> rfl⟩
theorem Yp {B b:Nat} {w:World}:∀(vs:List Value) (o:Nat) {W:World},Below B w W->B<=b->Below B w (W.setCells b o vs)
 | [],_,_,h,_=>h
 | v :: vs,o,_,h,hB=>Yp vs (o+1) (h.setCell (p:=zH b o) hB v) hB
set_option maxRecDepth 100000 in
set_option maxHeartbeats 4000000 in
theorem J9 (w:World) :
 Calls Tryz.prog 129 #[] w fun e w'=>e=.returned (.agg wB.toArray)/\zO w w':=by
 have hA:zO w (w.alloc (.cells #[.nilFunc,.nilFunc,.nilFunc,.nilFunc,.nilFunc,.nilFunc,.nilFunc,.nilFunc,.nilFunc,.nilFunc,.nilFunc,.nilFunc,.nilFunc,.nilFunc,.nilFunc,.nilFunc,.nilFunc,.nilFunc,.nilFunc] 194)):=zR _ _
 have r:=zd9 w 194
 go_enter Tryz.func129,Tryz.ntmps129
 go_upto_region 1 with fail
 generalize w.alloc (.cells #[.nilFunc,.nilFunc,.nilFunc,.nilFunc,.nilFunc,.nilFunc,.nilFunc,.nilFunc,.nilFunc,.nilFunc,.nilFunc,.nilFunc,.nilFunc,.nilFunc,.nilFunc,.nilFunc,.nilFunc,.nilFunc,.nilFunc] 194)=W at *
 have hT:W.there w.heap.size 0 wB.toArray.size:=fun i hi=>⟨by rw[Nat.zero_add,r.cell hi];rfl,r.frozen _⟩
 refine wp_region_list ?_
 refine wpList_plain (by rfl) (fun K hK=>?_)
 go_simp
 refine hK _ _ ?_
 refine wpList_store_mid (by rfl) 194 _ _ (by rfl) w.heap.size 0 wB.toArray (by rfl) (by rfl) hT (by kernel_rfl) (all_oneCell_toArray (by simp[wB,Value.oneCell'])) ?_
 have hR:=World.rangeAt_setCells_same W w.heap.size 0 wB hT
 have B9:=Yp wB 0 hA zD
 generalize W.setCells w.heap.size 0 wB.toArray.toList=W9 at *
 go_wp2
 have hl:(loadVar 194 ⟨w.heap.size,0,none⟩).run Tryz.prog W9=.ok (.agg wB.toArray) W9:=run_loadVar_mid W9 w.heap.size 0 194 wB _ hR Tryz.underlying194 rfl (by kernel_rfl)
 exact bodyPost_ret (v:=.agg wB.toArray) (by simp[results,Tryz.results129,Act.put,asAddr,hl]) rfl ⟨rfl,B9⟩
end Go.Proofs.YtbjgjjkgfnfejaaGreatDoor

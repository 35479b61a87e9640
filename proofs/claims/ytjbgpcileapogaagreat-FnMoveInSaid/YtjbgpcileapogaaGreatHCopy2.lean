/-
  The copies that the exact laws make of values and calls: toVal, toValS, toCall answer the same in new memory, and write to nothing that was there.
-/
import Derived.Test.YtjbgpcileapogaaGreatHSame
import Derived.Deep.DeepCutAuto
namespace Go.Proofs.YtjbgpcileapogaaGreat
open Go.RowKit
theorem Tryz.infoVal:(Tryz.prog.info? 98).map (fun i=>(i.zero,i.size,i.bytes))=some (some (.agg #[.int .i64 0,.int .i64 0]),2,16):=by kernel_rfl
def Qi (x0 x1 x2 x3 x4 x5:Value):Nat->Value:=fun i=>if i=0 then x0 else if i=1 then x1 else if i=2 then x2 else if i=3 then x3 else if i=4 then x4 else x5
theorem jx (w:World) (t:TypeId) (x0 x1 x2 x3 x4 x5:Value):(w.alloc (.cells #[x0,x1,x2,x3,x4,x5] t)).rowIs w.heap.size t 6 (Qi x0 x1 x2 x3 x4 x5) :=
 ⟨_,Go.Deep.blk_alloc_new _ _,rfl,fun i hi=>by match i,hi with | 0,_=>rfl | 1,_=>rfl | 2,_=>rfl | 3,_=>rfl | 4,_=>rfl | 5,_=>rfl⟩
theorem zZ {w:World} {g:Nat} {t:TypeId} {x0 x1 x2 x3 x4 x5:Value} (h:w.rowIs g t 6 (Qi x0 x1 x2 x3 x4 x5)) :
 (w.cell? ⟨g,0,none⟩=some x0/\w.cell? ⟨g,1,none⟩=some x1/\w.cell? ⟨g,2,none⟩=some x2/\w.cell? ⟨g,3,none⟩=some x3/\w.cell? ⟨g,4,none⟩=some x4/\w.cell? ⟨g,5,none⟩=some x5) /\
 (w.frozen? ⟨g,0,none⟩=false/\w.frozen? ⟨g,1,none⟩=false/\w.frozen? ⟨g,2,none⟩=false/\w.frozen? ⟨g,3,none⟩=false/\w.frozen? ⟨g,4,none⟩=false/\w.frozen? ⟨g,5,none⟩=false) :=
 ⟨⟨h.cell (i:=0) (by decide),h.cell (i:=1) (by decide),h.cell (i:=2) (by decide),h.cell (i:=3) (by decide),h.cell (i:=4) (by decide),h.cell (i:=5) (by decide)⟩,h.frozen 0,h.frozen 1,h.frozen 2,h.frozen 3,h.frozen 4,h.frozen 5⟩
theorem ZB {w:World} {g:Nat} {t:TypeId} {x0 x1 x2 x3 x4 x5:Value} (h:w.rowIs g t 6 (Qi x0 x1 x2 x3 x4 x5)) (v:Value):(w.setCell ⟨g,2,none⟩ v).rowIs g t 6 (Qi x0 x1 v x3 x4 x5) :=
 (h.set 2 v).congr fun i hi=>by match i,hi with | 0,_=>rfl | 1,_=>rfl | 2,_=>rfl | 3,_=>rfl | 4,_=>rfl | 5,_=>rfl
theorem JX {w:World} {g:Nat} {t:TypeId} {x0 x1 x2 x3 x4 x5:Value} (h:w.rowIs g t 6 (Qi x0 x1 x2 x3 x4 x5)) (v:Value):(w.setCell ⟨g,0,none⟩ v).rowIs g t 6 (Qi v x1 x2 x3 x4 x5) :=
 (h.set 0 v).congr fun i hi=>by match i,hi with | 0,_=>rfl | 1,_=>rfl | 2,_=>rfl | 3,_=>rfl | 4,_=>rfl | 5,_=>rfl
theorem Qj {w:World} {g:Nat} {t:TypeId} {x0 x1 x2 x3 x4 x5:Value} (h:w.rowIs g t 6 (Qi x0 x1 x2 x3 x4 x5)) (v:Value):(w.setCell ⟨g,1,none⟩ v).rowIs g t 6 (Qi x0 v x2 x3 x4 x5) :=
 (h.set 1 v).congr fun i hi=>by match i,hi with | 0,_=>rfl | 1,_=>rfl | 2,_=>rfl | 3,_=>rfl | 4,_=>rfl | 5,_=>rfl
theorem ZC {w:World} {g:Nat} {t:TypeId} {x0 x1 x2 x3 x4 x5:Value} (h:w.rowIs g t 6 (Qi x0 x1 x2 x3 x4 x5)) (v:Value):(w.setCell ⟨g,3,none⟩ v).rowIs g t 6 (Qi x0 x1 x2 v x4 x5) :=
 (h.set 3 v).congr fun i hi=>by match i,hi with | 0,_=>rfl | 1,_=>rfl | 2,_=>rfl | 3,_=>rfl | 4,_=>rfl | 5,_=>rfl
theorem ZD {w:World} {g:Nat} {t:TypeId} {x0 x1 x2 x3 x4 x5:Value} (h:w.rowIs g t 6 (Qi x0 x1 x2 x3 x4 x5)) (v:Value):(w.setCell ⟨g,4,none⟩ v).rowIs g t 6 (Qi x0 x1 x2 x3 v x5) :=
 (h.set 4 v).congr fun i hi=>by match i,hi with | 0,_=>rfl | 1,_=>rfl | 2,_=>rfl | 3,_=>rfl | 4,_=>rfl | 5,_=>rfl
theorem JY {w:World} {g:Nat} {t:TypeId} {x0 x1 x2 x3 x4 x5:Value} (h:w.rowIs g t 6 (Qi x0 x1 x2 x3 x4 x5)) (v:Value):(w.setCell ⟨g,5,none⟩ v).rowIs g t 6 (Qi x0 x1 x2 x3 x4 v) :=
 (h.set 5 v).congr fun i hi=>by match i,hi with | 0,_=>rfl | 1,_=>rfl | 2,_=>rfl | 3,_=>rfl | 4,_=>rfl | 5,_=>rfl
theorem vN {w:World} {g k o:Nat} {t:TypeId} {n:Nat} {f:Nat->Value} (h:w.rowIs g t n f) (hk:g≠k) (v:Value):(w.setCell ⟨k,o,none⟩ v).rowIs g t n f :=
 h.of_block (Below.heap_setCell _ _ _ _ hk)
theorem Tryz.infoCall:(Tryz.prog.info? 37).map (fun i=>(i.zero,i.size,i.bytes))=some (some (.agg #[.int .i64 0,.int .i64 0,.slice none 0 0,.slice none 0 0,.int .i64 0,.bool false]),6,80):=by kernel_rfl
abbrev full (g n:Nat):Value:=.slice (some ⟨g,0,none⟩) n n
def Cl.none:Cl:=⟨0,0,[],[],0,false⟩
def jQ (x0 x1 x2 x3 x4:Value):Nat->Value:=fun i=>if i=0 then x0 else if i=1 then x1 else if i=2 then x2 else if i=3 then x3 else x4
theorem qG (w:World) (t:TypeId) (x0 x1 x2 x3 x4:Value):(w.alloc (.cells #[x0,x1,x2,x3,x4] t)).rowIs w.heap.size t 5 (jQ x0 x1 x2 x3 x4) :=
 ⟨_,Go.Deep.blk_alloc_new _ _,rfl,fun i hi=>by match i,hi with | 0,_=>rfl | 1,_=>rfl | 2,_=>rfl | 3,_=>rfl | 4,_=>rfl⟩
theorem zJ {w:World} {g:Nat} {t:TypeId} {x0 x1 x2 x3 x4:Value} (h:w.rowIs g t 5 (jQ x0 x1 x2 x3 x4)) :
 (w.cell? ⟨g,0,none⟩=some x0/\w.cell? ⟨g,1,none⟩=some x1/\w.cell? ⟨g,2,none⟩=some x2/\w.cell? ⟨g,3,none⟩=some x3/\w.cell? ⟨g,4,none⟩=some x4) /\
 (w.frozen? ⟨g,0,none⟩=false/\w.frozen? ⟨g,1,none⟩=false/\w.frozen? ⟨g,2,none⟩=false/\w.frozen? ⟨g,3,none⟩=false/\w.frozen? ⟨g,4,none⟩=false) :=
 ⟨⟨h.cell (i:=0) (by decide),h.cell (i:=1) (by decide),h.cell (i:=2) (by decide),h.cell (i:=3) (by decide),h.cell (i:=4) (by decide)⟩,h.frozen 0,h.frozen 1,h.frozen 2,h.frozen 3,h.frozen 4⟩
theorem jj {w:World} {g:Nat} {t:TypeId} {x0 x1 x2 x3 x4:Value} (h:w.rowIs g t 5 (jQ x0 x1 x2 x3 x4)) (v:Value):(w.setCell ⟨g,0,none⟩ v).rowIs g t 5 (jQ v x1 x2 x3 x4) :=
 (h.set 0 v).congr fun i hi=>by match i,hi with | 0,_=>rfl | 1,_=>rfl | 2,_=>rfl | 3,_=>rfl | 4,_=>rfl
theorem j8 {w:World} {g:Nat} {t:TypeId} {x0 x1 x2 x3 x4:Value} (h:w.rowIs g t 5 (jQ x0 x1 x2 x3 x4)) (v:Value):(w.setCell ⟨g,1,none⟩ v).rowIs g t 5 (jQ x0 v x2 x3 x4) :=
 (h.set 1 v).congr fun i hi=>by match i,hi with | 0,_=>rfl | 1,_=>rfl | 2,_=>rfl | 3,_=>rfl | 4,_=>rfl
theorem jC {w:World} {g:Nat} {t:TypeId} {x0 x1 x2 x3 x4:Value} (h:w.rowIs g t 5 (jQ x0 x1 x2 x3 x4)) (v:Value):(w.setCell ⟨g,2,none⟩ v).rowIs g t 5 (jQ x0 x1 v x3 x4) :=
 (h.set 2 v).congr fun i hi=>by match i,hi with | 0,_=>rfl | 1,_=>rfl | 2,_=>rfl | 3,_=>rfl | 4,_=>rfl
theorem jD {w:World} {g:Nat} {t:TypeId} {x0 x1 x2 x3 x4:Value} (h:w.rowIs g t 5 (jQ x0 x1 x2 x3 x4)) (v:Value):(w.setCell ⟨g,3,none⟩ v).rowIs g t 5 (jQ x0 x1 x2 v x4) :=
 (h.set 3 v).congr fun i hi=>by match i,hi with | 0,_=>rfl | 1,_=>rfl | 2,_=>rfl | 3,_=>rfl | 4,_=>rfl
theorem j9 {w:World} {g:Nat} {t:TypeId} {x0 x1 x2 x3 x4:Value} (h:w.rowIs g t 5 (jQ x0 x1 x2 x3 x4)) (v:Value):(w.setCell ⟨g,4,none⟩ v).rowIs g t 5 (jQ x0 x1 x2 x3 v) :=
 (h.set 4 v).congr fun i hi=>by match i,hi with | 0,_=>rfl | 1,_=>rfl | 2,_=>rfl | 3,_=>rfl | 4,_=>rfl
end Go.Proofs.YtjbgpcileapogaaGreat

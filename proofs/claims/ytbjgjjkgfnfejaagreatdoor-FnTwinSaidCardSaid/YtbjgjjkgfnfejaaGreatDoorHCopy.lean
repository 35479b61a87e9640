/-
  The copies that the exact laws make of values and calls: toVal, toValS, toCall answer the same in new memory, and write to nothing that was there.
-/
import Derived.Test.YtbjgjjkgfnfejaaGreatDoorLmVals
import Derived.Deep.DeepCutAuto
namespace Go.Proofs.YtbjgjjkgfnfejaaGreatDoor
open Go.RowKit
theorem Tryz.infoVal:(Tryz.prog.info? 86).map (fun i=>(i.zero,i.size,i.bytes))=some (some (.agg #[zI 0,zI 0]),2,16):=by kernel_rfl
def six (x0 x1 x2 x3 x4 x5:Value):Nat->Value:=fun i=>if i=0 then x0 else if i=1 then x1 else if i=2 then x2 else if i=3 then x3 else if i=4 then x4 else x5
theorem wb (w:World) (t:TypeId) (x0 x1 x2 x3 x4 x5:Value):(w.alloc (.cells #[x0,x1,x2,x3,x4,x5] t)).rowIs w.heap.size t 6 (six x0 x1 x2 x3 x4 x5) :=
 ⟨_,Go.Deep.blk_alloc_new _ _,rfl,fun i hi=>by match i,hi with | 0,_=>rfl | 1,_=>rfl | 2,_=>rfl | 3,_=>rfl | 4,_=>rfl | 5,_=>rfl⟩
theorem jS {w:World} {g:Nat} {t:TypeId} {x0 x1 x2 x3 x4 x5:Value} (h:w.rowIs g t 6 (six x0 x1 x2 x3 x4 x5)) :
 (w.cell? (zH g 0)=some x0/\w.cell? (zH g 1)=some x1/\w.cell? (zH g 2)=some x2/\w.cell? (zH g 3)=some x3/\w.cell? (zH g 4)=some x4/\w.cell? (zH g 5)=some x5) /\
 (w.frozen? (zH g 0)=false/\w.frozen? (zH g 1)=false/\w.frozen? (zH g 2)=false/\w.frozen? (zH g 3)=false/\w.frozen? (zH g 4)=false/\w.frozen? (zH g 5)=false) :=
 ⟨⟨h.cell (i:=0) (by decide),h.cell (i:=1) (by decide),h.cell (i:=2) (by decide),h.cell (i:=3) (by decide),h.cell (i:=4) (by decide),h.cell (i:=5) (by decide)⟩,h.frozen 0,h.frozen 1,h.frozen 2,h.frozen 3,h.frozen 4,h.frozen 5⟩
theorem zao {w:World} {g:Nat} {t:TypeId} {x0 x1 x2 x3 x4 x5:Value} (h:w.rowIs g t 6 (six x0 x1 x2 x3 x4 x5)) (v:Value):(w.setCell (zH g 2) v).rowIs g t 6 (six x0 x1 v x3 x4 x5) :=
 (h.set 2 v).congr fun i hi=>by match i,hi with | 0,_=>rfl | 1,_=>rfl | 2,_=>rfl | 3,_=>rfl | 4,_=>rfl | 5,_=>rfl
theorem zam {w:World} {g:Nat} {t:TypeId} {x0 x1 x2 x3 x4 x5:Value} (h:w.rowIs g t 6 (six x0 x1 x2 x3 x4 x5)) (v:Value):(w.setCell (zH g 0) v).rowIs g t 6 (six v x1 x2 x3 x4 x5) :=
 (h.set 0 v).congr fun i hi=>by match i,hi with | 0,_=>rfl | 1,_=>rfl | 2,_=>rfl | 3,_=>rfl | 4,_=>rfl | 5,_=>rfl
theorem zan {w:World} {g:Nat} {t:TypeId} {x0 x1 x2 x3 x4 x5:Value} (h:w.rowIs g t 6 (six x0 x1 x2 x3 x4 x5)) (v:Value):(w.setCell (zH g 1) v).rowIs g t 6 (six x0 v x2 x3 x4 x5) :=
 (h.set 1 v).congr fun i hi=>by match i,hi with | 0,_=>rfl | 1,_=>rfl | 2,_=>rfl | 3,_=>rfl | 4,_=>rfl | 5,_=>rfl
theorem zap {w:World} {g:Nat} {t:TypeId} {x0 x1 x2 x3 x4 x5:Value} (h:w.rowIs g t 6 (six x0 x1 x2 x3 x4 x5)) (v:Value):(w.setCell (zH g 3) v).rowIs g t 6 (six x0 x1 x2 v x4 x5) :=
 (h.set 3 v).congr fun i hi=>by match i,hi with | 0,_=>rfl | 1,_=>rfl | 2,_=>rfl | 3,_=>rfl | 4,_=>rfl | 5,_=>rfl
theorem zaq {w:World} {g:Nat} {t:TypeId} {x0 x1 x2 x3 x4 x5:Value} (h:w.rowIs g t 6 (six x0 x1 x2 x3 x4 x5)) (v:Value):(w.setCell (zH g 4) v).rowIs g t 6 (six x0 x1 x2 x3 v x5) :=
 (h.set 4 v).congr fun i hi=>by match i,hi with | 0,_=>rfl | 1,_=>rfl | 2,_=>rfl | 3,_=>rfl | 4,_=>rfl | 5,_=>rfl
theorem zar {w:World} {g:Nat} {t:TypeId} {x0 x1 x2 x3 x4 x5:Value} (h:w.rowIs g t 6 (six x0 x1 x2 x3 x4 x5)) (v:Value):(w.setCell (zH g 5) v).rowIs g t 6 (six x0 x1 x2 x3 x4 v) :=
 (h.set 5 v).congr fun i hi=>by match i,hi with | 0,_=>rfl | 1,_=>rfl | 2,_=>rfl | 3,_=>rfl | 4,_=>rfl | 5,_=>rfl
theorem Xi {w:World} {g k o:Nat} {t:TypeId} {n:Nat} {f:Nat->Value} (h:w.rowIs g t n f) (hk:g≠k) (v:Value):(w.setCell (zH k o) v).rowIs g t n f :=
 h.of_block (Below.heap_setCell _ _ _ _ hk)
theorem Tryz.infoCall:(Tryz.prog.info? 96).map (fun i=>(i.zero,i.size,i.bytes))=some (some (.agg #[zI 0,zI 0,zQ,zQ,zI 0,.bool false]),6,80):=by kernel_rfl
abbrev full (g n:Nat):Value:=zK g 0 n n
def Cl.none:Cl:=⟨0,0,[],[],0,false⟩
def kq (x0 x1 x2 x3 x4:Value):Nat->Value:=fun i=>if i=0 then x0 else if i=1 then x1 else if i=2 then x2 else if i=3 then x3 else x4
theorem jj (w:World) (t:TypeId) (x0 x1 x2 x3 x4:Value):(w.alloc (.cells #[x0,x1,x2,x3,x4] t)).rowIs w.heap.size t 5 (kq x0 x1 x2 x3 x4) :=
 ⟨_,Go.Deep.blk_alloc_new _ _,rfl,fun i hi=>by match i,hi with | 0,_=>rfl | 1,_=>rfl | 2,_=>rfl | 3,_=>rfl | 4,_=>rfl⟩
theorem zq {w:World} {g:Nat} {t:TypeId} {x0 x1 x2 x3 x4:Value} (h:w.rowIs g t 5 (kq x0 x1 x2 x3 x4)) :
 (w.cell? (zH g 0)=some x0/\w.cell? (zH g 1)=some x1/\w.cell? (zH g 2)=some x2/\w.cell? (zH g 3)=some x3/\w.cell? (zH g 4)=some x4) /\
 (w.frozen? (zH g 0)=false/\w.frozen? (zH g 1)=false/\w.frozen? (zH g 2)=false/\w.frozen? (zH g 3)=false/\w.frozen? (zH g 4)=false) :=
 ⟨⟨h.cell (i:=0) (by decide),h.cell (i:=1) (by decide),h.cell (i:=2) (by decide),h.cell (i:=3) (by decide),h.cell (i:=4) (by decide)⟩,h.frozen 0,h.frozen 1,h.frozen 2,h.frozen 3,h.frozen 4⟩
theorem wi {w:World} {g:Nat} {t:TypeId} {x0 x1 x2 x3 x4:Value} (h:w.rowIs g t 5 (kq x0 x1 x2 x3 x4)) (v:Value):(w.setCell (zH g 0) v).rowIs g t 5 (kq v x1 x2 x3 x4) :=
 (h.set 0 v).congr fun i hi=>by match i,hi with | 0,_=>rfl | 1,_=>rfl | 2,_=>rfl | 3,_=>rfl | 4,_=>rfl
theorem uv {w:World} {g:Nat} {t:TypeId} {x0 x1 x2 x3 x4:Value} (h:w.rowIs g t 5 (kq x0 x1 x2 x3 x4)) (v:Value):(w.setCell (zH g 1) v).rowIs g t 5 (kq x0 v x2 x3 x4) :=
 (h.set 1 v).congr fun i hi=>by match i,hi with | 0,_=>rfl | 1,_=>rfl | 2,_=>rfl | 3,_=>rfl | 4,_=>rfl
theorem uw {w:World} {g:Nat} {t:TypeId} {x0 x1 x2 x3 x4:Value} (h:w.rowIs g t 5 (kq x0 x1 x2 x3 x4)) (v:Value):(w.setCell (zH g 2) v).rowIs g t 5 (kq x0 x1 v x3 x4) :=
 (h.set 2 v).congr fun i hi=>by match i,hi with | 0,_=>rfl | 1,_=>rfl | 2,_=>rfl | 3,_=>rfl | 4,_=>rfl
theorem kP {w:World} {g:Nat} {t:TypeId} {x0 x1 x2 x3 x4:Value} (h:w.rowIs g t 5 (kq x0 x1 x2 x3 x4)) (v:Value):(w.setCell (zH g 3) v).rowIs g t 5 (kq x0 x1 x2 v x4) :=
 (h.set 3 v).congr fun i hi=>by match i,hi with | 0,_=>rfl | 1,_=>rfl | 2,_=>rfl | 3,_=>rfl | 4,_=>rfl
theorem jM {w:World} {g:Nat} {t:TypeId} {x0 x1 x2 x3 x4:Value} (h:w.rowIs g t 5 (kq x0 x1 x2 x3 x4)) (v:Value):(w.setCell (zH g 4) v).rowIs g t 5 (kq x0 x1 x2 x3 v) :=
 (h.set 4 v).congr fun i hi=>by match i,hi with | 0,_=>rfl | 1,_=>rfl | 2,_=>rfl | 3,_=>rfl | 4,_=>rfl
end Go.Proofs.YtbjgjjkgfnfejaaGreatDoor

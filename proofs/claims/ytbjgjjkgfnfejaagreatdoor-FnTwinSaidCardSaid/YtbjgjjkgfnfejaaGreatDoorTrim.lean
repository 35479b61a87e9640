/-
  HeapTrim of both sides: without what cannot be come to.
-/
import Derived.Test.YtbjgjjkgfnfejaaGreatDoorRep
import Derived.Lib.MinMax
namespace Go.Proofs.YtbjgjjkgfnfejaaGreatDoor
open Go.RowKit
theorem XL {P:Program} {t tx ty e:TypeId} {i:TypeInfo} {z:Value} {B:Nat} (ht:P.underlying t=some (.slice e)) (hi:P.info? e=some i) (hz:i.zero=some z) (hzs:z.cells.size=i.size) (hby:i.bytes<=1000)
 {w:World} {v:Value} {n:Nat} {xs:List Value} (zy:yg B i.size w v n xs) (x:Value) (m:Nat) (news:List Value) (hs:Src P i.size tx x m news w) (hL:n+m<=2000000) (hB:B<=w.heap.size) :
 ∃v' w',(Builtin.append_ #[t,tx] ty #[v,x]).run P w=.ok v' w'/\yg B i.size w' v' (n+m) (xs ++ news)/\w.grownBy w' v.ownBlock/\(v'.ownBlock=v.ownBlock\/v'.ownBlock=some w.heap.size):=by
 obtain⟨hxl,zy⟩:=zy
 have hll:(xs ++ news).length=(n+m) * i.size:=by rw[List.length_append,hxl,hs.newsLen,Nat.add_mul]
 have Yv:∀(k:Nat),n+m<=k->k<=maxLen ->
  yg B i.size (w.drew.alloc (.cells ((xs ++ news).toArray ++ Builtin.zeroCells z.cells (k - (n+m))) e)) (zK w.heap.size 0 (n+m) k) (n+m) (xs ++ news):=by
  intro k hqk hk
  have WI:(Builtin.zeroCells z.cells (k - (n+m))).size=(k - (n+m)) * i.size:=by rw[size_zeroCells,hzs]
  have hblk:(w.drew.alloc (.cells ((xs ++ news).toArray ++ Builtin.zeroCells z.cells (k - (n+m))) e)).heap[w.heap.size]?=some (.cells ((xs ++ news).toArray ++ Builtin.zeroCells z.cells (k - (n+m))) e):=Go.Deep.blk_alloc_new w.drew _
  have hsum:(n+m) * i.size+(k - (n+m)) * i.size=k * i.size:=by rw[<-Nat.add_mul];congr 1;omega
  refine⟨hll,.inr ⟨w.heap.size,0,k,rfl,hB,by simp,hqk,hk,fun j hj=>?_,fun j hj=>?_⟩⟩
  ·refine⟨?_,?_⟩
   ·rw[Nat.zero_add,cell_of_row _ _ _ _ _ _ hblk]
    rw[Array.getElem?_eq_getElem (by rw[Array.size_append,WI,List.size_toArray,hll];omega)];rfl
   ·unfold World.frozen?
    rw[hblk]
    simp
  ·rw[Nat.zero_add,cell_of_row _ _ _ _ _ _ hblk,Array.getElem?_append_left (by rw[List.size_toArray];exact hj)]
   simp[List.getElem?_eq_getElem hj]
 have hgb:∀(o:Obj) (row:Option Nat),w.grownBy (w.drew.alloc o) row:=fun o row =>
  ⟨rfl,rfl,rfl,Nat.le_of_lt (by rw[World.size_alloc];exact Nat.lt_succ_self _),fun k hk _=>Below.heap_alloc w.drew _ k hk⟩
 rcases zy with⟨rfl,rfl⟩ | ⟨g,off,cap,rfl,hBg,hg,hl,hmx,hsp,hx⟩
 ·obtain rfl:xs=[]:=List.eq_nil_of_length_eq_zero (by simpa using hxl)
  by_cases hm0:m=0
  ·subst hm0
   obtain rfl:news=[]:=List.eq_nil_of_length_eq_zero (by simpa using hs.newsLen)
   refine⟨zQ,w,?_,yg.nil _ _ _,World.grownBy.refl _ _,.inl rfl⟩
   rcases hs.kind with⟨e',hk⟩ | hk <;> simp[Builtin.append_,run_underlying ht,run_underlying hk,sizeOf,typeInfo,hi,hs.len,hs.cells]
  ·have hr:=run_append_grow_src (P:=P) w t tx ty e i z ht hi hz none 0 0 [] (run_firstCells_none _ _ _ _ _) x m news hs (by omega) (by omega) (growslice_fits (by omega) (by have:=Nat.mul_le_mul (show 0+m<=2000000 by omega) hby;omega))
   refine⟨_,_,hr,?_,hgb _ _,.inr rfl⟩
   exact Yv (grownCap w (0+m) 0 e) (grownCap_ge _ _ _ _) (grownCap_le_maxLen _ _ _ _ (by unfold maxLen;omega))
 ·by_cases hroom:n+m<=cap
  ·have hle:n * i.size+news.length<=cap * i.size:=by rw[hs.newsLen,<-Nat.add_mul];exact Nat.mul_le_mul_right _ hroom
   have hc:∀j,j<news.length->(w.cell? (zH g (off+n * i.size+j))).isSome=true:=fun j hj=>by
    have:=(hsp (n * i.size+j) (by omega)).1
    rwa [<-Nat.add_assoc] at this
   have hf:∀j,j<news.length->w.frozen? (zH g (off+n * i.size+j))=false:=fun j hj=>by
    have:=(hsp (n * i.size+j) (by omega)).2
    rwa [<-Nat.add_assoc] at this
   have hr:=run_append_room_src (P:=P) w t tx ty e i ht hi g off n cap x m news hs hroom hc hf
   obtain⟨r1,r2,r3⟩:=Zv g news (off+n * i.size) w
   refine⟨_,_,hr,⟨hll,.inr ⟨g,off,cap,rfl,hBg,by rw[vw];exact hg,hroom,hmx,fun j hj=>?_,fun j hj=>?_⟩⟩,⟨r1,r2,r3,by rw[vw];exact Nat.le_refl _,fun k _ hk=>wR _ _ _ _ _ (fun e=>hk (by rw[e];rfl))⟩,.inl rfl⟩
   ·rw[World.frozen?_setCells]
    refine⟨?_,(hsp j hj).2⟩
    by_cases hin:n * i.size<=j/\j<n * i.size+news.length
    ·have:=World.cell?_setCells_in g news (off+n * i.size) w hc (j - n * i.size) (by omega)
     rw[show off+n * i.size+(j - n * i.size)=off+j by omega] at this
     rw[this];rfl
    ·rw[World.cell?_setCells_out g _ _ _ _ (fun _ _=>by simp;omega)]
     exact(hsp j hj).1
   ·rw[List.length_append] at hj
    by_cases hin:j<xs.length
    ·rw[World.cell?_setCells_out g _ _ _ _ (fun _ _=>by simp;omega),hx j hin]
     simp[hin]
    ·have:=World.cell?_setCells_in g news (off+n * i.size) w hc (j - n * i.size) (by omega)
     rw[show off+n * i.size+(j - n * i.size)=off+j by omega] at this
     rw[this,List.getElem_append_right (by omega)]
     simp only[hxl]
  ·have hr:=run_append_grow_src (P:=P) w t tx ty e i z ht hi hz (some ⟨g,off,none⟩) n cap xs (run_firstCells_some _ _ _ _ _ _ _ hxl (fun j u hu=>by
    by_cases hj:j<xs.length
    ·rw[List.getElem?_eq_getElem hj] at hu
     have h1:=hx j hj
     rw[Addr.add_lit]
     show w.cell? _=_
     rw[h1]
     simpa using hu
    ·rw[List.getElem?_eq_none (by omega)] at hu;simp at hu)) x m news hs (by omega) (by omega) (growslice_fits (by omega) (by have:=Nat.mul_le_mul (show n+m<=2000000 by omega) hby;omega))
   refine⟨_,_,hr,?_,hgb _ _,.inr rfl⟩
   exact Yv (grownCap w (n+m) cap e) (grownCap_ge _ _ _ _) (grownCap_le_maxLen _ _ _ _ (by unfold maxLen;omega))
theorem XM {ty:TypeId} {B:Nat} {w:World} {v xv:Value} {L M:yH} (zy:zk B w v L) (hM:yo w xv M) (hL:L.length+M.length<=2000000) (hB:B<=w.heap.size) :
 ∃v' w',(Builtin.append_ #[32,32] ty #[v,xv]).run Tryz.prog w=.ok v' w'/\zk B w' v' (L ++ M)/\w.grownBy w' v.ownBlock/\(v'.ownBlock=v.ownBlock\/v'.ownBlock=some w.heap.size):=by
 obtain⟨i0,hi,jT,xF,kf⟩:=info_parts Tryz.infoVal
 have h1:=zy.crow
 have h2:=zat (P:=Tryz.prog) Tryz.underlying32 hM
 rw[<-xF] at h1 h2
 obtain⟨v',w',hr,hc,hg,hb⟩:=XL (P:=Tryz.prog) (ty:=ty) Tryz.underlying32 hi jT (by rw[xF];rfl) (by rw[kf];omega) h1 xv M.length (xW M) h2 hL hB
 refine⟨v',w',hr,?_,hg,hb⟩
 rw[xF,<-Ql] at hc
 exact hc.pair (by simp)
theorem Up {ops:Array Oper} {rest:List Oper} {o:Oper} {act:Act} {Q:Exit->Act->World->Prop} (w:World) (hgd:o.guard=none) (s x:Operand)
 (ho:o.op=.call {callee:=.builtin .append,args:=#[s,x],argTypes:=#[32,32]}) (B:Nat) (v xv:Value) (L M:yH) (hs:act.eval s=v) (hx:act.eval x=xv) (zy:zk B w v L) (hM:yo w xv M)
 (hL:L.length+M.length<=2000000) (hB:B<=w.heap.size)
 (h:∀v' w',zk B w' v' (L ++ M)->w.grownBy w' v.ownBlock->(v'.ownBlock=v.ownBlock\/v'.ownBlock=some w.heap.size)->wpList Tryz.prog ops Q rest (act.put o.dst v') w') :
 wpList Tryz.prog ops Q (o :: rest) act w:=by
 obtain⟨v',w',hr,h2,h3,h4⟩:=XM (ty:=o.type) zy hM hL hB
 refine wpList_plain hgd fun K hK=>?_
 unfold Oper.wp execOp
 simp only[ho,resolve,invoke,builtin,Sem.run_bind,Sem.run_pure,Result.andThen_ok,List.map_toArray,List.map_cons,List.map_nil,hs,hx,hr]
 exact hK _ _ (h v' w' h2 h3 h4)
set_option maxRecDepth 100000 in
set_option maxHeartbeats 1000000 in
theorem VD (v:Value) (xs:yH) (w:World) (h:yo w v xs) (hl:xs.length<=1048576) :
 Calls Tryz.prog 46 #[v] w fun e w'=>∃v',e=.returned v'/\zk w.heap.size w' v' xs/\zO w w':=by
 obtain⟨a,c,rfl,hlm,hc⟩:=id h
 have hnil:∀(W:World) (a:Option Addr) (n c:Nat),(binOp .eql 32 (.slice a n c) (zQ)).run Tryz.prog W=.ok (.bool a.isNone) W:=fun W a n c=>Lib.run_eql_slice_nil W _ _ a n c 0 0 Tryz.underlying32
 cases a with
 | none =>
  have hx:xs=[]:=by
   cases xs with
   | nil=>rfl
   | cons y t=>obtain⟨b,o,e,_⟩:=hc 0 (by simp);cases e
  subst hx
  go_enter Tryz.func46,Tryz.ntmps46
  go_wp2
  go_ret
  exact⟨_,rfl,zk.nil _ _,zS⟩
 | some ad =>
  have N1:=zR w (.cells #[] 86)
  have mk:=zk.made (B:=w.heap.size) (w:=w) (e:=86) zD
  have h1:=h.below N1
  go_enter Tryz.func46,Tryz.ntmps46
  go_wp2_with (at_builtin;refine Up _ (by rfl) _ _ (by rfl) w.heap.size _ _ [] xs (by rfl) (by rfl) mk h1 (by simp;omega) N1.size ?_;intro v2 w2 yN qA yL;rw[List.nil_append] at yN)
  have B2:=N1.grown qA N1.size (fun q e=>(mk.lt q e).1)
  clear qA yL
  go_ret
  exact⟨_,rfl,yN,B2⟩
end Go.Proofs.YtbjgjjkgfnfejaaGreatDoor

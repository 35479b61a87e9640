/-
  A machine whose calls are all things of their own is made ready for work: livePagesOf.
-/
import Derived.Test.YtbjgjjkgfnfejaaGreatDoorMOut2
namespace Go.Proofs.YtbjgjjkgfnfejaaGreatDoor
set_option maxHeartbeats 4000000
set_option maxRecDepth 100000
open Go.RowKit
theorem Tryz.infoLPage:(Tryz.prog.info? 139).map (fun i=>(i.zero,i.size,i.bytes))=some (some (.agg #[zI 0,zQ]),2,32):=by kernel_rfl
theorem Xe (a:Option Addr) (c:Nat) (w:World):Calls Tryz.prog 85 #[.slice a 0 c] w fun e w'=>e=.returned (zQ)/\zO w w':=by
 go_enter Tryz.func85,Tryz.ntmps85
 go_wp2_with fail
 go_loopg [3,5,6,9] 0 (fun d u _ _ q wr=>d=0/\u=zQ/\q=zI 0/\wr=w)
 case atStart=>exact⟨rfl,rfl,rfl,rfl⟩
 case round =>
  obtain⟨rfl,rfl,rfl,rfl⟩:=hrel
  go_wp2_with fail
  go_ret
  exact⟨rfl,zS⟩
def LfO (w:World) (c:Cl) (tw:Int) (k:Nat) (v:Value) (wr:World):Prop :=
 (k=0/\v=zQ)\/(k=1/\∃(d:Nat) (vt vs:Value),ur w.heap.size wr d vt vs c/\yg w.heap.size 2 wr v 1 [zJ d 0,zI tw]/\v.ownBlock≠some d/\(∀g,v.ownBlock=some g->vt.ownBlock≠some g/\vs.ownBlock≠some g))
theorem XG {g o cap:Nat} {vt vs:Value} {c:Cl} {tw:Int} {w:World} (hc0:c.zi=0) (hd0:c.zv=false)
 (x0:w.cell? (zH g o)=some (zI c.m)) (x1:w.cell? (zH g (o+1))=some (zI c.pc)) (x2:w.cell? (zH g (o+2))=some (zI tw)) (x3:w.cell? (zH g (o+3))=some vt) (x4:w.cell? (zH g (o+4))=some vs)
 (ht:yo w vt c.zg) (hs:yo w vs c.zf) (hl:c.zg.length<=1000/\c.zf.length<=1000) :
 Calls Tryz.prog 85 #[zK g o 1 cap] w fun e w'=>∃v',e=.returned v'/\LfO w c tw 1 v' w'/\zO w w':=by
 obtain⟨at_,ct,jz⟩:=ht.shape
 obtain⟨uS,cs,km⟩:=hs.shape
 have HB:Hid (∀W,zO w W->Calls Tryz.prog 86 #[.agg #[zI c.m,zI c.pc,vt,vs,zI 0,.bool false]] W fun e w'=>∃(d:Nat) (U5 vs':Value),e=.returned (zJ d 0)/\ur W.heap.size w' d U5 vs' c/\zO W w'):=fun W hW=>by
  have:=UL c vt vs W (ht.below hW) (hs.below hW) hl
  rw[hc0,hd0] at this
  exact this
 rw[jz] at HB x3
 rw[km] at HB x4
 clear ht hs jz km
 go_enter Tryz.func85,Tryz.ntmps85
 go_wp2_with fail
 go_loopg [3,5,6,9] 1 (fun dd v _ _ q wr=>∃k:Nat,k<=1/\dd=1 - k/\q=zI (k:Int)/\LfO w c tw k v wr/\zO w wr)
 case atStart=>exact⟨0,Nat.zero_le _,rfl,rfl,.inl ⟨rfl,rfl⟩,zS⟩
 case round =>
  obtain⟨k,hk,rfl,rfl,hv,hbr⟩:=hrel
  have zr:=hbr.size
  by_cases yz:k<1
  ·obtain rfl:k=0:=by omega
   have hv0:=hv
   rcases hv with⟨_,e⟩ | ⟨e,_⟩
   case inr=>omega
   subst e
   have c0:=zc hbr x0
   have c1:=zc hbr x1
   have c2:=zc hbr x2
   have c3:=zc hbr x3
   have c4:=zc hbr x4
   clear hv0
   go_upto_region 5 with fail
   refine ym (fun W=>zO wr W/\Bx W wr.heap.size 75 [.int .i64 c.m,.int .i64 c.pc,.int .i64 tw,.slice at_ c.zg.length ct,.slice uS c.zf.length cs]) ⟨zR _ _,Bx.new _ _ _⟩ ?_
   rintro W ⟨bW,yW⟩
   have y0:=yW.cell 0 rfl
   have y1:=yW.cell 1 rfl
   have y2:=yW.cell 2 rfl
   have y3:=yW.cell 3 rfl
   have y4:=yW.cell 4 rfl
   have hbw:=hbr.trans (bW.mono zr)
   have hzw:=hbw.size
   have HC:=HB.out W hbw
   clear c0 c1 c2 c3 c4
   go_wp2_with fail
   refine HC.mono ?_
   rintro e W2 ⟨d,U5,vs',rfl,hbd,b2⟩
   have y22:=zc b2 y2
   have kf:=b2.size
   have HBD:Hid (ur W.heap.size W2 d U5 vs' c):=hbd
   clear y0 y1 y2 y3 y4 HC hbd
   obtain⟨W3,hW3⟩:∃W3,W2.alloc (.cells #[.pointer (some ⟨d,0,none⟩),.int .i64 tw] 145)=W3:=⟨_,rfl⟩
   have b3:zO W2 W3:=by rw[<-hW3];exact zR _ _
   have z3:W3.heap.size=W2.heap.size+1:=by rw[<-hW3];simp
   have src:Src Tryz.prog 2 136 (zK W2.heap.size 0 1 1) 1 [zJ d 0,zI tw] W3:=by
    rw[<-hW3]
    exact zeu (by simp[go_sem]) (by simp[go_sem])
   obtain⟨v',w',hrun,zT,hg,zy⟩:=YB (ty:=136) (yg.nil w.heap.size 2 W3) src (by omega) (by omega)
   rw[<-hW3] at hrun
   have HEND:Hid (LfO w c tw 1 v' w'/\zO w w'):=by
    have hz4:=hg.size
    have hblk:∀r,r<W2.heap.size->w'.heap[r]?=W2.heap[r]?:=fun r hr=>(hg.block r (by omega) (fun e=>by simp[Value.ownBlock] at e)).trans (b3.block r hr)
    have hbd:=(HBD.out.kept (w1:=w') (by omega) (fun r _ hr=>hblk r hr)).mono hzw
    have hnew:∀g,v'.ownBlock=some g->W2.heap.size<=g:=fun g e=>by
     rcases zy with x | x
     ·rw[x] at e;simp[Value.ownBlock] at e
     ·rw[x] at e;injection e with e;omega
    have hdl:d<W2.heap.size:=World.rowIs.lt HBD.out.1
    have hvtl:∀g,U5.ownBlock=some g->g<W2.heap.size:=fun g e=>(HBD.out.2.1.lt g e).2
    have hvsl:∀g,vs'.ownBlock=some g->g<W2.heap.size:=fun g e=>(HBD.out.2.2.1.lt g e).2
    refine⟨.inr ⟨rfl,d,U5,vs',hbd,zT,fun e=>by have:=hnew d e;omega,fun g e=>⟨fun e2=>by have:=hnew g e;have:=hvtl g e2;omega,fun e2=>by have:=hnew g e;have:=hvsl g e2;omega⟩⟩,?_⟩
    exact((hbw.trans (b2.mono hzw)).trans (b3.mono (by omega))).grown hg (by omega) (fun g e=>by simp[Value.ownBlock] at e)
   clear hW3 b3 z3 src zT hg zy HBD
   go_upto_region 7 with(at_builtin;refine Qa (by rfl) _ _ (by rfl) (by rfl) (by rfl) (by rfl) hrun ?_)
   go_wp2_with fail
   go_roundg 0
   case measure=>omega
   case rel=>exact⟨1,Nat.le_refl _,rfl,by go_num,HEND.out.1,HEND.out.2⟩
  ·obtain rfl:k=1:=by omega
   go_wp2_with fail
   go_ret
   exact⟨_,rfl,hv,hbr⟩
theorem yj.rerole {B:Nat} {P:Lay} {ρ ρ':Nat->Rl} {w:World} (h:yj B ρ w P) (hr:∀g,ρ g≠.other->ρ' g=ρ g):yj B ρ' w P:=fun r=>by
 cases r with
 | other=>trivial
 | live=>exact⟨(h .live).1,by rw[hr _ (by rw[(h .live).2.1];simp)];exact(h .live).2.1,(h .live).2.2⟩
 | zd=>exact⟨(h .zd).1,fun g e=>by have:=(h .zd).2 g e;rw[hr _ (by rw[this];simp)];exact this⟩
 | zh i=>exact fun hi=>⟨((h (.zh i)) hi).1,fun g e=>by have:=((h (.zh i)) hi).2 g e;rw[hr _ (by rw[this];simp)];exact this⟩
 | order=>exact⟨(h .order).1,fun g e=>by have:=(h .order).2 g e;rw[hr _ (by rw[this];simp)];exact this⟩
 | ze=>exact⟨(h .ze).1,by rw[hr _ (by rw[(h .ze).2.1];simp)];exact(h .ze).2.1,(h .ze).2.2⟩
 | body k=>exact fun hk=>⟨((h (.body k)) hk).1,by have:=((h (.body k)) hk).2.1;rw[hr _ (by rw[this];simp)];exact this,((h (.body k)) hk).2.2⟩
 | zg k=>exact fun hk=>⟨((h (.zg k)) hk).1,fun g e=>by have:=((h (.zg k)) hk).2 g e;rw[hr _ (by rw[this];simp)];exact this⟩
 | zf k=>exact fun hk=>⟨((h (.zf k)) hk).1,fun g e=>by have:=((h (.zf k)) hk).2 g e;rw[hr _ (by rw[this];simp)];exact this⟩
def clF (f:Fr):Cl:=⟨f.m,f.pc,f.zg,f.zf,0,false⟩
def frO (k:Nat) (o:Option Fr):List ki:=match o with
 | none=>[]
 | some f=>[⟨k,f.twin⟩]
def bdO (o:Option Fr):List jg:=match o with
 | none=>[]
 | some f=>[zdk (clF f)]
def LfX (B:Nat) (w:World) (o:Option Fr) (v:Value):Prop:=match o with
 | none=>v=zQ
 | some f=>∃(d:Nat) (vt vs:Value),ur B w d vt vs (clF f)/\yg B 2 w v 1 [zJ d 0,zI f.twin]/\v.ownBlock≠some d/\(∀g,v.ownBlock=some g->vt.ownBlock≠some g/\vs.ownBlock≠some g)
theorem LfX.kept {B:Nat} {w w1:World} {o:Option Fr} {v:Value} (h:LfX B w o v) (hs:w.heap.size<=w1.heap.size) (hr:∀r,B<=r->r<w.heap.size->w1.heap[r]?=w.heap[r]?):LfX B w1 o v:=by
 cases o with
 | none=>exact h
 | some f =>
  obtain⟨d,vt,vs,h1,h2,h3,h4⟩:=h
  exact⟨d,vt,vs,h1.kept hs hr,h2.kept hs (fun g e=>hr g (h2.lt g e).1 (h2.lt g e).2),h3,h4⟩
theorem LfX.mono {B B':Nat} {w:World} {o:Option Fr} {v:Value} (h:LfX B w o v) (hB:B'<=B):LfX B' w o v:=by
 cases o with
 | none=>exact h
 | some f =>
  obtain⟨d,vt,vs,h1,h2,h3,h4⟩:=h
  exact⟨d,vt,vs,h1.mono hB,h2.mono hB,h3,h4⟩
theorem yj.frames1 {B:Nat} {P:Lay} {ρ:Nat->Rl} {w w':World} (h:yj B ρ w P) (hwf:P.L.wf) (hB:B<=w.heap.size) (hb:zO w w') {o:Option Fr} {v:Value} (hx:LfX w.heap.size w' o v) (n:Nat) :
 ∃(ρ1:Nat->Rl) (D:Nat->Nat) (T:Nat->Value × Value),yj B ρ1 w' {P with D:=D,T:=T,L:={P.L with zj:=P.L.zj ++ bdO o}}/\yg B 2 w' v (frO P.L.zj.length o).length (cells2 (yk D (frO P.L.zj.length o)))/\∀g,v.ownBlock=some g->ρ1 g=.zh n:=by
 cases o with
 | none =>
  obtain rfl:=hx
  refine⟨zu ρ w .other,P.D,P.T,?_,yg.nil _ _ _,fun g e=>by cases e⟩
  have:=h.below hb
  show yj B _ w' {P with L:={P.L with zj:=P.L.zj ++ []}}
  rw[List.append_nil]
  exact this
 | some f =>
  obtain⟨d,vt,vs,⟨r,ht,hs,hd,Km,WG⟩,zT,h3,h4⟩:=hx
  have hbx:Bx w' d 186 (xx (vt,vs) (zdk (clF f))):=by
   obtain⟨cc,e1,e2,e3⟩:=r
   refine⟨cc,e1,e2,fun i hi=>?_⟩
   have hi':i<5:=hi
   rw[e3 i hi']
   match i,hi' with
   | 0,_=>rfl
   | 1,_=>rfl
   | 2,_=>rfl
   | 3,_=>rfl
   | 4,_=>rfl
  have h2:=h.addBody hwf hB hb (b:=zdk (clF f)) hbx hd ht hs (fun e=>(Km d e).1 rfl) (fun e=>WG d e rfl) (fun g e=>(Km g e).2)
  have hoth:∀g,v.ownBlock=some g->jh ρ w P.L.zj.length d vt vs g=.other:=fun g e=>by
   have hg:=(zT.lt g e).1
   unfold jh
   rw[if_neg (by omega),if_neg (show ¬g=d from fun e2=>h3 (by rw[<-e2];exact e)),if_neg (h4 g e).1,if_neg (h4 g e).2]
  refine⟨fun g=>if v.ownBlock=some g then .zh n else jh ρ w P.L.zj.length d vt vs g,_,_,h2.rerole (ρ':=fun g=>if v.ownBlock=some g then .zh n else jh ρ w P.L.zj.length d vt vs g) fun g hg=>if_neg fun e=>hg (hoth g e),?_,fun g e=>if_pos e⟩
  have hd2:(jI P d vt vs (zdk (clF f))).D P.L.zj.length=d:=if_pos rfl
  show yg B 2 w' v 1 [zJ ((jI P d vt vs (zdk (clF f))).D P.L.zj.length) 0,zI f.twin]
  rw[hd2]
  exact zT.mono hB
theorem yj.addPageF {B:Nat} {P:Lay} {ρ:Nat->Rl} {w W:World} (h:yj B ρ w P) {v' vf:Value} (base:Int) {fs:List ki}
 (hf:yg B 2 w vf fs.length (cells2 (yk P.D fs))) (hfg:∀g,vf.ownBlock=some g->ρ g=.zh P.L.zd.length)
 (zT:yg B 2 W v' (P.L.zd.length+1) (cells2 (qt P.F P.L.zd) ++ [zI base,vf])) (hg:w.grownBy W P.vp.ownBlock) (hor:v'.ownBlock=P.vp.ownBlock\/v'.ownBlock=some w.heap.size) :
 yj B (zu ρ w .zd) (W.setCell (zH P.bl 1) v') {P with vp:=v',F:=fun k=>if k=P.L.zd.length then vf else P.F k,L:={P.L with zd:=P.L.zd ++ [⟨base,fs⟩]}}:=by
 have c:Ch (fun r=>r=.zd) ρ (zu ρ w .zd) w W:=Ch.grown hg ρ .zd fun g e=>(h .zd).2 g e
 have h1:=Lay.it_keep (P:=P) (h .live) c (by simp)
 have c2:Ch (fun r=>r=.live) (zu ρ w .zd) (zu ρ w .zd) W (W.setCell (zH P.bl 1) v'):=Ch.set W _ _ _ _ h1.2.1
 have c3:Ch (fun r=>r=.live\/r=.zd) ρ (zu ρ w .zd) w (W.setCell (zH P.bl 1) v'):=(c.mono fun _ e=>.inr e).trans (c2.mono fun _ e=>.inl e)
 have hl:(P.L.zd ++ [(⟨base,fs⟩:wh)]).length=P.L.zd.length+1:=by simp
 have zy:∀g,v'.ownBlock=some g->zu ρ w .zd g=.zd:=fun g e=>by
  rcases hor with e2 | e2
  ·rw[e2] at e
   exact(c.role g ((h .zd).1.lt g e).2).trans ((h .zd).2 g e)
  ·rw[e2] at e
   injection e with e
   subst e
   exact qj zD
 have hpp:qt (fun k=>if k=P.L.zd.length then vf else P.F k) (P.L.zd ++ [⟨base,fs⟩])=qt P.F P.L.zd ++ [(zI base,vf)]:=by
  unfold qt
  rw[hl,List.range_succ,List.map_append]
  congr 1
  ·refine List.map_congr_left fun i hi=>?_
   have hi':i<P.L.zd.length:=by simpa using hi
   have hin:i≠P.L.zd.length:=by omega
   simp[List.getElem?_append_left hi',hin]
  ·simp
 intro r
 cases r with
 | other=>trivial
 | live=>exact⟨h1.1.set 1 _,h1.2.1,h1.2.2⟩
 | zd =>
  refine⟨?_,zy⟩
  show yg B 2 _ v' (P.L.zd ++ [(⟨base,fs⟩:wh)]).length _
  rw[hl,hpp,X3]
  exact zT.kept c2.size fun g e=>c2.blk g (zT.lt g e).2 (by rw[zy g e];simp)
 | zh i =>
  intro hi
  by_cases e:i=P.L.zd.length
  ·subst e
   show yg B 2 _ (if P.L.zd.length=P.L.zd.length then vf else P.F P.L.zd.length) (P.L.zd ++ [(⟨base,fs⟩:wh)])[P.L.zd.length].zh.length (cells2 (yk P.D (P.L.zd ++ [(⟨base,fs⟩:wh)])[P.L.zd.length].zh))/\∀g,(if P.L.zd.length=P.L.zd.length then vf else P.F P.L.zd.length).ownBlock=some g->_
   rw[if_pos rfl,List.getElem_append_right zD]
   simp only[Nat.sub_self,List.getElem_cons_zero]
   exact⟨hf.kept c3.size fun g e=>c3.blk g (hf.lt g e).2 (by rw[hfg g e];simp),fun g e=>(c3.role g (hf.lt g e).2).trans (hfg g e)⟩
  ·have K3:i<P.L.zd.length:=by
    have:i<(P.L.zd ++ [(⟨base,fs⟩:wh)]).length:=hi
    omega
   have:=(Lay.it_keep (P:=P) (h (.zh i)) c3 (by simp)) K3
   show yg B 2 _ (if i=P.L.zd.length then vf else P.F i) (P.L.zd ++ [(⟨base,fs⟩:wh)])[i].zh.length (cells2 (yk P.D (P.L.zd ++ [(⟨base,fs⟩:wh)])[i].zh))/\∀g,(if i=P.L.zd.length then vf else P.F i).ownBlock=some g->_
   rw[if_neg e,List.getElem_append_left K3]
   exact this
 | order=>exact Lay.it_keep (P:=P) (r:=.order) (h .order) c3 (by simp)
 | ze=>exact Lay.it_keep (P:=P) (r:=.ze) (h .ze) c3 (by simp)
 | body k=>exact Lay.it_keep (P:=P) (r:=(.body k)) (h (.body k)) c3 (by simp)
 | zg k=>exact Lay.it_keep (P:=P) (r:=(.zg k)) (h (.zg k)) c3 (by simp)
 | zf k=>exact Lay.it_keep (P:=P) (r:=(.zf k)) (h (.zf k)) c3 (by simp)
def Vo (p:Pg):Option Fr:=p.zh.head?
def VQ (m:Mc):Nat->yF
 | 0=>⟨m.cells,[],m.order,m.now,[],[]⟩
 | k+1=>{VQ m k with zd:=(VQ m k).zd ++ [⟨(m.zd.getD k ⟨-1,[]⟩).base,frO (VQ m k).zj.length (Vo (m.zd.getD k ⟨-1,[]⟩))⟩],zj:=(VQ m k).zj ++ bdO (Vo (m.zd.getD k ⟨-1,[]⟩))}
theorem WJ (m:Mc):∀k,(VQ m k).cells=m.cells/\(VQ m k).order=m.order/\(VQ m k).now=m.now/\(VQ m k).ze=[]/\(VQ m k).zd.length=k
 | 0=>⟨rfl,rfl,rfl,rfl,rfl⟩
 | k+1=>by
  obtain⟨h1,h2,h3,h4,h5⟩:=WJ m k
  exact⟨h1,h2,h3,h4,by show((VQ m k).zd ++ [_]).length=_;simp[h5]⟩
theorem yF.wf.addF {L:yF} (h:L.wf) (base:Int) (o:Option Fr):yF.wf {L with zd:=L.zd ++ [⟨base,frO L.zj.length o⟩],zj:=L.zj ++ bdO o}:=by
 have hl:(L.zd ++ [(⟨base,frO L.zj.length o⟩:wh)]).length=L.zd.length+1:=by simp
 refine⟨fun i hi k hk=>?_,fun j hj=>?_⟩
 ·have hi':i<(L.zd ++ [(⟨base,frO L.zj.length o⟩:wh)]).length:=hi
  have hk':k<(L.zd ++ [(⟨base,frO L.zj.length o⟩:wh)])[i].zh.length:=hk
  show(L.zd ++ [(⟨base,frO L.zj.length o⟩:wh)])[i].zh[k].body<(L.zj ++ bdO o).length
  by_cases e:i<L.zd.length
  ·have e2:(L.zd ++ [(⟨base,frO L.zj.length o⟩:wh)])[i]=L.zd[i]:=List.getElem_append_left e
   simp only[e2] at hk' ⊢
   rw[List.length_append]
   exact Nat.lt_of_lt_of_le (h.fr i e k hk') (Nat.le_add_right _ _)
  ·obtain rfl:i=L.zd.length:=by omega
   have e2:(L.zd ++ [(⟨base,frO L.zj.length o⟩:wh)])[L.zd.length]=⟨base,frO L.zj.length o⟩:=by
    rw[List.getElem_append_right zD]
    simp
   simp only[e2] at hk' ⊢
   cases o with
   | none=>simp[frO] at hk'
   | some f =>
    have:k=0:=by simp[frO] at hk';exact hk'
    subst this
    simp[frO,bdO]
 ·have:=h.tw j hj
  show _<(L.zj ++ bdO o).length
  rw[List.length_append]
  exact Nat.lt_of_lt_of_le this (Nat.le_add_right _ _)
theorem zd1 (m:Mc):∀k,(VQ m k).wf
 | 0=>⟨fun _ hi=>absurd hi yB,fun _ hj=>absurd hj yB⟩
 | k+1=>(zd1 m k).addF _ _
theorem zcN {B:Nat} {w:World} {o:Option Fr} {v:Value} (h:LfX B w o v):∃a n c,v=.slice a n c:=by
 cases o with
 | none=>exact⟨_,_,_,h⟩
 | some f =>
  obtain⟨d,vt,vs,_,h2,_⟩:=h
  obtain⟨a,c,e,_⟩:=h2.slice
  exact⟨_,_,_,e⟩
theorem zeO {B:Nat} {w:World} {o:Option Fr} {v:Value} (h:LfX B w o v):v.oneCell'=true:=by
 cases o with
 | none=>obtain rfl:=h;rfl
 | some f =>
  obtain⟨d,vt,vs,_,h2,_⟩:=h
  obtain⟨a,c,e,_⟩:=h2.slice
  rw[e]
  rfl
theorem JD (vp vo vt vs:Value) (m:Mc) (w:World) (h:ql w vp vo vt vs m) (hol:m.order.length<=1000) (hpl:m.zd.length<=1000) (hft:m.ze.length=0) (hnf:∀i,(hi:i<m.zd.length)->m.zd[i].zh.length<=1) (hsm:∀i,(hi:i<m.zd.length)->∀k,(hk:k<m.zd[i].zh.length)->m.zd[i].zh[k].zg.length<=1000/\m.zd[i].zh[k].zf.length<=1000) :
 Calls Tryz.prog 45 #[.agg (zE vp vo vt vs m).toArray] w fun e w'=>∃(P:Lay) (ρ:Nat->Rl),yj (w.heap.size+1) ρ w' P/\e=.returned (zJ P.bl 0)/\P.L=VQ m m.zd.length/\zO w w':=by
 have HNF:Hid (∀i,(hi:i<m.zd.length)->m.zd[i].zh.length<=1):=hnf
 have HSM:Hid (∀i,(hi:i<m.zd.length)->∀k,(hk:k<m.zd[i].zh.length)->m.zd[i].zh[k].zg.length<=1000/\m.zd[i].zh[k].zf.length<=1000):=hsm
 have HPL:Hid (m.zd.length<=1000):=hpl
 have HFT:Hid (m.ze.length=0):=hft
 have HP:Hid (wZ w vp m.zd):=h.p
 clear hnf hsm hpl hft
 have HM:Hid (ql w vp vo vt vs m):=h
 obtain⟨ap,cp,qI,hlp,hcp⟩:=id h.p
 obtain⟨ao,co,j5,hlo,hco⟩:=id h.o
 obtain⟨at',ct,jz,hlt',hct⟩:=id h.t
 obtain⟨as',cs,km⟩:=h.s.shape
 subst qI j5 jz km
 unfold zE
 go_enter Tryz.func45,Tryz.ntmps45
 go_upto_region 1 with fail
 refine ym (fun W=>zO w W/\Bx W w.heap.size 34 [.int .i64 m.cells,.slice ap m.zd.length cp,.slice ao m.order.length co,.int .i64 m.now,.slice at' m.ze.length ct,.int .i64 m.born,.slice as' m.zm.length cs,.int .i64 m.code]) ⟨zR _ _,Bx.new w _ _⟩ ?_
 rintro W ⟨hb,hm⟩
 have zb:=hb.size
 have m0:=hm.cell 0 rfl
 have m2:=hm.cell 2 rfl
 have m3:=hm.cell 3 rfl
 have hlW:=hm.lt
 have HCL:Hid (∀X,zO W X->Calls Tryz.prog 84 #[.slice ao m.order.length co] X fun e w'=>∃v',e=.returned v'/\yf X.heap.size w' v' m.order/\zO X w'):=fun X hX=>K9 _ _ X ((HM.out.o.below hb).below hX) hol
 have hmm:=@run_makeMap Tryz.prog
 have HS:∀w':World,zO W w'->((w'.cell? (zH w.heap.size 0)=some (zI m.cells)/\w'.cell? (zH w.heap.size 2)=some (.slice ao m.order.length co)/\w'.cell? (zH w.heap.size 3)=some (zI m.now))/\zO W w'):=fun w' hb=>⟨⟨zc hb m0,zc hb m2,zc hb m3⟩,hb⟩
 have HMB:Hid (Bx W w.heap.size 34 [zI m.cells,.slice ap m.zd.length cp,.slice ao m.order.length co,zI m.now,.slice at' m.ze.length ct,zI m.born,.slice as' m.zm.length cs,zI m.code]):=hm
 clear m0 m2 m3 hm
 go_cut [3] (fun v3 wx=>∃(bl bm:Nat) (vo:Value) (ρ:Nat->Rl),v3=zJ bl 0/\yj (w.heap.size+1) ρ wx ⟨bl,zQ,vo,bm,fun _=>undef,fun _=>0,fun _=>(undef,undef),⟨m.cells,[],m.order,m.now,[],[]⟩⟩/\zO w wx/\Bx wx w.heap.size 34 [zI m.cells,.slice ap m.zd.length cp,.slice ao m.order.length co,zI m.now,.slice at' m.ze.length ct,zI m.born,.slice as' m.zm.length cs,zI m.code])
 case first =>
  go_region_held3 (fun w'=>(w'.cell? (zH w.heap.size 0)=some (zI m.cells)/\w'.cell? (zH w.heap.size 2)=some (.slice ao m.order.length co)/\w'.cell? (zH w.heap.size 3)=some (zI m.now))/\zO W w')
   ((refine HS _ ?_;first
    | (with_reducible exact(‹(_/\_/\_)/\zO W _›).2)
    | (with_reducible exact zS.drew)
    | (with_reducible exact(zR _ _).drew)
    | (with_reducible exact QN)
    | (with_reducible exact QN.alloc QN.size _)
    | (with_reducible exact(QN.alloc QN.size _).alloc (QN.alloc QN.size _).size _)))
   ((go_at_call 84;refine(HCL.out _ (‹(_/\_/\_)/\zO W _›).2).mono ?_;rintro e wT ⟨vT,rfl,Vh,hbT⟩;have QN:=Below.trans (‹(_/\_/\_)/\zO W _›).2 (hbT.mono ((‹(_/\_/\_)/\zO W _›).2).size);obtain⟨aT,kT,hvT,_⟩:=Vh.slice;subst hvT))
  ·have hszT:W.heap.size<=wT.heap.size:=QN.size
   have yz:=Vh.lt
   have hzd:W.drew.heap.size=W.heap.size:=rfl
   have ht:=xl.made wT
   obtain⟨W3,hW3⟩:∃W3,wT.alloc (.map #[] 0)=W3:=⟨_,rfl⟩
   have hs3:W3.heap.size=wT.heap.size+1:=by rw[<-hW3];simp
   have xn:zO wT W3:=by rw[<-hW3];exact zR _ _
   have HF:=yj.start (B:=w.heap.size+1) (w:=W3.alloc (.cells #[.int .i64 m.cells,.slice none 0 0,.slice aT m.order.length kT,.int .i64 m.now,.map (some wT.heap.size)] 117)) (bl:=W3.heap.size) (bm:=wT.heap.size) (vo:=.slice aT m.order.length kT) (order:=m.order) (Bx.new W3 117 [.int .i64 m.cells,.slice none 0 0,.slice aT m.order.length kT,.int .i64 m.now,.map (some wT.heap.size)]) (by omega) ((by rw[<-hW3];exact ht:xl W3 wT.heap.size []).below (zR _ _)) (by omega) (by omega) (((Vh.below xn).below (zR _ _)).mono (by omega)) (fun e=>by have:=(yz _ e).2;omega) (fun e=>by have:=(yz _ e).2;omega)
   have HB:zO w (W3.alloc (.cells #[.int .i64 m.cells,.slice none 0 0,.slice aT m.order.length kT,.int .i64 m.now,.map (some wT.heap.size)] 117)):=((hb.trans (QN.mono zb)).trans (xn.mono (by omega))).alloc (by omega) _
   have HX:=((HMB.out.below QN).below xn).alloc (.cells #[.int .i64 m.cells,.slice none 0 0,.slice aT m.order.length kT,.int .i64 m.now,.map (some wT.heap.size)] 117)
   rw[hs3] at HF
   subst hW3
   go_wp2_with fail
   go_meet
   exact⟨_,_,_,_,rfl,HF,HB,HX⟩
  ·have yz:=Vh.lt
   have hzm:(W.alloc (.map #[] 0)).drew.heap.size=W.heap.size+1:=by
    show(W.alloc (.map #[] 0)).heap.size=_
    simp
   have hszT:=hbT.size
   have ht:xl wT W.heap.size []:=((xl.made W).below zS.drew).below hbT
   have HF:=yj.start (B:=w.heap.size+1) (w:=wT.alloc (.cells #[.int .i64 m.cells,.slice none 0 0,.slice aT m.order.length kT,.int .i64 m.now,.map (some W.heap.size)] 117)) (bl:=wT.heap.size) (bm:=W.heap.size) (vo:=.slice aT m.order.length kT) (order:=m.order) (Bx.new wT 117 [.int .i64 m.cells,.slice none 0 0,.slice aT m.order.length kT,.int .i64 m.now,.map (some W.heap.size)]) (by omega) (ht.below (zR _ _)) (by omega) (by omega) ((Vh.below (zR _ _)).mono (by omega)) (fun e=>by have:=(yz _ e).2;omega) (fun e=>by have:=(yz _ e).1;omega)
   have HB:zO w (wT.alloc (.cells #[.int .i64 m.cells,.slice none 0 0,.slice aT m.order.length kT,.int .i64 m.now,.map (some W.heap.size)] 117)):=(hb.trans (QN.mono zb)).alloc (by have:=QN.size;omega) _
   have HX:=(HMB.out.below QN).alloc (.cells #[.int .i64 m.cells,.slice none 0 0,.slice aT m.order.length kT,.int .i64 m.now,.map (some W.heap.size)] 117)
   go_wp2_with fail
   go_meet
   exact⟨_,_,_,_,rfl,HF,HB,HX⟩
 case rest =>
  obtain⟨bl,bm,vo,ρ0,rfl,L0,b0,x0⟩:=hcut
  have x1:=x0.cell 1 rfl
  obtain⟨i0,hii,jT,xF,kf⟩:=info_parts Tryz.infoLPage
  have HB:Hid (w.heap.size+1<=bl):=(L0 .live).2.2
  have HBM:Hid (w.heap.size+1<=bm):=(L0 .ze).2.2
  clear HCL HMB HS hmm hb hlW zb
  go_wp2_with fail
  clear x1
  go_loopg [5,21] m.zd.length (fun d _ q wr=>∃(k:Nat) (ρ:Nat->Rl) (vp:Value) (F:Nat->Value) (D:Nat->Nat) (T:Nat->Value × Value),k<=m.zd.length/\d=m.zd.length - k/\q=zI (k:Int)/\yj (w.heap.size+1) ρ wr ⟨bl,vp,vo,bm,F,D,T,VQ m k⟩/\zO w wr/\Bx wr w.heap.size 34 [zI m.cells,.slice ap m.zd.length cp,.slice ao m.order.length co,zI m.now,.slice at' m.ze.length ct,zI m.born,.slice as' m.zm.length cs,zI m.code])
  case atStart=>exact⟨0,ρ0,_,_,_,_,Nat.zero_le _,rfl,rfl,L0,b0,x0⟩
  case round =>
   obtain⟨k,ρ,vp,F,D,T,hk,rfl,rfl,hL,hb,hx⟩:=hrel
   clear L0 b0 x0
   have zr:=hb.size
   have hwr:=hx.lt
   obtain⟨hs1,hs2,hs3,hs4,hs5⟩:=WJ m k
   obtain⟨L,hLe⟩:∃L,VQ m k=L:=⟨_,rfl⟩
   by_cases yz:k<m.zd.length
   ·have hwf:L.wf:=by rw[<-hLe];exact zd1 m k
    have hLs:VQ m (k+1)={L with zd:=L.zd ++ [⟨(m.zd.getD k ⟨-1,[]⟩).base,frO L.zj.length (Vo (m.zd.getD k ⟨-1,[]⟩))⟩],zj:=L.zj ++ bdO (Vo (m.zd.getD k ⟨-1,[]⟩))}:=by rw[<-hLe];rfl
    have hgd:m.zd.getD k ⟨-1,[]⟩=m.zd[k]:=by simp[yz]
    rw[hgd] at hLs
    rw[hLe] at hL hs1 hs2 hs3 hs4 hs5
    obtain⟨ps,hps⟩:∃ps,L.zd=ps:=⟨_,rfl⟩
    have hpl:ps.length=k:=by rw[<-hps];exact hs5
    have hsl:∃av cv,vp=.slice av ps.length cv:=by
     obtain⟨av,cv,e,_⟩:=(hL .zd).1.slice
     exact⟨av,cv,by rw[<-hps];exact e⟩
    obtain⟨av,cv,e⟩:=hsl
    subst e
    have uW:(k:Int)<(m.zd.length:Int):=by omega
    obtain⟨gp,op,vf,hap,xE⟩:=hcp k yz
    subst hap
    have c0:=zc hb xE.c0
    have c1:=zc hb xE.c1
    obtain⟨aF,cF,Q9,_,hfc⟩:=xE.f
    subst Q9
    have hnf:=HNF.out k yz
    have hsm:=HSM.out k yz
    obtain⟨Q,hQ⟩:∃Q,m.zd[k]=Q:=⟨_,rfl⟩
    have HC:Hid (∀X,zO w X->Calls Tryz.prog 85 #[.slice aF Q.zh.length cF] X fun e w'=>∃v',e=.returned v'/\LfX X.heap.size w' (Vo Q) v'/\zO X w'):=fun X hX=>by
     rw[hQ] at hnf hsm hfc
     obtain⟨q,hq⟩:∃q,Q.zh=q:=⟨_,rfl⟩
     have hone:Vo Q=q.head?:=by unfold Vo;rw[hq]
     rw[hone]
     simp only[hq] at hnf hsm hfc ⊢
     cases q with
     | nil=>exact(Xe aF cF X).mono fun e w' ⟨he,hb⟩=>⟨_,he,rfl,hb⟩
     | cons f q =>
      have hq0:q=[]:=by
       cases q with
       | nil=>rfl
       | cons x q=>simp at hnf
      subst hq0
      obtain⟨b,o,v1,v2,ha,hf⟩:=hfc 0 (by simp)
      subst ha
      have hl:=hsm 0 (by simp)
      have y0:=zc hX hf.c0
      have y1:=zc hX hf.c1
      have y2:=zc hX hf.c2
      have y3:=zc hX hf.c3
      have y4:=zc hX hf.c4
      have y5:=hf.t.below hX
      have y6:=hf.s.below hX
      rw[Nat.zero_mul,Nat.add_zero] at y0 y1 y2 y3 y4
      refine(XG (g:=b) (o:=o) (cap:=cF) (vt:=v1) (vs:=v2) (c:=clF f) (tw:=f.twin) (w:=X) rfl rfl y0 y1 y2 y3 y4 y5 y6 hl).mono ?_
      rintro e w' ⟨v',he,hlf,hb⟩
      refine⟨v',he,?_,hb⟩
      rcases hlf with⟨h0,_⟩ | ⟨_,d,U5,vs',h1,h2,h3,h4⟩
      ·cases h0
      ·exact⟨d,U5,vs',h1,h2,h3,h4⟩
    have HLS:Hid (VQ m (k+1)={L with zd:=L.zd ++ [⟨Q.base,frO L.zj.length (Vo Q)⟩],zj:=L.zj ++ bdO (Vo Q)}):=by
     show _=_
     rw[hLs,hQ]
    rw[hQ] at c0 c1
    clear xE hfc hnf hsm hLs hgd
    obtain⟨nf,hnf⟩:∃nf,Q.zh.length=nf:=⟨_,rfl⟩
    rw[hnf] at HC c1
    obtain⟨fo,hfo⟩:∃fo,Vo Q=fo:=⟨_,rfl⟩
    obtain⟨qb,hqb⟩:∃qb,Q.base=qb:=⟨_,rfl⟩
    rw[hfo] at HC
    rw[hfo,hqb] at HLS
    rw[hqb] at c0
    clear hnf hfo hqb hLe
    go_upto_region 5 with fail
    refine ym (fun W'=>zO wr W'/\Bx W' wr.heap.size 78 [.int .i64 qb,.slice aF nf cF]) ⟨zR _ _,Bx.new _ _ _⟩ ?_
    rintro W2 ⟨t2,y2⟩
    have yL:=hb.trans (t2.mono zr)
    have z2:=yL.size
    have zt:=t2.size
    have hL2:=hL.below t2
    have wk:=hx.below t2
    have hbx2:Bx W2 bl 117 [zI L.cells,.slice av ps.length cv,vo,zI L.now,.map (some bm)]:=hL2.box
    have m1:=hbx2.cell 1 rfl
    have n0:=y2.cell 0 rfl
    have n1:=y2.cell 1 rfl
    have hbl:=HB.out
    have hlen:=HPL.out
    have hy:=y2.lt
    have hblW:=hbx2.lt
    have HCW:Hid (∀X,zO W2 X->Calls Tryz.prog 85 #[.slice aF nf cF] X fun e w'=>∃v',e=.returned v'/\LfX X.heap.size w' fo v'/\zO X w'):=fun X hX=>HC.out X (yL.trans (hX.mono z2))
    clear c0 c1 hQ HC
    refine U6 [[],[],[1],[1,2],[1,2,3],[],[5],[],[7],[7,8],[5,6,7,8,9],[5,6,7,8,9,10],[1,2,3,4,5,6,7,8,9,10,11],[0,1,2,3,4,5,6,7,8,9,10,11,12],[0,1,2,3,4,5,6,7,8,9,10,11,12,13],[0,1,2,3,4,5,6,7,8,9,10,11,12,13,14]] [[0],[1],[2],[3],[4],[5],[6],[7],[8],[9],[9,10],[9,11],[],[],[],[]] [[],[],[],[],[],[],[],[],[],[],[],[],[],[],[],[]] [jy (zJ bl 0),jy (zJ bl 0),jy (zJ bl 0),jy (zJ bl 1),jy (.slice av ps.length cv),jy (zJ wr.heap.size 0),jy (zI qb),jy (zJ wr.heap.size 1),jy (.slice aF nf cF),Ws 9 (fun(x:Value) l=>l=[x]) (fun x w1=>LfX W2.heap.size w1 fo x),X7 (fun l=>∃(a:Option Addr) (n c:Nat),l=[.slice a n c,.agg #[zI qb,.slice a n c]]),Ws 11 (fun(x:Value × Nat) l=>l=[x.1,zK x.2 0 1 1]) (fun x w1=>∀j u,([zI qb,x.1]:List Value)[j]?=some u->w1.cell? (zH x.2 j)=some u),X7 fun _=>True,X7 fun _=>True,X7 fun _=>True,X7 fun _=>True] 12 3 0 (zJ bl 0) rfl (by kernel_rfl) (by kernel_rfl) (by kernel_rfl) (by kernel_rfl) (by decide) (by kernel_rfl) (by kernel_rfl) (by kernel_rfl) (by kernel_rfl) (fun _ _ _ h=>h) rfl (.inl ⟨rfl,fun w=>by unfold execOp;go_simp⟩) rfl ?_ ?_
    ·refine zl (zl (zl (zl (zl (zl (zl (zl (zl (zl (zl (zl (jE) ?_) ?_) ?_) ?_) ?_) ?_) ?_) ?_) ?_) ?_) ?_) ?_
     ·intro a w val own hB hf zy hk
      have s3:=hf.at (d:=3) (v:=zJ bl 0) (by kernel_rfl) rfl
      exact zC (v:=zJ bl 0) hB
     ·intro a w val own hB hf zy hk
      have s3:=hf.at (d:=3) (v:=zJ bl 0) (by kernel_rfl) rfl
      exact zC (v:=zJ bl 0) hB
     ·intro a w val own hB hf zy hk
      have s26:=zL hk 1 26
      exact zC (v:=zJ bl 0) hB
     ·intro a w val own hB hf zy hk
      have s27:=zL hk 2 27
      exact zC (v:=zJ bl 1) hB
     ·intro a w val own hB hf zy hk
      have s28:=zL hk 3 28
      have cm1:=zc hB m1
      exact zC (v:=.slice av ps.length cv) hB
     ·intro a w val own hB hf zy hk
      have s5:=hf.at (d:=5) (v:=zJ wr.heap.size 0) (by kernel_rfl) rfl
      exact zC (v:=zJ wr.heap.size 0) hB
     ·intro a w val own hB hf zy hk
      have s30:=zL hk 5 30
      have cn0:=zc hB n0
      exact zC (v:=zI qb) hB
     ·intro a w val own hB hf zy hk
      have s5:=hf.at (d:=5) (v:=zJ wr.heap.size 0) (by kernel_rfl) rfl
      exact zC (v:=zJ wr.heap.size 1) hB
     ·intro a w val own hB hf zy hk
      have s32:=zL hk 7 32
      have cn1:=zc hB n1
      exact zC (v:=.slice aF nf cF) hB
     ·intro a w val own hB hf zy hk
      have s33:=zL hk 8 33
      have K6:=hB.size
      refine uG hB rfl rfl (by unfold execOp;go_simp) ((HCW.out w hB).mono ?_)
      rintro e w' ⟨v',rfl,r1,hb'⟩
      refine⟨_,rfl,hb',v',rfl,Made.new fun w1 hs hbw hr=>?_⟩
      exact(r1.kept hs hr).mono K6
     ·intro a w val own hB hf zy hk
      have s31:=zL hk 6 31
      obtain⟨k9,x9,e9,m9⟩:=hk 9 (show 9∈[5,6,7,8,9] by decide)
      have v9:=qy e9
      have s34:=k9 34 rfl
      rw[v9] at s34
      obtain⟨a9,n9,c9,e9'⟩:=zcN (m9.here hB)
      rw[e9'] at s34 v9
      clear k9 e9 m9 e9'
      exact zC (v:=.agg #[zI qb,.slice a9 n9 c9]) hB rfl rfl (by unfold execOp;go_simp) ⟨a9,n9,c9,by show [val 9,_]=_;rw[v9];rfl⟩
     ·intro a w val own hB hf zy hk
      obtain⟨k10,a9,n9,c9,e10⟩:=hk 10 (show 10∈[5,6,7,8,9,10] by decide)
      have e10':[val 9,val 10]=_:=e10
      injection e10' with e1 e2
      have v10:=qy e2
      have s35:=k10 35 rfl
      rw[v10] at s35
      clear k10 e10 e2 v10
      refine ZW (v:=.slice (some ⟨w.heap.size,0,none⟩) 1 1) (w':=w.alloc (.cells #[.int .i64 qb,.slice a9 n9 c9] 139)) hB rfl rfl (by unfold execOp;go_simp) (zR _ _) ⟨(.slice a9 n9 c9,w.heap.size),by show [val 9,_]=_;rw[e1];rfl,Made.new fun w1 _ _ hr=>?_⟩
      exact fun j u hu=>((Bx.new w 139 [.int .i64 qb,.slice a9 n9 c9]).kept (hr _ zD (by simp))).cell j hu
    intro aE vB val own hB hf zy hk
    obtain⟨kb,H,eb,mb⟩:=hk 11 (by decide)
    have eb':[val 9,val 11]=_:=eb
    injection eb' with eb1 eb2
    have vb:=qy eb2
    have s36:=kb 36 rfl
    rw[vb] at s36
    have mh:=mb.here hB
    obtain⟨ka,xa,ea,ma⟩:=hk 9 (by decide)
    have va:=qy ea
    have hX:=ma.here hB
    have hax:H.1=xa:=by rw[<-eb1,va]
    clear ka ea ma eb2 eb1 va
    have s25:=ZY (hk 0 (by decide)) 25
    have s29:=ZY (hk 4 (by decide)) 29
    obtain⟨H1,H2⟩:=H
    have hax':H1=xa:=hax
    subst hax'
    clear hax
    have hB0:zO W2 vB:=hB
    have hz0':=hB0.size
    obtain⟨ρa,Da,Ta,L10,hrF,hgF⟩:=yj.frames1 (B:=w.heap.size+1) hL2 hwf (by omega) hB0 hX k
    have vh:yg (w.heap.size+1) 2 vB (.slice av ps.length cv) ps.length (cells2 (qt F ps)):=by
     have:=(L10 .zd).1
     rw[<-hps] at this ⊢
     exact this
    obtain⟨v',W3,hrun,yT,j9,hor3⟩:=vu (P:=Tryz.prog) (t:=114) (ty:=114) Tryz.underlying114 hii jT xF rfl (by omega) vh [zI qb,H1] rfl (by intro u hu;simp at hu;rcases hu with rfl | rfl <;> first | rfl | exact zeO hX) H2 1 mh (by omega) (by omega)
    obtain⟨a9,c9,hv9,_⟩:=yT.slice
    subst hv9
    have qF:(Value.slice av ps.length cv).ownBlock≠some bl:=fun e=>Rl.noConfusion (((L10 .zd).2 bl e).symm.trans (L10 .live).2.1)
    have bx3:Bx W3 bl 117 [zI L.cells,.slice av ps.length cv,vo,zI L.now,.map (some bm)]:=Bx.grown (show Bx vB bl 117 [zI L.cells,.slice av ps.length cv,vo,zI L.now,.map (some bm)] from L10.box) j9 qF
    have g1:=bx3.cell 1 rfl
    have gf1:=bx3.frozen 1
    have xn:zO w W3:=(yL.trans (hB0.mono z2)).grown j9 (by omega) fun q e=>by have:=(vh.lt q e).1;omega
    have YR:=(wk.below hB0).grown j9 (fun e=>by have:=(vh.lt _ e).1;omega)
    have hL9:=L10.addPageF (v':=.slice a9 (ps.length+1) c9) (W:=W3) qb hrF (by rw[show(Lay.L _).zd.length=k from hs5];exact hgF) (by rw[<-hps] at yT ⊢;exact yT) j9 hor3
    have HE:Hid (∃(ρ9:Nat->Rl) (F9:Nat->Value) (D9:Nat->Nat) (T9:Nat->Value × Value),yj (w.heap.size+1) ρ9 (W3.setCell (zH bl 1) (.slice a9 (ps.length+1) c9)) ⟨bl,.slice a9 (ps.length+1) c9,vo,bm,F9,D9,T9,VQ m (k+1)⟩/\zO w (W3.setCell (zH bl 1) (.slice a9 (ps.length+1) c9))/\Bx (W3.setCell (zH bl 1) (.slice a9 (ps.length+1) c9)) w.heap.size 34 [zI m.cells,zK gp op m.zd.length cp,.slice ao m.order.length co,zI m.now,.slice at' m.ze.length ct,zI m.born,.slice as' m.zm.length cs,zI m.code]):=⟨_,_,_,_,by rw[HLS.out];exact hL9,xn.setCell (p:=zH bl 1) (by show w.heap.size<=bl;omega) _,YR.other (by omega) _⟩
    clear hL9 hrF hgF hX
    clear vh yT j9 hor3 qF bx3 xn YR L10 hB0
    clear kb eb vb mb mh
    have hu:=ux hf [25,26,27,28,29,30,31,32,33,34,35,36] (by kernel_rfl)
    dsimp only at hu
    simp only[List.foldl_cons,List.foldl_nil,List.setIfInBounds_toArray,List.set_cons_succ,List.set_cons_zero] at hu
    rw[s25,s29,s36] at hu
    generalize aE.tmps[26]?.getD undef=u26 at hu
    generalize aE.tmps[27]?.getD undef=u27 at hu
    generalize aE.tmps[28]?.getD undef=u28 at hu
    generalize aE.tmps[30]?.getD undef=u30 at hu
    generalize aE.tmps[31]?.getD undef=u31 at hu
    generalize aE.tmps[32]?.getD undef=u32 at hu
    generalize aE.tmps[33]?.getD undef=u33 at hu
    generalize aE.tmps[34]?.getD undef=u34 at hu
    generalize aE.tmps[35]?.getD undef=u35 at hu
    obtain rfl:=ZK hu (show aE.defers=[] from hf.defers)
    clear hu hk zy hf s25 s29 s36
    refine js (v:=.slice a9 (ps.length+1) c9) (w':=W3) rfl rfl (vD rfl (by go_simp) (by go_simp) hrun) ?_
    simp only[Act.put]
    refine js (v:=zJ bl 0) (w':=W3) rfl rfl (by unfold execOp;go_simp) ?_
    simp only[Act.put]
    refine js (v:=zJ bl 1) (w':=W3) rfl rfl (by unfold execOp;go_simp) ?_
    simp only[Act.put]
    refine vM (w':=(W3.setCell (zH bl 1) (.slice a9 (ps.length+1) c9))) rfl rfl (by unfold execOp;go_simp) ?_
    simp only[Act.put]
    clear hrun hB g1 gf1
    refine wD (fun W9=>∃(ρ9:Nat->Rl) (F9:Nat->Value) (D9:Nat->Nat) (T9:Nat->Value × Value),yj (w.heap.size+1) ρ9 W9 ⟨bl,.slice a9 (ps.length+1) c9,vo,bm,F9,D9,T9,VQ m (k+1)⟩/\zO w W9/\Bx W9 w.heap.size 34 [zI m.cells,zK gp op m.zd.length cp,.slice ao m.order.length co,zI m.now,.slice at' m.ze.length ct,zI m.born,.slice as' m.zm.length cs,zI m.code]) HE.out ?_
    rintro W9 ⟨ρ9,F9,D9,T9,k1,k2,k3⟩
    clear HE
    go_wp2
    go_roundg (m.zd.length - (k+1))
    case measure=>omega
    case rel=>exact⟨k+1,ρ9,_,F9,D9,T9,by omega,rfl,by go_num,k1,k2,k3⟩
   ·obtain rfl:k=m.zd.length:=by omega
    have x4:=hx.cell 4 rfl
    have HLA:Hid (yj (w.heap.size+1) ρ wr ⟨bl,vp,vo,bm,F,D,T,VQ m m.zd.length⟩):=hL
    clear hL hs1 hs2 hs3 hs4 hs5 hLe
    have ht0:=HFT.out
    rw[ht0] at x4 hx
    go_wp2_with fail
    go_loopg [6,7,44] 0 (fun d _ _ q wt=>d=0/\q=zI 0/\wt=wr)
    case atStart=>exact⟨rfl,rfl,rfl⟩
    case round =>
     obtain⟨rfl,rfl,rfl⟩:=hrel
     go_wp2_with fail
     go_ret
     exact⟨_,_,HLA.out,rfl,rfl,hb⟩
theorem jB.onPage {L:yF} {h:Hp} (s:jB 0 0 L h) (j:Nat) (t:kN) (ht:L.ze[j]?=some t):t.page=-1\/∃q:Nat,t.page=(q:Int)/\q<L.zd.length:=by
 rcases(s.tb j t ht).2 with e | ⟨i,k,f,h1,_,_,_,h5,_⟩
 ·exact .inl e
 ·exact .inr ⟨i,h5,(yF.fr_some h1).1⟩
def zco (b:jg):jg:={b with zf:=[],zv:=true}
theorem yj.died {B:Nat} {ρ:Nat->Rl} {w:World} {P:Lay} (h:yj B ρ w P) {k:Nat} (hk:k<P.L.zj.length) :
 (∃T',Goes B ρ w ((w.setCell (zH (P.D k) 3) (zQ)).setCell (zH (P.D k) 4) (.bool true)) {P with T:=T',L:={P.L with zj:=P.L.zj.set k (zco P.L.zj[k])}}) /\
 ∃x3 x4,w.cell? (zH (P.D k) 3)=some x3/\w.cell? (zH (P.D k) 4)=some x4/\w.frozen? (zH (P.D k) 3)=false/\w.frozen? (zH (P.D k) 4)=false:=by
 obtain⟨hb,hr,hBD⟩:=(h (.body k)) hk
 obtain⟨ht,hgt⟩:=(h (.zg k)) hk
 have hb':Bx w (P.D k) 186 [zI P.L.zj[k].m,zI P.L.zj[k].pc,(P.T k).1,(P.T k).2,.bool P.L.zj[k].zv]:=hb
 have hx:Bx ((w.setCell (zH (P.D k) 3) (zQ)).setCell (zH (P.D k) 4) (.bool true)) (P.D k) 186 (xx ((P.T k).1,zQ) (zco P.L.zj[k])):=(hb'.set 3 (zQ)).set 4 (.bool true)
 have c:Ch (fun r=>r=.body k\/r=.zg k\/r=.zf k) ρ ρ w ((w.setCell (zH (P.D k) 3) (zQ)).setCell (zH (P.D k) 4) (.bool true)):=(Ch.set w ρ _ _ _ (.inl hr)).trans (Ch.set _ ρ _ _ _ (.inl hr))
 have hkp:zk B ((w.setCell (zH (P.D k) 3) (zQ)).setCell (zH (P.D k) 4) (.bool true)) (P.T k).1 (zco P.L.zj[k]).zg:=ht.kept c.size fun g e=>by
  have qF:g≠P.D k:=fun e2=>by
   have:=hgt g e
   rw[e2,hr] at this
   cases this
  rw[Below.heap_setCell _ _ _ _ qF,Below.heap_setCell _ _ _ _ qF]
 refine⟨⟨_,ρ,h.setBody hk c hx hkp (zk.nil _ _) hgt (fun g e=>by simp[Value.ownBlock] at e),c.mono (fun r e=>by rcases e with e | e | e <;> rw[e] <;> simp),((Below.refl B w).setCell (p:=zH (P.D k) 3) hBD _).setCell (p:=zH (P.D k) 4) hBD _⟩,_,_,hb'.cell 3 rfl,hb'.cell 4 rfl,hb'.frozen 3,hb'.frozen 4⟩
def zdo (L:yF) (i:Nat):yF:={L with zd:=L.zd.set i ⟨(L.zd.getD i ⟨-1,[]⟩).base,(L.zd.getD i ⟨-1,[]⟩).zh.dropLast⟩}
theorem zb0 {B:Nat} {ρ:Nat->Rl} {w:World} {P:Lay} (h:yj B ρ w P) (hB:B<=w.heap.size) {hp:Hp} (s:jB 0 0 P.L hp) (ho:qU P.L) {i:Nat} (hn:P.L.now=(i:Int)) (hi:i<P.L.zd.length) (hf:0<qq P.L i) (few:ul P.L) :
 Calls Tryz.prog 207 #[zJ P.bl 0] w fun e w'=>e=.returned (.tuple #[])/\∃F' uP T',Goes B ρ w w' {P with F:=F',vo:=uP,T:=T',L:=qf P.L}:=by
 obtain⟨m,hm⟩:∃m,qq P.L i=m+1:=⟨qq P.L i - 1,by omega⟩
 obtain⟨f,hfr⟩:=vG (L:=P.L) (i:=i) (k:=m) (by omega)
 obtain⟨_,hmk,hfe⟩:=yF.fr_some hfr
 have hnl:=kF hi
 have hg:P.L.zd.getD i ⟨-1,[]⟩=P.L.zd[i]:=by simp[hi]
 have hlast:P.L.zd[i].zh.getLast?=some f:=by
  rw[List.getLast?_eq_getElem?,<-hnl,hm,Nat.add_sub_cancel,List.getElem?_eq_getElem hmk,hfe]
 have hbk:=(s.fb i m f hfr (yP _ _)).1
 have hgb:P.L.zj.getD f.body jg.none=P.L.zj[f.body]:=by simp[hbk]
 obtain⟨q1,q2,q3,q4,_,_,_⟩:=V4 s hi hlast (P.L.zj.getD f.body jg.none)
 obtain⟨b,hbb⟩:∃b,P.L.zj.getD f.body jg.none=b:=⟨_,rfl⟩
 obtain⟨c,hc,_⟩:=s.c f.body _ (List.getElem?_eq_getElem hbk)
 have sP:=s.pop hi hlast (b:=b) (c:=c) (by rw[List.getElem?_eq_getElem hbk,<-hbb,hgb]) hc 0 0 0 []
 rw[hbb] at q1 q2 q3 q4
 -- what it comes to
 have HLV:Hid (qf P.L=if qq (qX P.L i f b) i=0 then qR (qX P.L i f b) i else qX P.L i f b):=by
  show qf P.L=_
  unfold qf
  rw[hn,Int.toNat_natCast,hg,hlast]
  simp only[hbb]
 have htl:(qX P.L i f b).ze.length=P.L.ze.length:=by
  show(if f.twin=-1 then P.L.ze else _).length=_
  split
  ·rfl
  ·exact List.length_set
 have oP:qU (qX P.L i f b):=by
  unfold qU at ho ⊢
  rw[q1]
  exact ho
 have HLP:Hid (∀(W:World) (ρ1:Nat->Rl) (F1:Nat->Value) (T1:Nat->Value × Value),yj B ρ1 W {P with F:=F1,T:=T1,L:=qX P.L i f b}->B<=W.heap.size->qq (qX P.L i f b) i=0 ->
  Calls Tryz.prog 218 #[zJ P.bl 0] W fun e w'=>e=.returned (.tuple #[])/\∃F' uP,Goes B ρ1 W w' {P with F:=F',vo:=uP,T:=T1,L:=qR (qX P.L i f b) i}):=fun W ρ1 F1 T1 h1 hB1 h0 =>
  WR h1 hB1 oP hn (by rw[q1];exact hi) h0 (by show(qX P.L i f b).zd.length<=_;rw[q1];exact few.p) (by show(qX P.L i f b).ze.length<=_;rw[htl];exact few.t)
   (by
    show us (qX P.L i f b).ze.length (yw (qX P.L i f b) i)
    rw[htl,q3,QV hi]
    exact s.ba i _ (List.getElem?_eq_getElem hi))
   (fun j t ht=>sP.onPage j t ht)
 have hpl:P.L.zd.length<=900:=few.p
 have hfi:=few.f i
 have YY:=(s.fb i m f hfr (yP _ _)).2
 -- where it lies
 obtain⟨gp,op,cp,gf,of,n,cf,qI,hF,hnn,_,_,p0,p1,c0,c1,_,zp1,zp0,_,Ve,_,hρp,_,Jb⟩:=h.frAt hfr
 have hnn':=hnn
 rw[hm] at hnn'
 subst hnn'
 have hcf:m+1<=cf:=by
  have hq:yg B 2 w (P.F i) P.L.zd[i].zh.length (cells2 (yk P.D P.L.zd[i].zh)):=((h (.zh i)) hi).1
  rw[hF,<-hnl,hm] at hq
  rcases hq.2 with⟨e,_⟩ | ⟨g',o',c',e,_,_,hl,_⟩
  ·cases e
  ·cases e
   exact hl
 have hbx:=h.box
 rw[qI,hn] at hbx
 have x1:=hbx.cell 1 rfl
 have x3:=hbx.cell 3 rfl
 rw[hF] at p1
 have hiz:(i:Int)<(P.L.zd.length:Int):=by omega
 have HPOP:Hid (∀W,zO w W->Calls Tryz.prog 216 #[zJ gp (op+i * 2)] W fun e w'=>e=.returned (.agg #[zJ (P.D f.body) 0,zI f.twin])/\∃F',Goes B (zu ρ w .other) W w' {P with F:=F',L:=zdo P.L i}):=fun W hW=>by
  have ZQ:=hW.size
  refine(pop_m (zc hW p0) rfl (zc hW p1) ((World.frozen?_of_block (a:=⟨gp,op+i * 2+1,none⟩) (hW.block gp Jb)).trans zp1) (zc hW c0) (zc hW c1) (by omega) (by omega)).mono ?_
  rintro e w' ⟨rfl,W0,b0,b1⟩
  refine⟨rfl,?_⟩
  have:=(h.below hW).popped (by omega) (w':=w') (W0:=W0) (m:=m) hi qI hF hm (by omega) Ve (by rw[yG Jb];exact hρp) b0 b1
  unfold zdo
  rw[hg]
  exact this
 have HL:Hid (yj B ρ w P):=h
 have hbb':b=P.L.zj[f.body]:=by rw[<-hbb,hgb]
 have HPE:Hid (qX P.L i f b={zdo P.L i with zj:=P.L.zj.set f.body (zco P.L.zj[f.body]),ze:=if f.twin=-1 then P.L.ze else P.L.ze.set f.twin.toNat ⟨-1,0,f.body,-1⟩}):=by rw[hbb'];rfl
 have HVP:Hid (P.vp=zK gp op P.L.zd.length cp/\(qX P.L i f b).zd.length=P.L.zd.length):=⟨qI,q1⟩
 have HTW:Hid (f.twin=-1\/∃(j:Nat) (sx:Int),f.twin=(j:Int)/\P.L.ze[j]?=some ⟨(i:Int),(m:Int),f.body,sx⟩):=YY
 obtain⟨tw,htwe⟩:∃tw,f.twin=tw:=⟨_,rfl⟩
 obtain⟨d,hd⟩:∃d,P.D f.body=d:=⟨_,rfl⟩
 have HN:Hid (qq P.L i<=900/\qq (qX P.L i f b) i+1=qq P.L i):=⟨hfi,q2⟩
 rw[htwe,hd] at HPOP
 have HDT:Hid (f.twin=tw/\P.D f.body=d):=⟨htwe,hd⟩
 clear YY hbb hbb' hgb q1 q2 q3 q4 sP hc hlast hg hnl hfe hfr s ho oP htl h hbx c0 c1 zp1 zp0 hnn htwe hd few hF qI
 go_enter Tryz.func207,Tryz.ntmps207
 go_upto_region 0 with fail
 go_cut [2] (fun v wx=>v=zJ gp (op+i * 2)/\zO w wx)
 case first =>
  go_region_law (fail)
  all_goals
   go_wp2_with fail
   go_meet
   exact⟨rfl,zS.drew⟩
 case rest =>
  obtain⟨rfl,qa⟩:=hcut
  have xF:=qa.size
  have HC:=HPOP.out wc qa
  have HB1:Hid (zO w wc):=qa
  clear qa p0 p1 x1 x3
  go_upto_region 2 with(go_at_call 216;refine HC.mono ?_;rintro e w2 ⟨rfl,hG⟩)
  obtain⟨F1,ρ2,h2,c2,b2⟩:=hG
  have kf:=c2.size
  refine ym (fun X=>zO w2 X/\Bx X w2.heap.size 145 [.pointer (some ⟨d,0,none⟩),.int .i64 tw]) ⟨zR _ _,Bx.new _ _ _⟩ ?_
  rintro X ⟨bX,yX⟩
  have JW:=bX.size
  have hX:=h2.below bX
  have CX:Ch (fun r=>r≠.other) ρ (zu ρ2 w2 .other) w X:=((Ch.below HB1.out _ ρ .other).trans c2).trans (Ch.below bX _ ρ2 .other)
  have BX:Below B w X:=((HB1.out.mono hB).trans b2).trans (bX.mono (by omega))
  have rX:zu ρ2 w2 .other w2.heap.size=.other:=qj zD
  obtain⟨⟨T',hG2⟩,x3,x4,e3,e4,f3,f4⟩:=hX.died (k:=f.body) hbk
  obtain⟨ρ3,h3,c3,b3⟩:=hG2
  have hdd:=HDT.out.2
  have HD:=Wo d X x3 x4 (by rw[<-hdd];exact e3) (by rw[<-hdd];exact e4) (by rw[<-hdd];exact f3) (by rw[<-hdd];exact f4)
  have y0:=yX.cell 0 rfl
  have yl:=yX.lt
  have hRD:∀Y,(X.setCell (zH (P.D f.body) 3) (zQ)).setCell (zH (P.D f.body) 4) (.bool true)=Y->Bx Y w2.heap.size 145 [zJ d 0,zI tw]/\∃ρ3,yj B ρ3 Y {P with F:=F1,T:=T',L:={zdo P.L i with zj:=P.L.zj.set f.body (zco P.L.zj[f.body])}}/\Ch (fun r=>r≠.other) ρ ρ3 w Y/\Below B w Y:=by
   intro Y hY
   subst hY
   exact⟨yX.kept (c3.blk _ yl (by rw[rX];simp)),ρ3,h3,CX.trans c3,BX.trans b3⟩
  rw[hdd] at hRD
  have HRD:Hid _:=hRD
  clear hRD h3 c3 b3 hdd e3 e4 f3 f4 hX CX BX c2 b2 h2 HC
  go_upto_region 3 with(go_at_call 217;refine HD.mono ?_;rintro e w3 ⟨rfl,hw3⟩;subst hw3)
  obtain⟨Y,hY⟩:∃Y,(X.setCell (zH d 3) (zQ)).setCell (zH d 4) (.bool true)=Y:=⟨_,rfl⟩
  obtain⟨yY,ρ3,h3,c3,b3⟩:=HRD.out Y hY
  rw[hY]
  clear HRD HD hY yX bX y0
  have y0:=yY.cell 0 rfl
  have y1:=yY.cell 1 rfl
  go_upto_if 20 with fail
  have HY:Hid (yj B ρ3 Y {P with F:=F1,T:=T',L:={zdo P.L i with zj:=P.L.zj.set f.body (zco P.L.zj[f.body])}}/\Ch (fun r=>r≠.other) ρ ρ3 w Y/\Below B w Y):=⟨h3,c3,b3⟩
  clear h3 c3 b3
  have hzY:w.heap.size<=Y.heap.size:=HY.out.2.1.size
  go_cut [] (fun wy=>Goes B ρ w wy {P with F:=F1,T:=T',L:=qX P.L i f b})
  case first =>
   obtain⟨h3,c3,b3⟩:=HY.out
   rcases HTW.out with e | ⟨j,sx,e,hjt⟩
   ·have e2:tw=-1:=by rw[<-HDT.out.1,e]
    subst e2
    have HG:Hid (Goes B ρ w Y {P with F:=F1,T:=T',L:=qX P.L i f b}):=by
     show Goes B ρ w Y {P with F:=F1,T:=T',L:=qX P.L i f b}
     rw[HPE.out,if_pos e]
     exact⟨ρ3,h3,c3,b3⟩
    clear h3 c3 b3
    go_wp2_with fail
    go_meet
    exact HG.out
   ·have e2:tw=(j:Int):=by rw[<-HDT.out.1,e]
    subst e2
    have hjl:j<P.L.ze.length:=(List.getElem?_eq_some_iff.1 hjt).1
    have x4:Y.cell? (zH P.bl 4)=some (.map (some P.bm)):=h3.box.cell 4 rfl
    have hT6:xl Y.drew P.bm (P.L.ze.map (xG P.D)):=xl.below (h3 .ze).1 zS.drew
    obtain⟨W7,hmu,hm7,hg7⟩:=xl.put (P:=Tryz.prog) (t:=115) (kt:=3) (et:=143) (by kernel_rfl) (by kernel_rfl) hT6 (k:=j) (by simpa using hjl) (xG P.D ⟨-1,0,f.body,-1⟩)
    unfold xG at hmu
    have HG:Hid (Goes B ρ w W7 {P with F:=F1,T:=T',L:=qX P.L i f b}):=by
     have hd:=h3.below zS.drew
     have VL:xl W7 P.bm ((P.L.ze.set j ⟨-1,0,f.body,-1⟩).map (xG P.D)):=by rw[List.map_set];exact hm7
     have S:=hd.setTwins (ts:=P.L.ze.set j ⟨-1,0,f.body,-1⟩) hg7 VL
     have C2:=c3.trans (Ch.below zS.drew _ ρ3 .other)
     show Goes B ρ w W7 {P with F:=F1,T:=T',L:=qX P.L i f b}
     rw[HPE.out,if_neg (by omega),e,Int.toNat_natCast]
     exact⟨_,S,C2.trans (Ch.grown hg7 _ .other fun q e=>by cases e;rw[(hd .ze).2.1];simp),b3.drew.grown hg7 (Nat.le_trans hB C2.size) fun q e=>by cases e;exact(hd .ze).2.2⟩
    rw[HDT.out.2] at hmu
    have hjne:(j:Int)≠-1:=by omega
    clear h3 c3 b3 hT6 hm7 hg7
    go_wp2_with fail
    go_region_law (fail)
    all_goals
     go_wp2_with fail
     go_meet
     exact HG.out
  case rest =>
   obtain⟨ρ5,h5,c5,b5⟩:=hcut
   have hz5:=c5.size
   have hi5:i<(qX P.L i f b).zd.length:=by rw[HVP.out.2];exact hi
   obtain⟨gp',op',cp',a5,cf5,hvp5,hF5,_,p15,_⟩:=h5.pgAt hi5
   have Jy:P.vp=zK gp' op' (qX P.L i f b).zd.length cp':=hvp5
   rw[HVP.out.1,HVP.out.2] at Jy
   injection Jy with ea em ec
   injection ea with ea
   injection ea with eb eo
   subst eb eo ec
   clear em
   have HH5:=HLP.out wc ρ5 F1 T' h5 (by omega)
   have HC5:Hid (Ch (fun r=>r≠.other) ρ ρ5 w wc/\Below B w wc/\yj B ρ5 wc {P with F:=F1,T:=T',L:=qX P.L i f b}):=⟨c5,b5,h5⟩
   have hnp:=HN.out
   clear h5 c5 b5 hvp5 hF5
   obtain⟨n5,hn5⟩:∃n5,qq (qX P.L i f b) i=n5:=⟨_,rfl⟩
   have p15':wc.cell? (zH gp (op+i * 2+1))=some (.slice a5 n5 cf5):=by rw[<-hn5];exact p15
   rw[hn5] at HH5 HLV hnp
   clear p15
   have HLV':Hid _:=HLV
   by_cases h0:n5=0
   ·subst h0
    have HH6:=HH5 rfl
    clear HH5
    go_wp2_with fail
    refine HH6.mono ?_
    rintro e w6 ⟨rfl,F',uP,hG⟩
    have HG:Hid (Goes B ρ5 wc w6 {P with F:=F',vo:=uP,T:=T',L:=qR (qX P.L i f b) i}):=hG
    clear hG HH6
    go_wp2
    exact bodyPost_end (results_none rfl _ _ _) rfl ⟨rfl,F',uP,T',by rw[HLV.out];simp only[if_true];exact Goes.trans HC5.out.1 HC5.out.2.1 HG.out⟩
   ·have jT:(n5:Int)≠0:=by omega
    have hz0b:((n5:Int) == 0)=false:=by simp;omega
    clear HH5
    go_wp2
    exact bodyPost_end (results_none rfl _ _ _) rfl ⟨rfl,F1,P.vo,T',by rw[HLV.out,if_neg h0];exact⟨ρ5,HC5.out.2.2,HC5.out.1,HC5.out.2.1⟩⟩
theorem zcj {L:yF} {h:Hp} {b:Nat} {l:List Nat} (s:jB 0 0 L h) (ho:qU L) (hw:ZJ L h) (hW:qG h.za h.now l) (hb:b∈l):∃i:Nat,L.now=(i:Int)/\i<L.zd.length/\0<qq L i/\h.now=vQ L i /\
 (vQ L i≠(b:Int)->∃h' t,jB 0 0 (qf L) h'/\qU (qf L)/\ZJ (qf L) h'/\qG h'.za h'.now t/\b∈t/\t.length+1=l.length/\(qf L).zd.length=L.zd.length/\(qf L).zj.length=L.zj.length):=by
 rcases hw with⟨_,e⟩ | ⟨i,hn,hi,hf,ht⟩
 ·obtain⟨f,hf⟩:=hW.ch
  rw[e,qn (by omega)] at hf
  cases hf
  cases hb
 ·refine⟨i,hn,hi,hf,ht,fun qF=>?_⟩
  have e:h.now≠(b:Int):=by rw[ht];exact qF
  obtain⟨j,hj⟩:∃j:Nat,h.now=(j:Int):=by
   have hp:0<=h.now:=by
    by_cases h0:h.now<0
    ·obtain⟨f,hf⟩:=hW.ch
     rw[qn h0] at hf
     cases hf
     cases hb
    ·omega
   exact⟨h.now.toNat,by omega⟩
  rw[hj] at hW
  obtain⟨hjl,_,_,_,_⟩:=hW.head
  obtain⟨t,rfl,hWt,_⟩:=hW.leave hjl (um h.za[j]) rfl
  have hLH:ye h=⟨h.za.set j (um h.za[j]),h.za[j].zi,h.born,h.zm,h.code⟩:=by
   unfold ye setH yJ
   rw[hj,Int.toNat_natCast]
   simp[hjl]
  have hbt:b∈t:=by
   rcases List.mem_cons.1 hb with rfl | hbt
   ·exact absurd hj e
   ·exact hbt
  have hW2:qG (ye h).za (ye h).now t:=by rw[hLH];exact hWt
  obtain⟨s1,o1,w1,x1,y1,z1,c1⟩:=XF s ho hn hi hf ht fun _=>⟨t,hW2⟩
  exact⟨_,t,s1,o1,w1,hW2,hbt,by simp,y1,z1⟩
theorem zeQ {L:yF} {ps:List wh} {i:Nat} {p:wh} (h:ps=L.zd.set i p) (q:Nat) (L':yF) (hL:L'.zd=ps):qq L' q<=max (qq L q) p.zh.length:=by
 unfold qq
 rw[hL,h,List.getD_eq_getElem?_getD,List.getD_eq_getElem?_getD]
 by_cases e:i=q
 ·subst e
  by_cases hi:i<L.zd.length
  ·rw[List.getElem?_set_self hi]
   exact Nat.le_max_right _ _
  ·rw[List.getElem?_eq_none (by rw[List.length_set];omega)]
   exact Nat.zero_le _
 ·rw[List.getElem?_set_ne e]
  exact Nat.le_max_left _ _
theorem Uv {L L':yF} (few:ul L) {i:Nat} {p:wh} (h:L'.zd=L.zd.set i p) (hp:p.zh.length<=900) (ht:L'.ze.length=L.ze.length):ul L' :=
 ⟨fun q=>by have:=zeQ (L:=L) rfl q L' h;have:=few.f q;omega,by rw[h,List.length_set];exact few.p,by rw[ht];exact few.t⟩
theorem Xu {L L':yF} (few:ul L) (h:L'.zd=L.zd) (ht:L'.ze.length=L.ze.length):ul L':=⟨fun q=>by unfold qq;rw[h];exact few.f q,by rw[h];exact few.p,by rw[ht];exact few.t⟩
theorem ul.leavePage {L:yF} (few:ul L) (i:Nat):ul (qR L i):=by
 have fb:ul (yM L i (-1)):=Uv few (i:=i) (p:=⟨-1,[]⟩) rfl (by simp) rfl
 unfold qR
 split
 ·exact Xu fb rfl rfl
 ·split
  ·split
   ·exact Xu (Uv fb (L':=JG (yM L i (-1)) i _ _) (i:=i) rfl (by simp) List.length_set) rfl rfl
   ·exact Xu fb rfl rfl
  ·exact few
theorem ul.pop {L:yF} (few:ul L) (i:Nat) (f:ki) (b:jg):ul (qX L i f b):=by
 refine Uv few (i:=i) (p:=⟨(L.zd.getD i ⟨-1,[]⟩).base,(L.zd.getD i ⟨-1,[]⟩).zh.dropLast⟩) rfl ?_ ?_
 ·have:=few.f i
  unfold qq at this
  simp only[List.length_dropLast]
  omega
 ·show(if f.twin=-1 then L.ze else _).length=_
  split
  ·rfl
  ·exact List.length_set
theorem ul.leave {L:yF} (few:ul L):ul (qf L):=by
 unfold qf
 split
 ·split
  ·exact(few.pop _ _ _).leavePage _
  ·exact few.pop _ _ _
 ·exact few
structure BSt (B:Nat) (ρ:Nat->Rl) (w:World) (P:Lay) (b:Nat) (LF:yF) (n:Nat) (wr:World):Prop where
 ex:∃(Lk:yF) (F:Nat->Value) (vo:Value) (T:Nat->Value × Value) (ρk:Nat->Rl) (hk:Hp) (l:List Nat),yj B ρk wr {P with F:=F,vo:=vo,T:=T,L:=Lk}/\Ch (fun r=>r≠.other) ρ ρk w wr/\Below B w wr/\jB 0 0 Lk hk/\qU Lk/\ZJ Lk hk/\qG hk.za hk.now l/\b∈l/\l.length<=n/\ku n Lk b=LF/\ul Lk/\b<Lk.zj.length
end Go.Proofs.YtbjgjjkgfnfejaaGreatDoor

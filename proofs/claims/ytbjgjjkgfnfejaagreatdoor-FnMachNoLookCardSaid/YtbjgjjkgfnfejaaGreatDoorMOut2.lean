/-
  A machine at work is handed out: mach. (Written by mkmach.py.)
-/
import Derived.Test.YtbjgjjkgfnfejaaGreatDoorMKeep3
namespace Go.Proofs.YtbjgjjkgfnfejaaGreatDoor
open Go.RowKit
def jR (L:yw) (k:Nat):jg:=L.zj.getD k jg.none
def frM (L:yw) (f:jV):Fr:=⟨(jR L f.body).m,(jR L f.body).pc,f.twin,(jR L f.body).zh,(jR L f.body).zf⟩
def pgM (L:yw) (p:ws):Pg:=⟨p.base,p.zg.map (frM L)⟩
def ZG (L:yw) (t:km):Tw:=if t.page=-1 then⟨-1,0,⟨(jR L t.body).m,(jR L t.body).pc,(jR L t.body).zh,(jR L t.body).zf,t.zi,(jR L t.body).zy⟩⟩ else⟨t.page,t.place,⟨0,0,[],[],0,false⟩⟩
def yM (L:yw) (born:Int) (zm:yH) (code:Int):Mc:=⟨L.cells,L.za.map (pgM L),L.order,L.now,L.zd.map (ZG L),born,zm,code⟩
theorem Qd {L:yw} {k:Nat} (h:k<L.zj.length):jR L k=L.zj[k]:=by simp[jR,h]
theorem V4 {B:Nat} {ρ:Nat->Rl} {w w':World} {P:Lay} (h:yj B ρ w P) (hb:zO w w') {fs:List jV} (hwf:∀k,(hk:k<fs.length)->fs[k].body<P.L.zj.length) {v:Value} {B':Nat}
 (hr:ym B' 5 w' v fs.length ((List.range fs.length).flatMap (wH P fs))):ke w' v (fs.map (frM P.L)):=by
 obtain⟨av,cv,hv,hm⟩:=hr.slice
 refine⟨av,cv,by rw[hv,List.length_map],by rw[List.length_map];exact hm,fun q hq=>?_⟩
 have hq':q<fs.length:=by simpa using hq
 subst hv
 obtain⟨g,off,cap,e,_,_⟩:=hr.form (by omega)
 cases e
 have hk:=hwf q hq'
 have c:=fun j (hj:j<5)=>Xm (f:=wH P fs) (sz:=5) (fun i=>zdH P fs i) fs.length q j hq' hj
 have e0:fs.getD q ⟨0,-1⟩=fs[q]:=by simp[hq']
 have e1:P.L.zj.getD fs[q].body jg.none=jR P.L fs[q].body:=rfl
 have c0:=(hr.cell (c 0 (by omega))).1
 have c1:=(hr.cell (c 1 (by omega))).1
 have c2:=(hr.cell (c 2 (by omega))).1
 have c3:=(hr.cell (c 3 (by omega))).1
 have c4:=(hr.cell (c 4 (by omega))).1
 have ht:=((h (.zh _) hk).1.at).below hb
 have hs:=((h (.zf _) hk).1.at).below hb
 rw[<-Qd hk] at ht hs
 have em:(fs.map (frM P.L))[q]=frM P.L fs[q]:=by simp
 rw[em]
 refine⟨g,off,(P.T fs[q].body).1,(P.T fs[q].body).2,rfl,?_,?_,?_,?_,?_,ht,hs⟩
 ·have:w'.cell? (zH g (off+(q * 5+0)))=some (zI (P.L.zj.getD (fs.getD q ⟨0,-1⟩).body jg.none).m):=c0
  rw[e0] at this
  exact this
 ·have:w'.cell? (zH g (off+(q * 5+1)))=some (zI (P.L.zj.getD (fs.getD q ⟨0,-1⟩).body jg.none).pc):=c1
  rw[e0,<-Nat.add_assoc] at this
  exact this
 ·have:w'.cell? (zH g (off+(q * 5+2)))=some (zI (fs.getD q ⟨0,-1⟩).twin):=c2
  rw[e0,<-Nat.add_assoc] at this
  exact this
 ·have:w'.cell? (zH g (off+(q * 5+3)))=some (P.T (fs.getD q ⟨0,-1⟩).body).1:=c3
  rw[e0,<-Nat.add_assoc] at this
  exact this
 ·have:w'.cell? (zH g (off+(q * 5+4)))=some (P.T (fs.getD q ⟨0,-1⟩).body).2:=c4
  rw[e0,<-Nat.add_assoc] at this
  exact this
theorem Tryz.infoPageO:(Tryz.prog.info? 78).map (fun i=>(i.zero,i.size,i.bytes))=some (some (.agg #[zI 0,zQ]),2,32):=by kernel_rfl
theorem KM {f g:Nat->List Value}:∀n,(∀i,i<n->f i=g i)->(List.range n).flatMap f=(List.range n).flatMap g
 | 0,_=>rfl
 | n+1,h=>by rw[ZJ,ZJ,KM n (fun i hi=>h i (by omega)),h n (by omega)]
def uv (P:Lay) (B':Nat) (w:World) (v:Value) (k:Nat):Prop :=
 ∃V:Nat->Value,ym B' 2 w v k ((List.range k).flatMap fun q=>[zI (P.L.za.getD q ⟨-1,[]⟩).base,V q]) /\
  ∀q,q<k->ym B' 5 w (V q) (P.L.za.getD q ⟨-1,[]⟩).zg.length ((List.range (P.L.za.getD q ⟨-1,[]⟩).zg.length).flatMap (wH P (P.L.za.getD q ⟨-1,[]⟩).zg))/\∀g,(V q).ownBlock=some g->v.ownBlock≠some g
theorem uv.kept {P:Lay} {B' k:Nat} {w w':World} {v:Value} (h:uv P B' w v k) (hs:w.heap.size<=w'.heap.size) (hb:∀g,B'<=g->g<w.heap.size->w'.heap[g]?=w.heap[g]?):uv P B' w' v k:=by
 obtain⟨V,h1,h2⟩:=h
 exact⟨V,h1.kept hs fun g e=>hb g (h1.lt g e).1 (h1.lt g e).2,fun q hq=>⟨(h2 q hq).1.kept hs fun g e=>hb g ((h2 q hq).1.lt g e).1 ((h2 q hq).1.lt g e).2,(h2 q hq).2⟩⟩
theorem uv.below {P:Lay} {B' k:Nat} {w w':World} {v:Value} (h:uv P B' w v k) (hb:zO w w'):uv P B' w' v k:=h.kept hb.size fun g _ h2=>hb.block g h2
theorem uv.slice {P:Lay} {B' k:Nat} {w:World} {v:Value} (h:uv P B' w v k):(∃a c,v=.slice a k c)/\∀g,v.ownBlock=some g->B'<=g/\g<w.heap.size:=by
 obtain⟨V,h1,_⟩:=h
 obtain⟨a,c,e,_⟩:=h1.slice
 exact⟨⟨a,c,e⟩,h1.lt⟩
theorem uv.append {P:Lay} {B' B2 k:Nat} {w:World} {v u:Value} (h:uv P B' w v k) (hk:k<P.L.za.length) (hu:ym B2 5 w u P.L.za[k].zg.length ((List.range P.L.za[k].zg.length).flatMap (wH P P.L.za[k].zg))) (h2:B'<=B2)
 (hv:∀g,v.ownBlock=some g->g<B2) (hus:u.oneCell'=true) (H:Nat) (hx:∀j x,([zI P.L.za[k].base,u]:List Value)[j]?=some x->w.cell? (zH H j)=some x) (hB:B'<=w.heap.size) (hkf:k<=2900000) :
 ∃a' c' w',(Builtin.append_ #[29,29] 29 #[v,zK H 0 1 1]).run Tryz.prog w=.ok (.slice a' (k+1) c') w'/\uv P B' w' (.slice a' (k+1) c') (k+1)/\w.grownBy w' v.ownBlock:=by
 obtain⟨i0,hii,jM,xP,vJ⟩:=info_parts Tryz.infoPageO
 obtain⟨V,h1,hV⟩:=h
 have hgd:P.L.za.getD k ⟨-1,[]⟩=P.L.za[k]:=by simp[hk]
 obtain⟨v',w',hrun,yd,hg,hor⟩:=vH (P:=Tryz.prog) (t:=29) (ty:=29) Tryz.underlying29 hii jM xP rfl (by omega) h1 [zI P.L.za[k].base,u] rfl (by intro x hx;simp at hx;rcases hx with rfl | rfl;rfl;exact hus) H 1 hx hkf hB
 obtain⟨a',c',hv',_⟩:=yd.slice
 subst hv'
 refine⟨a',c',w',hrun,⟨fun q=>if q=k then u else V q,?_,fun q hq=>?_⟩,hg⟩
 ·rw[ZJ,hgd]
  simp only[if_true]
  rw[KM (g:=fun q=>[Value.int .i64 (P.L.za.getD q ⟨-1,[]⟩).base,V q]) k fun i hi=>by rw[if_neg (by omega)]]
  exact yd
 ·by_cases e:q=k
  ·subst e
   simp only[if_true]
   rw[hgd]
   refine⟨(hu.mono h2).kept hg.size fun g e=>hg.block g (hu.lt g e).2 fun e2=>by have:=hv g e2.symm;have:=(hu.lt g e).1;omega,fun g e e2=>?_⟩
   rcases hor with h9 | h9
   ·rw[h9] at e2;have:=hv g e2;have:=(hu.lt g e).1;omega
   ·rw[h9] at e2;injection e2 with e2;have:=(hu.lt g e).2;omega
  ·simp only[if_neg e]
   obtain⟨q1,q2⟩:=hV q (by omega)
   refine⟨q1.kept hg.size fun g e=>hg.block g (q1.lt g e).2 fun e2=>q2 g e e2.symm,fun g e e2=>?_⟩
   rcases hor with h9 | h9
   ·rw[h9] at e2;exact q2 g e e2
   ·rw[h9] at e2;injection e2 with e2;have:=(q1.lt g e).2;omega
theorem Tryz.infoTwinO:(Tryz.prog.info? 124).map (fun i=>(i.zero,i.size,i.bytes))=some (some (.agg #[zI 0,zI 0,zI 0,zI 0,zQ,zQ,zI 0,.bool false]),8,96):=by kernel_rfl
def kG (P:Lay) (q:Nat):List Value :=
 if(P.L.zd.getD q ⟨-1,0,0,0⟩).page=-1 then
  [zI (-1),zI 0,zI (jR P.L (P.L.zd.getD q ⟨-1,0,0,0⟩).body).m,zI (jR P.L (P.L.zd.getD q ⟨-1,0,0,0⟩).body).pc,(P.T (P.L.zd.getD q ⟨-1,0,0,0⟩).body).1,(P.T (P.L.zd.getD q ⟨-1,0,0,0⟩).body).2,zI (P.L.zd.getD q ⟨-1,0,0,0⟩).zi,.bool (jR P.L (P.L.zd.getD q ⟨-1,0,0,0⟩).body).zy]
 else [zI (P.L.zd.getD q ⟨-1,0,0,0⟩).page,zI (P.L.zd.getD q ⟨-1,0,0,0⟩).place,zI 0,zI 0,zQ,zQ,zI 0,.bool false]
theorem UY (P:Lay) (q:Nat):(kG P q).length=8:=by unfold kG;split <;> rfl
theorem XC {P:Lay} {B' k:Nat} {w:World} {v:Value} (h:ym B' 8 w v k ((List.range k).flatMap (kG P))) (h1:∀u∈kG P k,u.oneCell'=true) (H:Nat) (hx:∀j x,(kG P k)[j]?=some x->w.cell? (zH H j)=some x) (hB:B'<=w.heap.size) (hkf:k<=2900000) :
 ∃a' c' w',(Builtin.append_ #[31,31] 31 #[v,zK H 0 1 1]).run Tryz.prog w=.ok (.slice a' (k+1) c') w'/\ym B' 8 w' (.slice a' (k+1) c') (k+1) ((List.range (k+1)).flatMap (kG P))/\w.grownBy w' v.ownBlock:=by
 obtain⟨i0,hii,jM,xP,vJ⟩:=info_parts Tryz.infoTwinO
 obtain⟨v',w',hrun,yd,hg,_⟩:=vH (P:=Tryz.prog) (t:=31) (ty:=31) Tryz.underlying31 hii jM xP rfl (by omega) h (kG P k) (UY P k) h1 H 1 hx hkf hB
 obtain⟨a',c',hv',_⟩:=yd.slice
 subst hv'
 rw[<-ZJ] at yd
 exact⟨a',c',w',hrun,yd,hg⟩
theorem za9 {B:Nat} {ρ:Nat->Rl} {w:World} {P:Lay} (h:yj B ρ w P) (hwf:P.L.wf) {B':Nat} {v:Value} (hp:uv P B' w v P.L.za.length) (hn:P.L.za.length<=1000):Zc w v (P.L.za.map (pgM P.L)):=by
 obtain⟨V,h1,h2⟩:=hp
 obtain⟨av,cv,hv,hm⟩:=h1.slice
 refine⟨av,cv,by rw[hv,List.length_map],by rw[List.length_map];exact hm,fun q hq=>?_⟩
 have hq':q<P.L.za.length:=by simpa using hq
 have hgd:P.L.za.getD q ⟨-1,[]⟩=P.L.za[q]:=by simp[hq']
 subst hv
 obtain⟨g,off,cap,e,_,_⟩:=h1.form (by omega)
 cases e
 have c:=fun j (hj:j<2)=>Xm (f:=fun q=>[Value.int .i64 (P.L.za.getD q ⟨-1,[]⟩).base,V q]) (sz:=2) (fun i=>rfl) P.L.za.length q j hq' hj
 have c0:=(h1.cell (c 0 (by omega))).1
 have c1:=(h1.cell (c 1 (by omega))).1
 obtain⟨r1,_⟩:=h2 q hq'
 rw[hgd] at r1
 have hf:=V4 h zS (fun k hk=>hwf.fr q hq' k hk) r1
 have em:(P.L.za.map (pgM P.L))[q]=pgM P.L P.L.za[q]:=by simp
 rw[em]
 refine⟨g,off,V q,rfl,?_,?_,hf⟩
 ·have:w.cell? (zH g (off+(q * 2+0)))=some (zI (P.L.za.getD q ⟨-1,[]⟩).base):=c0
  rw[hgd] at this
  exact this
 ·have:w.cell? (zH g (off+(q * 2+1)))=some (V q):=c1
  rw[<-Nat.add_assoc] at this
  exact this
theorem zbx {B:Nat} {ρ:Nat->Rl} {w:World} {P:Lay} (h:yj B ρ w P) (hwf:P.L.wf) {B':Nat} {v:Value} (hp:ym B' 8 w v P.L.zd.length ((List.range P.L.zd.length).flatMap (kG P))):uj w v (P.L.zd.map (ZG P.L)):=by
 obtain⟨av,cv,hv,hm⟩:=hp.slice
 refine⟨av,cv,by rw[hv,List.length_map],by rw[List.length_map];exact hm,fun q hq=>?_⟩
 have hq':q<P.L.zd.length:=by simpa using hq
 have hgd:P.L.zd.getD q ⟨-1,0,0,0⟩=P.L.zd[q]:=by simp[hq']
 subst hv
 obtain⟨g,off,cap,e,_,_⟩:=hp.form (by omega)
 cases e
 have c:=fun j (hj:j<8)=>Xm (f:=kG P) (sz:=8) (fun i=>UY P i) P.L.zd.length q j hq' hj
 have cell:∀j x,j<8->(kG P q)[j]?=some x->w.cell? (zH g (off+q * 8+j))=some x:=fun j x hj hx=>by
  have:=(hp.cell (j:=q * 8+j) ((c j hj).trans hx)).1
  rwa [<-Nat.add_assoc] at this
 have em:(P.L.zd.map (ZG P.L))[q]=ZG P.L P.L.zd[q]:=by simp
 rw[em]
 have hk:=hwf.tw q hq'
 by_cases xt:P.L.zd[q].page=-1
 ·have ht:kG P q=[zI (-1),zI 0,zI (jR P.L P.L.zd[q].body).m,zI (jR P.L P.L.zd[q].body).pc,(P.T P.L.zd[q].body).1,(P.T P.L.zd[q].body).2,zI P.L.zd[q].zi,.bool (jR P.L P.L.zd[q].body).zy]:=by unfold kG;rw[hgd,if_pos xt]
  have ww:ZG P.L P.L.zd[q]=⟨-1,0,⟨(jR P.L P.L.zd[q].body).m,(jR P.L P.L.zd[q].body).pc,(jR P.L P.L.zd[q].body).zh,(jR P.L P.L.zd[q].body).zf,P.L.zd[q].zi,(jR P.L P.L.zd[q].body).zy⟩⟩:=by unfold ZG;rw[if_pos xt]
  have o1:=((h (.zh _) hk).1.at)
  have o2:=((h (.zf _) hk).1.at)
  rw[<-Qd hk] at o1 o2
  rw[ww]
  exact⟨g,off,_,_,rfl,cell 0 _ (by omega) (by rw[ht];rfl),cell 1 _ (by omega) (by rw[ht];rfl),cell 2 _ (by omega) (by rw[ht];rfl),cell 3 _ (by omega) (by rw[ht];rfl),cell 4 _ (by omega) (by rw[ht];rfl),cell 5 _ (by omega) (by rw[ht];rfl),cell 6 _ (by omega) (by rw[ht];rfl),cell 7 _ (by omega) (by rw[ht];rfl),o1,o2⟩
 ·have ht:kG P q=[zI P.L.zd[q].page,zI P.L.zd[q].place,zI 0,zI 0,zQ,zQ,zI 0,.bool false]:=by unfold kG;rw[hgd,if_neg xt]
  have ww:ZG P.L P.L.zd[q]=⟨P.L.zd[q].page,P.L.zd[q].place,⟨0,0,[],[],0,false⟩⟩:=by unfold ZG;rw[if_neg xt]
  have on:yi w (zQ) []:=⟨none,0,rfl,Nat.zero_le _,fun _ h=>absurd h yB⟩
  rw[ww]
  exact⟨g,off,_,_,rfl,cell 0 _ (by omega) (by rw[ht];rfl),cell 1 _ (by omega) (by rw[ht];rfl),cell 2 _ (by omega) (by rw[ht];rfl),cell 3 _ (by omega) (by rw[ht];rfl),cell 4 _ (by omega) (by rw[ht];rfl),cell 5 _ (by omega) (by rw[ht];rfl),cell 6 _ (by omega) (by rw[ht];rfl),cell 7 _ (by omega) (by rw[ht];rfl),on,on⟩
def uF (P:Lay) (B:Nat) (w':World) (v1 v3:Value):Prop :=
 ∃(wm:World) (B':Nat),B<=B'/\uv P B' wm v1 P.L.za.length/\B'<=wm.heap.size/\wm.heap.size<=w'.heap.size/\(∀g,B'<=g->g<wm.heap.size->w'.heap[g]?=wm.heap[g]?)/\ym wm.heap.size 8 w' v3 P.L.zd.length ((List.range P.L.zd.length).flatMap (kG P))
theorem uF.kept {P:Lay} {B:Nat} {w' w'':World} {v1 v3:Value} (h:uF P B w' v1 v3) (hs:w'.heap.size<=w''.heap.size) (hb:∀g,B<=g->g<w'.heap.size->w''.heap[g]?=w'.heap[g]?):uF P B w'' v1 v3:=by
 obtain⟨wm,B',h1,h2,h3,h4,h5,h6⟩:=h
 exact⟨wm,B',h1,h2,h3,Nat.le_trans h4 hs,fun g g1 g2=>(hb g (by omega) (by omega)).trans (h5 g g1 g2),h6.kept hs fun g e=>hb g (by have:=(h6.lt g e).1;omega) (h6.lt g e).2⟩
theorem uF.slices {P:Lay} {B:Nat} {w':World} {v1 v3:Value} (h:uF P B w' v1 v3):(∃a c,v1=.slice a P.L.za.length c)/\∃a c,v3=.slice a P.L.zd.length c:=by
 obtain⟨wm,B',h1,h2,h3,h4,h5,h6⟩:=h
 obtain⟨a,c,e,_⟩:=h6.slice
 exact⟨h2.slice.1,a,c,e⟩
theorem uF.at {B0:Nat} {ρ:Nat->Rl} {P:Lay} {B:Nat} {w':World} {v1 v3:Value} (h:yj B0 ρ w' P) (hwf:P.L.wf) (hn:P.L.za.length<=1000) (hm:uF P B w' v1 v3) {qa:Value} {zm:yH} (hs:yi w' qa zm) (born code:Int):yC w' v1 P.vo v3 qa (yM P.L born zm code):=by
 obtain⟨wm,B',h1,h2,h3,h4,h5,h6⟩:=hm
 exact⟨za9 h hwf (h2.kept h4 h5) hn,(h .order).1.at,zbx h hwf h6,hs⟩
theorem Qt {P:Program} {t ty:TypeId} {ops:Array Oper} {rest:List Oper} {o:Oper} {act:Act} {Q:Exit->Act->World->Prop} {w w':World} {v xv v':Value} (hgd:o.guard=none) (s x:Operand)
 (ho:o.op=.call {callee:=.builtin .append,args:=#[s,x],argTypes:=#[t,t]}) (hty:o.type=ty) (hs:act.eval s=v) (hx:act.eval x=xv) (hr:(Builtin.append_ #[t,t] ty #[v,xv]).run P w=.ok v' w')
 (h:wpList P ops Q rest (act.put o.dst v') w'):wpList P ops Q (o :: rest) act w:=by
 refine wpList_plain hgd fun K hK=>?_
 unfold Oper.wp execOp
 simp only[ho,resolve,invoke,builtin,Sem.run_bind,Sem.run_pure,Result.andThen_ok,List.map_toArray,List.map_cons,List.map_nil,hs,hx,hty,hr]
 exact hK _ _ h
set_option maxRecDepth 100000 in
set_option maxHeartbeats 4000000 in
theorem zfo {B:Nat} {ρ:Nat->Rl} {w:World} {P:Lay} (h:yj B ρ w P) (hwf:P.L.wf) (zb9:P.L.za.length<=1000/\∀i,(hi:i<P.L.za.length)->P.L.za[i].zg.length<=1000) (hft:P.L.zd.length<=800000)
 (born code:Int) (qa:Value) (zm:yH) (hs:yi w qa zm) :
 Calls Tryz.prog 48 #[zJ P.bl 0,zI born,qa,zI code] w fun e w'=>∃v1 v3,e=.returned (.agg (zu v1 P.vo v3 qa (yM P.L born zm code)).toArray)/\uF P w.heap.size w' v1 v3/\zO w w':=by
 have HL:Hid (yj B ρ w P):=h
 have HWF:Hid P.L.wf:=hwf
 have HFW:Hid (P.L.za.length<=1000/\∀i,(hi:i<P.L.za.length)->P.L.za[i].zg.length<=1000):=zb9
 have HS:Hid (yi w qa zm):=hs
 have hpn:=zb9.1
 obtain⟨as',cs,jG⟩:=hs.shape
 have hbx:=h.box
 obtain⟨ap,cp,qz,_⟩:=(h .za).1.slice
 obtain⟨ao,co,jw,_⟩:=(h .order).1.slice
 have yd:=(h .za).1
 rw[qz] at yd
 rw[qz,jw] at hbx
 obtain⟨vO,hvO⟩:∃vO,P.vo=vO:=⟨_,rfl⟩
 have HVO:Hid (P.vo=vO):=hvO
 obtain⟨i0,hii,jM,xP,vJ⟩:=info_parts Tryz.infoPageO
 have x0:=hbx.cell 0 rfl
 have x2:=hbx.cell 2 rfl
 have x3:=hbx.cell 3 rfl
 have hblw:=hbx.lt
 clear h hwf zb9 hs
 go_enter Tryz.func48,Tryz.ntmps48
 go_upto_region 1 with fail
 refine yg (fun W=>zO w W/\Bx W w.heap.size 34 [.int .i64 0,.slice none 0 0,.slice none 0 0,.int .i64 0,.slice none 0 0,.int .i64 0,.slice none 0 0,.int .i64 0]) ⟨zR _ _,Bx.new _ _ _⟩ ?_
 rintro W ⟨hbW,z⟩
 have hxW:=hbx.below hbW
 have J7:=hbW.size
 clear x0 x2 x3
 have x0:=hxW.cell 0 rfl
 have x2:=hxW.cell 2 rfl
 have x3:=hxW.cell 3 rfl
 have hblW:P.bl<W.heap.size:=hxW.lt
 subst jG
 go_region
 refine wG (fun W'=>zO w W'/\Bx W' w.heap.size 34 [.int .i64 0,.slice none 0 0,.slice none 0 0,.int .i64 0,.slice none 0 0,.int .i64 0,.slice none 0 0,.int .i64 0]/\Bx W' W.heap.size 34 [.int .i64 P.L.cells,.slice none 0 0,.slice ao P.L.order.length co,.int .i64 P.L.now,.slice none 0 0,.int .i64 born,.slice as' zm.length cs,.int .i64 code]/\W.heap.size<W'.heap.size) ⟨(hbW.alloc J7 _).drew,(z.alloc _).drew,(Bx.new _ _ _).drew,by show W.heap.size<(W.alloc _).heap.size;simp⟩ ?_
 rintro W1 ⟨qk,hz1',ZH,hl1⟩
 have hgz:w.heap.size<W.heap.size:=z.lt
 obtain⟨g9,Xe⟩:∃g9,W.heap.size=g9:=⟨_,rfl⟩
 rw[Xe] at ZH hl1 hgz ⊢
 clear hxW x0 x2 x3 z hbW J7 hblW Xe hbx
 have hxb1:=HL.out.box.below qk
 rw[qz] at hxb1
 have x1:=hxb1.cell 1 rfl
 have hlz:=qk.size
 go_wp2_with fail
 clear x1
 go_loopg [11,35] P.L.za.length (fun d _ q wr=>∃(k:Nat) (vpg:Value),k<=P.L.za.length/\d=P.L.za.length - k/\q=zI (k:Int)/\Bx wr w.heap.size 34 [zI 0,zQ,zQ,zI 0,zQ,zI 0,zQ,zI 0]/\Bx wr g9 34 [zI P.L.cells,vpg,.slice ao P.L.order.length co,zI P.L.now,zQ,zI born,.slice as' zm.length cs,zI code]/\uv P (g9+1) wr vpg k/\zO w wr/\g9<wr.heap.size)
 case atStart=>exact⟨0,_,Nat.zero_le _,rfl,rfl,hz1',ZH,⟨fun _=>undef,ym.nil _ _ _,fun _ hq=>absurd hq yB⟩,qk,hl1⟩
 case round =>
  obtain⟨k,vpg,hk,rfl,rfl,hzr,hxr,hpr,hbr,hlr⟩:=hrel
  have zr:=hbr.size
  clear hz1' ZH qk hl1 hxb1 hlz
  by_cases yt:k<P.L.za.length
  ·obtain⟨gp,op,cpx,hform,_,_⟩:=yd.form (by omega)
   cases hform
   have v7:(k:Int)<(P.L.za.length:Int):=by omega
   obtain⟨q0,q1⟩:=vu (qA P.F P.L.za) k (by rw[yS];exact yt)
   rw[jn yt] at q0 q1
   have c0:=zc hbr (yd.cell q0).1
   have c1:=zc hbr (yd.cell q1).1
   rw[<-Nat.add_assoc] at c1
   obtain⟨aF,cF,hvF,_⟩:=(HL.out (.zg k) yt).1.slice
   dsimp only at c0 c1
   rw[hvF] at c1
   obtain⟨⟨av,cv,hve⟩,_⟩:=hpr.slice
   subst hve
   obtain⟨Q,hQ⟩:∃Q,P.L.za[k]=Q:=⟨_,rfl⟩
   have HLL:Hid (∀X,zO w X->Calls Tryz.prog 88 #[.agg #[zI Q.base,.slice aF Q.zg.length cF]] X fun e w'=>∃v',e=.returned v'/\ym X.heap.size 5 w' v' Q.zg.length ((List.range Q.zg.length).flatMap (wH P Q.zg))/\zO X w'):=fun X hX=>by
    have:=WS (HL.out.below hX) HWF.out k yt P.L.za[k].base (HFW.out.2 k yt)
    rw[hvF] at this
    rw[<-hQ]
    exact this
   rw[hQ] at c0 c1
   go_upto_region 5 with fail
   refine yg (fun W'=>zO wr W'/\Bx W' wr.heap.size 139 [.int .i64 Q.base,.slice aF Q.zg.length cF]) ⟨zR _ _,Bx.new _ _ _⟩ ?_
   rintro W2 ⟨t2,y2⟩
   have yE:=hbr.trans (t2.mono zr)
   have z2:=yE.size
   have v2:=hpr.below t2
   have uW:=hxr.below t2
   have hzz2:=hzr.below t2
   have zt:=t2.size
   have n0:=y2.cell 0 rfl
   have n1:=y2.cell 1 rfl
   have m1:=uW.cell 1 rfl
   have HC:Hid (∀X,zO W2 X->Calls Tryz.prog 88 #[.agg #[zI Q.base,.slice aF Q.zg.length cF]] X fun e w'=>∃v',e=.returned v'/\ym X.heap.size 5 w' v' Q.zg.length ((List.range Q.zg.length).flatMap (wH P Q.zg))/\zO X w'):=fun X hX=>HLL.out X (yE.trans (hX.mono z2))
   have Ja:=v2.slice.2
   have HAP:Hid (∀(vI:World) (u:Value) (H:Nat),uv P (g9+1) vI (.slice av k cv) k->ym W2.heap.size 5 vI u Q.zg.length ((List.range Q.zg.length).flatMap (wH P Q.zg))->u.oneCell'=true->(∀j x,([zI Q.base,u]:List Value)[j]?=some x->vI.cell? (zH H j)=some x)->g9+1<=vI.heap.size ->
    ∃a' c' w',(Builtin.append_ #[29,29] 29 #[.slice av k cv,zK H 0 1 1]).run Tryz.prog vI=.ok (.slice a' (k+1) c') w'/\uv P (g9+1) w' (.slice a' (k+1) c') (k+1)/\vI.grownBy w' (Value.slice av k cv).ownBlock):=fun vI u H h1 h2 h3 h4 h5=>by
    rw[<-hQ] at h2 h4
    exact h1.append yt h2 (by omega) (fun g e=>(Ja g e).2) h3 H h4 h5 (by omega)
   clear c0 c1 q0 q1 yd hpr hxr hzr t2 HLL hvF hQ y2 Ja hvO
   refine Yd [[],[0],[],[2],[],[4],[2,3,4,5],[2,3,4,5,6],[0,1,2,3,4,5,6,7],[0,1,2,3,4,5,6,7,8],[0,1,2,3,4,5,6,7,8,9]] [[0],[1],[2],[3],[4],[5],[5,6],[5,7],[],[],[]] [[],[],[],[],[],[],[],[],[],[],[]] [jy (zJ g9 1),jy (.slice av k cv),jy (zJ wr.heap.size 0),jy (zI Q.base),jy (.agg #[zI Q.base,.slice aF Q.zg.length cF]),fGh 5 (fun(x:Value) l=>l=[x]) (fun x w1=>(∃a0 c0,x=.slice a0 Q.zg.length c0)/\(ym W2.heap.size 5 w1 x Q.zg.length ((List.range Q.zg.length).flatMap (wH P Q.zg)))),JD fun l=>∃x:Value,l=[x,.agg #[zI Q.base,x]],fGh 7 (fun(x:Value × Nat) l=>l=[x.1,zK x.2 0 1 1]) (fun x w1=>∀j u,([zI Q.base,x.1]:List Value)[j]?=some u->w1.cell? (zH x.2 j)=some u),JD fun _=>True,JD fun _=>True,JD fun _=>True] 8 2 rfl (by kernel_rfl) (by kernel_rfl) (by kernel_rfl) (by kernel_rfl) ?_ ?_
   ·refine zk (zk (zk (zk (zk (zk (zk (zk (jE) ?_) ?_) ?_) ?_) ?_) ?_) ?_) ?_
    ·intro a w val own hB hf zE hk
     have s9:=hf.at (d:=9) (v:=zJ g9 0) (by kernel_rfl) rfl
     exact zF (v:=zJ g9 1) hB
    ·intro a w val own hB hf zE hk
     have s39:=zU hk 0 39
     have cm1:=zc hB m1
     exact zF (v:=.slice av k cv) hB
    ·intro a w val own hB hf zE hk
     have s11:=hf.at (d:=11) (v:=zJ wr.heap.size 0) (by kernel_rfl) rfl
     exact zF (v:=zJ wr.heap.size 0) hB
    ·intro a w val own hB hf zE hk
     have s41:=zU hk 2 41
     have cn0:=zc hB n0
     exact zF (v:=zI Q.base) hB
    ·intro a w val own hB hf zE hk
     have s11:=hf.at (d:=11) (v:=zJ wr.heap.size 0) (by kernel_rfl) rfl
     have cn0:=zc hB n0
     have cn1:=zc hB n1
     exact zF (v:=.agg #[zI Q.base,.slice aF Q.zg.length cF]) hB
    ·intro a w val own hB hf zE hk
     have s43:=zU hk 4 43
     have VU:=hB.size
     refine uK hB rfl rfl (by unfold execOp;go_simp) ((HC.out w hB).mono ?_)
     rintro e w' ⟨v1,rfl,r1,hb'⟩
     refine⟨_,rfl,hb',v1,rfl,Made.new fun w1 hs hbw hr=>⟨?_,?_⟩⟩
     ·obtain⟨a0,c0,e0,_⟩:=r1.slice
      exact⟨a0,c0,e0⟩
     ·exact(r1.kept hs fun g e=>hr g (r1.lt g e).1 (r1.lt g e).2).mono VU
    ·intro a w val own hB hf zE hk
     obtain⟨kc,xc,ec,mc⟩:=hk 5 (show 5∈[2,3,4,5] by decide)
     have vc:=qI ec
     have s44:=kc 44 rfl
     rw[vc] at s44
     obtain⟨⟨a0,c0,q1⟩,rc⟩:=mc.here hB
     clear kc ec mc
     subst q1
     have s42:=zU hk 3 42
     exact zF (v:=.agg #[zI Q.base,.slice a0 Q.zg.length c0]) hB rfl rfl (by unfold execOp;go_simp) ⟨.slice a0 Q.zg.length c0,by show [val 5,_]=_;rw[vc];rfl⟩
    ·intro a w val own hB hf zE hk
     obtain⟨kc,xc,ec,mc⟩:=hk 5 (show 5∈[2,3,4,5,6] by decide)
     have vc:=qI ec
     have s44:=kc 44 rfl
     rw[vc] at s44
     obtain⟨⟨a0,c0,q1⟩,rc⟩:=mc.here hB
     clear kc ec mc
     obtain⟨kd,xd,ed⟩:=hk 6 (show 6∈[2,3,4,5,6] by decide)
     have ed':[val 5,val 6]=_:=ed
     injection ed' with ed1 ed2
     have vd:=qI ed2
     rw[vc] at ed1
     subst ed1
     have s45:=kd 45 rfl
     rw[vd] at s45
     clear kd ed ed2 vd
     subst q1
     refine Z6 (v:=.slice (some ⟨w.heap.size,0,none⟩) 1 1) (w':=w.alloc (.cells #[.int .i64 Q.base,.slice a0 Q.zg.length c0] 78)) hB rfl rfl (by unfold execOp;go_simp) (zR _ _) ⟨(.slice a0 Q.zg.length c0,w.heap.size),?_,Made.new fun w1 _ _ hr=>?_⟩
     ·show [val 5,_]=_
      rw[vc]
      rfl
     ·exact fun j u hu=>((Bx.new w 78 [.int .i64 Q.base,.slice a0 Q.zg.length c0]).kept (hr _ zD (by simp))).cell j hu
   intro aE vI val own hB hf zE hk
   obtain⟨kc,xc,ec,mc⟩:=hk 5 (by decide)
   have vc:=qI ec
   have s44:=kc 44 rfl
   rw[vc] at s44
   obtain⟨⟨a0,c0,q1⟩,rc⟩:=mc.here hB
   clear kc ec mc
   obtain⟨kb,xb,eb,mb⟩:=hk 7 (by decide)
   have eb':[val 5,val 7]=_:=eb
   injection eb' with eba ebb
   have vb:=qI ebb
   have s46:=kb 46 rfl
   rw[vb] at s46
   obtain⟨ya,H⟩:=xb
   have hxx:xc=ya:=by rw[vc] at eba;exact eba
   subst hxx
   have mh:=mb.here hB
   dsimp only at mh
   subst q1
   have s40:=Z8 (hk 1 (by decide)) 40
   have hB0:zO W2 vI:=hB
   have hz0':=hB0.size
   obtain⟨a9,c9,W3,hrun,hP3,ko⟩:=HAP.out vI (.slice a0 Q.zg.length c0) H (v2.below hB0) rc rfl mh (by omega)
   have wg:=fun q (e:(Value.slice av k cv).ownBlock=some q)=>(v2.slice.2 q e).1
   have qR:zO w W3:=(yE.trans (hB0.mono z2)).grown ko (by omega) fun q e=>by have:=wg q e;omega
   have QX:=(uW.below hB0).grown ko (fun e=>by have:=wg _ e;omega)
   have hz3:=(hzz2.below hB0).grown ko (fun e=>by have:=wg _ e;omega)
   have g1:=QX.cell 1 rfl
   have gf1:=QX.frozen 1
   have HE:Hid (Bx (W3.setCell (zH g9 1) (.slice a9 (k+1) c9)) w.heap.size 34 [zI 0,zQ,zQ,zI 0,zQ,zI 0,zQ,zI 0]/\Bx (W3.setCell (zH g9 1) (.slice a9 (k+1) c9)) g9 34 [zI P.L.cells,.slice a9 (k+1) c9,.slice ao P.L.order.length co,zI P.L.now,zQ,zI born,.slice as' zm.length cs,zI code]/\uv P (g9+1) (W3.setCell (zH g9 1) (.slice a9 (k+1) c9)) (.slice a9 (k+1) c9) (k+1)/\zO w (W3.setCell (zH g9 1) (.slice a9 (k+1) c9))/\g9<(W3.setCell (zH g9 1) (.slice a9 (k+1) c9)).heap.size) :=
    ⟨hz3.other (by omega) _,QX.set 1 _,hP3.kept (by rw[World.size_setCell];exact Nat.le_refl _) fun g h1 _=>Below.heap_setCell _ _ _ _ (by show g≠g9;omega),qR.setCell (p:=zH g9 1) (by show w.heap.size<=g9;omega) _,by rw[World.size_setCell];have:=ko.size;omega⟩
   clear hP3 qR QX hz3 wg ko hB0 rc
   clear kb eb ebb vb mb mh vc eba
   have hu:=ux hf [39,40,41,42,43,44,45,46] (by kernel_rfl)
   dsimp only at hu
   simp only[List.foldl_cons,List.foldl_nil,List.setIfInBounds_toArray,List.set_cons_succ,List.set_cons_zero] at hu
   rw[s40,s46] at hu
   generalize aE.tmps[39]?.getD undef=u39 at hu
   generalize aE.tmps[41]?.getD undef=u41 at hu
   generalize aE.tmps[42]?.getD undef=u42 at hu
   generalize aE.tmps[43]?.getD undef=u43 at hu
   generalize aE.tmps[44]?.getD undef=u44 at hu
   generalize aE.tmps[45]?.getD undef=u45 at hu
   obtain rfl:=ZW hu (show aE.defers=[] from hf.defers)
   clear hu hk zE hf s40 s46 s44
   refine jr (v:=.slice a9 (k+1) c9) (w':=W3) rfl rfl (vU rfl (by go_simp) (by go_simp) hrun) ?_
   simp only[Act.put]
   refine jr (v:=zJ g9 1) (w':=W3) rfl rfl (by unfold execOp;go_simp) ?_
   simp only[Act.put]
   refine uc (w':=W3.setCell (zH g9 1) (.slice a9 (k+1) c9)) rfl rfl (by unfold execOp;go_simp) ?_
   simp only[Act.put]
   clear hrun hB g1 gf1
   refine wG (fun W9=>Bx W9 w.heap.size 34 [zI 0,zQ,zQ,zI 0,zQ,zI 0,zQ,zI 0]/\Bx W9 g9 34 [zI P.L.cells,.slice a9 (k+1) c9,.slice ao P.L.order.length co,zI P.L.now,zQ,zI born,.slice as' zm.length cs,zI code]/\uv P (g9+1) W9 (.slice a9 (k+1) c9) (k+1)/\zO w W9/\g9<W9.heap.size) HE.out ?_
   rintro W9 ⟨k1,k2,k3,k4,k5⟩
   clear HE
   go_wp2
   go_roundg (P.L.za.length - (k+1))
   case measure=>omega
   case rel=>exact⟨k+1,_,by omega,rfl,by go_num,k1,k2,k3,k4,k5⟩
  ·obtain rfl:k=P.L.za.length:=by omega
   obtain⟨⟨av,cv,hve⟩,Ja⟩:=hpr.slice
   subst hve
   have hbl9:=HL.out.box.below hbr
   rw[qz,jw] at hbl9
   have x4:=hbl9.cell 4 rfl
   have hTM:=(HL.out .zd).1.below hbr
   have hlen:=xw.len (P:=Tryz.prog) (t:=115) (by kernel_rfl) hTM 3
   rw[List.length_map] at hlen
   clear yd
   go_wp2_with fail
   obtain⟨wo,hwo⟩:∃wo,wo=wr:=⟨_,rfl⟩
   subst hwo
   go_loopg [12,13,55] P.L.zd.length (fun d _ _ q wt=>∃(k:Nat) (vtw:Value),k<=P.L.zd.length/\d=P.L.zd.length - k/\q=zI (k:Int)/\Bx wt w.heap.size 34 [zI 0,zQ,zQ,zI 0,zQ,zI 0,zQ,zI 0]/\Bx wt g9 34 [zI P.L.cells,.slice av P.L.za.length cv,.slice ao P.L.order.length co,zI P.L.now,vtw,zI born,.slice as' zm.length cs,zI code]/\ym wo.heap.size 8 wt vtw k ((List.range k).flatMap (kG P))/\zO w wt/\wo.heap.size<=wt.heap.size/\∀g,g9+1<=g->g<wo.heap.size->wt.heap[g]?=wo.heap[g]?)
   case atStart=>exact⟨0,_,Nat.zero_le _,rfl,rfl,hzr,hxr,ym.nil _ _ _,hbr,Nat.le_refl _,fun _ _ _=>rfl⟩
   case round =>
    obtain⟨k,vtw,hk,rfl,rfl,vJ,hx2',ht2,wI,hle,hkp⟩:=hrel
    obtain⟨at2,ct2,jA,_⟩:=ht2.slice
    subst jA
    have z2':=wI.size
    have hzo:=hbr.size
    have hxb:=HL.out.box.below wI
    rw[qz,jw] at hxb
    clear x4 hbl9 hTM hlen
    have x4:=hxb.cell 4 rfl
    by_cases yt:k<P.L.zd.length
    ·have v7:(k:Int)<(P.L.zd.length:Int):=by omega
     have hTM2:=(HL.out .zd).1.below wI
     have hlk:=xw.look (P:=Tryz.prog) (t:=115) (kt:=3) (et:=143) (by kernel_rfl) (by kernel_rfl) hTM2 (k:=k) (by simpa using yt)
     have hval:(P.L.zd.map (xJ P.D))[k]'(by simpa using yt)=xJ P.D P.L.zd[k]:=by simp
     rw[hval] at hlk
     unfold xJ at hlk
     have hbk:=HWF.out.tw k yt
     obtain⟨a1,k1,a2,k2,hT⟩:=HL.out.lists hbk
     have hbody:=(HL.out (.body P.L.zd[k].body) hbk).1
     have hgd:P.L.zd.getD k ⟨-1,0,0,0⟩=P.L.zd[k]:=by simp[yt]
     have WB:kG P k=if P.L.zd[k].page=-1 then [zI (-1),zI 0,zI P.L.zj[P.L.zd[k].body].m,zI P.L.zj[P.L.zd[k].body].pc,(P.T P.L.zd[k].body).1,(P.T P.L.zd[k].body).2,zI P.L.zd[k].zi,.bool P.L.zj[P.L.zd[k].body].zy] else [zI P.L.zd[k].page,zI P.L.zd[k].place,zI 0,zI 0,zQ,zQ,zI 0,.bool false]:=by unfold kG;rw[hgd,Qd hbk]
     obtain⟨b,hb⟩:∃b,P.L.zj[P.L.zd[k].body]=b:=⟨_,rfl⟩
     rw[hb] at hT hbody WB
     obtain⟨T,hTe⟩:∃T,P.L.zd[k]=T:=⟨_,rfl⟩
     rw[hTe] at hlk hT hbody WB
     rw[hT] at hbody WB
     clear hTM2 hval hgd hb hTe hbk hT
     go_upto_region 11 with fail
     refine yg (fun W'=>zO wr W'/\Bx W' wr.heap.size 143 [.int .i64 T.page,.int .i64 T.place,.pointer (some ⟨P.D T.body,0,none⟩),.int .i64 T.zi]) ⟨zR _ _,Bx.new _ _ _⟩ ?_
     rintro W2 ⟨t2,y2⟩
     have yE:=wI.trans (t2.mono z2')
     have z2:=yE.size
     have zt:=t2.size
     have t2':=ht2.below t2
     have uW:=hx2'.below t2
     have hzz2:=vJ.below t2
     have hkp2:∀g,g9+1<=g->g<wo.heap.size->W2.heap[g]?=wo.heap[g]?:=fun g h1 h2=>(t2.block g (by omega)).trans (hkp g h1 h2)
     have n0:=y2.cell 0 rfl
     have n1:=y2.cell 1 rfl
     have n2:=y2.cell 2 rfl
     have n3:=y2.cell 3 rfl
     have m4:=uW.cell 4 rfl
     have hwz:w.heap.size<g9:=by omega
     clear hlk x4 hxb ht2 hx2' vJ t2 y2 hkp
     by_cases xt:T.page=-1
     ·rw[if_pos xt] at WB
      have hto:=WB
      clear WB
      have HCB:Hid (∀X,zO W2 X->Calls Tryz.prog 89 #[zJ (P.D T.body) 0,zI T.zi] X fun e w'=>e=.returned (.agg #[zI b.m,zI b.pc,.slice a1 b.zh.length k1,.slice a2 b.zf.length k2,zI T.zi,.bool b.zy])/\zO X w'):=fun X hX=>VW T.zi X ((hbody.below yE).below hX)
      rw[xt] at n0
      clear hbody
      go_wp2_with fail
      refine Yd [[],[0],[],[2],[],[4],[2,3,4,5],[2,3,4,5,6],[2,3,4,5,6,7],[0,1,2,3,4,5,6,7,8],[0,1,2,3,4,5,6,7,8,9],[0,1,2,3,4,5,6,7,8,9,10]] [[0],[1],[2],[3],[4],[5],[6],[7],[8],[],[],[]] [[],[],[],[],[],[],[],[],[],[],[],[]] [jy (zJ g9 4),jy (.slice at2 k ct2),jy (zJ wr.heap.size 2),jy (zJ (P.D T.body) 0),jy (zJ wr.heap.size 3),jy (zI T.zi),jy (.agg #[zI b.m,zI b.pc,.slice a1 b.zh.length k1,.slice a2 b.zf.length k2,zI T.zi,.bool b.zy]),jy (.agg #[zI (-1),zI 0,zI b.m,zI b.pc,.slice a1 b.zh.length k1,.slice a2 b.zf.length k2,zI T.zi,.bool b.zy]),fGh 8 (fun(x:Nat) l=>l=[zK x 0 1 1]) (fun x w1=>∀j u,([zI (-1),zI 0,zI b.m,zI b.pc,.slice a1 b.zh.length k1,.slice a2 b.zf.length k2,zI T.zi,.bool b.zy]:List Value)[j]?=some u->w1.cell? (zH x j)=some u),JD fun _=>True,JD fun _=>True,JD fun _=>True] 9 2 rfl (by kernel_rfl) (by kernel_rfl) (by kernel_rfl) (by kernel_rfl) ?_ ?_
      ·refine zk (zk (zk (zk (zk (zk (zk (zk (zk (jE) ?_) ?_) ?_) ?_) ?_) ?_) ?_) ?_) ?_
       ·intro a w val own hB hf zE hk
        have s9:=hf.at (d:=9) (v:=zJ g9 0) (by kernel_rfl) rfl
        exact zF (v:=zJ g9 4) hB
       ·intro a w val own hB hf zE hk
        have s67:=zU hk 0 67
        have cm4:=zc hB m4
        exact zF (v:=.slice at2 k ct2) hB
       ·intro a w val own hB hf zE hk
        have s13:=hf.at (d:=13) (v:=zJ wr.heap.size 0) (by kernel_rfl) rfl
        exact zF (v:=zJ wr.heap.size 2) hB
       ·intro a w val own hB hf zE hk
        have s69:=zU hk 2 69
        have cn2:=zc hB n2
        exact zF (v:=zJ (P.D T.body) 0) hB
       ·intro a w val own hB hf zE hk
        have s13:=hf.at (d:=13) (v:=zJ wr.heap.size 0) (by kernel_rfl) rfl
        exact zF (v:=zJ wr.heap.size 3) hB
       ·intro a w val own hB hf zE hk
        have s71:=zU hk 4 71
        have cn3:=zc hB n3
        exact zF (v:=zI T.zi) hB
       ·intro a w val own hB hf zE hk
        have s70:=zU hk 3 70
        have s72:=zU hk 5 72
        exact uK hB rfl rfl (by unfold execOp;go_simp) ((HCB.out w hB).mono fun e w' ⟨he,hb⟩=>⟨_,he,hb,rfl⟩)
       ·intro a w val own hB hf zE hk
        have s73:=zU hk 6 73
        exact zF (v:=.agg #[zI (-1),zI 0,zI b.m,zI b.pc,.slice a1 b.zh.length k1,.slice a2 b.zf.length k2,zI T.zi,.bool b.zy]) hB
       ·intro a w val own hB hf zE hk
        have s74:=zU hk 7 74
        refine Z6 (v:=.slice (some ⟨w.heap.size,0,none⟩) 1 1) (w':=w.alloc (.cells #[.int .i64 (-1),.int .i64 0,.int .i64 b.m,.int .i64 b.pc,.slice a1 b.zh.length k1,.slice a2 b.zf.length k2,.int .i64 T.zi,.bool b.zy] 124)) hB rfl rfl (by unfold execOp;go_simp) (zR _ _) ⟨w.heap.size,rfl,Made.new fun w1 _ _ hr=>?_⟩
        exact fun j u hu=>((Bx.new w 124 [.int .i64 (-1),.int .i64 0,.int .i64 b.m,.int .i64 b.pc,.slice a1 b.zh.length k1,.slice a2 b.zf.length k2,.int .i64 T.zi,.bool b.zy]).kept (hr _ zD (by simp))).cell j hu
      intro aE vI val own hB hf zE hk
      obtain⟨kb,H,eb,mb⟩:=hk 8 (by decide)
      have vb:=qI eb
      have s75:=kb 75 rfl
      rw[vb] at s75
      have mh:=mb.here hB
      have s68:=Z8 (hk 1 (by decide)) 68
      have hB0:zO W2 vI:=hB
      have hz0':=hB0.size
      have mh2:∀j x,(kG P k)[j]?=some x->vI.cell? (zH H j)=some x:=by rw[hto];exact mh
      obtain⟨a9,c9,W3,hrun,qf,ko⟩:=XC (P:=P) (w:=vI) (t2'.below hB0) (by rw[hto];intro u hu;simp at hu;rcases hu with rfl | rfl | rfl | rfl | rfl | rfl | rfl | rfl <;> rfl) H mh2 (by omega) (by omega)
      have wg:=fun q (e:(Value.slice at2 k ct2).ownBlock=some q)=>(t2'.lt q e)
      have qR:zO w W3:=(yE.trans (hB0.mono z2)).grown ko (by omega) fun q e=>by have:=wg q e;omega
      have QX:=(uW.below hB0).grown ko (fun e=>by have:=wg _ e;omega)
      have hz3:=(hzz2.below hB0).grown ko (fun e=>by have:=wg _ e;omega)
      have g1:=QX.cell 4 rfl
      have gf1:=QX.frozen 4
      have HE:Hid (Bx (W3.setCell (zH g9 4) (.slice a9 (k+1) c9)) w.heap.size 34 [zI 0,zQ,zQ,zI 0,zQ,zI 0,zQ,zI 0]/\Bx (W3.setCell (zH g9 4) (.slice a9 (k+1) c9)) g9 34 [zI P.L.cells,.slice av P.L.za.length cv,.slice ao P.L.order.length co,zI P.L.now,.slice a9 (k+1) c9,zI born,.slice as' zm.length cs,zI code]/\ym wo.heap.size 8 (W3.setCell (zH g9 4) (.slice a9 (k+1) c9)) (.slice a9 (k+1) c9) (k+1) ((List.range (k+1)).flatMap (kG P))/\zO w (W3.setCell (zH g9 4) (.slice a9 (k+1) c9))/\wo.heap.size<=(W3.setCell (zH g9 4) (.slice a9 (k+1) c9)).heap.size/\∀g,g9+1<=g->g<wo.heap.size->(W3.setCell (zH g9 4) (.slice a9 (k+1) c9)).heap[g]?=wo.heap[g]?) :=
       ⟨hz3.other (by omega) _,QX.set 4 _,qf.kept (by rw[World.size_setCell];exact Nat.le_refl _) fun g e=>Below.heap_setCell _ _ _ _ (by have:=(qf.lt g e).1;show g≠g9;omega),qR.setCell (p:=zH g9 4) (by show w.heap.size<=g9;omega) _,by rw[World.size_setCell];have:=ko.size;omega,
        fun g h1 h2=>by rw[Below.heap_setCell _ _ _ _ (by show g≠g9;omega),ko.block g (by omega) (fun e=>by have:=wg g e.symm;omega),hB0.block g (by omega)];exact hkp2 g h1 h2⟩
      clear qf qR QX hz3 wg ko mh2
      clear hB0
      clear kb eb vb mb mh
      have hu:=ux hf [67,68,69,70,71,72,73,74,75] (by kernel_rfl)
      dsimp only at hu
      simp only[List.foldl_cons,List.foldl_nil,List.setIfInBounds_toArray,List.set_cons_succ,List.set_cons_zero] at hu
      rw[s68,s75] at hu
      generalize aE.tmps[67]?.getD undef=u67 at hu
      generalize aE.tmps[69]?.getD undef=u69 at hu
      generalize aE.tmps[70]?.getD undef=u70 at hu
      generalize aE.tmps[71]?.getD undef=u71 at hu
      generalize aE.tmps[72]?.getD undef=u72 at hu
      generalize aE.tmps[73]?.getD undef=u73 at hu
      generalize aE.tmps[74]?.getD undef=u74 at hu
      obtain rfl:=ZW hu (show aE.defers=[] from hf.defers)
      clear hu hk zE hf s68 s75
      refine jr (v:=.slice a9 (k+1) c9) (w':=W3) rfl rfl (vU rfl (by go_simp) (by go_simp) hrun) ?_
      simp only[Act.put]
      refine jr (v:=zJ g9 4) (w':=W3) rfl rfl (by unfold execOp;go_simp) ?_
      simp only[Act.put]
      refine uc (w':=W3.setCell (zH g9 4) (.slice a9 (k+1) c9)) rfl rfl (by unfold execOp;go_simp) ?_
      simp only[Act.put]
      clear hrun hB g1 gf1
      refine wG (fun W9=>Bx W9 w.heap.size 34 [zI 0,zQ,zQ,zI 0,zQ,zI 0,zQ,zI 0]/\Bx W9 g9 34 [zI P.L.cells,.slice av P.L.za.length cv,.slice ao P.L.order.length co,zI P.L.now,.slice a9 (k+1) c9,zI born,.slice as' zm.length cs,zI code]/\ym wo.heap.size 8 W9 (.slice a9 (k+1) c9) (k+1) ((List.range (k+1)).flatMap (kG P))/\zO w W9/\wo.heap.size<=W9.heap.size/\∀g,g9+1<=g->g<wo.heap.size->W9.heap[g]?=wo.heap[g]?) HE.out ?_
      rintro W9 ⟨k1,k2,k3,k4,k5,k6⟩
      clear HE
      go_wp2
      go_roundg (P.L.zd.length - (k+1))
      case measure=>omega
      case rel=>exact⟨k+1,_,by omega,rfl,by go_num,k1,k2,k3,k4,k5,k6⟩
     ·rw[if_neg xt] at WB
      have hto:=WB
      have hpb:(T.page == -1)=false:=by simpa using xt
      clear WB hbody
      obtain⟨H,hH⟩:∃H,W2.heap.size=H:=⟨_,rfl⟩
      obtain⟨WA,hWA⟩:∃WA,W2.alloc (.cells #[.int .i64 T.page,.int .i64 T.place,.int .i64 0,.int .i64 0,.slice none 0 0,.slice none 0 0,.int .i64 0,.bool false] 124)=WA:=⟨_,rfl⟩
      have hB0:zO W2 WA:=by rw[<-hWA];exact zR _ _
      have hz0':=hB0.size
      have mh:∀j x,([zI T.page,zI T.place,zI 0,zI 0,zQ,zQ,zI 0,.bool false]:List Value)[j]?=some x->WA.cell? (zH H j)=some x:=by
       rw[<-hWA,<-hH]
       exact fun j u hu=>(Bx.new W2 124 _).cell j hu
      have mh2:∀j x,(kG P k)[j]?=some x->WA.cell? (zH H j)=some x:=by rw[hto];exact mh
      obtain⟨a9,c9,W3,hrun,qf,ko⟩:=XC (P:=P) (w:=WA) (t2'.below hB0) (by rw[hto];intro u hu;simp at hu;rcases hu with rfl | rfl | rfl | rfl | rfl | rfl <;> rfl) H mh2 (by omega) (by omega)
      have wg:=fun q (e:(Value.slice at2 k ct2).ownBlock=some q)=>(t2'.lt q e)
      have qR:zO w W3:=(yE.trans (hB0.mono z2)).grown ko (by omega) fun q e=>by have:=wg q e;omega
      have QX:=(uW.below hB0).grown ko (fun e=>by have:=wg _ e;omega)
      have hz3:=(hzz2.below hB0).grown ko (fun e=>by have:=wg _ e;omega)
      have g1:=QX.cell 4 rfl
      have gf1:=QX.frozen 4
      have HE:Hid (Bx (W3.setCell (zH g9 4) (.slice a9 (k+1) c9)) w.heap.size 34 [zI 0,zQ,zQ,zI 0,zQ,zI 0,zQ,zI 0]/\Bx (W3.setCell (zH g9 4) (.slice a9 (k+1) c9)) g9 34 [zI P.L.cells,.slice av P.L.za.length cv,.slice ao P.L.order.length co,zI P.L.now,.slice a9 (k+1) c9,zI born,.slice as' zm.length cs,zI code]/\ym wo.heap.size 8 (W3.setCell (zH g9 4) (.slice a9 (k+1) c9)) (.slice a9 (k+1) c9) (k+1) ((List.range (k+1)).flatMap (kG P))/\zO w (W3.setCell (zH g9 4) (.slice a9 (k+1) c9))/\wo.heap.size<=(W3.setCell (zH g9 4) (.slice a9 (k+1) c9)).heap.size/\∀g,g9+1<=g->g<wo.heap.size->(W3.setCell (zH g9 4) (.slice a9 (k+1) c9)).heap[g]?=wo.heap[g]?) :=
       ⟨hz3.other (by omega) _,QX.set 4 _,qf.kept (by rw[World.size_setCell];exact Nat.le_refl _) fun g e=>Below.heap_setCell _ _ _ _ (by have:=(qf.lt g e).1;show g≠g9;omega),qR.setCell (p:=zH g9 4) (by show w.heap.size<=g9;omega) _,by rw[World.size_setCell];have:=ko.size;omega,
        fun g h1 h2=>by rw[Below.heap_setCell _ _ _ _ (by show g≠g9;omega),ko.block g (by omega) (fun e=>by have:=wg g e.symm;omega),hB0.block g (by omega)];exact hkp2 g h1 h2⟩
      clear qf qR QX hz3 wg ko mh2
      rw[<-hWA] at hrun
      subst hH
      clear hWA hB0 mh hz0'
      go_upto_region 14 with(at_builtin;refine Qt (by rfl) _ _ (by rfl) (by rfl) (by rfl) (by rfl) hrun ?_)
      refine yg (fun W9=>Bx W9 w.heap.size 34 [zI 0,zQ,zQ,zI 0,zQ,zI 0,zQ,zI 0]/\Bx W9 g9 34 [zI P.L.cells,.slice av P.L.za.length cv,.slice ao P.L.order.length co,zI P.L.now,.slice a9 (k+1) c9,zI born,.slice as' zm.length cs,zI code]/\ym wo.heap.size 8 W9 (.slice a9 (k+1) c9) (k+1) ((List.range (k+1)).flatMap (kG P))/\zO w W9/\wo.heap.size<=W9.heap.size/\∀g,g9+1<=g->g<wo.heap.size->W9.heap[g]?=wo.heap[g]?) HE.out ?_
      rintro W9 ⟨k1,k2,k3,k4,k5,k6⟩
      clear HE hrun
      go_wp2
      go_roundg (P.L.zd.length - (k+1))
      case measure=>omega
      case rel=>exact⟨k+1,_,by omega,rfl,by go_num,k1,k2,k3,k4,k5,k6⟩
    ·obtain rfl:k=P.L.zd.length:=by omega
     obtain⟨⟨s0,s1,s2,s3,s4,s5,s6,s7⟩,_⟩:=jW hx2'
     obtain⟨⟨r0,r1,r2,r3,r4,r5,r6,r7⟩,f0,f1,f2,f3,f4,f5,f6,f7⟩:=jW vJ
     have hwz:w.heap.size<g9:=by omega
     clear x4 hxb
     go_wp2
     refine xW (fun W'=>zO w W'/\Bx W' w.heap.size 34 [zI P.L.cells,.slice av P.L.za.length cv,.slice ao P.L.order.length co,zI P.L.now,.slice at2 P.L.zd.length ct2,zI born,.slice as' zm.length cs,zI code]/\wr.heap.size<=W'.heap.size/\∀g,g≠w.heap.size->W'.heap[g]?=wr.heap[g]?) ⟨((((((((wI.setCell (p:=zH w.heap.size 0) zD _).setCell (p:=zH w.heap.size 1) zD _).setCell (p:=zH w.heap.size 2) zD _).setCell (p:=zH w.heap.size 3) zD _).setCell (p:=zH w.heap.size 4) zD _).setCell (p:=zH w.heap.size 5) zD _).setCell (p:=zH w.heap.size 6) zD _).setCell (p:=zH w.heap.size 7) zD _),((((((((vJ.set 0 _).set 1 _).set 2 _).set 3 _).set 4 _).set 5 _).set 6 _).set 7 _),(by simp only[World.size_setCell];exact Nat.le_refl _),fun g hg=>by rw[Below.heap_setCell _ _ _ _ hg,Below.heap_setCell _ _ _ _ hg,Below.heap_setCell _ _ _ _ hg,Below.heap_setCell _ _ _ _ hg,Below.heap_setCell _ _ _ _ hg,Below.heap_setCell _ _ _ _ hg,Below.heap_setCell _ _ _ _ hg,Below.heap_setCell _ _ _ _ hg]⟩ ?_
     rintro W9 ⟨k1,k2,k3,k4⟩
     obtain⟨⟨q0,q1,q2,q3,q4,q5,q6,q7⟩,_⟩:=jW k2
     have hMO:uF P w.heap.size W9 (.slice av P.L.za.length cv) (.slice at2 P.L.zd.length ct2):=⟨wo,g9+1,by omega,hpr,by omega,Nat.le_trans hle k3,fun g h1 h2=>(k4 g (by omega)).trans (hkp g h1 h2),ht2.kept k3 fun g e=>k4 g (by have:=(ht2.lt g e).1;omega)⟩
     exact bodyPost_ret (v:=.agg #[zI P.L.cells,.slice av P.L.za.length cv,.slice ao P.L.order.length co,zI P.L.now,.slice at2 P.L.zd.length ct2,zI born,.slice as' zm.length cs,zI code]) (by simp[results,Tryz.results48,go_sem,q0,q1,q2,q3,q4,q5,q6,q7]) rfl ⟨.slice av P.L.za.length cv,.slice at2 P.L.zd.length ct2,by rw[jw];rfl,hMO,k1⟩
end Go.Proofs.YtbjgjjkgfnfejaaGreatDoor

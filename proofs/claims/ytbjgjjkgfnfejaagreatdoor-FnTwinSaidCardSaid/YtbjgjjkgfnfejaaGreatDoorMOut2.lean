/-
  A machine at work is handed out: mach. (Written by mkmach.py.)
-/
import Derived.Test.YtbjgjjkgfnfejaaGreatDoorMKeep3
namespace Go.Proofs.YtbjgjjkgfnfejaaGreatDoor
open Go.RowKit
def ww (L:yF) (k:Nat):jg:=L.zj.getD k jg.none
def frM (L:yF) (f:ki):Fr:=⟨(ww L f.body).m,(ww L f.body).pc,f.twin,(ww L f.body).zg,(ww L f.body).zf⟩
def pgM (L:yF) (p:wh):Pg:=⟨p.base,p.zh.map (frM L)⟩
def twM (L:yF) (t:kN):Tw:=if t.page=-1 then⟨-1,0,⟨(ww L t.body).m,(ww L t.body).pc,(ww L t.body).zg,(ww L t.body).zf,t.zi,(ww L t.body).zv⟩⟩ else⟨t.page,t.place,⟨0,0,[],[],0,false⟩⟩
def JH (L:yF) (born:Int) (zm:yH) (code:Int):Mc:=⟨L.cells,L.zd.map (pgM L),L.order,L.now,L.ze.map (twM L),born,zm,code⟩
theorem Uq {L:yF} {k:Nat} (h:k<L.zj.length):ww L k=L.zj[k]:=by simp[ww,h]
theorem Vc {B:Nat} {ρ:Nat->Rl} {w w':World} {P:Lay} (h:yj B ρ w P) (hb:zO w w') {fs:List ki} (hwf:∀k,(hk:k<fs.length)->fs[k].body<P.L.zj.length) {v:Value} {B':Nat}
 (hr:yg B' 5 w' v fs.length ((List.range fs.length).flatMap (wE P fs))):vj w' v (fs.map (frM P.L)):=by
 obtain⟨av,cv,hv,hm⟩:=hr.slice
 refine⟨av,cv,by rw[hv,List.length_map],by rw[List.length_map];exact hm,fun q hq=>?_⟩
 have hq':q<fs.length:=by simpa using hq
 subst hv
 obtain⟨g,off,cap,e,_,_⟩:=hr.form (by omega)
 cases e
 have hk:=hwf q hq'
 have c:=fun j (hj:j<5)=>Q2 (f:=wE P fs) (sz:=5) (fun i=>zcB P fs i) fs.length q j hq' hj
 have e0:fs.getD q ⟨0,-1⟩=fs[q]:=by simp[hq']
 have e1:P.L.zj.getD fs[q].body jg.none=ww P.L fs[q].body:=rfl
 have c0:=(hr.cell (c 0 (by omega))).1
 have c1:=(hr.cell (c 1 (by omega))).1
 have c2:=(hr.cell (c 2 (by omega))).1
 have c3:=(hr.cell (c 3 (by omega))).1
 have c4:=(hr.cell (c 4 (by omega))).1
 have ht:=((h (.zg _) hk).1.at).below hb
 have hs:=((h (.zf _) hk).1.at).below hb
 rw[<-Uq hk] at ht hs
 have em:(fs.map (frM P.L))[q]=frM P.L fs[q]:=by simp
 rw[em]
 refine⟨g,off,(P.T fs[q].body).1,(P.T fs[q].body).2,rfl,?_,?_,?_,?_,?_,ht,hs⟩
 ·have:w'.cell? (zH g (off+(q * 5+0)))=some (zI (P.L.zj.getD (fs.getD q ⟨0,-1⟩).body jg.none).m):=c0
  rw[e0] at this
  exact this
 ·have:w'.cell? (zH g (off+(q * 5+1)))=some (zI (P.L.zj.getD (fs.getD q ⟨0,-1⟩).body jg.none).pc):=c1
  rw[e0,<-Nat.add_assoc] at this
  exact this
 ·have:w'.cell? (zH g (off+(q * 5+2)))=some (zI (fs.getD q ⟨0,-1⟩).twin):=c2
  rw[e0,<-Nat.add_assoc] at this
  exact this
 ·have:w'.cell? (zH g (off+(q * 5+3)))=some (P.T (fs.getD q ⟨0,-1⟩).body).1:=c3
  rw[e0,<-Nat.add_assoc] at this
  exact this
 ·have:w'.cell? (zH g (off+(q * 5+4)))=some (P.T (fs.getD q ⟨0,-1⟩).body).2:=c4
  rw[e0,<-Nat.add_assoc] at this
  exact this
theorem Tryz.infoPageO:(Tryz.prog.info? 78).map (fun i=>(i.zero,i.size,i.bytes))=some (some (.agg #[zI 0,zQ]),2,32):=by kernel_rfl
theorem Kc {f g:Nat->List Value}:∀n,(∀i,i<n->f i=g i)->(List.range n).flatMap f=(List.range n).flatMap g
 | 0,_=>rfl
 | n+1,h=>by rw[Zx,Zx,Kc n (fun i hi=>h i (by omega)),h n (by omega)]
def un (P:Lay) (B':Nat) (w:World) (v:Value) (k:Nat):Prop :=
 ∃V:Nat->Value,yg B' 2 w v k ((List.range k).flatMap fun q=>[zI (P.L.zd.getD q ⟨-1,[]⟩).base,V q]) /\
  ∀q,q<k->yg B' 5 w (V q) (P.L.zd.getD q ⟨-1,[]⟩).zh.length ((List.range (P.L.zd.getD q ⟨-1,[]⟩).zh.length).flatMap (wE P (P.L.zd.getD q ⟨-1,[]⟩).zh))/\∀g,(V q).ownBlock=some g->v.ownBlock≠some g
theorem un.kept {P:Lay} {B' k:Nat} {w w':World} {v:Value} (h:un P B' w v k) (hs:w.heap.size<=w'.heap.size) (hb:∀g,B'<=g->g<w.heap.size->w'.heap[g]?=w.heap[g]?):un P B' w' v k:=by
 obtain⟨V,h1,h2⟩:=h
 exact⟨V,h1.kept hs fun g e=>hb g (h1.lt g e).1 (h1.lt g e).2,fun q hq=>⟨(h2 q hq).1.kept hs fun g e=>hb g ((h2 q hq).1.lt g e).1 ((h2 q hq).1.lt g e).2,(h2 q hq).2⟩⟩
theorem un.below {P:Lay} {B' k:Nat} {w w':World} {v:Value} (h:un P B' w v k) (hb:zO w w'):un P B' w' v k:=h.kept hb.size fun g _ h2=>hb.block g h2
theorem un.slice {P:Lay} {B' k:Nat} {w:World} {v:Value} (h:un P B' w v k):(∃a c,v=.slice a k c)/\∀g,v.ownBlock=some g->B'<=g/\g<w.heap.size:=by
 obtain⟨V,h1,_⟩:=h
 obtain⟨a,c,e,_⟩:=h1.slice
 exact⟨⟨a,c,e⟩,h1.lt⟩
theorem un.append {P:Lay} {B' B2 k:Nat} {w:World} {v u:Value} (h:un P B' w v k) (hk:k<P.L.zd.length) (hu:yg B2 5 w u P.L.zd[k].zh.length ((List.range P.L.zd[k].zh.length).flatMap (wE P P.L.zd[k].zh))) (h2:B'<=B2)
 (hv:∀g,v.ownBlock=some g->g<B2) (hus:u.oneCell'=true) (H:Nat) (hx:∀j x,([zI P.L.zd[k].base,u]:List Value)[j]?=some x->w.cell? (zH H j)=some x) (hB:B'<=w.heap.size) (hkf:k<=2900000) :
 ∃a' c' w',(Builtin.append_ #[29,29] 29 #[v,zK H 0 1 1]).run Tryz.prog w=.ok (.slice a' (k+1) c') w'/\un P B' w' (.slice a' (k+1) c') (k+1)/\w.grownBy w' v.ownBlock:=by
 obtain⟨i0,hii,jT,xF,kf⟩:=info_parts Tryz.infoPageO
 obtain⟨V,h1,hV⟩:=h
 have hgd:P.L.zd.getD k ⟨-1,[]⟩=P.L.zd[k]:=by simp[hk]
 obtain⟨v',w',hrun,zT,hg,hor⟩:=vu (P:=Tryz.prog) (t:=29) (ty:=29) Tryz.underlying29 hii jT xF rfl (by omega) h1 [zI P.L.zd[k].base,u] rfl (by intro x hx;simp at hx;rcases hx with rfl | rfl;rfl;exact hus) H 1 hx hkf hB
 obtain⟨a',c',hv',_⟩:=zT.slice
 subst hv'
 refine⟨a',c',w',hrun,⟨fun q=>if q=k then u else V q,?_,fun q hq=>?_⟩,hg⟩
 ·rw[Zx,hgd]
  simp only[if_true]
  rw[Kc (g:=fun q=>[Value.int .i64 (P.L.zd.getD q ⟨-1,[]⟩).base,V q]) k fun i hi=>by rw[if_neg (by omega)]]
  exact zT
 ·by_cases e:q=k
  ·subst e
   simp only[if_true]
   rw[hgd]
   refine⟨(hu.mono h2).kept hg.size fun g e=>hg.block g (hu.lt g e).2 fun e2=>by have:=hv g e2.symm;have:=(hu.lt g e).1;omega,fun g e e2=>?_⟩
   rcases hor with h9 | h9
   ·rw[h9] at e2;have:=hv g e2;have:=(hu.lt g e).1;omega
   ·rw[h9] at e2;injection e2 with e2;have:=(hu.lt g e).2;omega
  ·simp only[if_neg e]
   obtain⟨q1,q2⟩:=hV q (by omega)
   refine⟨q1.kept hg.size fun g e=>hg.block g (q1.lt g e).2 fun e2=>q2 g e e2.symm,fun g e e2=>?_⟩
   rcases hor with h9 | h9
   ·rw[h9] at e2;exact q2 g e e2
   ·rw[h9] at e2;injection e2 with e2;have:=(q1.lt g e).2;omega
theorem Tryz.infoTwinO:(Tryz.prog.info? 124).map (fun i=>(i.zero,i.size,i.bytes))=some (some (.agg #[zI 0,zI 0,zI 0,zI 0,zQ,zQ,zI 0,.bool false]),8,96):=by kernel_rfl
def kp (P:Lay) (q:Nat):List Value :=
 if(P.L.ze.getD q ⟨-1,0,0,0⟩).page=-1 then
  [zI (-1),zI 0,zI (ww P.L (P.L.ze.getD q ⟨-1,0,0,0⟩).body).m,zI (ww P.L (P.L.ze.getD q ⟨-1,0,0,0⟩).body).pc,(P.T (P.L.ze.getD q ⟨-1,0,0,0⟩).body).1,(P.T (P.L.ze.getD q ⟨-1,0,0,0⟩).body).2,zI (P.L.ze.getD q ⟨-1,0,0,0⟩).zi,.bool (ww P.L (P.L.ze.getD q ⟨-1,0,0,0⟩).body).zv]
 else [zI (P.L.ze.getD q ⟨-1,0,0,0⟩).page,zI (P.L.ze.getD q ⟨-1,0,0,0⟩).place,zI 0,zI 0,zQ,zQ,zI 0,.bool false]
theorem Ud (P:Lay) (q:Nat):(kp P q).length=8:=by unfold kp;split <;> rfl
theorem Xl {P:Lay} {B' k:Nat} {w:World} {v:Value} (h:yg B' 8 w v k ((List.range k).flatMap (kp P))) (h1:∀u∈kp P k,u.oneCell'=true) (H:Nat) (hx:∀j x,(kp P k)[j]?=some x->w.cell? (zH H j)=some x) (hB:B'<=w.heap.size) (hkf:k<=2900000) :
 ∃a' c' w',(Builtin.append_ #[31,31] 31 #[v,zK H 0 1 1]).run Tryz.prog w=.ok (.slice a' (k+1) c') w'/\yg B' 8 w' (.slice a' (k+1) c') (k+1) ((List.range (k+1)).flatMap (kp P))/\w.grownBy w' v.ownBlock:=by
 obtain⟨i0,hii,jT,xF,kf⟩:=info_parts Tryz.infoTwinO
 obtain⟨v',w',hrun,zT,hg,_⟩:=vu (P:=Tryz.prog) (t:=31) (ty:=31) Tryz.underlying31 hii jT xF rfl (by omega) h (kp P k) (Ud P k) h1 H 1 hx hkf hB
 obtain⟨a',c',hv',_⟩:=zT.slice
 subst hv'
 rw[<-Zx] at zT
 exact⟨a',c',w',hrun,zT,hg⟩
theorem zab {B:Nat} {ρ:Nat->Rl} {w:World} {P:Lay} (h:yj B ρ w P) (hwf:P.L.wf) {B':Nat} {v:Value} (hp:un P B' w v P.L.zd.length) (hn:P.L.zd.length<=1000):wZ w v (P.L.zd.map (pgM P.L)):=by
 obtain⟨V,h1,h2⟩:=hp
 obtain⟨av,cv,hv,hm⟩:=h1.slice
 refine⟨av,cv,by rw[hv,List.length_map],by rw[List.length_map];exact hm,fun q hq=>?_⟩
 have hq':q<P.L.zd.length:=by simpa using hq
 have hgd:P.L.zd.getD q ⟨-1,[]⟩=P.L.zd[q]:=by simp[hq']
 subst hv
 obtain⟨g,off,cap,e,_,_⟩:=h1.form (by omega)
 cases e
 have c:=fun j (hj:j<2)=>Q2 (f:=fun q=>[Value.int .i64 (P.L.zd.getD q ⟨-1,[]⟩).base,V q]) (sz:=2) (fun i=>rfl) P.L.zd.length q j hq' hj
 have c0:=(h1.cell (c 0 (by omega))).1
 have c1:=(h1.cell (c 1 (by omega))).1
 obtain⟨r1,_⟩:=h2 q hq'
 rw[hgd] at r1
 have hf:=Vc h zS (fun k hk=>hwf.fr q hq' k hk) r1
 have em:(P.L.zd.map (pgM P.L))[q]=pgM P.L P.L.zd[q]:=by simp
 rw[em]
 refine⟨g,off,V q,rfl,?_,?_,hf⟩
 ·have:w.cell? (zH g (off+(q * 2+0)))=some (zI (P.L.zd.getD q ⟨-1,[]⟩).base):=c0
  rw[hgd] at this
  exact this
 ·have:w.cell? (zH g (off+(q * 2+1)))=some (V q):=c1
  rw[<-Nat.add_assoc] at this
  exact this
theorem zax {B:Nat} {ρ:Nat->Rl} {w:World} {P:Lay} (h:yj B ρ w P) (hwf:P.L.wf) {B':Nat} {v:Value} (hp:yg B' 8 w v P.L.ze.length ((List.range P.L.ze.length).flatMap (kp P))):vX w v (P.L.ze.map (twM P.L)):=by
 obtain⟨av,cv,hv,hm⟩:=hp.slice
 refine⟨av,cv,by rw[hv,List.length_map],by rw[List.length_map];exact hm,fun q hq=>?_⟩
 have hq':q<P.L.ze.length:=by simpa using hq
 have hgd:P.L.ze.getD q ⟨-1,0,0,0⟩=P.L.ze[q]:=by simp[hq']
 subst hv
 obtain⟨g,off,cap,e,_,_⟩:=hp.form (by omega)
 cases e
 have c:=fun j (hj:j<8)=>Q2 (f:=kp P) (sz:=8) (fun i=>Ud P i) P.L.ze.length q j hq' hj
 have cell:∀j x,j<8->(kp P q)[j]?=some x->w.cell? (zH g (off+q * 8+j))=some x:=fun j x hj hx=>by
  have:=(hp.cell (j:=q * 8+j) ((c j hj).trans hx)).1
  rwa [<-Nat.add_assoc] at this
 have em:(P.L.ze.map (twM P.L))[q]=twM P.L P.L.ze[q]:=by simp
 rw[em]
 have hk:=hwf.tw q hq'
 by_cases xE:P.L.ze[q].page=-1
 ·have ht:kp P q=[zI (-1),zI 0,zI (ww P.L P.L.ze[q].body).m,zI (ww P.L P.L.ze[q].body).pc,(P.T P.L.ze[q].body).1,(P.T P.L.ze[q].body).2,zI P.L.ze[q].zi,.bool (ww P.L P.L.ze[q].body).zv]:=by unfold kp;rw[hgd,if_pos xE]
  have QP:twM P.L P.L.ze[q]=⟨-1,0,⟨(ww P.L P.L.ze[q].body).m,(ww P.L P.L.ze[q].body).pc,(ww P.L P.L.ze[q].body).zg,(ww P.L P.L.ze[q].body).zf,P.L.ze[q].zi,(ww P.L P.L.ze[q].body).zv⟩⟩:=by unfold twM;rw[if_pos xE]
  have o1:=((h (.zg _) hk).1.at)
  have o2:=((h (.zf _) hk).1.at)
  rw[<-Uq hk] at o1 o2
  rw[QP]
  exact⟨g,off,_,_,rfl,cell 0 _ (by omega) (by rw[ht];rfl),cell 1 _ (by omega) (by rw[ht];rfl),cell 2 _ (by omega) (by rw[ht];rfl),cell 3 _ (by omega) (by rw[ht];rfl),cell 4 _ (by omega) (by rw[ht];rfl),cell 5 _ (by omega) (by rw[ht];rfl),cell 6 _ (by omega) (by rw[ht];rfl),cell 7 _ (by omega) (by rw[ht];rfl),o1,o2⟩
 ·have ht:kp P q=[zI P.L.ze[q].page,zI P.L.ze[q].place,zI 0,zI 0,zQ,zQ,zI 0,.bool false]:=by unfold kp;rw[hgd,if_neg xE]
  have QP:twM P.L P.L.ze[q]=⟨P.L.ze[q].page,P.L.ze[q].place,⟨0,0,[],[],0,false⟩⟩:=by unfold twM;rw[if_neg xE]
  have on:yo w (zQ) []:=⟨none,0,rfl,Nat.zero_le _,fun _ h=>absurd h yB⟩
  rw[QP]
  exact⟨g,off,_,_,rfl,cell 0 _ (by omega) (by rw[ht];rfl),cell 1 _ (by omega) (by rw[ht];rfl),cell 2 _ (by omega) (by rw[ht];rfl),cell 3 _ (by omega) (by rw[ht];rfl),cell 4 _ (by omega) (by rw[ht];rfl),cell 5 _ (by omega) (by rw[ht];rfl),cell 6 _ (by omega) (by rw[ht];rfl),cell 7 _ (by omega) (by rw[ht];rfl),on,on⟩
def uC (P:Lay) (B:Nat) (w':World) (v1 v3:Value):Prop :=
 ∃(wm:World) (B':Nat),B<=B'/\un P B' wm v1 P.L.zd.length/\B'<=wm.heap.size/\wm.heap.size<=w'.heap.size/\(∀g,B'<=g->g<wm.heap.size->w'.heap[g]?=wm.heap[g]?)/\yg wm.heap.size 8 w' v3 P.L.ze.length ((List.range P.L.ze.length).flatMap (kp P))
theorem uC.kept {P:Lay} {B:Nat} {w' w'':World} {v1 v3:Value} (h:uC P B w' v1 v3) (hs:w'.heap.size<=w''.heap.size) (hb:∀g,B<=g->g<w'.heap.size->w''.heap[g]?=w'.heap[g]?):uC P B w'' v1 v3:=by
 obtain⟨wm,B',h1,h2,h3,h4,h5,h6⟩:=h
 exact⟨wm,B',h1,h2,h3,Nat.le_trans h4 hs,fun g g1 g2=>(hb g (by omega) (by omega)).trans (h5 g g1 g2),h6.kept hs fun g e=>hb g (by have:=(h6.lt g e).1;omega) (h6.lt g e).2⟩
theorem uC.slices {P:Lay} {B:Nat} {w':World} {v1 v3:Value} (h:uC P B w' v1 v3):(∃a c,v1=.slice a P.L.zd.length c)/\∃a c,v3=.slice a P.L.ze.length c:=by
 obtain⟨wm,B',h1,h2,h3,h4,h5,h6⟩:=h
 obtain⟨a,c,e,_⟩:=h6.slice
 exact⟨h2.slice.1,a,c,e⟩
theorem uC.at {B0:Nat} {ρ:Nat->Rl} {P:Lay} {B:Nat} {w':World} {v1 v3:Value} (h:yj B0 ρ w' P) (hwf:P.L.wf) (hn:P.L.zd.length<=1000) (hm:uC P B w' v1 v3) {vsd:Value} {zm:yH} (hs:yo w' vsd zm) (born code:Int):ql w' v1 P.vo v3 vsd (JH P.L born zm code):=by
 obtain⟨wm,B',h1,h2,h3,h4,h5,h6⟩:=hm
 exact⟨zab h hwf (h2.kept h4 h5) hn,(h .order).1.at,zax h hwf h6,hs⟩
theorem Qa {P:Program} {t ty:TypeId} {ops:Array Oper} {rest:List Oper} {o:Oper} {act:Act} {Q:Exit->Act->World->Prop} {w w':World} {v xv v':Value} (hgd:o.guard=none) (s x:Operand)
 (ho:o.op=.call {callee:=.builtin .append,args:=#[s,x],argTypes:=#[t,t]}) (hty:o.type=ty) (hs:act.eval s=v) (hx:act.eval x=xv) (hr:(Builtin.append_ #[t,t] ty #[v,xv]).run P w=.ok v' w')
 (h:wpList P ops Q rest (act.put o.dst v') w'):wpList P ops Q (o :: rest) act w:=by
 refine wpList_plain hgd fun K hK=>?_
 unfold Oper.wp execOp
 simp only[ho,resolve,invoke,builtin,Sem.run_bind,Sem.run_pure,Result.andThen_ok,List.map_toArray,List.map_cons,List.map_nil,hs,hx,hty,hr]
 exact hK _ _ h
set_option maxRecDepth 100000 in
set_option maxHeartbeats 4000000 in
theorem zd5 {B:Nat} {ρ:Nat->Rl} {w:World} {P:Lay} (h:yj B ρ w P) (hwf:P.L.wf) (zba:P.L.zd.length<=1000/\∀i,(hi:i<P.L.zd.length)->P.L.zd[i].zh.length<=1000) (hft:P.L.ze.length<=800000)
 (born code:Int) (vsd:Value) (zm:yH) (hs:yo w vsd zm) :
 Calls Tryz.prog 48 #[zJ P.bl 0,zI born,vsd,zI code] w fun e w'=>∃v1 v3,e=.returned (.agg (zE v1 P.vo v3 vsd (JH P.L born zm code)).toArray)/\uC P w.heap.size w' v1 v3/\zO w w':=by
 have HL:Hid (yj B ρ w P):=h
 have HWF:Hid P.L.wf:=hwf
 have HFW:Hid (P.L.zd.length<=1000/\∀i,(hi:i<P.L.zd.length)->P.L.zd[i].zh.length<=1000):=zba
 have HS:Hid (yo w vsd zm):=hs
 have hpn:=zba.1
 obtain⟨as',cs,km⟩:=hs.shape
 have hbx:=h.box
 obtain⟨ap,cp,qI,_⟩:=(h .zd).1.slice
 obtain⟨ao,co,j5,_⟩:=(h .order).1.slice
 have zT:=(h .zd).1
 rw[qI] at zT
 rw[qI,j5] at hbx
 obtain⟨vO,hvO⟩:∃vO,P.vo=vO:=⟨_,rfl⟩
 have HVO:Hid (P.vo=vO):=hvO
 obtain⟨i0,hii,jT,xF,kf⟩:=info_parts Tryz.infoPageO
 have x0:=hbx.cell 0 rfl
 have x2:=hbx.cell 2 rfl
 have x3:=hbx.cell 3 rfl
 have hblw:=hbx.lt
 clear h hwf zba hs
 go_enter Tryz.func48,Tryz.ntmps48
 go_upto_region 1 with fail
 refine ym (fun W=>zO w W/\Bx W w.heap.size 34 [.int .i64 0,.slice none 0 0,.slice none 0 0,.int .i64 0,.slice none 0 0,.int .i64 0,.slice none 0 0,.int .i64 0]) ⟨zR _ _,Bx.new _ _ _⟩ ?_
 rintro W ⟨hbW,z⟩
 have hxW:=hbx.below hbW
 have ZQ:=hbW.size
 clear x0 x2 x3
 have x0:=hxW.cell 0 rfl
 have x2:=hxW.cell 2 rfl
 have x3:=hxW.cell 3 rfl
 have hblW:P.bl<W.heap.size:=hxW.lt
 subst km
 go_region
 refine wD (fun W'=>zO w W'/\Bx W' w.heap.size 34 [.int .i64 0,.slice none 0 0,.slice none 0 0,.int .i64 0,.slice none 0 0,.int .i64 0,.slice none 0 0,.int .i64 0]/\Bx W' W.heap.size 34 [.int .i64 P.L.cells,.slice none 0 0,.slice ao P.L.order.length co,.int .i64 P.L.now,.slice none 0 0,.int .i64 born,.slice as' zm.length cs,.int .i64 code]/\W.heap.size<W'.heap.size) ⟨(hbW.alloc ZQ _).drew,(z.alloc _).drew,(Bx.new _ _ _).drew,by show W.heap.size<(W.alloc _).heap.size;simp⟩ ?_
 rintro W1 ⟨qa,hz1',Z5,hl1⟩
 have hgz:w.heap.size<W.heap.size:=z.lt
 obtain⟨g9,QO⟩:∃g9,W.heap.size=g9:=⟨_,rfl⟩
 rw[QO] at Z5 hl1 hgz ⊢
 clear hxW x0 x2 x3 z hbW ZQ hblW QO hbx
 have hxb1:=HL.out.box.below qa
 rw[qI] at hxb1
 have x1:=hxb1.cell 1 rfl
 have hlz:=qa.size
 go_wp2_with fail
 clear x1
 go_loopg [11,35] P.L.zd.length (fun d _ q wr=>∃(k:Nat) (vpg:Value),k<=P.L.zd.length/\d=P.L.zd.length - k/\q=zI (k:Int)/\Bx wr w.heap.size 34 [zI 0,zQ,zQ,zI 0,zQ,zI 0,zQ,zI 0]/\Bx wr g9 34 [zI P.L.cells,vpg,.slice ao P.L.order.length co,zI P.L.now,zQ,zI born,.slice as' zm.length cs,zI code]/\un P (g9+1) wr vpg k/\zO w wr/\g9<wr.heap.size)
 case atStart=>exact⟨0,_,Nat.zero_le _,rfl,rfl,hz1',Z5,⟨fun _=>undef,yg.nil _ _ _,fun _ hq=>absurd hq yB⟩,qa,hl1⟩
 case round =>
  obtain⟨k,vpg,hk,rfl,rfl,hzr,hxr,hpr,hbr,hlr⟩:=hrel
  have zr:=hbr.size
  clear hz1' Z5 qa hl1 hxb1 hlz
  by_cases yz:k<P.L.zd.length
  ·obtain⟨gp,op,cpx,hform,_,_⟩:=zT.form (by omega)
   cases hform
   have uW:(k:Int)<(P.L.zd.length:Int):=by omega
   obtain⟨q0,q1⟩:=kO (qt P.F P.L.zd) k (by rw[yO];exact yz)
   rw[jo yz] at q0 q1
   have c0:=zc hbr (zT.cell q0).1
   have c1:=zc hbr (zT.cell q1).1
   rw[<-Nat.add_assoc] at c1
   obtain⟨aF,cF,hvF,_⟩:=(HL.out (.zh k) yz).1.slice
   dsimp only at c0 c1
   rw[hvF] at c1
   obtain⟨⟨av,cv,hve⟩,_⟩:=hpr.slice
   subst hve
   obtain⟨Q,hQ⟩:∃Q,P.L.zd[k]=Q:=⟨_,rfl⟩
   have HLL:Hid (∀X,zO w X->Calls Tryz.prog 88 #[.agg #[zI Q.base,.slice aF Q.zh.length cF]] X fun e w'=>∃v',e=.returned v'/\yg X.heap.size 5 w' v' Q.zh.length ((List.range Q.zh.length).flatMap (wE P Q.zh))/\zO X w'):=fun X hX=>by
    have:=US (HL.out.below hX) HWF.out k yz P.L.zd[k].base (HFW.out.2 k yz)
    rw[hvF] at this
    rw[<-hQ]
    exact this
   rw[hQ] at c0 c1
   go_upto_region 5 with fail
   refine ym (fun W'=>zO wr W'/\Bx W' wr.heap.size 139 [.int .i64 Q.base,.slice aF Q.zh.length cF]) ⟨zR _ _,Bx.new _ _ _⟩ ?_
   rintro W2 ⟨t2,y2⟩
   have yL:=hbr.trans (t2.mono zr)
   have z2:=yL.size
   have v2:=hpr.below t2
   have wk:=hxr.below t2
   have hzz2:=hzr.below t2
   have zt:=t2.size
   have n0:=y2.cell 0 rfl
   have n1:=y2.cell 1 rfl
   have m1:=wk.cell 1 rfl
   have HC:Hid (∀X,zO W2 X->Calls Tryz.prog 88 #[.agg #[zI Q.base,.slice aF Q.zh.length cF]] X fun e w'=>∃v',e=.returned v'/\yg X.heap.size 5 w' v' Q.zh.length ((List.range Q.zh.length).flatMap (wE P Q.zh))/\zO X w'):=fun X hX=>HLL.out X (yL.trans (hX.mono z2))
   have XB:=v2.slice.2
   have HAP:Hid (∀(vB:World) (u:Value) (H:Nat),un P (g9+1) vB (.slice av k cv) k->yg W2.heap.size 5 vB u Q.zh.length ((List.range Q.zh.length).flatMap (wE P Q.zh))->u.oneCell'=true->(∀j x,([zI Q.base,u]:List Value)[j]?=some x->vB.cell? (zH H j)=some x)->g9+1<=vB.heap.size ->
    ∃a' c' w',(Builtin.append_ #[29,29] 29 #[.slice av k cv,zK H 0 1 1]).run Tryz.prog vB=.ok (.slice a' (k+1) c') w'/\un P (g9+1) w' (.slice a' (k+1) c') (k+1)/\vB.grownBy w' (Value.slice av k cv).ownBlock):=fun vB u H h1 h2 h3 h4 h5=>by
    rw[<-hQ] at h2 h4
    exact h1.append yz h2 (by omega) (fun g e=>(XB g e).2) h3 H h4 h5 (by omega)
   clear c0 c1 q0 q1 zT hpr hxr hzr t2 HLL hvF hQ y2 XB hvO
   refine Z3 [[],[0],[],[2],[],[4],[2,3,4,5],[2,3,4,5,6],[0,1,2,3,4,5,6,7],[0,1,2,3,4,5,6,7,8],[0,1,2,3,4,5,6,7,8,9]] [[0],[1],[2],[3],[4],[5],[5,6],[5,7],[],[],[]] [[],[],[],[],[],[],[],[],[],[],[]] [jy (zJ g9 1),jy (.slice av k cv),jy (zJ wr.heap.size 0),jy (zI Q.base),jy (.agg #[zI Q.base,.slice aF Q.zh.length cF]),Ws 5 (fun(x:Value) l=>l=[x]) (fun x w1=>(∃a0 c0,x=.slice a0 Q.zh.length c0)/\(yg W2.heap.size 5 w1 x Q.zh.length ((List.range Q.zh.length).flatMap (wE P Q.zh)))),X7 fun l=>∃x:Value,l=[x,.agg #[zI Q.base,x]],Ws 7 (fun(x:Value × Nat) l=>l=[x.1,zK x.2 0 1 1]) (fun x w1=>∀j u,([zI Q.base,x.1]:List Value)[j]?=some u->w1.cell? (zH x.2 j)=some u),X7 fun _=>True,X7 fun _=>True,X7 fun _=>True] 8 2 rfl (by kernel_rfl) (by kernel_rfl) (by kernel_rfl) (by kernel_rfl) ?_ ?_
   ·refine zl (zl (zl (zl (zl (zl (zl (zl (jE) ?_) ?_) ?_) ?_) ?_) ?_) ?_) ?_
    ·intro a w val own hB hf zy hk
     have s9:=hf.at (d:=9) (v:=zJ g9 0) (by kernel_rfl) rfl
     exact zC (v:=zJ g9 1) hB
    ·intro a w val own hB hf zy hk
     have s39:=zL hk 0 39
     have cm1:=zc hB m1
     exact zC (v:=.slice av k cv) hB
    ·intro a w val own hB hf zy hk
     have s11:=hf.at (d:=11) (v:=zJ wr.heap.size 0) (by kernel_rfl) rfl
     exact zC (v:=zJ wr.heap.size 0) hB
    ·intro a w val own hB hf zy hk
     have s41:=zL hk 2 41
     have cn0:=zc hB n0
     exact zC (v:=zI Q.base) hB
    ·intro a w val own hB hf zy hk
     have s11:=hf.at (d:=11) (v:=zJ wr.heap.size 0) (by kernel_rfl) rfl
     have cn0:=zc hB n0
     have cn1:=zc hB n1
     exact zC (v:=.agg #[zI Q.base,.slice aF Q.zh.length cF]) hB
    ·intro a w val own hB hf zy hk
     have s43:=zL hk 4 43
     have K6:=hB.size
     refine uG hB rfl rfl (by unfold execOp;go_simp) ((HC.out w hB).mono ?_)
     rintro e w' ⟨v1,rfl,r1,hb'⟩
     refine⟨_,rfl,hb',v1,rfl,Made.new fun w1 hs hbw hr=>⟨?_,?_⟩⟩
     ·obtain⟨a0,c0,e0,_⟩:=r1.slice
      exact⟨a0,c0,e0⟩
     ·exact(r1.kept hs fun g e=>hr g (r1.lt g e).1 (r1.lt g e).2).mono K6
    ·intro a w val own hB hf zy hk
     obtain⟨kc,xc,ec,mc⟩:=hk 5 (show 5∈[2,3,4,5] by decide)
     have vc:=qy ec
     have s44:=kc 44 rfl
     rw[vc] at s44
     obtain⟨⟨a0,c0,q1⟩,rc⟩:=mc.here hB
     clear kc ec mc
     subst q1
     have s42:=zL hk 3 42
     exact zC (v:=.agg #[zI Q.base,.slice a0 Q.zh.length c0]) hB rfl rfl (by unfold execOp;go_simp) ⟨.slice a0 Q.zh.length c0,by show [val 5,_]=_;rw[vc];rfl⟩
    ·intro a w val own hB hf zy hk
     obtain⟨kc,xc,ec,mc⟩:=hk 5 (show 5∈[2,3,4,5,6] by decide)
     have vc:=qy ec
     have s44:=kc 44 rfl
     rw[vc] at s44
     obtain⟨⟨a0,c0,q1⟩,rc⟩:=mc.here hB
     clear kc ec mc
     obtain⟨kd,xd,ed⟩:=hk 6 (show 6∈[2,3,4,5,6] by decide)
     have ed':[val 5,val 6]=_:=ed
     injection ed' with ed1 ed2
     have vd:=qy ed2
     rw[vc] at ed1
     subst ed1
     have s45:=kd 45 rfl
     rw[vd] at s45
     clear kd ed ed2 vd
     subst q1
     refine ZW (v:=.slice (some ⟨w.heap.size,0,none⟩) 1 1) (w':=w.alloc (.cells #[.int .i64 Q.base,.slice a0 Q.zh.length c0] 78)) hB rfl rfl (by unfold execOp;go_simp) (zR _ _) ⟨(.slice a0 Q.zh.length c0,w.heap.size),?_,Made.new fun w1 _ _ hr=>?_⟩
     ·show [val 5,_]=_
      rw[vc]
      rfl
     ·exact fun j u hu=>((Bx.new w 78 [.int .i64 Q.base,.slice a0 Q.zh.length c0]).kept (hr _ zD (by simp))).cell j hu
   intro aE vB val own hB hf zy hk
   obtain⟨kc,xc,ec,mc⟩:=hk 5 (by decide)
   have vc:=qy ec
   have s44:=kc 44 rfl
   rw[vc] at s44
   obtain⟨⟨a0,c0,q1⟩,rc⟩:=mc.here hB
   clear kc ec mc
   obtain⟨kb,xb,eb,mb⟩:=hk 7 (by decide)
   have eb':[val 5,val 7]=_:=eb
   injection eb' with eba ebb
   have vb:=qy ebb
   have s46:=kb 46 rfl
   rw[vb] at s46
   obtain⟨ya,H⟩:=xb
   have hxx:xc=ya:=by rw[vc] at eba;exact eba
   subst hxx
   have mh:=mb.here hB
   dsimp only at mh
   subst q1
   have s40:=ZY (hk 1 (by decide)) 40
   have hB0:zO W2 vB:=hB
   have hz0':=hB0.size
   obtain⟨a9,c9,W3,hrun,hP3,j9⟩:=HAP.out vB (.slice a0 Q.zh.length c0) H (v2.below hB0) rc rfl mh (by omega)
   have uT:=fun q (e:(Value.slice av k cv).ownBlock=some q)=>(v2.slice.2 q e).1
   have xn:zO w W3:=(yL.trans (hB0.mono z2)).grown j9 (by omega) fun q e=>by have:=uT q e;omega
   have YR:=(wk.below hB0).grown j9 (fun e=>by have:=uT _ e;omega)
   have K5:=(hzz2.below hB0).grown j9 (fun e=>by have:=uT _ e;omega)
   have g1:=YR.cell 1 rfl
   have gf1:=YR.frozen 1
   have HE:Hid (Bx (W3.setCell (zH g9 1) (.slice a9 (k+1) c9)) w.heap.size 34 [zI 0,zQ,zQ,zI 0,zQ,zI 0,zQ,zI 0]/\Bx (W3.setCell (zH g9 1) (.slice a9 (k+1) c9)) g9 34 [zI P.L.cells,.slice a9 (k+1) c9,.slice ao P.L.order.length co,zI P.L.now,zQ,zI born,.slice as' zm.length cs,zI code]/\un P (g9+1) (W3.setCell (zH g9 1) (.slice a9 (k+1) c9)) (.slice a9 (k+1) c9) (k+1)/\zO w (W3.setCell (zH g9 1) (.slice a9 (k+1) c9))/\g9<(W3.setCell (zH g9 1) (.slice a9 (k+1) c9)).heap.size) :=
    ⟨K5.other (by omega) _,YR.set 1 _,hP3.kept (by rw[World.size_setCell];exact Nat.le_refl _) fun g h1 _=>Below.heap_setCell _ _ _ _ (by show g≠g9;omega),xn.setCell (p:=zH g9 1) (by show w.heap.size<=g9;omega) _,by rw[World.size_setCell];have:=j9.size;omega⟩
   clear hP3 xn YR K5 uT j9 hB0 rc
   clear kb eb ebb vb mb mh vc eba
   have hu:=ux hf [39,40,41,42,43,44,45,46] (by kernel_rfl)
   dsimp only at hu
   simp only[List.foldl_cons,List.foldl_nil,List.setIfInBounds_toArray,List.set_cons_succ,List.set_cons_zero] at hu
   rw[s40,s46] at hu
   generalize aE.tmps[39]?.getD undef=u39 at hu
   generalize aE.tmps[41]?.getD undef=u41 at hu
   generalize aE.tmps[42]?.getD undef=u42 at hu
   generalize aE.tmps[43]?.getD undef=u43 at hu
   generalize aE.tmps[44]?.getD undef=u44 at hu
   generalize aE.tmps[45]?.getD undef=u45 at hu
   obtain rfl:=ZK hu (show aE.defers=[] from hf.defers)
   clear hu hk zy hf s40 s46 s44
   refine js (v:=.slice a9 (k+1) c9) (w':=W3) rfl rfl (vD rfl (by go_simp) (by go_simp) hrun) ?_
   simp only[Act.put]
   refine js (v:=zJ g9 1) (w':=W3) rfl rfl (by unfold execOp;go_simp) ?_
   simp only[Act.put]
   refine vM (w':=W3.setCell (zH g9 1) (.slice a9 (k+1) c9)) rfl rfl (by unfold execOp;go_simp) ?_
   simp only[Act.put]
   clear hrun hB g1 gf1
   refine wD (fun W9=>Bx W9 w.heap.size 34 [zI 0,zQ,zQ,zI 0,zQ,zI 0,zQ,zI 0]/\Bx W9 g9 34 [zI P.L.cells,.slice a9 (k+1) c9,.slice ao P.L.order.length co,zI P.L.now,zQ,zI born,.slice as' zm.length cs,zI code]/\un P (g9+1) W9 (.slice a9 (k+1) c9) (k+1)/\zO w W9/\g9<W9.heap.size) HE.out ?_
   rintro W9 ⟨k1,k2,k3,k4,k5⟩
   clear HE
   go_wp2
   go_roundg (P.L.zd.length - (k+1))
   case measure=>omega
   case rel=>exact⟨k+1,_,by omega,rfl,by go_num,k1,k2,k3,k4,k5⟩
  ·obtain rfl:k=P.L.zd.length:=by omega
   obtain⟨⟨av,cv,hve⟩,XB⟩:=hpr.slice
   subst hve
   have hbl9:=HL.out.box.below hbr
   rw[qI,j5] at hbl9
   have x4:=hbl9.cell 4 rfl
   have hTM:=(HL.out .ze).1.below hbr
   have hlen:=xl.len (P:=Tryz.prog) (t:=115) (by kernel_rfl) hTM 3
   rw[List.length_map] at hlen
   clear zT
   go_wp2_with fail
   obtain⟨wo,hwo⟩:∃wo,wo=wr:=⟨_,rfl⟩
   subst hwo
   go_loopg [12,13,55] P.L.ze.length (fun d _ _ q wt=>∃(k:Nat) (vtw:Value),k<=P.L.ze.length/\d=P.L.ze.length - k/\q=zI (k:Int)/\Bx wt w.heap.size 34 [zI 0,zQ,zQ,zI 0,zQ,zI 0,zQ,zI 0]/\Bx wt g9 34 [zI P.L.cells,.slice av P.L.zd.length cv,.slice ao P.L.order.length co,zI P.L.now,vtw,zI born,.slice as' zm.length cs,zI code]/\yg wo.heap.size 8 wt vtw k ((List.range k).flatMap (kp P))/\zO w wt/\wo.heap.size<=wt.heap.size/\∀g,g9+1<=g->g<wo.heap.size->wt.heap[g]?=wo.heap[g]?)
   case atStart=>exact⟨0,_,Nat.zero_le _,rfl,rfl,hzr,hxr,yg.nil _ _ _,hbr,Nat.le_refl _,fun _ _ _=>rfl⟩
   case round =>
    obtain⟨k,vtw,hk,rfl,rfl,kf,hx2',ht2,wG,hle,hkp⟩:=hrel
    obtain⟨at2,ct2,jz,_⟩:=ht2.slice
    subst jz
    have z2':=wG.size
    have hzo:=hbr.size
    have hxb:=HL.out.box.below wG
    rw[qI,j5] at hxb
    clear x4 hbl9 hTM hlen
    have x4:=hxb.cell 4 rfl
    by_cases yz:k<P.L.ze.length
    ·have uW:(k:Int)<(P.L.ze.length:Int):=by omega
     have hTM2:=(HL.out .ze).1.below wG
     have hlk:=xl.look (P:=Tryz.prog) (t:=115) (kt:=3) (et:=143) (by kernel_rfl) (by kernel_rfl) hTM2 (k:=k) (by simpa using yz)
     have hval:(P.L.ze.map (xG P.D))[k]'(by simpa using yz)=xG P.D P.L.ze[k]:=by simp
     rw[hval] at hlk
     unfold xG at hlk
     have hbk:=HWF.out.tw k yz
     obtain⟨a1,k1,a2,k2,hT⟩:=HL.out.lists hbk
     have hbody:=(HL.out (.body P.L.ze[k].body) hbk).1
     have hgd:P.L.ze.getD k ⟨-1,0,0,0⟩=P.L.ze[k]:=by simp[yz]
     have UG:kp P k=if P.L.ze[k].page=-1 then [zI (-1),zI 0,zI P.L.zj[P.L.ze[k].body].m,zI P.L.zj[P.L.ze[k].body].pc,(P.T P.L.ze[k].body).1,(P.T P.L.ze[k].body).2,zI P.L.ze[k].zi,.bool P.L.zj[P.L.ze[k].body].zv] else [zI P.L.ze[k].page,zI P.L.ze[k].place,zI 0,zI 0,zQ,zQ,zI 0,.bool false]:=by unfold kp;rw[hgd,Uq hbk]
     obtain⟨b,hb⟩:∃b,P.L.zj[P.L.ze[k].body]=b:=⟨_,rfl⟩
     rw[hb] at hT hbody UG
     obtain⟨T,hTe⟩:∃T,P.L.ze[k]=T:=⟨_,rfl⟩
     rw[hTe] at hlk hT hbody UG
     rw[hT] at hbody UG
     clear hTM2 hval hgd hb hTe hbk hT
     go_upto_region 11 with fail
     refine ym (fun W'=>zO wr W'/\Bx W' wr.heap.size 143 [.int .i64 T.page,.int .i64 T.place,.pointer (some ⟨P.D T.body,0,none⟩),.int .i64 T.zi]) ⟨zR _ _,Bx.new _ _ _⟩ ?_
     rintro W2 ⟨t2,y2⟩
     have yL:=wG.trans (t2.mono z2')
     have z2:=yL.size
     have zt:=t2.size
     have t2':=ht2.below t2
     have wk:=hx2'.below t2
     have hzz2:=kf.below t2
     have hkp2:∀g,g9+1<=g->g<wo.heap.size->W2.heap[g]?=wo.heap[g]?:=fun g h1 h2=>(t2.block g (by omega)).trans (hkp g h1 h2)
     have n0:=y2.cell 0 rfl
     have n1:=y2.cell 1 rfl
     have n2:=y2.cell 2 rfl
     have n3:=y2.cell 3 rfl
     have m4:=wk.cell 4 rfl
     have hwz:w.heap.size<g9:=by omega
     clear hlk x4 hxb ht2 hx2' kf t2 y2 hkp
     by_cases xE:T.page=-1
     ·rw[if_pos xE] at UG
      have hto:=UG
      clear UG
      have HCB:Hid (∀X,zO W2 X->Calls Tryz.prog 89 #[zJ (P.D T.body) 0,zI T.zi] X fun e w'=>e=.returned (.agg #[zI b.m,zI b.pc,.slice a1 b.zg.length k1,.slice a2 b.zf.length k2,zI T.zi,.bool b.zv])/\zO X w'):=fun X hX=>K8 T.zi X ((hbody.below yL).below hX)
      rw[xE] at n0
      clear hbody
      go_wp2_with fail
      refine Z3 [[],[0],[],[2],[],[4],[2,3,4,5],[2,3,4,5,6],[2,3,4,5,6,7],[0,1,2,3,4,5,6,7,8],[0,1,2,3,4,5,6,7,8,9],[0,1,2,3,4,5,6,7,8,9,10]] [[0],[1],[2],[3],[4],[5],[6],[7],[8],[],[],[]] [[],[],[],[],[],[],[],[],[],[],[],[]] [jy (zJ g9 4),jy (.slice at2 k ct2),jy (zJ wr.heap.size 2),jy (zJ (P.D T.body) 0),jy (zJ wr.heap.size 3),jy (zI T.zi),jy (.agg #[zI b.m,zI b.pc,.slice a1 b.zg.length k1,.slice a2 b.zf.length k2,zI T.zi,.bool b.zv]),jy (.agg #[zI (-1),zI 0,zI b.m,zI b.pc,.slice a1 b.zg.length k1,.slice a2 b.zf.length k2,zI T.zi,.bool b.zv]),Ws 8 (fun(x:Nat) l=>l=[zK x 0 1 1]) (fun x w1=>∀j u,([zI (-1),zI 0,zI b.m,zI b.pc,.slice a1 b.zg.length k1,.slice a2 b.zf.length k2,zI T.zi,.bool b.zv]:List Value)[j]?=some u->w1.cell? (zH x j)=some u),X7 fun _=>True,X7 fun _=>True,X7 fun _=>True] 9 2 rfl (by kernel_rfl) (by kernel_rfl) (by kernel_rfl) (by kernel_rfl) ?_ ?_
      ·refine zl (zl (zl (zl (zl (zl (zl (zl (zl (jE) ?_) ?_) ?_) ?_) ?_) ?_) ?_) ?_) ?_
       ·intro a w val own hB hf zy hk
        have s9:=hf.at (d:=9) (v:=zJ g9 0) (by kernel_rfl) rfl
        exact zC (v:=zJ g9 4) hB
       ·intro a w val own hB hf zy hk
        have s67:=zL hk 0 67
        have cm4:=zc hB m4
        exact zC (v:=.slice at2 k ct2) hB
       ·intro a w val own hB hf zy hk
        have s13:=hf.at (d:=13) (v:=zJ wr.heap.size 0) (by kernel_rfl) rfl
        exact zC (v:=zJ wr.heap.size 2) hB
       ·intro a w val own hB hf zy hk
        have s69:=zL hk 2 69
        have cn2:=zc hB n2
        exact zC (v:=zJ (P.D T.body) 0) hB
       ·intro a w val own hB hf zy hk
        have s13:=hf.at (d:=13) (v:=zJ wr.heap.size 0) (by kernel_rfl) rfl
        exact zC (v:=zJ wr.heap.size 3) hB
       ·intro a w val own hB hf zy hk
        have s71:=zL hk 4 71
        have cn3:=zc hB n3
        exact zC (v:=zI T.zi) hB
       ·intro a w val own hB hf zy hk
        have s70:=zL hk 3 70
        have s72:=zL hk 5 72
        exact uG hB rfl rfl (by unfold execOp;go_simp) ((HCB.out w hB).mono fun e w' ⟨he,hb⟩=>⟨_,he,hb,rfl⟩)
       ·intro a w val own hB hf zy hk
        have s73:=zL hk 6 73
        exact zC (v:=.agg #[zI (-1),zI 0,zI b.m,zI b.pc,.slice a1 b.zg.length k1,.slice a2 b.zf.length k2,zI T.zi,.bool b.zv]) hB
       ·intro a w val own hB hf zy hk
        have s74:=zL hk 7 74
        refine ZW (v:=.slice (some ⟨w.heap.size,0,none⟩) 1 1) (w':=w.alloc (.cells #[.int .i64 (-1),.int .i64 0,.int .i64 b.m,.int .i64 b.pc,.slice a1 b.zg.length k1,.slice a2 b.zf.length k2,.int .i64 T.zi,.bool b.zv] 124)) hB rfl rfl (by unfold execOp;go_simp) (zR _ _) ⟨w.heap.size,rfl,Made.new fun w1 _ _ hr=>?_⟩
        exact fun j u hu=>((Bx.new w 124 [.int .i64 (-1),.int .i64 0,.int .i64 b.m,.int .i64 b.pc,.slice a1 b.zg.length k1,.slice a2 b.zf.length k2,.int .i64 T.zi,.bool b.zv]).kept (hr _ zD (by simp))).cell j hu
      intro aE vB val own hB hf zy hk
      obtain⟨kb,H,eb,mb⟩:=hk 8 (by decide)
      have vb:=qy eb
      have s75:=kb 75 rfl
      rw[vb] at s75
      have mh:=mb.here hB
      have s68:=ZY (hk 1 (by decide)) 68
      have hB0:zO W2 vB:=hB
      have hz0':=hB0.size
      have mh2:∀j x,(kp P k)[j]?=some x->vB.cell? (zH H j)=some x:=by rw[hto];exact mh
      obtain⟨a9,c9,W3,hrun,yT,j9⟩:=Xl (P:=P) (w:=vB) (t2'.below hB0) (by rw[hto];intro u hu;simp at hu;rcases hu with rfl | rfl | rfl | rfl | rfl | rfl | rfl | rfl <;> rfl) H mh2 (by omega) (by omega)
      have uT:=fun q (e:(Value.slice at2 k ct2).ownBlock=some q)=>(t2'.lt q e)
      have xn:zO w W3:=(yL.trans (hB0.mono z2)).grown j9 (by omega) fun q e=>by have:=uT q e;omega
      have YR:=(wk.below hB0).grown j9 (fun e=>by have:=uT _ e;omega)
      have K5:=(hzz2.below hB0).grown j9 (fun e=>by have:=uT _ e;omega)
      have g1:=YR.cell 4 rfl
      have gf1:=YR.frozen 4
      have HE:Hid (Bx (W3.setCell (zH g9 4) (.slice a9 (k+1) c9)) w.heap.size 34 [zI 0,zQ,zQ,zI 0,zQ,zI 0,zQ,zI 0]/\Bx (W3.setCell (zH g9 4) (.slice a9 (k+1) c9)) g9 34 [zI P.L.cells,.slice av P.L.zd.length cv,.slice ao P.L.order.length co,zI P.L.now,.slice a9 (k+1) c9,zI born,.slice as' zm.length cs,zI code]/\yg wo.heap.size 8 (W3.setCell (zH g9 4) (.slice a9 (k+1) c9)) (.slice a9 (k+1) c9) (k+1) ((List.range (k+1)).flatMap (kp P))/\zO w (W3.setCell (zH g9 4) (.slice a9 (k+1) c9))/\wo.heap.size<=(W3.setCell (zH g9 4) (.slice a9 (k+1) c9)).heap.size/\∀g,g9+1<=g->g<wo.heap.size->(W3.setCell (zH g9 4) (.slice a9 (k+1) c9)).heap[g]?=wo.heap[g]?) :=
       ⟨K5.other (by omega) _,YR.set 4 _,yT.kept (by rw[World.size_setCell];exact Nat.le_refl _) fun g e=>Below.heap_setCell _ _ _ _ (by have:=(yT.lt g e).1;show g≠g9;omega),xn.setCell (p:=zH g9 4) (by show w.heap.size<=g9;omega) _,by rw[World.size_setCell];have:=j9.size;omega,
        fun g h1 h2=>by rw[Below.heap_setCell _ _ _ _ (by show g≠g9;omega),j9.block g (by omega) (fun e=>by have:=uT g e.symm;omega),hB0.block g (by omega)];exact hkp2 g h1 h2⟩
      clear yT xn YR K5 uT j9 mh2
      clear hB0
      clear kb eb vb mb mh
      have hu:=ux hf [67,68,69,70,71,72,73,74,75] (by kernel_rfl)
      dsimp only at hu
      simp only[List.foldl_cons,List.foldl_nil,List.setIfInBounds_toArray,List.set_cons_succ,List.set_cons_zero] at hu
      rw[s68,s75] at hu
      generalize aE.tmps[67]?.getD undef=u67 at hu
      generalize aE.tmps[69]?.getD undef=u69 at hu
      generalize aE.tmps[70]?.getD undef=u70 at hu
      generalize aE.tmps[71]?.getD undef=u71 at hu
      generalize aE.tmps[72]?.getD undef=u72 at hu
      generalize aE.tmps[73]?.getD undef=u73 at hu
      generalize aE.tmps[74]?.getD undef=u74 at hu
      obtain rfl:=ZK hu (show aE.defers=[] from hf.defers)
      clear hu hk zy hf s68 s75
      refine js (v:=.slice a9 (k+1) c9) (w':=W3) rfl rfl (vD rfl (by go_simp) (by go_simp) hrun) ?_
      simp only[Act.put]
      refine js (v:=zJ g9 4) (w':=W3) rfl rfl (by unfold execOp;go_simp) ?_
      simp only[Act.put]
      refine vM (w':=W3.setCell (zH g9 4) (.slice a9 (k+1) c9)) rfl rfl (by unfold execOp;go_simp) ?_
      simp only[Act.put]
      clear hrun hB g1 gf1
      refine wD (fun W9=>Bx W9 w.heap.size 34 [zI 0,zQ,zQ,zI 0,zQ,zI 0,zQ,zI 0]/\Bx W9 g9 34 [zI P.L.cells,.slice av P.L.zd.length cv,.slice ao P.L.order.length co,zI P.L.now,.slice a9 (k+1) c9,zI born,.slice as' zm.length cs,zI code]/\yg wo.heap.size 8 W9 (.slice a9 (k+1) c9) (k+1) ((List.range (k+1)).flatMap (kp P))/\zO w W9/\wo.heap.size<=W9.heap.size/\∀g,g9+1<=g->g<wo.heap.size->W9.heap[g]?=wo.heap[g]?) HE.out ?_
      rintro W9 ⟨k1,k2,k3,k4,k5,k6⟩
      clear HE
      go_wp2
      go_roundg (P.L.ze.length - (k+1))
      case measure=>omega
      case rel=>exact⟨k+1,_,by omega,rfl,by go_num,k1,k2,k3,k4,k5,k6⟩
     ·rw[if_neg xE] at UG
      have hto:=UG
      have hpb:(T.page == -1)=false:=by simpa using xE
      clear UG hbody
      obtain⟨H,hH⟩:∃H,W2.heap.size=H:=⟨_,rfl⟩
      obtain⟨WA,hWA⟩:∃WA,W2.alloc (.cells #[.int .i64 T.page,.int .i64 T.place,.int .i64 0,.int .i64 0,.slice none 0 0,.slice none 0 0,.int .i64 0,.bool false] 124)=WA:=⟨_,rfl⟩
      have hB0:zO W2 WA:=by rw[<-hWA];exact zR _ _
      have hz0':=hB0.size
      have mh:∀j x,([zI T.page,zI T.place,zI 0,zI 0,zQ,zQ,zI 0,.bool false]:List Value)[j]?=some x->WA.cell? (zH H j)=some x:=by
       rw[<-hWA,<-hH]
       exact fun j u hu=>(Bx.new W2 124 _).cell j hu
      have mh2:∀j x,(kp P k)[j]?=some x->WA.cell? (zH H j)=some x:=by rw[hto];exact mh
      obtain⟨a9,c9,W3,hrun,yT,j9⟩:=Xl (P:=P) (w:=WA) (t2'.below hB0) (by rw[hto];intro u hu;simp at hu;rcases hu with rfl | rfl | rfl | rfl | rfl | rfl <;> rfl) H mh2 (by omega) (by omega)
      have uT:=fun q (e:(Value.slice at2 k ct2).ownBlock=some q)=>(t2'.lt q e)
      have xn:zO w W3:=(yL.trans (hB0.mono z2)).grown j9 (by omega) fun q e=>by have:=uT q e;omega
      have YR:=(wk.below hB0).grown j9 (fun e=>by have:=uT _ e;omega)
      have K5:=(hzz2.below hB0).grown j9 (fun e=>by have:=uT _ e;omega)
      have g1:=YR.cell 4 rfl
      have gf1:=YR.frozen 4
      have HE:Hid (Bx (W3.setCell (zH g9 4) (.slice a9 (k+1) c9)) w.heap.size 34 [zI 0,zQ,zQ,zI 0,zQ,zI 0,zQ,zI 0]/\Bx (W3.setCell (zH g9 4) (.slice a9 (k+1) c9)) g9 34 [zI P.L.cells,.slice av P.L.zd.length cv,.slice ao P.L.order.length co,zI P.L.now,.slice a9 (k+1) c9,zI born,.slice as' zm.length cs,zI code]/\yg wo.heap.size 8 (W3.setCell (zH g9 4) (.slice a9 (k+1) c9)) (.slice a9 (k+1) c9) (k+1) ((List.range (k+1)).flatMap (kp P))/\zO w (W3.setCell (zH g9 4) (.slice a9 (k+1) c9))/\wo.heap.size<=(W3.setCell (zH g9 4) (.slice a9 (k+1) c9)).heap.size/\∀g,g9+1<=g->g<wo.heap.size->(W3.setCell (zH g9 4) (.slice a9 (k+1) c9)).heap[g]?=wo.heap[g]?) :=
       ⟨K5.other (by omega) _,YR.set 4 _,yT.kept (by rw[World.size_setCell];exact Nat.le_refl _) fun g e=>Below.heap_setCell _ _ _ _ (by have:=(yT.lt g e).1;show g≠g9;omega),xn.setCell (p:=zH g9 4) (by show w.heap.size<=g9;omega) _,by rw[World.size_setCell];have:=j9.size;omega,
        fun g h1 h2=>by rw[Below.heap_setCell _ _ _ _ (by show g≠g9;omega),j9.block g (by omega) (fun e=>by have:=uT g e.symm;omega),hB0.block g (by omega)];exact hkp2 g h1 h2⟩
      clear yT xn YR K5 uT j9 mh2
      rw[<-hWA] at hrun
      subst hH
      clear hWA hB0 mh hz0'
      go_upto_region 14 with(at_builtin;refine Qa (by rfl) _ _ (by rfl) (by rfl) (by rfl) (by rfl) hrun ?_)
      refine ym (fun W9=>Bx W9 w.heap.size 34 [zI 0,zQ,zQ,zI 0,zQ,zI 0,zQ,zI 0]/\Bx W9 g9 34 [zI P.L.cells,.slice av P.L.zd.length cv,.slice ao P.L.order.length co,zI P.L.now,.slice a9 (k+1) c9,zI born,.slice as' zm.length cs,zI code]/\yg wo.heap.size 8 W9 (.slice a9 (k+1) c9) (k+1) ((List.range (k+1)).flatMap (kp P))/\zO w W9/\wo.heap.size<=W9.heap.size/\∀g,g9+1<=g->g<wo.heap.size->W9.heap[g]?=wo.heap[g]?) HE.out ?_
      rintro W9 ⟨k1,k2,k3,k4,k5,k6⟩
      clear HE hrun
      go_wp2
      go_roundg (P.L.ze.length - (k+1))
      case measure=>omega
      case rel=>exact⟨k+1,_,by omega,rfl,by go_num,k1,k2,k3,k4,k5,k6⟩
    ·obtain rfl:k=P.L.ze.length:=by omega
     obtain⟨⟨s0,s1,s2,s3,s4,s5,s6,s7⟩,_⟩:=uk hx2'
     obtain⟨⟨r0,r1,r2,r3,r4,r5,r6,r7⟩,f0,f1,f2,f3,f4,f5,f6,f7⟩:=uk kf
     have hwz:w.heap.size<g9:=by omega
     clear x4 hxb
     go_wp2
     refine xU (fun W'=>zO w W'/\Bx W' w.heap.size 34 [zI P.L.cells,.slice av P.L.zd.length cv,.slice ao P.L.order.length co,zI P.L.now,.slice at2 P.L.ze.length ct2,zI born,.slice as' zm.length cs,zI code]/\wr.heap.size<=W'.heap.size/\∀g,g≠w.heap.size->W'.heap[g]?=wr.heap[g]?) ⟨((((((((wG.setCell (p:=zH w.heap.size 0) zD _).setCell (p:=zH w.heap.size 1) zD _).setCell (p:=zH w.heap.size 2) zD _).setCell (p:=zH w.heap.size 3) zD _).setCell (p:=zH w.heap.size 4) zD _).setCell (p:=zH w.heap.size 5) zD _).setCell (p:=zH w.heap.size 6) zD _).setCell (p:=zH w.heap.size 7) zD _),((((((((kf.set 0 _).set 1 _).set 2 _).set 3 _).set 4 _).set 5 _).set 6 _).set 7 _),(by simp only[World.size_setCell];exact Nat.le_refl _),fun g hg=>by rw[Below.heap_setCell _ _ _ _ hg,Below.heap_setCell _ _ _ _ hg,Below.heap_setCell _ _ _ _ hg,Below.heap_setCell _ _ _ _ hg,Below.heap_setCell _ _ _ _ hg,Below.heap_setCell _ _ _ _ hg,Below.heap_setCell _ _ _ _ hg,Below.heap_setCell _ _ _ _ hg]⟩ ?_
     rintro W9 ⟨k1,k2,k3,k4⟩
     obtain⟨⟨q0,q1,q2,q3,q4,q5,q6,q7⟩,_⟩:=uk k2
     have hMO:uC P w.heap.size W9 (.slice av P.L.zd.length cv) (.slice at2 P.L.ze.length ct2):=⟨wo,g9+1,by omega,hpr,by omega,Nat.le_trans hle k3,fun g h1 h2=>(k4 g (by omega)).trans (hkp g h1 h2),ht2.kept k3 fun g e=>k4 g (by have:=(ht2.lt g e).1;omega)⟩
     exact bodyPost_ret (v:=.agg #[zI P.L.cells,.slice av P.L.zd.length cv,.slice ao P.L.order.length co,zI P.L.now,.slice at2 P.L.ze.length ct2,zI born,.slice as' zm.length cs,zI code]) (by simp[results,Tryz.results48,go_sem,q0,q1,q2,q3,q4,q5,q6,q7]) rfl ⟨.slice av P.L.zd.length cv,.slice at2 P.L.ze.length ct2,by rw[j5];rfl,hMO,k1⟩
end Go.Proofs.YtbjgjjkgfnfejaaGreatDoor

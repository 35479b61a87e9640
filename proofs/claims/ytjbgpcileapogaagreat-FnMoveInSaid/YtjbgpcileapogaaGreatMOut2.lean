/-
  A machine at work is handed out: mach. (Written by mkmach.py.)
-/
import Derived.Test.YtjbgpcileapogaaGreatMPut2
namespace Go.Proofs.YtjbgpcileapogaaGreat
open Go.RowKit
def ud (L:X9) (k:Nat):Wg:=L.zU.getD k Wg.none
def frM (L:X9) (f:LvF):Fr:=⟨(ud L f.body).m,(ud L f.body).pc,f.twin,(ud L f.body).zg,(ud L f.body).ze⟩
def pgM (L:X9) (p:K4):Pg:=⟨p.base,p.zk.map (frM L)⟩
def twM (L:X9) (t:LvT):Tw:=if t.page=-1 then⟨-1,0,⟨(ud L t.body).m,(ud L t.body).pc,(ud L t.body).zg,(ud L t.body).ze,t.zf,(ud L t.body).zv⟩⟩ else⟨t.page,t.place,⟨0,0,[],[],0,false⟩⟩
def US (L:X9) (born:Int) (zl:zL) (code:Int):Mc:=⟨L.cells,L.zd.map (pgM L),L.order,L.now,L.zh.map (twM L),born,zl,code⟩
theorem YN {L:X9} {k:Nat} (h:k<L.zU.length):ud L k=L.zU[k]:=by simp[ud,h]
theorem Ke {B:Nat} {ρ:Nat->Rl} {w w':World} {P:Lay} (h:qf B ρ w P) (hb:Below w.heap.size w w') {fs:List LvF} (hwf:∀k,(hk:k<fs.length)->fs[k].body<P.L.zU.length) {v:Value} {B':Nat}
 (hr:yl B' 5 w' v fs.length ((List.range fs.length).flatMap (uA P fs))):xU w' v (fs.map (frM P.L)):=by
 obtain⟨av,cv,hv,hm⟩:=hr.slice
 refine⟨av,cv,by rw[hv,List.length_map],by rw[List.length_map];exact hm,fun q hq=>?_⟩
 have hq':q<fs.length:=by simpa using hq
 subst hv
 obtain⟨g,off,zp,e,_,_⟩:=hr.form (by omega)
 cases e
 have hk:=hwf q hq'
 have c:=fun j (hj:j<5)=>uy (f:=uA P fs) (sz:=5) (fun i=>za0 P fs i) fs.length q j hq' hj
 have e0:fs.getD q ⟨0,-1⟩=fs[q]:=by simp[hq']
 have e1:P.L.zU.getD fs[q].body Wg.none=ud P.L fs[q].body:=rfl
 have c0:=(hr.cell (c 0 (by omega))).1
 have c1:=(hr.cell (c 1 (by omega))).1
 have c2:=(hr.cell (c 2 (by omega))).1
 have c3:=(hr.cell (c 3 (by omega))).1
 have c4:=(hr.cell (c 4 (by omega))).1
 have ht:=((h (.zg _) hk).1.at).below hb
 have hs:=((h (.ze _) hk).1.at).below hb
 rw[<-YN hk] at ht hs
 have em:(fs.map (frM P.L))[q]=frM P.L fs[q]:=by simp
 rw[em]
 refine⟨g,off,(P.T fs[q].body).1,(P.T fs[q].body).2,rfl,?_,?_,?_,?_,?_,ht,hs⟩
 ·have:w'.cell? ⟨g,off+(q * 5+0),none⟩=some (.int .i64 (P.L.zU.getD (fs.getD q ⟨0,-1⟩).body Wg.none).m):=c0
  rw[e0] at this
  exact this
 ·have:w'.cell? ⟨g,off+(q * 5+1),none⟩=some (.int .i64 (P.L.zU.getD (fs.getD q ⟨0,-1⟩).body Wg.none).pc):=c1
  rw[e0,<-Nat.add_assoc] at this
  exact this
 ·have:w'.cell? ⟨g,off+(q * 5+2),none⟩=some (.int .i64 (fs.getD q ⟨0,-1⟩).twin):=c2
  rw[e0,<-Nat.add_assoc] at this
  exact this
 ·have:w'.cell? ⟨g,off+(q * 5+3),none⟩=some (P.T (fs.getD q ⟨0,-1⟩).body).1:=c3
  rw[e0,<-Nat.add_assoc] at this
  exact this
 ·have:w'.cell? ⟨g,off+(q * 5+4),none⟩=some (P.T (fs.getD q ⟨0,-1⟩).body).2:=c4
  rw[e0,<-Nat.add_assoc] at this
  exact this
theorem Tryz.infoPageO:(Tryz.prog.info? 101).map (fun i=>(i.zero,i.size,i.bytes))=some (some (.agg #[.int .i64 0,.slice none 0 0]),2,32):=by kernel_rfl
theorem Yi {f g:Nat->List Value}:∀n,(∀i,i<n->f i=g i)->(List.range n).flatMap f=(List.range n).flatMap g
 | 0,_=>rfl
 | n+1,h=>by rw[kL,kL,Yi n (fun i hi=>h i (by omega)),h n (by omega)]
def vw (P:Lay) (B':Nat) (w:World) (v:Value) (k:Nat):Prop :=
 ∃V:Nat->Value,yl B' 2 w v k ((List.range k).flatMap fun q=>[.int .i64 (P.L.zd.getD q ⟨-1,[]⟩).base,V q]) /\
  ∀q,q<k->yl B' 5 w (V q) (P.L.zd.getD q ⟨-1,[]⟩).zk.length ((List.range (P.L.zd.getD q ⟨-1,[]⟩).zk.length).flatMap (uA P (P.L.zd.getD q ⟨-1,[]⟩).zk))/\∀g,(V q).ownBlock=some g->v.ownBlock≠some g
theorem vw.kept {P:Lay} {B' k:Nat} {w w':World} {v:Value} (h:vw P B' w v k) (hs:w.heap.size<=w'.heap.size) (hb:∀g,B'<=g->g<w.heap.size->w'.heap[g]?=w.heap[g]?):vw P B' w' v k:=by
 obtain⟨V,h1,h2⟩:=h
 exact⟨V,h1.kept hs fun g e=>hb g (h1.lt g e).1 (h1.lt g e).2,fun q hq=>⟨(h2 q hq).1.kept hs fun g e=>hb g ((h2 q hq).1.lt g e).1 ((h2 q hq).1.lt g e).2,(h2 q hq).2⟩⟩
theorem vw.below {P:Lay} {B' k:Nat} {w w':World} {v:Value} (h:vw P B' w v k) (hb:Below w.heap.size w w'):vw P B' w' v k:=h.kept hb.size fun g _ h2=>hb.block g h2
theorem vw.slice {P:Lay} {B' k:Nat} {w:World} {v:Value} (h:vw P B' w v k):(∃a c,v=.slice a k c)/\∀g,v.ownBlock=some g->B'<=g/\g<w.heap.size:=by
 obtain⟨V,h1,_⟩:=h
 obtain⟨a,c,e,_⟩:=h1.slice
 exact⟨⟨a,c,e⟩,h1.lt⟩
theorem vw.append {P:Lay} {B' B2 k:Nat} {w:World} {v u:Value} (h:vw P B' w v k) (hk:k<P.L.zd.length) (hu:yl B2 5 w u P.L.zd[k].zk.length ((List.range P.L.zd[k].zk.length).flatMap (uA P P.L.zd[k].zk))) (h2:B'<=B2)
 (hv:∀g,v.ownBlock=some g->g<B2) (hus:u.oneCell'=true) (H:Nat) (hx:∀j x,([.int .i64 P.L.zd[k].base,u]:List Value)[j]?=some x->w.cell? ⟨H,j,none⟩=some x) (hB:B'<=w.heap.size) (hkf:k<=2900000) :
 ∃a' c' w',(Builtin.append_ #[38,38] 38 #[v,.slice (some ⟨H,0,none⟩) 1 1]).run Tryz.prog w=.ok (.slice a' (k+1) c') w'/\vw P B' w' (.slice a' (k+1) c') (k+1)/\w.grownBy w' v.ownBlock:=by
 obtain⟨i0,hii,hz0,hz1,hz2⟩:=info_parts Tryz.infoPageO
 obtain⟨V,h1,hV⟩:=h
 have hgd:P.L.zd.getD k ⟨-1,[]⟩=P.L.zd[k]:=by simp[hk]
 obtain⟨v',w',hrun,zS,hg,hor⟩:=jE (P:=Tryz.prog) (t:=38) (ty:=38) Tryz.underlying38 hii hz0 hz1 rfl (by omega) h1 [.int .i64 P.L.zd[k].base,u] rfl (by intro x hx;simp at hx;rcases hx with rfl | rfl;rfl;exact hus) H 1 hx hkf hB
 obtain⟨a',c',hv',_⟩:=zS.slice
 subst hv'
 refine⟨a',c',w',hrun,⟨fun q=>if q=k then u else V q,?_,fun q hq=>?_⟩,hg⟩
 ·rw[kL,hgd]
  simp only[if_true]
  rw[Yi (g:=fun q=>[Value.int .i64 (P.L.zd.getD q ⟨-1,[]⟩).base,V q]) k fun i hi=>by rw[if_neg (by omega)]]
  exact zS
 ·by_cases e:q=k
  ·subst e
   simp only[if_true]
   rw[hgd]
   refine⟨(hu.mono h2).kept hg.size fun g e=>hg.block g (hu.lt g e).2 fun e2=>by have:=hv g e2.symm;have:=(hu.lt g e).1;omega,fun g e e2=>?_⟩
   rcases hor with h9 | h9
   ·rw[h9] at e2;have:=hv g e2;have:=(hu.lt g e).1;omega
   ·rw[h9] at e2;injection e2 with e2;have:=(hu.lt g e).2;omega
  ·simp only[if_neg e]
   obtain⟨q1,q2⟩:=hV q (by omega)
   refine⟨q1.kept hg.size fun g e=>hg.block g (q1.lt g e).2 fun e2=>q2 g e e2.symm,fun g e e2=>?_⟩
   rcases hor with h9 | h9
   ·rw[h9] at e2;exact q2 g e e2
   ·rw[h9] at e2;injection e2 with e2;have:=(q1.lt g e).2;omega
theorem Tryz.infoTwinO:(Tryz.prog.info? 90).map (fun i=>(i.zero,i.size,i.bytes))=some (some (.agg #[.int .i64 0,.int .i64 0,.int .i64 0,.int .i64 0,.slice none 0 0,.slice none 0 0,.int .i64 0,.bool false]),8,96):=by kernel_rfl
def jK (P:Lay) (q:Nat):List Value :=
 if(P.L.zh.getD q ⟨-1,0,0,0⟩).page=-1 then
  [.int .i64 (-1),.int .i64 0,.int .i64 (ud P.L (P.L.zh.getD q ⟨-1,0,0,0⟩).body).m,.int .i64 (ud P.L (P.L.zh.getD q ⟨-1,0,0,0⟩).body).pc,(P.T (P.L.zh.getD q ⟨-1,0,0,0⟩).body).1,(P.T (P.L.zh.getD q ⟨-1,0,0,0⟩).body).2,.int .i64 (P.L.zh.getD q ⟨-1,0,0,0⟩).zf,.bool (ud P.L (P.L.zh.getD q ⟨-1,0,0,0⟩).body).zv]
 else [.int .i64 (P.L.zh.getD q ⟨-1,0,0,0⟩).page,.int .i64 (P.L.zh.getD q ⟨-1,0,0,0⟩).place,.int .i64 0,.int .i64 0,.slice none 0 0,.slice none 0 0,.int .i64 0,.bool false]
theorem KY (P:Lay) (q:Nat):(jK P q).length=8:=by unfold jK;split <;> rfl
theorem Qn {P:Lay} {B' k:Nat} {w:World} {v:Value} (h:yl B' 8 w v k ((List.range k).flatMap (jK P))) (h1:∀u∈jK P k,u.oneCell'=true) (H:Nat) (hx:∀j x,(jK P k)[j]?=some x->w.cell? ⟨H,j,none⟩=some x) (hB:B'<=w.heap.size) (hkf:k<=2900000) :
 ∃a' c' w',(Builtin.append_ #[40,40] 40 #[v,.slice (some ⟨H,0,none⟩) 1 1]).run Tryz.prog w=.ok (.slice a' (k+1) c') w'/\yl B' 8 w' (.slice a' (k+1) c') (k+1) ((List.range (k+1)).flatMap (jK P))/\w.grownBy w' v.ownBlock:=by
 obtain⟨i0,hii,hz0,hz1,hz2⟩:=info_parts Tryz.infoTwinO
 obtain⟨v',w',hrun,zS,hg,_⟩:=jE (P:=Tryz.prog) (t:=40) (ty:=40) Tryz.underlying40 hii hz0 hz1 rfl (by omega) h (jK P k) (KY P k) h1 H 1 hx hkf hB
 obtain⟨a',c',hv',_⟩:=zS.slice
 subst hv'
 rw[<-kL] at zS
 exact⟨a',c',w',hrun,zS,hg⟩
theorem UT {B:Nat} {ρ:Nat->Rl} {w:World} {P:Lay} (h:qf B ρ w P) (hwf:P.L.wf) {B':Nat} {v:Value} (hp:vw P B' w v P.L.zd.length) (hn:P.L.zd.length<=1000):kU w v (P.L.zd.map (pgM P.L)):=by
 obtain⟨V,h1,h2⟩:=hp
 obtain⟨av,cv,hv,hm⟩:=h1.slice
 refine⟨av,cv,by rw[hv,List.length_map],by rw[List.length_map];exact hm,fun q hq=>?_⟩
 have hq':q<P.L.zd.length:=by simpa using hq
 have hgd:P.L.zd.getD q ⟨-1,[]⟩=P.L.zd[q]:=by simp[hq']
 subst hv
 obtain⟨g,off,zp,e,_,_⟩:=h1.form (by omega)
 cases e
 have c:=fun j (hj:j<2)=>uy (f:=fun q=>[Value.int .i64 (P.L.zd.getD q ⟨-1,[]⟩).base,V q]) (sz:=2) (fun i=>rfl) P.L.zd.length q j hq' hj
 have c0:=(h1.cell (c 0 (by omega))).1
 have c1:=(h1.cell (c 1 (by omega))).1
 obtain⟨r1,_⟩:=h2 q hq'
 rw[hgd] at r1
 have hf:=Ke h zC (fun k hk=>hwf.fr q hq' k hk) r1
 have em:(P.L.zd.map (pgM P.L))[q]=pgM P.L P.L.zd[q]:=by simp
 rw[em]
 refine⟨g,off,V q,rfl,?_,?_,hf⟩
 ·have:w.cell? ⟨g,off+(q * 2+0),none⟩=some (.int .i64 (P.L.zd.getD q ⟨-1,[]⟩).base):=c0
  rw[hgd] at this
  exact this
 ·have:w.cell? ⟨g,off+(q * 2+1),none⟩=some (V q):=c1
  rw[<-Nat.add_assoc] at this
  exact this
theorem U5 {B:Nat} {ρ:Nat->Rl} {w:World} {P:Lay} (h:qf B ρ w P) (hwf:P.L.wf) {B':Nat} {v:Value} (hp:yl B' 8 w v P.L.zh.length ((List.range P.L.zh.length).flatMap (jK P))):jH w v (P.L.zh.map (twM P.L)):=by
 obtain⟨av,cv,hv,hm⟩:=hp.slice
 refine⟨av,cv,by rw[hv,List.length_map],by rw[List.length_map];exact hm,fun q hq=>?_⟩
 have hq':q<P.L.zh.length:=by simpa using hq
 have hgd:P.L.zh.getD q ⟨-1,0,0,0⟩=P.L.zh[q]:=by simp[hq']
 subst hv
 obtain⟨g,off,zp,e,_,_⟩:=hp.form (by omega)
 cases e
 have c:=fun j (hj:j<8)=>uy (f:=jK P) (sz:=8) (fun i=>KY P i) P.L.zh.length q j hq' hj
 have cell:∀j x,j<8->(jK P q)[j]?=some x->w.cell? ⟨g,off+q * 8+j,none⟩=some x:=fun j x hj hx=>by
  have:=(hp.cell (j:=q * 8+j) ((c j hj).trans hx)).1
  rwa [<-Nat.add_assoc] at this
 have em:(P.L.zh.map (twM P.L))[q]=twM P.L P.L.zh[q]:=by simp
 rw[em]
 have hk:=hwf.tw q hq'
 by_cases jN:P.L.zh[q].page=-1
 ·have ht:jK P q=[.int .i64 (-1),.int .i64 0,.int .i64 (ud P.L P.L.zh[q].body).m,.int .i64 (ud P.L P.L.zh[q].body).pc,(P.T P.L.zh[q].body).1,(P.T P.L.zh[q].body).2,.int .i64 P.L.zh[q].zf,.bool (ud P.L P.L.zh[q].body).zv]:=by unfold jK;rw[hgd,if_pos jN]
  have hm2:twM P.L P.L.zh[q]=⟨-1,0,⟨(ud P.L P.L.zh[q].body).m,(ud P.L P.L.zh[q].body).pc,(ud P.L P.L.zh[q].body).zg,(ud P.L P.L.zh[q].body).ze,P.L.zh[q].zf,(ud P.L P.L.zh[q].body).zv⟩⟩:=by unfold twM;rw[if_pos jN]
  have o1:=((h (.zg _) hk).1.at)
  have o2:=((h (.ze _) hk).1.at)
  rw[<-YN hk] at o1 o2
  rw[hm2]
  exact⟨g,off,_,_,rfl,cell 0 _ (by omega) (by rw[ht];rfl),cell 1 _ (by omega) (by rw[ht];rfl),cell 2 _ (by omega) (by rw[ht];rfl),cell 3 _ (by omega) (by rw[ht];rfl),cell 4 _ (by omega) (by rw[ht];rfl),cell 5 _ (by omega) (by rw[ht];rfl),cell 6 _ (by omega) (by rw[ht];rfl),cell 7 _ (by omega) (by rw[ht];rfl),o1,o2⟩
 ·have ht:jK P q=[.int .i64 P.L.zh[q].page,.int .i64 P.L.zh[q].place,.int .i64 0,.int .i64 0,.slice none 0 0,.slice none 0 0,.int .i64 0,.bool false]:=by unfold jK;rw[hgd,if_neg jN]
  have hm2:twM P.L P.L.zh[q]=⟨P.L.zh[q].page,P.L.zh[q].place,⟨0,0,[],[],0,false⟩⟩:=by unfold twM;rw[if_neg jN]
  have on:zR w (.slice none 0 0) []:=⟨none,0,rfl,Nat.zero_le _,fun _ h=>absurd h zF⟩
  rw[hm2]
  exact⟨g,off,_,_,rfl,cell 0 _ (by omega) (by rw[ht];rfl),cell 1 _ (by omega) (by rw[ht];rfl),cell 2 _ (by omega) (by rw[ht];rfl),cell 3 _ (by omega) (by rw[ht];rfl),cell 4 _ (by omega) (by rw[ht];rfl),cell 5 _ (by omega) (by rw[ht];rfl),cell 6 _ (by omega) (by rw[ht];rfl),cell 7 _ (by omega) (by rw[ht];rfl),on,on⟩
def jr (P:Lay) (B:Nat) (w':World) (v1 v3:Value):Prop :=
 ∃(wm:World) (B':Nat),B<=B'/\vw P B' wm v1 P.L.zd.length/\B'<=wm.heap.size/\wm.heap.size<=w'.heap.size/\(∀g,B'<=g->g<wm.heap.size->w'.heap[g]?=wm.heap[g]?)/\yl wm.heap.size 8 w' v3 P.L.zh.length ((List.range P.L.zh.length).flatMap (jK P))
theorem jr.kept {P:Lay} {B:Nat} {w' w'':World} {v1 v3:Value} (h:jr P B w' v1 v3) (hs:w'.heap.size<=w''.heap.size) (hb:∀g,B<=g->g<w'.heap.size->w''.heap[g]?=w'.heap[g]?):jr P B w'' v1 v3:=by
 obtain⟨wm,B',h1,h2,h3,h4,h5,h6⟩:=h
 exact⟨wm,B',h1,h2,h3,Nat.le_trans h4 hs,fun g g1 g2=>(hb g (by omega) (by omega)).trans (h5 g g1 g2),h6.kept hs fun g e=>hb g (by have:=(h6.lt g e).1;omega) (h6.lt g e).2⟩
theorem jr.slices {P:Lay} {B:Nat} {w':World} {v1 v3:Value} (h:jr P B w' v1 v3):(∃a c,v1=.slice a P.L.zd.length c)/\∃a c,v3=.slice a P.L.zh.length c:=by
 obtain⟨wm,B',h1,h2,h3,h4,h5,h6⟩:=h
 obtain⟨a,c,e,_⟩:=h6.slice
 exact⟨h2.slice.1,a,c,e⟩
theorem jr.at {B0:Nat} {ρ:Nat->Rl} {P:Lay} {B:Nat} {w':World} {v1 v3:Value} (h:qf B0 ρ w' P) (hwf:P.L.wf) (hn:P.L.zd.length<=1000) (hm:jr P B w' v1 v3) {vsd:Value} {zl:zL} (hs:zR w' vsd zl) (born code:Int):yF w' v1 P.vo v3 vsd (US P.L born zl code):=by
 obtain⟨wm,B',h1,h2,h3,h4,h5,h6⟩:=hm
 exact⟨UT h hwf (h2.kept h4 h5) hn,(h .order).1.at,U5 h hwf h6,hs⟩
theorem Ka {P:Program} {t ty:TypeId} {ops:Array Oper} {rest:List Oper} {o:Oper} {act:Act} {Q:Exit->Act->World->Prop} {w w':World} {v xv v':Value} (hgd:o.guard=none) (s x:Operand)
 (ho:o.op=.call {callee:=.builtin .append,args:=#[s,x],argTypes:=#[t,t]}) (hty:o.type=ty) (hs:act.eval s=v) (hx:act.eval x=xv) (hr:(Builtin.append_ #[t,t] ty #[v,xv]).run P w=.ok v' w')
 (h:wpList P ops Q rest (act.put o.dst v') w'):wpList P ops Q (o :: rest) act w:=by
 refine wpList_plain hgd fun K hK=>?_
 unfold Oper.wp execOp
 simp only[ho,resolve,invoke,builtin,Sem.run_bind,Sem.run_pure,Result.andThen_ok,List.map_toArray,List.map_cons,List.map_nil,hs,hx,hty,hr]
 exact hK _ _ h
set_option maxRecDepth 100000 in
set_option maxHeartbeats 4000000 in
theorem UI {B:Nat} {ρ:Nat->Rl} {w:World} {P:Lay} (h:qf B ρ w P) (hwf:P.L.wf) (WC:P.L.zd.length<=1000/\∀i,(hi:i<P.L.zd.length)->P.L.zd[i].zk.length<=1000) (hft:P.L.zh.length<=800000)
 (born code:Int) (vsd:Value) (zl:zL) (hs:zR w vsd zl) :
 Calls Tryz.prog 52 #[.pointer (some ⟨P.bl,0,none⟩),.int .i64 born,vsd,.int .i64 code] w fun e w'=>∃v1 v3,e=.returned (.agg (zI v1 P.vo v3 vsd (US P.L born zl code)).toArray)/\jr P w.heap.size w' v1 v3/\Below w.heap.size w w':=by
 have HL:Hid (qf B ρ w P):=h
 have HWF:Hid P.L.wf:=hwf
 have HFW:Hid (P.L.zd.length<=1000/\∀i,(hi:i<P.L.zd.length)->P.L.zd[i].zk.length<=1000):=WC
 have HS:Hid (zR w vsd zl):=hs
 have hpn:=WC.1
 obtain⟨as',cs,hvs⟩:=hs.shape
 have hbx:=h.box
 obtain⟨ap,cp,hvp,_⟩:=(h .zd).1.slice
 obtain⟨ao,co,xz,_⟩:=(h .order).1.slice
 have zS:=(h .zd).1
 rw[hvp] at zS
 rw[hvp,xz] at hbx
 obtain⟨vO,hvO⟩:∃vO,P.vo=vO:=⟨_,rfl⟩
 have HVO:Hid (P.vo=vO):=hvO
 obtain⟨i0,hii,hz0,hz1,hz2⟩:=info_parts Tryz.infoPageO
 have x0:=hbx.cell 0 rfl
 have x2:=hbx.cell 2 rfl
 have x3:=hbx.cell 3 rfl
 have hblw:=hbx.lt
 clear h hwf WC hs
 go_enter Tryz.func52,Tryz.ntmps52
 go_upto_region 1 with fail
 refine ye (fun W=>Below w.heap.size w W/\Bx W w.heap.size 42 [.int .i64 0,.slice none 0 0,.slice none 0 0,.int .i64 0,.slice none 0 0,.int .i64 0,.slice none 0 0,.int .i64 0]) ⟨zB _ _,Bx.new _ _ _⟩ ?_
 rintro W ⟨hbW,z⟩
 have hxW:=hbx.below hbW
 have hzW:=hbW.size
 clear x0 x2 x3
 have x0:=hxW.cell 0 rfl
 have x2:=hxW.cell 2 rfl
 have x3:=hxW.cell 3 rfl
 have hblW:P.bl<W.heap.size:=hxW.lt
 subst hvs
 go_region
 refine kH (fun W'=>Below w.heap.size w W'/\Bx W' w.heap.size 42 [.int .i64 0,.slice none 0 0,.slice none 0 0,.int .i64 0,.slice none 0 0,.int .i64 0,.slice none 0 0,.int .i64 0]/\Bx W' W.heap.size 42 [.int .i64 P.L.cells,.slice none 0 0,.slice ao P.L.order.length co,.int .i64 P.L.now,.slice none 0 0,.int .i64 born,.slice as' zl.length cs,.int .i64 code]/\W.heap.size<W'.heap.size) ⟨(hbW.alloc hzW _).drew,(z.alloc _).drew,(Bx.new _ _ _).drew,by show W.heap.size<(W.alloc _).heap.size;simp⟩ ?_
 rintro W1 ⟨hb1,hz1',hx1,hl1⟩
 have hgz:w.heap.size<W.heap.size:=z.lt
 obtain⟨g9,Xb⟩:∃g9,W.heap.size=g9:=⟨_,rfl⟩
 rw[Xb] at hx1 hl1 hgz ⊢
 clear hxW x0 x2 x3 z hbW hzW hblW Xb hbx
 have hxb1:=HL.out.box.below hb1
 rw[hvp] at hxb1
 have x1:=hxb1.cell 1 rfl
 have hlz:=hb1.size
 go_wp2_with fail
 clear x1
 go_loopg [11,35] P.L.zd.length (fun d _ q wr=>∃(k:Nat) (vpg:Value),k<=P.L.zd.length/\d=P.L.zd.length - k/\q=.int .i64 (k:Int)/\Bx wr w.heap.size 42 [.int .i64 0,.slice none 0 0,.slice none 0 0,.int .i64 0,.slice none 0 0,.int .i64 0,.slice none 0 0,.int .i64 0]/\Bx wr g9 42 [.int .i64 P.L.cells,vpg,.slice ao P.L.order.length co,.int .i64 P.L.now,.slice none 0 0,.int .i64 born,.slice as' zl.length cs,.int .i64 code]/\vw P (g9+1) wr vpg k/\Below w.heap.size w wr/\g9<wr.heap.size)
 case atStart=>exact⟨0,_,Nat.zero_le _,rfl,rfl,hz1',hx1,⟨fun _=>undef,yl.nil _ _ _,fun _ hq=>absurd hq zF⟩,hb1,hl1⟩
 case round =>
  obtain⟨k,vpg,hk,rfl,rfl,Wj,hxr,hpr,hbr,hlr⟩:=hrel
  have zr:=hbr.size
  clear hz1' hx1 hb1 hl1 hxb1 hlz
  by_cases hlt:k<P.L.zd.length
  ·obtain⟨gp,op,cpx,hform,_,_⟩:=zS.form (by omega)
   cases hform
   have hkz:(k:Int)<(P.L.zd.length:Int):=by omega
   obtain⟨q0,q1⟩:=ZK (jv P.F P.L.zd) k (by rw[jl];exact hlt)
   rw[Yx hlt] at q0 q1
   have c0:=zc hbr (zS.cell q0).1
   have c1:=zc hbr (zS.cell q1).1
   rw[<-Nat.add_assoc] at c1
   obtain⟨aF,cF,hvF,_⟩:=(HL.out (.zk k) hlt).1.slice
   dsimp only at c0 c1
   rw[hvF] at c1
   obtain⟨⟨av,cv,QC⟩,_⟩:=hpr.slice
   subst QC
   obtain⟨Q,hQ⟩:∃Q,P.L.zd[k]=Q:=⟨_,rfl⟩
   have HLL:Hid (∀X,Below w.heap.size w X->Calls Tryz.prog 119 #[.agg #[.int .i64 Q.base,.slice aF Q.zk.length cF]] X fun e w'=>∃v',e=.returned v'/\yl X.heap.size 5 w' v' Q.zk.length ((List.range Q.zk.length).flatMap (uA P Q.zk))/\Below X.heap.size X w'):=fun X hX=>by
    have:=VE (HL.out.below hX) HWF.out k hlt P.L.zd[k].base (HFW.out.2 k hlt)
    rw[hvF] at this
    rw[<-hQ]
    exact this
   rw[hQ] at c0 c1
   go_upto_region 5 with fail
   refine ye (fun W'=>Below wr.heap.size wr W'/\Bx W' wr.heap.size 164 [.int .i64 Q.base,.slice aF Q.zk.length cF]) ⟨zB _ _,Bx.new _ _ _⟩ ?_
   rintro W2 ⟨t2,y2⟩
   have hb2:=hbr.trans (t2.mono zr)
   have z2:=hb2.size
   have v2:=hpr.below t2
   have hx2:=hxr.below t2
   have hzz2:=Wj.below t2
   have zt:=t2.size
   have n0:=y2.cell 0 rfl
   have n1:=y2.cell 1 rfl
   have m1:=hx2.cell 1 rfl
   have HC:Hid (∀X,Below W2.heap.size W2 X->Calls Tryz.prog 119 #[.agg #[.int .i64 Q.base,.slice aF Q.zk.length cF]] X fun e w'=>∃v',e=.returned v'/\yl X.heap.size 5 w' v' Q.zk.length ((List.range Q.zk.length).flatMap (uA P Q.zk))/\Below X.heap.size X w'):=fun X hX=>HLL.out X (hb2.trans (hX.mono z2))
   have hvl:=v2.slice.2
   have HAP:Hid (∀(qF:World) (u:Value) (H:Nat),vw P (g9+1) qF (.slice av k cv) k->yl W2.heap.size 5 qF u Q.zk.length ((List.range Q.zk.length).flatMap (uA P Q.zk))->u.oneCell'=true->(∀j x,([.int .i64 Q.base,u]:List Value)[j]?=some x->qF.cell? ⟨H,j,none⟩=some x)->g9+1<=qF.heap.size ->
    ∃a' c' w',(Builtin.append_ #[38,38] 38 #[.slice av k cv,.slice (some ⟨H,0,none⟩) 1 1]).run Tryz.prog qF=.ok (.slice a' (k+1) c') w'/\vw P (g9+1) w' (.slice a' (k+1) c') (k+1)/\qF.grownBy w' (Value.slice av k cv).ownBlock):=fun qF u H h1 h2 h3 h4 h5=>by
    rw[<-hQ] at h2 h4
    exact h1.append hlt h2 (by omega) (fun g e=>(hvl g e).2) h3 H h4 h5 (by omega)
   clear c0 c1 q0 q1 zS hpr hxr Wj t2 HLL hvF hQ y2 hvl hvO
   refine xY [[],[0],[],[2],[],[4],[2,3,4,5],[2,3,4,5,6],[0,1,2,3,4,5,6,7],[0,1,2,3,4,5,6,7,8],[0,1,2,3,4,5,6,7,8,9]] [[0],[1],[2],[3],[4],[5],[5,6],[5,7],[],[],[]] [[],[],[],[],[],[],[],[],[],[],[]] [qb (.pointer (some ⟨g9,1,none⟩)),qb (.slice av k cv),qb (.pointer (some ⟨wr.heap.size,0,none⟩)),qb (.int .i64 Q.base),qb (.agg #[.int .i64 Q.base,.slice aF Q.zk.length cF]),X2 5 (fun(x:Value) l=>l=[x]) (fun x w1=>(∃a0 c0,x=.slice a0 Q.zk.length c0)/\(yl W2.heap.size 5 w1 x Q.zk.length ((List.range Q.zk.length).flatMap (uA P Q.zk)))),wV fun l=>∃x:Value,l=[x,.agg #[.int .i64 Q.base,x]],X2 7 (fun(x:Value × Nat) l=>l=[x.1,.slice (some ⟨x.2,0,none⟩) 1 1]) (fun x w1=>∀j u,([.int .i64 Q.base,x.1]:List Value)[j]?=some u->w1.cell? ⟨x.2,j,none⟩=some u),wV fun _=>True,wV fun _=>True,wV fun _=>True] 8 2 rfl (by kernel_rfl) (by kernel_rfl) (by kernel_rfl) (by kernel_rfl) ?_ ?_
   ·refine zi (zi (zi (zi (zi (zi (zi (zi (qj) ?_) ?_) ?_) ?_) ?_) ?_) ?_) ?_
    ·intro a w val own hB hf zx hk
     have s9:=hf.at (d:=9) (v:=.pointer (some ⟨g9,0,none⟩)) (by kernel_rfl) rfl
     exact zs (v:=.pointer (some ⟨g9,1,none⟩)) hB
    ·intro a w val own hB hf zx hk
     obtain⟨k0,f0⟩:=hk 0 (show 0∈[0] by decide)
     have s39:=k0 39 rfl
     rw[zu f0] at s39
     clear k0 f0
     have vK:=zc hB m1
     exact zs (v:=.slice av k cv) hB
    ·intro a w val own hB hf zx hk
     have s11:=hf.at (d:=11) (v:=.pointer (some ⟨wr.heap.size,0,none⟩)) (by kernel_rfl) rfl
     exact zs (v:=.pointer (some ⟨wr.heap.size,0,none⟩)) hB
    ·intro a w val own hB hf zx hk
     obtain⟨k2,f2⟩:=hk 2 (show 2∈[2] by decide)
     have s41:=k2 41 rfl
     rw[zu f2] at s41
     clear k2 f2
     have cn0:=zc hB n0
     exact zs (v:=.int .i64 Q.base) hB
    ·intro a w val own hB hf zx hk
     have s11:=hf.at (d:=11) (v:=.pointer (some ⟨wr.heap.size,0,none⟩)) (by kernel_rfl) rfl
     have cn0:=zc hB n0
     have cn1:=zc hB n1
     exact zs (v:=.agg #[.int .i64 Q.base,.slice aF Q.zk.length cF]) hB
    ·intro a w val own hB hf zx hk
     obtain⟨k4,f4⟩:=hk 4 (show 4∈[4] by decide)
     have s43:=k4 43 rfl
     rw[zu f4] at s43
     clear k4 f4
     have Zp:=hB.size
     refine jg hB rfl rfl (by unfold execOp;go_simp) ((HC.out w hB).mono ?_)
     rintro e w' ⟨v1,rfl,r1,hb'⟩
     refine⟨_,rfl,hb',v1,rfl,Made.new fun w1 hs hbw hr=>⟨?_,?_⟩⟩
     ·obtain⟨a0,c0,e0,_⟩:=r1.slice
      exact⟨a0,c0,e0⟩
     ·exact(r1.kept hs fun g e=>hr g (r1.lt g e).1 (r1.lt g e).2).mono Zp
    ·intro a w val own hB hf zx hk
     obtain⟨kc,xc,ec,mc⟩:=hk 5 (show 5∈[2,3,4,5] by decide)
     have vc:=yB ec
     have s44:=kc 44 rfl
     rw[vc] at s44
     obtain⟨⟨a0,c0,q1⟩,rc⟩:=mc.here hB
     clear kc ec mc
     subst q1
     obtain⟨k3,f3⟩:=hk 3 (show 3∈[2,3,4,5] by decide)
     have s42:=k3 42 rfl
     rw[zu f3] at s42
     clear k3 f3
     exact zs (v:=.agg #[.int .i64 Q.base,.slice a0 Q.zk.length c0]) hB rfl rfl (by unfold execOp;go_simp) ⟨.slice a0 Q.zk.length c0,by show [val 5,_]=_;rw[vc];rfl⟩
    ·intro a w val own hB hf zx hk
     obtain⟨kc,xc,ec,mc⟩:=hk 5 (show 5∈[2,3,4,5,6] by decide)
     have vc:=yB ec
     have s44:=kc 44 rfl
     rw[vc] at s44
     obtain⟨⟨a0,c0,q1⟩,rc⟩:=mc.here hB
     clear kc ec mc
     obtain⟨kd,xd,ed⟩:=hk 6 (show 6∈[2,3,4,5,6] by decide)
     have ed':[val 5,val 6]=_:=ed
     injection ed' with ZN Ug
     have vd:=yB Ug
     rw[vc] at ZN
     subst ZN
     have s45:=kd 45 rfl
     rw[vd] at s45
     clear kd ed Ug vd
     subst q1
     refine uN (v:=.slice (some ⟨w.heap.size,0,none⟩) 1 1) (w':=w.alloc (.cells #[.int .i64 Q.base,.slice a0 Q.zk.length c0] 101)) hB rfl rfl (by unfold execOp;go_simp) (zB _ _) ⟨(.slice a0 Q.zk.length c0,w.heap.size),?_,Made.new fun w1 _ _ hr=>?_⟩
     ·show [val 5,_]=_
      rw[vc]
      rfl
     ·exact fun j u hu=>((Bx.new w 101 [.int .i64 Q.base,.slice a0 Q.zk.length c0]).kept (hr _ zD (by simp))).cell j hu
   intro aE qF val own hB hf zx hk
   obtain⟨kc,xc,ec,mc⟩:=hk 5 (by decide)
   have vc:=yB ec
   have s44:=kc 44 rfl
   rw[vc] at s44
   obtain⟨⟨a0,c0,q1⟩,rc⟩:=mc.here hB
   clear kc ec mc
   obtain⟨kb,xb,eb,mb⟩:=hk 7 (by decide)
   have eb':[val 5,val 7]=_:=eb
   injection eb' with Ww ebb
   have vb:=yB ebb
   have s46:=kb 46 rfl
   rw[vb] at s46
   obtain⟨ya,H⟩:=xb
   have hxx:xc=ya:=by rw[vc] at Ww;exact Ww
   subst hxx
   have mh:=mb.here hB
   dsimp only at mh
   subst q1
   obtain⟨kq,fq⟩:=hk 1 (by decide)
   have s40:=kq 40 rfl
   rw[zu fq] at s40
   clear kq fq
   have hB0:Below W2.heap.size W2 qF:=hB
   have hz0':=hB0.size
   obtain⟨a9,c9,W3,hrun,hP3,hg3⟩:=HAP.out qF (.slice a0 Q.zk.length c0) H (v2.below hB0) rc rfl mh (by omega)
   have hown2:=fun q (e:(Value.slice av k cv).ownBlock=some q)=>(v2.slice.2 q e).1
   have hb3:Below w.heap.size w W3:=(hb2.trans (hB0.mono z2)).grown hg3 (by omega) fun q e=>by have:=hown2 q e;omega
   have hx3:=(hx2.below hB0).grown hg3 (fun e=>by have:=hown2 _ e;omega)
   have hz3:=(hzz2.below hB0).grown hg3 (fun e=>by have:=hown2 _ e;omega)
   have g1:=hx3.cell 1 rfl
   have gf1:=hx3.frozen 1
   have HE:Hid (Bx (W3.setCell ⟨g9,1,none⟩ (.slice a9 (k+1) c9)) w.heap.size 42 [.int .i64 0,.slice none 0 0,.slice none 0 0,.int .i64 0,.slice none 0 0,.int .i64 0,.slice none 0 0,.int .i64 0]/\Bx (W3.setCell ⟨g9,1,none⟩ (.slice a9 (k+1) c9)) g9 42 [.int .i64 P.L.cells,.slice a9 (k+1) c9,.slice ao P.L.order.length co,.int .i64 P.L.now,.slice none 0 0,.int .i64 born,.slice as' zl.length cs,.int .i64 code]/\vw P (g9+1) (W3.setCell ⟨g9,1,none⟩ (.slice a9 (k+1) c9)) (.slice a9 (k+1) c9) (k+1)/\Below w.heap.size w (W3.setCell ⟨g9,1,none⟩ (.slice a9 (k+1) c9))/\g9<(W3.setCell ⟨g9,1,none⟩ (.slice a9 (k+1) c9)).heap.size) :=
    ⟨hz3.other (by omega) _,hx3.set 1 _,hP3.kept (by rw[World.size_setCell];exact Nat.le_refl _) fun g h1 _=>Below.heap_setCell _ _ _ _ (by show g≠g9;omega),hb3.setCell (p:=⟨g9,1,none⟩) (by show w.heap.size<=g9;omega) _,by rw[World.size_setCell];have:=hg3.size;omega⟩
   clear hP3 hb3 hx3 hz3 hown2 hg3 hB0 rc
   clear kb eb ebb vb mb mh vc Ww
   have hu:=xD hf [39,40,41,42,43,44,45,46] (by kernel_rfl)
   dsimp only at hu
   simp only[List.foldl_cons,List.foldl_nil,List.setIfInBounds_toArray,List.set_cons_succ,List.set_cons_zero] at hu
   rw[s40,s46] at hu
   generalize aE.tmps[39]?.getD undef=u39 at hu
   generalize aE.tmps[41]?.getD undef=u41 at hu
   generalize aE.tmps[42]?.getD undef=u42 at hu
   generalize aE.tmps[43]?.getD undef=u43 at hu
   generalize aE.tmps[44]?.getD undef=u44 at hu
   generalize aE.tmps[45]?.getD undef=u45 at hu
   obtain rfl:=kX hu (show aE.defers=[] from hf.defers)
   clear hu hk zx hf s40 s46 s44
   refine qs (v:=.slice a9 (k+1) c9) (w':=W3) rfl rfl (jP rfl (by go_simp) (by go_simp) hrun) ?_
   simp only[Act.put]
   refine qs (v:=.pointer (some ⟨g9,1,none⟩)) (w':=W3) rfl rfl (by unfold execOp;go_simp) ?_
   simp only[Act.put]
   refine xx (w':=W3.setCell ⟨g9,1,none⟩ (.slice a9 (k+1) c9)) rfl rfl (by unfold execOp;go_simp) ?_
   simp only[Act.put]
   clear hrun hB g1 gf1
   refine kH (fun W9=>Bx W9 w.heap.size 42 [.int .i64 0,.slice none 0 0,.slice none 0 0,.int .i64 0,.slice none 0 0,.int .i64 0,.slice none 0 0,.int .i64 0]/\Bx W9 g9 42 [.int .i64 P.L.cells,.slice a9 (k+1) c9,.slice ao P.L.order.length co,.int .i64 P.L.now,.slice none 0 0,.int .i64 born,.slice as' zl.length cs,.int .i64 code]/\vw P (g9+1) W9 (.slice a9 (k+1) c9) (k+1)/\Below w.heap.size w W9/\g9<W9.heap.size) HE.out ?_
   rintro W9 ⟨k1,k2,k3,k4,k5⟩
   clear HE
   go_wp2
   go_roundg (P.L.zd.length - (k+1))
   case measure=>omega
   case rel=>exact⟨k+1,_,by omega,rfl,by go_num,k1,k2,k3,k4,k5⟩
  ·obtain rfl:k=P.L.zd.length:=by omega
   obtain⟨⟨av,cv,QC⟩,hvl⟩:=hpr.slice
   subst QC
   have hbl9:=HL.out.box.below hbr
   rw[hvp,xz] at hbl9
   have x4:=hbl9.cell 4 rfl
   have hTM:=(HL.out .zh).1.below hbr
   have hlen:=xW.len (P:=Tryz.prog) (t:=157) (by kernel_rfl) hTM 3
   rw[List.length_map] at hlen
   clear zS
   go_wp2_with fail
   obtain⟨wo,hwo⟩:∃wo,wo=wr:=⟨_,rfl⟩
   subst hwo
   go_loopg [12,13,55] P.L.zh.length (fun d _ _ q wt=>∃(k:Nat) (vtw:Value),k<=P.L.zh.length/\d=P.L.zh.length - k/\q=.int .i64 (k:Int)/\Bx wt w.heap.size 42 [.int .i64 0,.slice none 0 0,.slice none 0 0,.int .i64 0,.slice none 0 0,.int .i64 0,.slice none 0 0,.int .i64 0]/\Bx wt g9 42 [.int .i64 P.L.cells,.slice av P.L.zd.length cv,.slice ao P.L.order.length co,.int .i64 P.L.now,vtw,.int .i64 born,.slice as' zl.length cs,.int .i64 code]/\yl wo.heap.size 8 wt vtw k ((List.range k).flatMap (jK P))/\Below w.heap.size w wt/\wo.heap.size<=wt.heap.size/\∀g,g9+1<=g->g<wo.heap.size->wt.heap[g]?=wo.heap[g]?)
   case atStart=>exact⟨0,_,Nat.zero_le _,rfl,rfl,Wj,hxr,yl.nil _ _ _,hbr,Nat.le_refl _,fun _ _ _=>rfl⟩
   case round =>
    obtain⟨k,vtw,hk,rfl,rfl,hz2,hx2',ht2,hb2',hle,hkp⟩:=hrel
    obtain⟨at2,Ue,xZ,_⟩:=ht2.slice
    subst xZ
    have z2':=hb2'.size
    have hzo:=hbr.size
    have hxb:=HL.out.box.below hb2'
    rw[hvp,xz] at hxb
    clear x4 hbl9 hTM hlen
    have x4:=hxb.cell 4 rfl
    by_cases hlt:k<P.L.zh.length
    ·have hkz:(k:Int)<(P.L.zh.length:Int):=by omega
     have hTM2:=(HL.out .zh).1.below hb2'
     have hlk:=xW.look (P:=Tryz.prog) (t:=157) (kt:=3) (et:=168) (by kernel_rfl) (by kernel_rfl) hTM2 (k:=k) (by simpa using hlt)
     have hval:(P.L.zh.map (jZ P.D))[k]'(by simpa using hlt)=jZ P.D P.L.zh[k]:=by simp
     rw[hval] at hlk
     unfold jZ at hlk
     have hbk:=HWF.out.tw k hlt
     obtain⟨a1,k1,a2,k2,hT⟩:=HL.out.lists hbk
     have hbody:=(HL.out (.body P.L.zh[k].body) hbk).1
     have hgd:P.L.zh.getD k ⟨-1,0,0,0⟩=P.L.zh[k]:=by simp[hlt]
     have Vo:jK P k=if P.L.zh[k].page=-1 then [.int .i64 (-1),.int .i64 0,.int .i64 P.L.zU[P.L.zh[k].body].m,.int .i64 P.L.zU[P.L.zh[k].body].pc,(P.T P.L.zh[k].body).1,(P.T P.L.zh[k].body).2,.int .i64 P.L.zh[k].zf,.bool P.L.zU[P.L.zh[k].body].zv] else [.int .i64 P.L.zh[k].page,.int .i64 P.L.zh[k].place,.int .i64 0,.int .i64 0,.slice none 0 0,.slice none 0 0,.int .i64 0,.bool false]:=by unfold jK;rw[hgd,YN hbk]
     obtain⟨b,hb⟩:∃b,P.L.zU[P.L.zh[k].body]=b:=⟨_,rfl⟩
     rw[hb] at hT hbody Vo
     obtain⟨T,hTe⟩:∃T,P.L.zh[k]=T:=⟨_,rfl⟩
     rw[hTe] at hlk hT hbody Vo
     rw[hT] at hbody Vo
     clear hTM2 hval hgd hb hTe hbk hT
     go_upto_region 11 with fail
     refine ye (fun W'=>Below wr.heap.size wr W'/\Bx W' wr.heap.size 168 [.int .i64 T.page,.int .i64 T.place,.pointer (some ⟨P.D T.body,0,none⟩),.int .i64 T.zf]) ⟨zB _ _,Bx.new _ _ _⟩ ?_
     rintro W2 ⟨t2,y2⟩
     have hb2:=hb2'.trans (t2.mono z2')
     have z2:=hb2.size
     have zt:=t2.size
     have t2':=ht2.below t2
     have hx2:=hx2'.below t2
     have hzz2:=hz2.below t2
     have hkp2:∀g,g9+1<=g->g<wo.heap.size->W2.heap[g]?=wo.heap[g]?:=fun g h1 h2=>(t2.block g (by omega)).trans (hkp g h1 h2)
     have n0:=y2.cell 0 rfl
     have n1:=y2.cell 1 rfl
     have n2:=y2.cell 2 rfl
     have n3:=y2.cell 3 rfl
     have m4:=hx2.cell 4 rfl
     have hwz:w.heap.size<g9:=by omega
     clear hlk x4 hxb ht2 hx2' hz2 t2 y2 hkp
     by_cases jN:T.page=-1
     ·rw[if_pos jN] at Vo
      have hto:=Vo
      clear Vo
      have HCB:Hid (∀X,Below W2.heap.size W2 X->Calls Tryz.prog 120 #[.pointer (some ⟨P.D T.body,0,none⟩),.int .i64 T.zf] X fun e w'=>e=.returned (.agg #[.int .i64 b.m,.int .i64 b.pc,.slice a1 b.zg.length k1,.slice a2 b.ze.length k2,.int .i64 T.zf,.bool b.zv])/\Below X.heap.size X w'):=fun X hX=>Kb T.zf X ((hbody.below hb2).below hX)
      rw[jN] at n0
      clear hbody
      go_wp2_with fail
      refine xY [[],[0],[],[2],[],[4],[2,3,4,5],[2,3,4,5,6],[2,3,4,5,6,7],[0,1,2,3,4,5,6,7,8],[0,1,2,3,4,5,6,7,8,9],[0,1,2,3,4,5,6,7,8,9,10]] [[0],[1],[2],[3],[4],[5],[6],[7],[8],[],[],[]] [[],[],[],[],[],[],[],[],[],[],[],[]] [qb (.pointer (some ⟨g9,4,none⟩)),qb (.slice at2 k Ue),qb (.pointer (some ⟨wr.heap.size,2,none⟩)),qb (.pointer (some ⟨P.D T.body,0,none⟩)),qb (.pointer (some ⟨wr.heap.size,3,none⟩)),qb (.int .i64 T.zf),qb (.agg #[.int .i64 b.m,.int .i64 b.pc,.slice a1 b.zg.length k1,.slice a2 b.ze.length k2,.int .i64 T.zf,.bool b.zv]),qb (.agg #[.int .i64 (-1),.int .i64 0,.int .i64 b.m,.int .i64 b.pc,.slice a1 b.zg.length k1,.slice a2 b.ze.length k2,.int .i64 T.zf,.bool b.zv]),X2 8 (fun(x:Nat) l=>l=[.slice (some ⟨x,0,none⟩) 1 1]) (fun x w1=>∀j u,([.int .i64 (-1),.int .i64 0,.int .i64 b.m,.int .i64 b.pc,.slice a1 b.zg.length k1,.slice a2 b.ze.length k2,.int .i64 T.zf,.bool b.zv]:List Value)[j]?=some u->w1.cell? ⟨x,j,none⟩=some u),wV fun _=>True,wV fun _=>True,wV fun _=>True] 9 2 rfl (by kernel_rfl) (by kernel_rfl) (by kernel_rfl) (by kernel_rfl) ?_ ?_
      ·refine zi (zi (zi (zi (zi (zi (zi (zi (zi (qj) ?_) ?_) ?_) ?_) ?_) ?_) ?_) ?_) ?_
       ·intro a w val own hB hf zx hk
        have s9:=hf.at (d:=9) (v:=.pointer (some ⟨g9,0,none⟩)) (by kernel_rfl) rfl
        exact zs (v:=.pointer (some ⟨g9,4,none⟩)) hB
       ·intro a w val own hB hf zx hk
        obtain⟨k0,f0⟩:=hk 0 (show 0∈[0] by decide)
        have s67:=k0 67 rfl
        rw[zu f0] at s67
        clear k0 f0
        have cm4:=zc hB m4
        exact zs (v:=.slice at2 k Ue) hB
       ·intro a w val own hB hf zx hk
        have s13:=hf.at (d:=13) (v:=.pointer (some ⟨wr.heap.size,0,none⟩)) (by kernel_rfl) rfl
        exact zs (v:=.pointer (some ⟨wr.heap.size,2,none⟩)) hB
       ·intro a w val own hB hf zx hk
        obtain⟨k2,f2⟩:=hk 2 (show 2∈[2] by decide)
        have s69:=k2 69 rfl
        rw[zu f2] at s69
        clear k2 f2
        have cn2:=zc hB n2
        exact zs (v:=.pointer (some ⟨P.D T.body,0,none⟩)) hB
       ·intro a w val own hB hf zx hk
        have s13:=hf.at (d:=13) (v:=.pointer (some ⟨wr.heap.size,0,none⟩)) (by kernel_rfl) rfl
        exact zs (v:=.pointer (some ⟨wr.heap.size,3,none⟩)) hB
       ·intro a w val own hB hf zx hk
        obtain⟨k4,f4⟩:=hk 4 (show 4∈[4] by decide)
        have s71:=k4 71 rfl
        rw[zu f4] at s71
        clear k4 f4
        have cn3:=zc hB n3
        exact zs (v:=.int .i64 T.zf) hB
       ·intro a w val own hB hf zx hk
        obtain⟨k3,f3⟩:=hk 3 (show 3∈[2,3,4,5] by decide)
        have s70:=k3 70 rfl
        rw[zu f3] at s70
        clear k3 f3
        obtain⟨k5,f5⟩:=hk 5 (show 5∈[2,3,4,5] by decide)
        have s72:=k5 72 rfl
        rw[zu f5] at s72
        clear k5 f5
        exact jg hB rfl rfl (by unfold execOp;go_simp) ((HCB.out w hB).mono fun e w' ⟨he,hb⟩=>⟨_,he,hb,rfl⟩)
       ·intro a w val own hB hf zx hk
        obtain⟨k6,f6⟩:=hk 6 (show 6∈[2,3,4,5,6] by decide)
        have s73:=k6 73 rfl
        rw[zu f6] at s73
        clear k6 f6
        exact zs (v:=.agg #[.int .i64 (-1),.int .i64 0,.int .i64 b.m,.int .i64 b.pc,.slice a1 b.zg.length k1,.slice a2 b.ze.length k2,.int .i64 T.zf,.bool b.zv]) hB
       ·intro a w val own hB hf zx hk
        obtain⟨k7,f7⟩:=hk 7 (show 7∈[2,3,4,5,6,7] by decide)
        have s74:=k7 74 rfl
        rw[zu f7] at s74
        clear k7 f7
        refine uN (v:=.slice (some ⟨w.heap.size,0,none⟩) 1 1) (w':=w.alloc (.cells #[.int .i64 (-1),.int .i64 0,.int .i64 b.m,.int .i64 b.pc,.slice a1 b.zg.length k1,.slice a2 b.ze.length k2,.int .i64 T.zf,.bool b.zv] 90)) hB rfl rfl (by unfold execOp;go_simp) (zB _ _) ⟨w.heap.size,rfl,Made.new fun w1 _ _ hr=>?_⟩
        exact fun j u hu=>((Bx.new w 90 [.int .i64 (-1),.int .i64 0,.int .i64 b.m,.int .i64 b.pc,.slice a1 b.zg.length k1,.slice a2 b.ze.length k2,.int .i64 T.zf,.bool b.zv]).kept (hr _ zD (by simp))).cell j hu
      intro aE qF val own hB hf zx hk
      obtain⟨kb,H,eb,mb⟩:=hk 8 (by decide)
      have vb:=yB eb
      have s75:=kb 75 rfl
      rw[vb] at s75
      have mh:=mb.here hB
      obtain⟨kq,fq⟩:=hk 1 (by decide)
      have s68:=kq 68 rfl
      rw[zu fq] at s68
      clear kq fq
      have hB0:Below W2.heap.size W2 qF:=hB
      have hz0':=hB0.size
      have mh2:∀j x,(jK P k)[j]?=some x->qF.cell? ⟨H,j,none⟩=some x:=by rw[hto];exact mh
      obtain⟨a9,c9,W3,hrun,hrow3,hg3⟩:=Qn (P:=P) (w:=qF) (t2'.below hB0) (by rw[hto];intro u hu;simp at hu;rcases hu with rfl | rfl | rfl | rfl | rfl | rfl | rfl | rfl <;> rfl) H mh2 (by omega) (by omega)
      have hown2:=fun q (e:(Value.slice at2 k Ue).ownBlock=some q)=>(t2'.lt q e)
      have hb3:Below w.heap.size w W3:=(hb2.trans (hB0.mono z2)).grown hg3 (by omega) fun q e=>by have:=hown2 q e;omega
      have hx3:=(hx2.below hB0).grown hg3 (fun e=>by have:=hown2 _ e;omega)
      have hz3:=(hzz2.below hB0).grown hg3 (fun e=>by have:=hown2 _ e;omega)
      have g1:=hx3.cell 4 rfl
      have gf1:=hx3.frozen 4
      have HE:Hid (Bx (W3.setCell ⟨g9,4,none⟩ (.slice a9 (k+1) c9)) w.heap.size 42 [.int .i64 0,.slice none 0 0,.slice none 0 0,.int .i64 0,.slice none 0 0,.int .i64 0,.slice none 0 0,.int .i64 0]/\Bx (W3.setCell ⟨g9,4,none⟩ (.slice a9 (k+1) c9)) g9 42 [.int .i64 P.L.cells,.slice av P.L.zd.length cv,.slice ao P.L.order.length co,.int .i64 P.L.now,.slice a9 (k+1) c9,.int .i64 born,.slice as' zl.length cs,.int .i64 code]/\yl wo.heap.size 8 (W3.setCell ⟨g9,4,none⟩ (.slice a9 (k+1) c9)) (.slice a9 (k+1) c9) (k+1) ((List.range (k+1)).flatMap (jK P))/\Below w.heap.size w (W3.setCell ⟨g9,4,none⟩ (.slice a9 (k+1) c9))/\wo.heap.size<=(W3.setCell ⟨g9,4,none⟩ (.slice a9 (k+1) c9)).heap.size/\∀g,g9+1<=g->g<wo.heap.size->(W3.setCell ⟨g9,4,none⟩ (.slice a9 (k+1) c9)).heap[g]?=wo.heap[g]?) :=
       ⟨hz3.other (by omega) _,hx3.set 4 _,hrow3.kept (by rw[World.size_setCell];exact Nat.le_refl _) fun g e=>Below.heap_setCell _ _ _ _ (by have:=(hrow3.lt g e).1;show g≠g9;omega),hb3.setCell (p:=⟨g9,4,none⟩) (by show w.heap.size<=g9;omega) _,by rw[World.size_setCell];have:=hg3.size;omega,
        fun g h1 h2=>by rw[Below.heap_setCell _ _ _ _ (by show g≠g9;omega),hg3.block g (by omega) (fun e=>by have:=hown2 g e.symm;omega),hB0.block g (by omega)];exact hkp2 g h1 h2⟩
      clear hrow3 hb3 hx3 hz3 hown2 hg3 mh2
      clear hB0
      clear kb eb vb mb mh
      have hu:=xD hf [67,68,69,70,71,72,73,74,75] (by kernel_rfl)
      dsimp only at hu
      simp only[List.foldl_cons,List.foldl_nil,List.setIfInBounds_toArray,List.set_cons_succ,List.set_cons_zero] at hu
      rw[s68,s75] at hu
      generalize aE.tmps[67]?.getD undef=u67 at hu
      generalize aE.tmps[69]?.getD undef=u69 at hu
      generalize aE.tmps[70]?.getD undef=u70 at hu
      generalize aE.tmps[71]?.getD undef=u71 at hu
      generalize aE.tmps[72]?.getD undef=u72 at hu
      generalize aE.tmps[73]?.getD undef=u73 at hu
      generalize aE.tmps[74]?.getD undef=u74 at hu
      obtain rfl:=kX hu (show aE.defers=[] from hf.defers)
      clear hu hk zx hf s68 s75
      refine qs (v:=.slice a9 (k+1) c9) (w':=W3) rfl rfl (jP rfl (by go_simp) (by go_simp) hrun) ?_
      simp only[Act.put]
      refine qs (v:=.pointer (some ⟨g9,4,none⟩)) (w':=W3) rfl rfl (by unfold execOp;go_simp) ?_
      simp only[Act.put]
      refine xx (w':=W3.setCell ⟨g9,4,none⟩ (.slice a9 (k+1) c9)) rfl rfl (by unfold execOp;go_simp) ?_
      simp only[Act.put]
      clear hrun hB g1 gf1
      refine kH (fun W9=>Bx W9 w.heap.size 42 [.int .i64 0,.slice none 0 0,.slice none 0 0,.int .i64 0,.slice none 0 0,.int .i64 0,.slice none 0 0,.int .i64 0]/\Bx W9 g9 42 [.int .i64 P.L.cells,.slice av P.L.zd.length cv,.slice ao P.L.order.length co,.int .i64 P.L.now,.slice a9 (k+1) c9,.int .i64 born,.slice as' zl.length cs,.int .i64 code]/\yl wo.heap.size 8 W9 (.slice a9 (k+1) c9) (k+1) ((List.range (k+1)).flatMap (jK P))/\Below w.heap.size w W9/\wo.heap.size<=W9.heap.size/\∀g,g9+1<=g->g<wo.heap.size->W9.heap[g]?=wo.heap[g]?) HE.out ?_
      rintro W9 ⟨k1,k2,k3,k4,k5,k6⟩
      clear HE
      go_wp2
      go_roundg (P.L.zh.length - (k+1))
      case measure=>omega
      case rel=>exact⟨k+1,_,by omega,rfl,by go_num,k1,k2,k3,k4,k5,k6⟩
     ·rw[if_neg jN] at Vo
      have hto:=Vo
      have hpb:(T.page == -1)=false:=by simpa using jN
      clear Vo hbody
      obtain⟨H,hH⟩:∃H,W2.heap.size=H:=⟨_,rfl⟩
      obtain⟨WA,hWA⟩:∃WA,W2.alloc (.cells #[.int .i64 T.page,.int .i64 T.place,.int .i64 0,.int .i64 0,.slice none 0 0,.slice none 0 0,.int .i64 0,.bool false] 90)=WA:=⟨_,rfl⟩
      have hB0:Below W2.heap.size W2 WA:=by rw[<-hWA];exact zB _ _
      have hz0':=hB0.size
      have mh:∀j x,([.int .i64 T.page,.int .i64 T.place,.int .i64 0,.int .i64 0,.slice none 0 0,.slice none 0 0,.int .i64 0,.bool false]:List Value)[j]?=some x->WA.cell? ⟨H,j,none⟩=some x:=by
       rw[<-hWA,<-hH]
       exact fun j u hu=>(Bx.new W2 90 _).cell j hu
      have mh2:∀j x,(jK P k)[j]?=some x->WA.cell? ⟨H,j,none⟩=some x:=by rw[hto];exact mh
      obtain⟨a9,c9,W3,hrun,hrow3,hg3⟩:=Qn (P:=P) (w:=WA) (t2'.below hB0) (by rw[hto];intro u hu;simp at hu;rcases hu with rfl | rfl | rfl | rfl | rfl | rfl <;> rfl) H mh2 (by omega) (by omega)
      have hown2:=fun q (e:(Value.slice at2 k Ue).ownBlock=some q)=>(t2'.lt q e)
      have hb3:Below w.heap.size w W3:=(hb2.trans (hB0.mono z2)).grown hg3 (by omega) fun q e=>by have:=hown2 q e;omega
      have hx3:=(hx2.below hB0).grown hg3 (fun e=>by have:=hown2 _ e;omega)
      have hz3:=(hzz2.below hB0).grown hg3 (fun e=>by have:=hown2 _ e;omega)
      have g1:=hx3.cell 4 rfl
      have gf1:=hx3.frozen 4
      have HE:Hid (Bx (W3.setCell ⟨g9,4,none⟩ (.slice a9 (k+1) c9)) w.heap.size 42 [.int .i64 0,.slice none 0 0,.slice none 0 0,.int .i64 0,.slice none 0 0,.int .i64 0,.slice none 0 0,.int .i64 0]/\Bx (W3.setCell ⟨g9,4,none⟩ (.slice a9 (k+1) c9)) g9 42 [.int .i64 P.L.cells,.slice av P.L.zd.length cv,.slice ao P.L.order.length co,.int .i64 P.L.now,.slice a9 (k+1) c9,.int .i64 born,.slice as' zl.length cs,.int .i64 code]/\yl wo.heap.size 8 (W3.setCell ⟨g9,4,none⟩ (.slice a9 (k+1) c9)) (.slice a9 (k+1) c9) (k+1) ((List.range (k+1)).flatMap (jK P))/\Below w.heap.size w (W3.setCell ⟨g9,4,none⟩ (.slice a9 (k+1) c9))/\wo.heap.size<=(W3.setCell ⟨g9,4,none⟩ (.slice a9 (k+1) c9)).heap.size/\∀g,g9+1<=g->g<wo.heap.size->(W3.setCell ⟨g9,4,none⟩ (.slice a9 (k+1) c9)).heap[g]?=wo.heap[g]?) :=
       ⟨hz3.other (by omega) _,hx3.set 4 _,hrow3.kept (by rw[World.size_setCell];exact Nat.le_refl _) fun g e=>Below.heap_setCell _ _ _ _ (by have:=(hrow3.lt g e).1;show g≠g9;omega),hb3.setCell (p:=⟨g9,4,none⟩) (by show w.heap.size<=g9;omega) _,by rw[World.size_setCell];have:=hg3.size;omega,
        fun g h1 h2=>by rw[Below.heap_setCell _ _ _ _ (by show g≠g9;omega),hg3.block g (by omega) (fun e=>by have:=hown2 g e.symm;omega),hB0.block g (by omega)];exact hkp2 g h1 h2⟩
      clear hrow3 hb3 hx3 hz3 hown2 hg3 mh2
      rw[<-hWA] at hrun
      subst hH
      clear hWA hB0 mh hz0'
      go_upto_region 14 with(at_builtin;refine Ka (by rfl) _ _ (by rfl) (by rfl) (by rfl) (by rfl) hrun ?_)
      refine ye (fun W9=>Bx W9 w.heap.size 42 [.int .i64 0,.slice none 0 0,.slice none 0 0,.int .i64 0,.slice none 0 0,.int .i64 0,.slice none 0 0,.int .i64 0]/\Bx W9 g9 42 [.int .i64 P.L.cells,.slice av P.L.zd.length cv,.slice ao P.L.order.length co,.int .i64 P.L.now,.slice a9 (k+1) c9,.int .i64 born,.slice as' zl.length cs,.int .i64 code]/\yl wo.heap.size 8 W9 (.slice a9 (k+1) c9) (k+1) ((List.range (k+1)).flatMap (jK P))/\Below w.heap.size w W9/\wo.heap.size<=W9.heap.size/\∀g,g9+1<=g->g<wo.heap.size->W9.heap[g]?=wo.heap[g]?) HE.out ?_
      rintro W9 ⟨k1,k2,k3,k4,k5,k6⟩
      clear HE hrun
      go_wp2
      go_roundg (P.L.zh.length - (k+1))
      case measure=>omega
      case rel=>exact⟨k+1,_,by omega,rfl,by go_num,k1,k2,k3,k4,k5,k6⟩
    ·obtain rfl:k=P.L.zh.length:=by omega
     obtain⟨⟨s0,s1,s2,s3,s4,s5,s6,s7⟩,_⟩:=xy hx2'
     obtain⟨⟨r0,r1,r2,r3,r4,r5,r6,r7⟩,f0,f1,f2,f3,f4,f5,f6,f7⟩:=xy hz2
     have hwz:w.heap.size<g9:=by omega
     clear x4 hxb
     go_wp2
     refine jh (fun W'=>Below w.heap.size w W'/\Bx W' w.heap.size 42 [.int .i64 P.L.cells,.slice av P.L.zd.length cv,.slice ao P.L.order.length co,.int .i64 P.L.now,.slice at2 P.L.zh.length Ue,.int .i64 born,.slice as' zl.length cs,.int .i64 code]/\wr.heap.size<=W'.heap.size/\∀g,g≠w.heap.size->W'.heap[g]?=wr.heap[g]?) ⟨((((((((hb2'.setCell (p:=⟨w.heap.size,0,none⟩) zD _).setCell (p:=⟨w.heap.size,1,none⟩) zD _).setCell (p:=⟨w.heap.size,2,none⟩) zD _).setCell (p:=⟨w.heap.size,3,none⟩) zD _).setCell (p:=⟨w.heap.size,4,none⟩) zD _).setCell (p:=⟨w.heap.size,5,none⟩) zD _).setCell (p:=⟨w.heap.size,6,none⟩) zD _).setCell (p:=⟨w.heap.size,7,none⟩) zD _),((((((((hz2.set 0 _).set 1 _).set 2 _).set 3 _).set 4 _).set 5 _).set 6 _).set 7 _),(by simp only[World.size_setCell];exact Nat.le_refl _),fun g hg=>by rw[Below.heap_setCell _ _ _ _ hg,Below.heap_setCell _ _ _ _ hg,Below.heap_setCell _ _ _ _ hg,Below.heap_setCell _ _ _ _ hg,Below.heap_setCell _ _ _ _ hg,Below.heap_setCell _ _ _ _ hg,Below.heap_setCell _ _ _ _ hg,Below.heap_setCell _ _ _ _ hg]⟩ ?_
     rintro W9 ⟨k1,k2,k3,k4⟩
     obtain⟨⟨q0,q1,q2,q3,q4,q5,q6,q7⟩,_⟩:=xy k2
     have hMO:jr P w.heap.size W9 (.slice av P.L.zd.length cv) (.slice at2 P.L.zh.length Ue):=⟨wo,g9+1,by omega,hpr,by omega,Nat.le_trans hle k3,fun g h1 h2=>(k4 g (by omega)).trans (hkp g h1 h2),ht2.kept k3 fun g e=>k4 g (by have:=(ht2.lt g e).1;omega)⟩
     exact bodyPost_ret (v:=.agg #[.int .i64 P.L.cells,.slice av P.L.zd.length cv,.slice ao P.L.order.length co,.int .i64 P.L.now,.slice at2 P.L.zh.length Ue,.int .i64 born,.slice as' zl.length cs,.int .i64 code]) (by simp[results,Tryz.results52,go_sem,q0,q1,q2,q3,q4,q5,q6,q7]) rfl ⟨.slice av P.L.zd.length cv,.slice at2 P.L.zh.length Ue,by rw[xz];rfl,hMO,k1⟩
end Go.Proofs.YtjbgpcileapogaaGreat

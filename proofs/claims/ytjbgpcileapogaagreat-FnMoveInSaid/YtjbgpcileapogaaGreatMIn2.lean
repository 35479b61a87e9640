/-
  MoveIn of the program: a heap's calls are things of their own, the one that runs is put on the first page.
-/
import Derived.Test.YtjbgpcileapogaaGreatMIn1
import Derived.Test.YtjbgpcileapogaaGreatMOut2
import Derived.Test.YtjbgpcileapogaaGreatMThing5
import Derived.Test.YtjbgpcileapogaaGreatTrimPlain
namespace Go.Proofs.YtjbgpcileapogaaGreat
open Go.RowKit
def wK (c:Cl):Tw:=⟨-1,0,c⟩
def xH:Tw:=⟨0,0,⟨0,0,[],[],0,false⟩⟩
def Z9:Pg:=⟨-1,[]⟩
def jy (h:Hp) (n:Nat) (c:Int):Mc:=⟨c,List.replicate n Z9,zX n n,-1,h.za.map wK,0,[],0⟩
def ko (h:Hp) (n:Nat) (c:Int):Mc :=
 if h.now=-1 then⟨c,List.replicate n Z9,zX n n,-1,h.za.map wK,h.born,h.zl,h.code⟩
 else⟨c,(List.replicate n Z9).set 0 ⟨(h.za.getD h.now.toNat Cl.none).zf,[⟨(h.za.getD h.now.toNat Cl.none).m,(h.za.getD h.now.toNat Cl.none).pc,h.now,(h.za.getD h.now.toNat Cl.none).zg,(h.za.getD h.now.toNat Cl.none).ze⟩]⟩,zX n n,0,(h.za.map wK).set h.now.toNat xH,h.born,h.zl,h.code⟩
theorem Qv (h:Hp) (n:Nat) (c:Int):(qd (jy h n c)).zU=h.za.map vA:=by simp[qd,jy,wK,Function.comp_def]
theorem ZG (h:Hp) (n:Nat) (c:Int):(qd (jy h n c)).zh.length=h.za.length:=by simp[qd,jy,U4]
theorem zaM (h:Hp) (n:Nat) (c:Int) (j:Nat) (hj:j<h.za.length):(qd (jy h n c)).zh[j]'(by rw[ZG];exact hj)=⟨-1,0,j,h.za[j].zf⟩:=by simp[qd,jy,YE,wK]
theorem JM (h:Hp) (n:Nat) (c:Int):(qd (jy h n c)).zd=List.replicate n ⟨-1,[]⟩:=by simp[qd,jy,Zx,Z9]
theorem zdU {L:X9} {h:Hp} (hb:L.zU=h.za.map vA) {j:Nat} (hj:j<h.za.length):twM L ⟨-1,0,j,h.za[j].zf⟩=wK h.za[j]:=by
 have hbd:ud L j=vA h.za[j]:=by rw[YN (by rw[hb];simpa using hj)];simp[hb]
 unfold twM
 rw[if_pos rfl,hbd]
 rfl
theorem KZ {L:X9} {h:Hp} {n:Nat} {c:Int} (hb:L.zU=h.za.map vA):(qd (jy h n c)).zh.map (twM L)=h.za.map wK:=by
 refine List.ext_getElem (by rw[List.length_map,ZG,List.length_map]) fun j h1 h2=>?_
 have hj:j<h.za.length:=by simpa using h2
 rw[List.getElem_map,zaM h n c j hj,zdU hb hj,List.getElem_map]
theorem KR {L:X9} {h:Hp} {n:Nat} {c:Int}:(qd (jy h n c)).zd.map (pgM L)=List.replicate n Z9:=by
 rw[JM,List.map_replicate]
 rfl
theorem zcv {h:Hp} {n:Nat} {c:Int} (hn:h.now=-1):US (qd (jy h n c)) h.born h.zl h.code=ko h n c:=by
 unfold ko
 rw[if_pos hn]
 show(⟨c,(qd (jy h n c)).zd.map _,zX n n,-1,(qd (jy h n c)).zh.map _,h.born,h.zl,h.code⟩:Mc)=_
 rw[KR,KZ (Qv h n c)]
theorem Xw (n:Nat) (hn:1<=n):wN (zX n n) (n - 1) 0=zX n n:=by
 obtain⟨m,rfl⟩:∃m,n=m+1:=⟨n - 1,by omega⟩
 have hl:(zX (m+1) m).length=m:=qp _ _
 have e:zX (m+1) (m+1)=zX (m+1) m ++ [0]:=by
  rw[Yw,Nat.mod_self]
  rfl
 unfold wN
 rw[e,Nat.add_sub_cancel,List.take_append_of_le_length (by omega),List.take_of_length_le (by omega),List.drop_of_length_le (by simp;omega),List.append_nil]
def qh (h:Hp) (n:Nat) (c:Int) (j:Nat):X9:={putL (qd (jy h n c)) 0 j ⟨-1,0,j,(h.za.getD j Cl.none).zf⟩ with order:=wN (zX n n) (n - 1) 0,now:=0}
theorem zck {h:Hp} {n:Nat} {c:Int} {j:Nat} (hj:j<h.za.length) (hw:(qd (jy h n c)).wf):(qh h n c j).wf:=by
 have hbl:(qd (jy h n c)).zU.length=h.za.length:=by rw[Qv,List.length_map]
 refine⟨fun i hi k hk=>?_,fun k hk=>?_⟩
 ·show _<(qd (jy h n c)).zU.length
  have hi':i<((qd (jy h n c)).zd.set 0 ⟨(h.za.getD j Cl.none).zf,[⟨j,(j:Int)⟩]⟩).length:=hi
  have hk':k<((qd (jy h n c)).zd.set 0 ⟨(h.za.getD j Cl.none).zf,[⟨j,(j:Int)⟩]⟩)[i].zk.length:=hk
  show(((qd (jy h n c)).zd.set 0 ⟨(h.za.getD j Cl.none).zf,[⟨j,(j:Int)⟩]⟩)[i].zk[k]).body<_
  by_cases e:0=i
  ·subst e
   simp only[List.getElem_set_self] at hk' ⊢
   have:k=0:=by simpa using hk'
   subst this
   rw[hbl]
   exact hj
  ·simp only[List.getElem_set_ne e] at hk' ⊢
   exact hw.fr i (by simpa using hi') k hk'
 ·show _<(qd (jy h n c)).zU.length
  have hk':k<((qd (jy h n c)).zh.set j ⟨((0:Nat):Int),0,j,0⟩).length:=hk
  show(((qd (jy h n c)).zh.set j ⟨((0:Nat):Int),0,j,0⟩)[k]).body<_
  by_cases e:j=k
  ·subst e
   rw[List.getElem_set_self,hbl]
   exact hj
  ·rw[List.getElem_set_ne e]
   exact hw.tw k (by simpa using hk')
theorem zc8 {h:Hp} {n:Nat} {c:Int} {j:Nat} (hj:j<h.za.length) (hn:1<=n) (QB:h.now=(j:Int)):US (qh h n c j) h.born h.zl h.code=ko h n c:=by
 have hb:(qh h n c j).zU=h.za.map vA:=Qv h n c
 have hjn:h.now.toNat=j:=by rw[QB];rfl
 have hbd:ud (qh h n c j) j=vA h.za[j]:=by rw[YN (by rw[hb];simpa using hj)];simp[hb]
 have hg:h.za.getD j Cl.none=h.za[j]:=by simp[hj]
 unfold ko
 rw[if_neg (by rw[QB];omega),hjn,QB,hg]
 show(⟨c,((qd (jy h n c)).zd.set 0 ⟨(h.za.getD j Cl.none).zf,[⟨j,(j:Int)⟩]⟩).map (pgM (qh h n c j)),wN (zX n n) (n - 1) 0,0,((qd (jy h n c)).zh.set j ⟨((0:Nat):Int),0,j,0⟩).map (twM (qh h n c j)),h.born,h.zl,h.code⟩:Mc)=_
 rw[List.map_set,List.map_set,KR,KZ hb,Xw n hn,hg]
 have e1:pgM (qh h n c j) ⟨h.za[j].zf,[⟨j,(j:Int)⟩]⟩=⟨h.za[j].zf,[⟨h.za[j].m,h.za[j].pc,(j:Int),h.za[j].zg,h.za[j].ze⟩]⟩:=by
  unfold pgM frM
  rw[List.map_singleton,hbd]
  rfl
 have e2:twM (qh h n c j) ⟨((0:Nat):Int),0,j,0⟩=xH:=by
  unfold twM
  rw[if_neg (by simp)]
  rfl
 rw[e1,e2]
theorem Xo (n:Nat) (hn:1<=n) (h:n - 1<(zX n n).length):(zX n n)[n - 1]=0:=by
 simp only[zX,List.getElem_map,List.getElem_range,Nat.sub_add_cancel hn,Nat.mod_self]
 rfl
theorem zbg (n j:Nat) (hj:j<n - 1) (h:j<(zX n n).length):(zX n n)[j]≠0:=by
 have:(j+1) % n=j+1:=Nat.mod_eq_of_lt (by omega)
 simp only[zX,List.getElem_map,List.getElem_range,this]
 omega
theorem zdM {ms:zM} {h:Hp} (e:ym ms h=true):h.now<h.za.length:=by
 unfold ym qw at e
 simp only[Bool.and_eq_true,zH] at e
 omega
def jn (h:Hp) (VT VS:Nat->Value) (i:Nat):List Value:=[.int .i64 (-1),.int .i64 0,.int .i64 (h.za.getD i Cl.none).m,.int .i64 (h.za.getD i Cl.none).pc,VT i,VS i,.int .i64 (h.za.getD i Cl.none).zf,.bool (h.za.getD i Cl.none).zv]
theorem zah {B:Nat} {w:World} {v:Value} {n:Nat} (h:yl B 2 w v n (ZW (.slice none 0 0) n)):kU w v (List.replicate n Z9):=by
 obtain⟨a,c,hv,hm⟩:=h.slice
 refine⟨a,c,by rw[hv,List.length_replicate],by rw[List.length_replicate];exact hm,fun i hi=>?_⟩
 have hi':i<n:=by simpa using hi
 subst hv
 obtain⟨g,off,zp,e,_,_⟩:=h.form (by omega)
 cases e
 have re:=zaJ (.slice none 0 0) n i hi'
 have c0:=(h.cell re.1).1
 have c1:=(h.cell re.2).1
 rw[<-Nat.add_assoc] at c1
 rw[List.getElem_replicate]
 exact⟨g,off,_,rfl,c0,c1,xU.nil w⟩
theorem Xu {B:Nat} {w:World} {v:Value} {h:Hp} {VT VS:Nat->Value} (hr:yl B 8 w v h.za.length ((List.range h.za.length).flatMap (jn h VT VS))) (ho:∀i,(hi:i<h.za.length)->zR w (VT i) h.za[i].zg/\zR w (VS i) h.za[i].ze):jH w v (h.za.map wK):=by
 obtain⟨a,c,hv,hm⟩:=hr.slice
 refine⟨a,c,by rw[hv,List.length_map],by rw[List.length_map];exact hm,fun q hq=>?_⟩
 have hq':q<h.za.length:=by simpa using hq
 have hg:h.za.getD q Cl.none=h.za[q]:=by simp[hq']
 subst hv
 obtain⟨g,off,zp,e,_,_⟩:=hr.form (by omega)
 cases e
 have cell:∀j x,j<8->(jn h VT VS q)[j]?=some x->w.cell? ⟨g,off+q * 8+j,none⟩=some x:=fun j x hj hx=>by
  have:=(hr.cell (j:=q * 8+j) ((uy (f:=jn h VT VS) (sz:=8) (fun i=>rfl) h.za.length q j hq' hj).trans hx)).1
  rwa [<-Nat.add_assoc] at this
 have em:(h.za.map wK)[q]=wK h.za[q]:=by simp
 rw[em]
 obtain⟨o1,o2⟩:=ho q hq'
 have ht:jn h VT VS q=[.int .i64 (-1),.int .i64 0,.int .i64 h.za[q].m,.int .i64 h.za[q].pc,VT q,VS q,.int .i64 h.za[q].zf,.bool h.za[q].zv]:=by unfold jn;rw[hg]
 exact⟨g,off,_,_,rfl,cell 0 _ (by omega) (by rw[ht];rfl),cell 1 _ (by omega) (by rw[ht];rfl),cell 2 _ (by omega) (by rw[ht];rfl),cell 3 _ (by omega) (by rw[ht];rfl),cell 4 _ (by omega) (by rw[ht];rfl),cell 5 _ (by omega) (by rw[ht];rfl),cell 6 _ (by omega) (by rw[ht];rfl),cell 7 _ (by omega) (by rw[ht];rfl),o1,o2⟩
theorem Tryz.infoTwinI:(Tryz.prog.info? 90).map (fun i=>(i.zero,i.size,i.bytes))=some (some (.agg #[.int .i64 0,.int .i64 0,.int .i64 0,.int .i64 0,.slice none 0 0,.slice none 0 0,.int .i64 0,.bool false]),8,96):=by kernel_rfl
theorem qf.from {B:Nat} {ρ:Nat->Rl} {w w':World} {P:Lay} (h:qf B ρ w P) (hs:w.heap.size<=w'.heap.size) (hk:∀g,B<=g->g<w.heap.size->w'.heap[g]?=w.heap[g]?):qf B ρ w' P:=fun r=>by
 cases r with
 | other=>trivial
 | live =>
  obtain⟨h1,h2,h3⟩:=h .live
  exact⟨h1.kept (hk _ h3 h1.lt),h2,h3⟩
 | zd =>
  obtain⟨h1,h2⟩:=h .zd
  exact⟨h1.kept hs fun g e=>hk g (h1.lt g e).1 (h1.lt g e).2,h2⟩
 | zk i =>
  intro hi
  obtain⟨h1,h2⟩:=h (.zk i) hi
  exact⟨h1.kept hs fun g e=>hk g (h1.lt g e).1 (h1.lt g e).2,h2⟩
 | order =>
  obtain⟨h1,h2⟩:=h .order
  exact⟨h1.kept hs fun g e=>hk g (h1.lt g e).1 (h1.lt g e).2,h2⟩
 | zh =>
  obtain⟨h1,h2,h3⟩:=h .zh
  exact⟨h1.kept (hk _ h3 h1.lt),h2,h3⟩
 | body k =>
  intro hi
  obtain⟨h1,h2,h3⟩:=h (.body k) hi
  exact⟨h1.kept (hk _ h3 h1.lt),h2,h3⟩
 | zg k =>
  intro hi
  obtain⟨h1,h2⟩:=h (.zg k) hi
  exact⟨h1.kept hs fun g e=>hk g (h1.lt g e).1 (h1.lt g e).2,h2⟩
 | ze k =>
  intro hi
  obtain⟨h1,h2⟩:=h (.ze k) hi
  exact⟨h1.kept hs fun g e=>hk g (h1.lt g e).1 (h1.lt g e).2,h2⟩
set_option maxRecDepth 100000 in
set_option maxHeartbeats 4000000 in
theorem Jy (vp vc vs:Value) (ms:zM) (h:Hp) (r c:Int) (w:World) (hp:yy w vp ms) (hh:qa w vc vs h) (hn:h.za.length<=1048576) (hsd:h.zl.length<=1048576) :
 Calls Tryz.prog 11 #[.agg #[vp],.agg (yn vc vs h),.int .i64 r,.int .i64 c] w fun e w'=>Below w.heap.size w w' /\
  (((ym ms h && yQ r c)=false/\e=.returned (.tuple #[.agg #[.int .i64 0,.slice none 0 0,.slice none 0 0,.int .i64 0,.slice none 0 0,.int .i64 0,.slice none 0 0,.int .i64 0],.bool false])) \/
   ((ym ms h && yQ r c)=true/\∃v1 v2 v3 v4,e=.returned (.tuple #[.agg (zI v1 v2 v3 v4 (ko h r.toNat c)).toArray,.bool true])/\yF w' v1 v2 v3 v4 (ko h r.toNat c))):=by
 obtain⟨ap0,cap0,rfl,_,_⟩:=id hp
 obtain⟨ac,kc,Yq⟩:=hh.c.shape
 obtain⟨aD,kD,hvs⟩:=hh.s.shape
 subst Yq hvs
 obtain⟨fp,hfp⟩:∃fp,ym ms h=fp:=⟨_,rfl⟩
 obtain⟨fr,hfr⟩:∃fr,yQ r c=fr:=⟨_,rfl⟩
 have HFP:Hid (ym ms h=fp):=hfp
 have HFR:Hid (yQ r c=fr):=hfr
 have HHH:Hid (qa w (.slice ac h.za.length kc) (.slice aD h.zl.length kD) h):=hh
 have HOK:=fun W (hb:Below w.heap.size w W)=>Jw _ _ _ ms h W (hp.below hb) (hh.below hb) hn
 have HRO:=fun W=>Xr r c W
 rw[hfp] at HOK ⊢
 rw[hfr] at HRO ⊢
 unfold yn at HOK ⊢
 clear hfp hfr hp hh
 go_enter Tryz.func11,Tryz.ntmps11
 go_upto_region 1 with fail
 refine ye (fun W=>Below w.heap.size w W/\Bx W w.heap.size 25 [.slice ap0 ms.length cap0]/\Bx W (w.heap.size+1) 29 [.slice ac h.za.length kc,.int .i64 h.now,.int .i64 h.born,.slice aD h.zl.length kD,.int .i64 h.code]/\Bx W (w.heap.size+2) 42 [.int .i64 0,.slice none 0 0,.slice none 0 0,.int .i64 0,.slice none 0 0,.int .i64 0,.slice none 0 0,.int .i64 0]) ⟨((zB _ _).alloc (by simp) _).alloc (by simp;omega) _,((Bx.new w _ _).alloc _).alloc _,(Bx.newAt _ _ _ (by simp)).alloc _,Bx.newAt _ _ _ (by simp)⟩ ?_
 rintro W0 ⟨B0,x0,y0,r0⟩
 have p0:=x0.cell 0 rfl
 obtain⟨b0,b1,b2,b3,b4⟩:W0.cell? ⟨w.heap.size+1,0,none⟩=some (.slice ac h.za.length kc)/\W0.cell? ⟨w.heap.size+1,1,none⟩=some (.int .i64 h.now)/\W0.cell? ⟨w.heap.size+1,2,none⟩=some (.int .i64 h.born)/\W0.cell? ⟨w.heap.size+1,3,none⟩=some (.slice aD h.zl.length kD)/\W0.cell? ⟨w.heap.size+1,4,none⟩=some (.int .i64 h.code):=⟨y0.cell 0 rfl,y0.cell 1 rfl,y0.cell 2 rfl,y0.cell 3 rfl,y0.cell 4 rfl⟩
 have z0:=B0.size
 go_wp2_with fail
 refine(HOK _ B0).mono ?_
 rintro e W1 ⟨rfl,t1⟩
 have y1:=y0.below t1
 have r1:=r0.below t1
 have B1:=B0.trans (t1.mono z0)
 have z1:=B1.size
 clear HOK t1 x0 y0 B0 z0 p0 b0 b1 b2 b3 b4 r0
 obtain⟨⟨r0,r1',r2,r3,r4,r5,r6,r7⟩,⟨g0,g1,g2,g3,g4,g5,g6,g7⟩⟩:=xy r1
 have HZ:Below w.heap.size w ((((((((W1.setCell ⟨w.heap.size+2,0,none⟩ (.int .i64 0)).setCell ⟨w.heap.size+2,1,none⟩ (.slice none 0 0)).setCell ⟨w.heap.size+2,2,none⟩ (.slice none 0 0)).setCell ⟨w.heap.size+2,3,none⟩ (.int .i64 0)).setCell ⟨w.heap.size+2,4,none⟩ (.slice none 0 0)).setCell ⟨w.heap.size+2,5,none⟩ (.int .i64 0)).setCell ⟨w.heap.size+2,6,none⟩ (.slice none 0 0)).setCell ⟨w.heap.size+2,7,none⟩ (.int .i64 0))/\Bx ((((((((W1.setCell ⟨w.heap.size+2,0,none⟩ (.int .i64 0)).setCell ⟨w.heap.size+2,1,none⟩ (.slice none 0 0)).setCell ⟨w.heap.size+2,2,none⟩ (.slice none 0 0)).setCell ⟨w.heap.size+2,3,none⟩ (.int .i64 0)).setCell ⟨w.heap.size+2,4,none⟩ (.slice none 0 0)).setCell ⟨w.heap.size+2,5,none⟩ (.int .i64 0)).setCell ⟨w.heap.size+2,6,none⟩ (.slice none 0 0)).setCell ⟨w.heap.size+2,7,none⟩ (.int .i64 0)) (w.heap.size+2) 42 [.int .i64 0,.slice none 0 0,.slice none 0 0,.int .i64 0,.slice none 0 0,.int .i64 0,.slice none 0 0,.int .i64 0]:=by
  have HW:=((((((((Wr.refl1 (w.heap.size+2) W1).set1 (o:=0) (.int .i64 0)).set1 (o:=1) (.slice none 0 0)).set1 (o:=2) (.slice none 0 0)).set1 (o:=3) (.int .i64 0)).set1 (o:=4) (.slice none 0 0)).set1 (o:=5) (.int .i64 0)).set1 (o:=6) (.slice none 0 0)).set1 (o:=7) (.int .i64 0)
  exact⟨HW.below1 B1 zD (Nat.le_add_right _ _),(((((((r1.set 0 _).set 1 _).set 2 _).set 3 _).set 4 _).set 5 _).set 6 _).set 7 _⟩
 have HZH:Hid _:=HZ
 clear HZ
 cases fp
 ·go_wp2
  refine jh (fun W=>Below w.heap.size w W/\Bx W (w.heap.size+2) 42 [.int .i64 0,.slice none 0 0,.slice none 0 0,.int .i64 0,.slice none 0 0,.int .i64 0,.slice none 0 0,.int .i64 0]) HZH.out ?_
  rintro W9 ⟨B9,x9⟩
  obtain⟨⟨q0,q1,q2,q3,q4,q5,q6,q7⟩,_⟩:=xy x9
  exact bodyPost_ret (v:=.tuple #[.agg #[.int .i64 0,.slice none 0 0,.slice none 0 0,.int .i64 0,.slice none 0 0,.int .i64 0,.slice none 0 0,.int .i64 0],.bool false]) (by simp[results,Tryz.results11,go_sem,q0,q1,q2,q3,q4,q5,q6,q7]) rfl ⟨B9,.inl ⟨rfl,rfl⟩⟩
 go_wp2_with fail
 refine(HRO _).mono ?_
 rintro e W2 ⟨rfl,hw⟩
 obtain rfl:=hw.symm
 clear HRO
 cases fr
 ·go_wp2
  refine jh (fun W=>Below w.heap.size w W/\Bx W (w.heap.size+2) 42 [.int .i64 0,.slice none 0 0,.slice none 0 0,.int .i64 0,.slice none 0 0,.int .i64 0,.slice none 0 0,.int .i64 0]) HZH.out ?_
  rintro W9 ⟨B9,x9⟩
  obtain⟨⟨q0,q1,q2,q3,q4,q5,q6,q7⟩,_⟩:=xy x9
  exact bodyPost_ret (v:=.tuple #[.agg #[.int .i64 0,.slice none 0 0,.slice none 0 0,.int .i64 0,.slice none 0 0,.int .i64 0,.slice none 0 0,.int .i64 0],.bool false]) (by simp[results,Tryz.results11,go_sem,q0,q1,q2,q3,q4,q5,q6,q7]) rfl ⟨B9,.inl ⟨rfl,rfl⟩⟩
 clear HZH
 obtain⟨hr1,hr4,_,_⟩:=xp HFR.out
 obtain⟨n,rfl⟩:=Int.eq_ofNat_of_zero_le (show 0<=r by omega)
 have hn1:1<=n:=by omega
 have hn4:n<=4:=by omega
 have OK:=ww HFP.out
 go_wp2_with fail
 refine(Jm n c _ (by omega)).mono ?_
 rintro e W3 ⟨v,vo,rfl,zS,jS,hap,t3⟩
 have y3:=y1.below t3
 have q3:=r1.below t3
 have B3:=B1.trans (t3.mono z1)
 have z3:=t3.size
 have zw3:=B3.size
 have hr3l:w.heap.size+2<W3.heap.size:=q3.lt
 clear t3 y1 r1 r0 r1' r2 r3 r4 r5 r6 r7 g0 g1 g2 g3 g4 g5 g6 g7
 obtain⟨ap,cp,hvp,_⟩:=zS.slice
 obtain⟨ao0,co0,xz,_⟩:=jS.slice
 subst hvp xz
 go_upto_region 4 with fail
 refine ye (fun W=>Below W3.heap.size W3 W/\Bx W W3.heap.size 42 [.int .i64 c,.slice ap n cp,.slice ao0 (zX n n).length co0,.int .i64 (-1),.slice none 0 0,.int .i64 0,.slice none 0 0,.int .i64 0]) ⟨zB _ _,Bx.new _ _ _⟩ ?_
 rintro W4 ⟨t4,m4⟩
 have y4:=y3.below t4
 have b0:=y4.cell 0 rfl
 have hcs:∀i,(hi:i<h.za.length)->∃b o vt vs,ac=some ⟨b,o,none⟩/\J9 w b (o+i * 6) vt vs h.za[i]:=by
  obtain⟨a9,c9,e,_,hc⟩:=HHH.out.c
  cases e
  exact hc
 have hex:∀i,∃vt vs,∀hi:i<h.za.length,∃b o,ac=some ⟨b,o,none⟩/\J9 w b (o+i * 6) vt vs h.za[i]:=fun i=>by
  by_cases hi:i<h.za.length
  ·obtain⟨b,o,vt,vs,h1,h2⟩:=hcs i hi
   exact⟨vt,vs,fun _=>⟨b,o,h1,h2⟩⟩
  ·exact⟨undef,undef,fun h=>absurd h hi⟩
 obtain⟨VT,VS,hVT⟩:∃VT VS:Nat->Value,∀i,(hi:i<h.za.length)->∃b o,ac=some ⟨b,o,none⟩/\J9 w b (o+i * 6) (VT i) (VS i) h.za[i] :=
  ⟨fun i=>(hex i).choose,fun i=>(hex i).choose_spec.choose,fun i hi=>(hex i).choose_spec.choose_spec hi⟩
 have HVT:Hid (∀i,(hi:i<h.za.length)->∃b o,ac=some ⟨b,o,none⟩/\J9 w b (o+i * 6) (VT i) (VS i) h.za[i]):=hVT
 clear hex hcs hVT
 obtain⟨i0,hii,hz0,hz1,hz2⟩:=info_parts Tryz.infoTwinI
 have h30:h.za.length<=30:=OK.n30
 go_wp2_with fail
 clear b0
 go_loopg [12,31] h.za.length (fun d _ q wr=>∃(k:Nat) (vt:Value),k<=h.za.length/\d=h.za.length - k/\q=.int .i64 (k:Int)/\Below W3.heap.size W3 wr/\Bx wr W3.heap.size 42 [.int .i64 c,.slice ap n cp,.slice ao0 (zX n n).length co0,.int .i64 (-1),vt,.int .i64 0,.slice none 0 0,.int .i64 0]/\yl (W3.heap.size+1) 8 wr (vt) k ((List.range k).flatMap (jn h VT VS)))
 case atStart=>exact⟨0,_,Nat.zero_le _,rfl,rfl,t4,m4,yl.nil _ _ _⟩
 case round =>
  obtain⟨k,vt,hk,rfl,rfl,hbr,hmr,htr⟩:=hrel
  clear t4 m4 y4
  have zr:=hbr.size
  have hbw:=B3.trans (hbr.mono zw3)
  have hgmr:W3.heap.size<wr.heap.size:=hmr.lt
  obtain⟨at',ct,xZ,_⟩:=htr.slice
  subst xZ
  by_cases hlt:k<h.za.length
  ·obtain⟨b,o,hac,hcl⟩:=HVT.out k hlt
   subst hac
   have hkz:(k:Int)<(h.za.length:Int):=by omega
   obtain⟨a1,k1,h1⟩:=hcl.t.shape
   obtain⟨a2,k2,h2⟩:=hcl.s.shape
   have c0:=zc hbw hcl.c0
   have c1:=zc hbw hcl.c1
   have c2:=zc hbw hcl.c2
   have c3:=zc hbw hcl.c3
   have c4:=zc hbw hcl.c4
   have c5:=zc hbw hcl.c5
   have hto:jn h VT VS k=[.int .i64 (-1),.int .i64 0,.int .i64 h.za[k].m,.int .i64 h.za[k].pc,VT k,VS k,.int .i64 h.za[k].zf,.bool h.za[k].zv]:=by unfold jn;simp[hlt]
   rw[h1] at c2 hto
   rw[h2] at c3 hto
   clear hcl
   obtain⟨Q,hQ⟩:∃Q,h.za[k]=Q:=⟨_,rfl⟩
   rw[hQ] at c0 c1 c2 c3 c4 c5 hto
   clear hQ h1 h2
   go_upto_region 7 with fail
   refine ye (fun W'=>Below wr.heap.size wr W'/\Bx W' wr.heap.size 37 [.int .i64 Q.m,.int .i64 Q.pc,.slice a1 Q.zg.length k1,.slice a2 Q.ze.length k2,.int .i64 Q.zf,.bool Q.zv]) ⟨zB _ _,Bx.new _ _ _⟩ ?_
   rintro W5 ⟨t5,x5⟩
   have z5:=t5.size
   have n0:=x5.cell 0 rfl
   have n1:=x5.cell 1 rfl
   have n2:=x5.cell 2 rfl
   have n3:=x5.cell 3 rfl
   have n4:=x5.cell 4 rfl
   have n5:=x5.cell 5 rfl
   have m5:=hmr.below t5
   have p4:=m5.cell 4 rfl
   have N1:Below W5.heap.size W5 (W5.alloc (.cells #[.int .i64 (-1),.int .i64 0,.int .i64 Q.m,.int .i64 Q.pc,.slice a1 Q.zg.length k1,.slice a2 Q.ze.length k2,.int .i64 Q.zf,.bool Q.zv] 90)):=zB _ _
   have y1:=Bx.new W5 90 [.int .i64 (-1),.int .i64 0,.int .i64 Q.m,.int .i64 Q.pc,.slice a1 Q.zg.length k1,.slice a2 Q.ze.length k2,.int .i64 Q.zf,.bool Q.zv]
   have rT:=(htr.below t5).below N1
   have M1:=m5.below N1
   have zN:=N1.size
   have hlo:∀g,(Value.slice at' k ct).ownBlock=some g->W3.heap.size+1<=g:=fun g e=>(htr.lt g e).1
   clear c0 c1 c2 c3 c4 c5
   go_upto_region 8 with(at_builtin;refine Qu Tryz.underlying40 hii hz0 hz1 rfl (by rw[hz2];omega) _ (by rfl) _ _ (by rfl) _ k _ [.int .i64 (-1),.int .i64 0,.int .i64 Q.m,.int .i64 Q.pc,.slice a1 Q.zg.length k1,.slice a2 Q.ze.length k2,.int .i64 Q.zf,.bool Q.zv] (by rfl) W5.heap.size 1 (by rfl) rT rfl (fun u hu=>by simp at hu;rcases hu with rfl | rfl | rfl | rfl | rfl | rfl | rfl | rfl <;> rfl) (fun j u hu=>y1.cell j hu) (by omega) (by omega) ?_;intro v2 w2 hrow2 hg2 hor2;have hx2:=M1.grown hg2 (fun e=>by have:=hlo _ e;omega);have x8':=hx2.cell 4 rfl;have f8':=hx2.frozen 4;obtain⟨a9,c9,hv2,_⟩:=hrow2.slice;subst hv2)
   rw[<-hto,<-kL] at hrow2
   refine ye (fun W'=>Below W3.heap.size W3 W'/\Bx W' W3.heap.size 42 [.int .i64 c,.slice ap n cp,.slice ao0 (zX n n).length co0,.int .i64 (-1),.slice a9 (k+1) c9,.int .i64 0,.slice none 0 0,.int .i64 0]/\yl (W3.heap.size+1) 8 W' (.slice a9 (k+1) c9) (k+1) ((List.range (k+1)).flatMap (jn h VT VS))) ?_ ?_
   ·have HW:=(Wr.refl1 W3.heap.size w2).set1 (o:=4) (.slice a9 (k+1) c9)
    exact⟨HW.below1 (((hbr.trans (t5.mono zr)).trans (N1.mono (by omega))).grown hg2 (by omega) (fun q e=>by have:=hlo q e;omega)) zD zD,hx2.set 4 _,hrow2.wr HW (fun g e e2=>by have:=(hrow2.lt g e).1;omega)⟩
   clear hx2 x8' f8' hrow2 hg2 hor2 M1 rT y1 N1 zN p4 m5 n0 n1 n2 n3 n4 n5 x5 t5
   rintro W6 ⟨k1',k2',k3'⟩
   go_wp2
   go_roundg (h.za.length - (k+1))
   case measure=>omega
   case rel=>exact⟨k+1,_,by omega,rfl,by go_num,k1',k2',k3'⟩
  ·obtain rfl:k=h.za.length:=by omega
   obtain⟨⟨p0,p1,p2,p3,p4,p5,p6,p7⟩,_⟩:=xy hmr
   have HMV:yF wr (.slice ap n cp) (.slice ao0 (zX n n).length co0) (.slice at' h.za.length ct) (.slice none 0 0) (jy h n c) :=
    ⟨zah (zS.below hbr),(jS.below hbr).at,Xu htr fun i hi=>by
     obtain⟨b,o,_,q⟩:=HVT.out i hi
     exact⟨q.t.below hbw,q.s.below hbw⟩,⟨none,0,rfl,Nat.zero_le _,fun _ h=>absurd h zF⟩⟩
   go_wp2_with fail
   refine(Ys (.slice ap n cp) (.slice ao0 (zX n n).length co0) (.slice at' h.za.length ct) (.slice none 0 0) (jy h n c) _ HMV (by show(zX n n).length<=1000;rw[qp];omega) (by simp[jy];omega) (by simp[jy];omega) (fun i hi=>by simp[jy,Z9]) (fun i hi=>by simp[jy,wK]) (fun i hi=>by
    have hi':i<h.za.length:=by simpa [jy] using hi
    have:=OK.small i hi'
    have e:(jy h n c).zh[i].left=h.za[i]:=by simp[jy,wK]
    rw[e]
    omega)).mono ?_
   rintro e W6 ⟨P6,ρ6,hL6,rfl,hPL,hwf6,t6⟩
   obtain⟨bl,vpp,voo,bm,F,D,T,LL⟩:=P6
   dsimp only at hPL
   subst hPL
   have hb6:=hbw.trans (t6.mono hbw.size)
   have t36:=hbr.trans (t6.mono zr)
   have y6:=y3.below t36
   have q6:=q3.below t36
   have z6:=t6.size
   clear HMV p0 p1 p2 p3 p4 p5 p6 p7 hmr htr zS jS hap hbr
   by_cases hno:h.now=-1
   ·rw[hno] at y6
    obtain⟨ao,co,xz,_⟩:=(hL6 .order).1.slice
    dsimp only at xz
    have zcd:voo=.slice ao (zX n n).length co:=xz
    subst zcd
    have y1:=y6.cell 1 rfl
    go_wp2_with fail
    obtain⟨W2,hW2⟩:∃W2,W2=W6:=⟨_,rfl⟩
    subst hW2
    have hb2:=hb6
    have hr2:=q6
    have hL2:=hL6
    have HEQ:Hid (US (qd (jy h n c)) h.born h.zl h.code=ko h n c):=zcv hno
    have HFEW:Hid (((qd (jy h n c)).zd.length<=1000/\∀i,(hi:i<(qd (jy h n c)).zd.length)->(qd (jy h n c)).zd[i].zk.length<=1000)/\(qd (jy h n c)).zh.length<=800000) :=
     ⟨⟨by simp[qd,jy];omega,fun i hi=>by simp[qd,jy,Zx]⟩,by rw[ZG];omega⟩
    have y2:=y6.cell 2 rfl
    have y3:=y6.cell 3 rfl
    have y4:=y6.cell 4 rfl
    have z2:=hb2.size
    have hWL:w.heap.size+2<W3.heap.size:=hr3l
    have HCL:Hid (∀X,Below W2.heap.size W2 X->Calls Tryz.prog 53 #[.slice aD h.zl.length kD] X fun e w'=>∃v',e=.returned v'/\zj X.heap.size w' v' h.zl/\Below X.heap.size X w'):=fun X hX=>Kx _ _ X ((HHH.out.s.below hb2).below hX) hsd
    have HMC:Hid (∀X,Below W2.heap.size W2 X->∀v,zR X v h.zl->Calls Tryz.prog 52 #[.pointer (some ⟨bl,0,none⟩),.int .i64 h.born,v,.int .i64 h.code] X fun e w'=>∃v1 v3,e=.returned (.agg (zI v1 (.slice ao (zX n n).length co) v3 v (US (qd (jy h n c)) h.born h.zl h.code)).toArray)/\jr ⟨bl,vpp,.slice ao (zX n n).length co,bm,F,D,T,qd (jy h n c)⟩ X.heap.size w' v1 v3/\Below X.heap.size X w'):=fun X hX v hv=>UI (hL2.below hX) hwf6 HFEW.out.1 HFEW.out.2 h.born h.code v h.zl hv
    have hPN:(qd (jy h n c)).zd.length<=1000:=HFEW.out.1.1
    clear y1
    refine xY [[],[],[1],[],[3],[3,4],[],[6],[0,1,2,3,4,5,6,7],[0,1,2,3,4,5,6,7,8],[0,1,2,3,4,5,6,7,8,9]] [[0],[1],[2],[3],[4],[5],[6],[7],[5,8],[],[]] [[],[],[],[],[],[],[],[],[],[],[]] [qb (.pointer (some ⟨bl,0,none⟩)),qb (.pointer (some ⟨(w.heap.size+1),2,none⟩)),qb (.int .i64 h.born),qb (.pointer (some ⟨(w.heap.size+1),3,none⟩)),qb (.slice aD h.zl.length kD),X2 5 (fun(x:Option Addr × Nat) l=>l=[.slice x.1 h.zl.length x.2]) (fun x w1=>zj W2.heap.size w1 (.slice x.1 h.zl.length x.2) h.zl),qb (.pointer (some ⟨(w.heap.size+1),4,none⟩)),qb (.int .i64 h.code),X2 8 (fun(x:(Option Addr × Nat) × (Option Addr × Nat) × (Option Addr × Nat)) l=>l=[.slice x.1.1 h.zl.length x.1.2,.agg #[.int .i64 c,.slice x.2.1.1 (qd (jy h n c)).zd.length x.2.1.2,.slice ao (zX n n).length co,.int .i64 (-1),.slice x.2.2.1 (qd (jy h n c)).zh.length x.2.2.2,.int .i64 h.born,.slice x.1.1 h.zl.length x.1.2,.int .i64 h.code]]) (fun x w1=>jr ⟨bl,vpp,.slice ao (zX n n).length co,bm,F,D,T,qd (jy h n c)⟩ W2.heap.size w1 (.slice x.2.1.1 (qd (jy h n c)).zd.length x.2.1.2) (.slice x.2.2.1 (qd (jy h n c)).zh.length x.2.2.2)),wV fun _=>True,wV fun _=>True] 9 1 rfl (by kernel_rfl) (by kernel_rfl) (by kernel_rfl) (by kernel_rfl) ?_ ?_
    ·refine zi (zi (zi (zi (zi (zi (zi (zi (zi (qj) ?_) ?_) ?_) ?_) ?_) ?_) ?_) ?_) ?_
     ·intro a wS val own hB hf zx hk
      have s13:=hf.at (d:=13) (v:=.pointer (some ⟨bl,0,none⟩)) (by kernel_rfl) rfl
      exact zs (v:=.pointer (some ⟨bl,0,none⟩)) hB
     ·intro a wS val own hB hf zx hk
      have s5:=hf.at (d:=5) (v:=.pointer (some ⟨(w.heap.size+1),0,none⟩)) (by kernel_rfl) rfl
      exact zs (v:=.pointer (some ⟨(w.heap.size+1),2,none⟩)) hB
     ·intro a wS val own hB hf zx hk
      obtain⟨k1,f1⟩:=hk 1 (show 1∈[1] by decide)
      have s55:=k1 55 rfl
      rw[zu f1] at s55
      clear k1 f1
      have cy2:=zc hB y2
      exact zs (v:=.int .i64 h.born) hB
     ·intro a wS val own hB hf zx hk
      have s5:=hf.at (d:=5) (v:=.pointer (some ⟨(w.heap.size+1),0,none⟩)) (by kernel_rfl) rfl
      exact zs (v:=.pointer (some ⟨(w.heap.size+1),3,none⟩)) hB
     ·intro a wS val own hB hf zx hk
      obtain⟨k3,f3⟩:=hk 3 (show 3∈[3] by decide)
      have s57:=k3 57 rfl
      rw[zu f3] at s57
      clear k3 f3
      have cy3:=zc hB y3
      exact zs (v:=.slice aD h.zl.length kD) hB
     ·intro a wS val own hB hf zx hk
      obtain⟨k4,f4⟩:=hk 4 (show 4∈[3,4] by decide)
      have s58:=k4 58 rfl
      rw[zu f4] at s58
      clear k4 f4
      have Zp:=hB.size
      refine jg hB rfl rfl (by unfold execOp;go_simp) ((HCL.out wS hB).mono ?_)
      rintro e w' ⟨v1,rfl,r1,hb'⟩
      obtain⟨a0,c0,e0,_⟩:=r1.slice
      subst e0
      refine⟨_,rfl,hb',(a0,c0),rfl,Made.new fun w1 hs hbw hr=>?_⟩
      exact(r1.kept hs fun g e=>hr g (r1.lt g e).1 (r1.lt g e).2).mono Zp
     ·intro a wS val own hB hf zx hk
      have s5:=hf.at (d:=5) (v:=.pointer (some ⟨(w.heap.size+1),0,none⟩)) (by kernel_rfl) rfl
      exact zs (v:=.pointer (some ⟨(w.heap.size+1),4,none⟩)) hB
     ·intro a wS val own hB hf zx hk
      obtain⟨k6,f6⟩:=hk 6 (show 6∈[6] by decide)
      have s60:=k6 60 rfl
      rw[zu f6] at s60
      clear k6 f6
      have cy4:=zc hB y4
      exact zs (v:=.int .i64 h.code) hB
     ·intro a wS val own hB hf zx hk
      obtain⟨k0,f0⟩:=hk 0 (show 0∈[0,1,2,3,4,5,6,7] by decide)
      have s54:=k0 54 rfl
      rw[zu f0] at s54
      clear k0 f0
      obtain⟨k2,f2⟩:=hk 2 (show 2∈[0,1,2,3,4,5,6,7] by decide)
      have s56:=k2 56 rfl
      rw[zu f2] at s56
      clear k2 f2
      obtain⟨kc,xc,ec,mc⟩:=hk 5 (show 5∈[0,1,2,3,4,5,6,7] by decide)
      have vc:=yB ec
      have s59:=kc 59 rfl
      rw[vc] at s59
      have rc:=mc.here hB
      clear kc ec mc
      obtain⟨k7,f7⟩:=hk 7 (show 7∈[0,1,2,3,4,5,6,7] by decide)
      have s61:=k7 61 rfl
      rw[zu f7] at s61
      clear k7 f7
      have Zp:=hB.size
      refine jg hB rfl rfl (by unfold execOp;go_simp) ((HMC.out wS hB _ rc.at).mono ?_)
      rintro e w' ⟨v1,v3,rfl,r1,hb'⟩
      obtain⟨⟨m1,c1,e1⟩,m3,c3,e3⟩:=r1.slices
      subst e1 e3
      refine⟨_,rfl,hb',(xc,(m1,c1),(m3,c3)),by show [val 5,_]=_;rw[vc];rfl,Made.new fun w1 hs hbw hr=>?_⟩
      obtain⟨wm,B',q1,q2⟩:=r1.kept hs hr
      exact⟨wm,B',Nat.le_trans Zp q1,q2⟩
    intro aE qF val own hB hf zx hk
    obtain⟨kc,xc,ec,mc⟩:=hk 5 (by decide)
    have vc:=yB ec
    have rc:=mc.here hB
    clear kc ec mc
    obtain⟨kd,xd,ed,md⟩:=hk 8 (by decide)
    have ed':[val 5,val 8]=_:=ed
    injection ed' with ZN Ug
    have vd:=yB Ug
    rw[vc] at ZN
    have VX:=kd 62 rfl
    rw[vd] at VX
    have mo:=md.here hB
    clear kd ed Ug vd md vc
    obtain⟨⟨y1',y2'⟩,⟨m1,c1⟩,m3,c3⟩:=xd
    obtain⟨x1,x2⟩:=xc
    dsimp only at ZN mo rc
    dsimp only at VX
    injection ZN with e1 _ e2
    subst e1 e2
    have hB0:Below W2.heap.size W2 qF:=hB
    have hz0':=hB0.size
    have hL10:=hL2.below hB0
    have hb3:Below w.heap.size w qF:=hb2.trans (hB0.mono z2)
    have hr3:=hr2.below hB0
    have hrl:=hr2.lt
    obtain⟨⟨r0,r1',r2',r3,r4,r5,r6,r7⟩,⟨g0,g1,g2,g3,g4,g5,g6,g7⟩⟩:=xy hr3
    have HE:Hid (Below w.heap.size w ((((((((qF.setCell ⟨w.heap.size+2,0,none⟩ (.int .i64 c)).setCell ⟨w.heap.size+2,1,none⟩ (.slice m1 (qd (jy h n c)).zd.length c1)).setCell ⟨w.heap.size+2,2,none⟩ (.slice ao (zX n n).length co)).setCell ⟨w.heap.size+2,3,none⟩ (.int .i64 (-1))).setCell ⟨w.heap.size+2,4,none⟩ (.slice m3 (qd (jy h n c)).zh.length c3)).setCell ⟨w.heap.size+2,5,none⟩ (.int .i64 h.born)).setCell ⟨w.heap.size+2,6,none⟩ (.slice x1 h.zl.length x2)).setCell ⟨w.heap.size+2,7,none⟩ (.int .i64 h.code))/\Bx ((((((((qF.setCell ⟨w.heap.size+2,0,none⟩ (.int .i64 c)).setCell ⟨w.heap.size+2,1,none⟩ (.slice m1 (qd (jy h n c)).zd.length c1)).setCell ⟨w.heap.size+2,2,none⟩ (.slice ao (zX n n).length co)).setCell ⟨w.heap.size+2,3,none⟩ (.int .i64 (-1))).setCell ⟨w.heap.size+2,4,none⟩ (.slice m3 (qd (jy h n c)).zh.length c3)).setCell ⟨w.heap.size+2,5,none⟩ (.int .i64 h.born)).setCell ⟨w.heap.size+2,6,none⟩ (.slice x1 h.zl.length x2)).setCell ⟨w.heap.size+2,7,none⟩ (.int .i64 h.code)) (w.heap.size+2) 42 [.int .i64 c,.slice m1 (qd (jy h n c)).zd.length c1,.slice ao (zX n n).length co,.int .i64 (-1),.slice m3 (qd (jy h n c)).zh.length c3,.int .i64 h.born,.slice x1 h.zl.length x2,.int .i64 h.code]/\qF.heap.size<=((((((((qF.setCell ⟨w.heap.size+2,0,none⟩ (.int .i64 c)).setCell ⟨w.heap.size+2,1,none⟩ (.slice m1 (qd (jy h n c)).zd.length c1)).setCell ⟨w.heap.size+2,2,none⟩ (.slice ao (zX n n).length co)).setCell ⟨w.heap.size+2,3,none⟩ (.int .i64 (-1))).setCell ⟨w.heap.size+2,4,none⟩ (.slice m3 (qd (jy h n c)).zh.length c3)).setCell ⟨w.heap.size+2,5,none⟩ (.int .i64 h.born)).setCell ⟨w.heap.size+2,6,none⟩ (.slice x1 h.zl.length x2)).setCell ⟨w.heap.size+2,7,none⟩ (.int .i64 h.code)).heap.size/\∀g,g≠w.heap.size+2->((((((((qF.setCell ⟨w.heap.size+2,0,none⟩ (.int .i64 c)).setCell ⟨w.heap.size+2,1,none⟩ (.slice m1 (qd (jy h n c)).zd.length c1)).setCell ⟨w.heap.size+2,2,none⟩ (.slice ao (zX n n).length co)).setCell ⟨w.heap.size+2,3,none⟩ (.int .i64 (-1))).setCell ⟨w.heap.size+2,4,none⟩ (.slice m3 (qd (jy h n c)).zh.length c3)).setCell ⟨w.heap.size+2,5,none⟩ (.int .i64 h.born)).setCell ⟨w.heap.size+2,6,none⟩ (.slice x1 h.zl.length x2)).setCell ⟨w.heap.size+2,7,none⟩ (.int .i64 h.code)).heap[g]?=qF.heap[g]?):=by
     have HW:=((((((((Wr.refl1 (w.heap.size+2) qF).set1 (o:=0) (.int .i64 c)).set1 (o:=1) (.slice m1 (qd (jy h n c)).zd.length c1)).set1 (o:=2) (.slice ao (zX n n).length co)).set1 (o:=3) (.int .i64 (-1))).set1 (o:=4) (.slice m3 (qd (jy h n c)).zh.length c3)).set1 (o:=5) (.int .i64 h.born)).set1 (o:=6) (.slice x1 h.zl.length x2)).set1 (o:=7) (.int .i64 h.code)
     exact⟨HW.below1 hb3 zD (Nat.le_add_right _ _),(((((((hr3.set 0 _).set 1 _).set 2 _).set 3 _).set 4 _).set 5 _).set 6 _).set 7 _,by simp only[World.size_setCell];exact Nat.le_refl _,fun g hg=>(Below.heap_setCell _ ⟨w.heap.size+2,7,none⟩ _ _ hg).trans ((Below.heap_setCell _ ⟨w.heap.size+2,6,none⟩ _ _ hg).trans ((Below.heap_setCell _ ⟨w.heap.size+2,5,none⟩ _ _ hg).trans ((Below.heap_setCell _ ⟨w.heap.size+2,4,none⟩ _ _ hg).trans ((Below.heap_setCell _ ⟨w.heap.size+2,3,none⟩ _ _ hg).trans ((Below.heap_setCell _ ⟨w.heap.size+2,2,none⟩ _ _ hg).trans ((Below.heap_setCell _ ⟨w.heap.size+2,1,none⟩ _ _ hg).trans (Below.heap_setCell _ ⟨w.heap.size+2,0,none⟩ _ _ hg)))))))⟩
    have hu:=xD hf [54,55,56,57,58,59,60,61,62] (by kernel_rfl)
    dsimp only at hu
    simp only[List.foldl_cons,List.foldl_nil,List.setIfInBounds_toArray,List.set_cons_succ,List.set_cons_zero] at hu
    rw[VX] at hu
    generalize aE.tmps[54]?.getD undef=u54 at hu
    generalize aE.tmps[55]?.getD undef=u55 at hu
    generalize aE.tmps[56]?.getD undef=u56 at hu
    generalize aE.tmps[57]?.getD undef=u57 at hu
    generalize aE.tmps[58]?.getD undef=u58 at hu
    generalize aE.tmps[59]?.getD undef=u59 at hu
    generalize aE.tmps[60]?.getD undef=u60 at hu
    generalize aE.tmps[61]?.getD undef=u61 at hu
    obtain rfl:=kX hu (show aE.defers=[] from hf.defers)
    clear hu hk zx hf hr3 VX
    refine xx (w':=((((((((qF.setCell ⟨w.heap.size+2,0,none⟩ (.int .i64 c)).setCell ⟨w.heap.size+2,1,none⟩ (.slice m1 (qd (jy h n c)).zd.length c1)).setCell ⟨w.heap.size+2,2,none⟩ (.slice ao (zX n n).length co)).setCell ⟨w.heap.size+2,3,none⟩ (.int .i64 (-1))).setCell ⟨w.heap.size+2,4,none⟩ (.slice m3 (qd (jy h n c)).zh.length c3)).setCell ⟨w.heap.size+2,5,none⟩ (.int .i64 h.born)).setCell ⟨w.heap.size+2,6,none⟩ (.slice x1 h.zl.length x2)).setCell ⟨w.heap.size+2,7,none⟩ (.int .i64 h.code))) rfl rfl (by unfold execOp;go_simp) ?_
    simp only[Act.put]
    refine qs (v:=.bool true) (w':=((((((((qF.setCell ⟨w.heap.size+2,0,none⟩ (.int .i64 c)).setCell ⟨w.heap.size+2,1,none⟩ (.slice m1 (qd (jy h n c)).zd.length c1)).setCell ⟨w.heap.size+2,2,none⟩ (.slice ao (zX n n).length co)).setCell ⟨w.heap.size+2,3,none⟩ (.int .i64 (-1))).setCell ⟨w.heap.size+2,4,none⟩ (.slice m3 (qd (jy h n c)).zh.length c3)).setCell ⟨w.heap.size+2,5,none⟩ (.int .i64 h.born)).setCell ⟨w.heap.size+2,6,none⟩ (.slice x1 h.zl.length x2)).setCell ⟨w.heap.size+2,7,none⟩ (.int .i64 h.code))) rfl rfl (by unfold execOp;go_simp) ?_
    simp only[Act.put]
    clear r0 r1' r2' r3 r4 r5 r6 r7 g0 g1 g2 g3 g4 g5 g6 g7 hB
    refine kH (fun W9=>Below w.heap.size w W9/\Bx W9 (w.heap.size+2) 42 [.int .i64 c,.slice m1 (qd (jy h n c)).zd.length c1,.slice ao (zX n n).length co,.int .i64 (-1),.slice m3 (qd (jy h n c)).zh.length c3,.int .i64 h.born,.slice x1 h.zl.length x2,.int .i64 h.code]/\qF.heap.size<=W9.heap.size/\∀g,g≠w.heap.size+2->W9.heap[g]?=qF.heap[g]?) HE.out ?_
    rintro W9 ⟨k1,k2,k3,k4⟩
    clear HE
    obtain⟨⟨q0,q1,q2,q3,q4,q5,q6,q7⟩,_⟩:=xy k2
    have hL9:=hL10.from k3 fun g h1 h2=>k4 g (by omega)
    have mo9:=mo.kept k3 fun g h1 h2=>k4 g (by omega)
    have rc9:=rc.kept k3 fun g e=>k4 g (by have:=(rc.lt g e).1;omega)
    have HMA:=jr.at hL9 hwf6 (by omega) mo9 rc9.at h.born h.code
    go_wp2
    exact bodyPost_ret (v:=.tuple #[.agg #[.int .i64 c,.slice m1 (qd (jy h n c)).zd.length c1,.slice ao (zX n n).length co,.int .i64 (-1),.slice m3 (qd (jy h n c)).zh.length c3,.int .i64 h.born,.slice x1 h.zl.length x2,.int .i64 h.code],.bool true]) (by simp[results,Tryz.results11,go_sem,q0,q1,q2,q3,q4,q5,q6,q7]) rfl ⟨k1,.slice m1 (qd (jy h n c)).zd.length c1,.slice ao (zX n n).length co,.slice m3 (qd (jy h n c)).zh.length c3,.slice x1 h.zl.length x2,by rw[<-HEQ.out];rfl,by rw[<-HEQ.out];exact HMA⟩
   ·obtain⟨j,hj⟩:=Int.eq_ofNat_of_zero_le (show 0<=h.now by have:=OK.now0;omega)
    have hjl:j<h.za.length:=by have:=zdM HFP.out;omega
    have hgd:h.za.getD j Cl.none=h.za[j]:=by simp[hjl]
    rw[hj] at y6
    have y1:=y6.cell 1 rfl
    have hjn:¬((j:Int)=-1):=by omega
    have hBW6:wr.heap.size+1<=W6.heap.size:=Nat.le_trans (hL6 .live).2.2 (Nat.le_of_lt hL6.box.lt)
    have hPT:=zbj hL6 (by omega) 0 (by show 0<(qd (jy h n c)).zd.length;rw[JM,List.length_replicate];omega) j (by show j<(qd (jy h n c)).zh.length;rw[ZG];exact hjl) _ (zaM h n c j hjl)
    have HPT:Hid _:=hPT
    clear hPT
    go_wp2_with fail
    refine Calls.mono HPT.out ?_
    rintro e W7 ⟨rfl,ρ7,F9,hL7,hC7,hB7⟩
    have y7:=y6.kept (hB7.block _ (by omega))
    have q7:=q6.kept (hB7.block _ (by omega))
    have hb7:=hb6.trans (hB7.mono (by omega))
    have z7:=hC7.size
    have HRN:Hid _:=zbo hL7 (by omega) 0 (n - 1) (by show n - 1<(zX n n).length;rw[qp];omega) (Xo n hn1 _) (fun j hj' hlt'=>zbg n j hlt' _) (by show(zX n n).length<=1000;rw[qp];omega)
    clear HPT hC7 y1
    go_wp2_with fail
    refine Calls.mono HRN.out ?_
    rintro e W2 ⟨rfl,ρ8,vo8,hL8,hC8,hB8⟩
    have y8:=y7.kept (hB8.block _ (by omega))
    have hr2:=q7.kept (hB8.block _ (by omega))
    have hb2:=hb7.trans (hB8.mono (by omega))
    have z8:=hC8.size
    obtain⟨ao,co,xz,_⟩:=(hL8 .order).1.slice
    have zcd:vo8=.slice ao (zX n n).length co:=by
     have e:vo8=.slice ao (wN (zX n n) (n - 1) 0).length co:=xz
     rw[Xw n hn1] at e
     exact e
    clear xz
    subst zcd
    have hL2:qf (wr.heap.size+1) ρ8 W2 ⟨bl,vpp,.slice ao (zX n n).length co,bm,F9,D,T,qh h n c j⟩:=by
     unfold qh
     rw[hgd]
     exact hL8
    have hwf8:=zck (n:=n) (c:=c) hjl hwf6
    clear HRN hC8 hL8 hL7 hL6 y7 q7 y6 q6 hjn hgd
    have y6:=y8
    have HEQ:Hid (US (qh h n c j) h.born h.zl h.code=ko h n c):=zc8 hjl hn1 hj
    have HFEW:Hid (((qh h n c j).zd.length<=1000/\∀i,(hi:i<(qh h n c j).zd.length)->(qh h n c j).zd[i].zk.length<=1000)/\(qh h n c j).zh.length<=800000):=by
     refine⟨⟨?_,fun i hi=>?_⟩,?_⟩
     ·show((qd (jy h n c)).zd.set 0 _).length<=1000
      rw[List.length_set,JM,List.length_replicate]
      omega
     ·have hi':i<((qd (jy h n c)).zd.set 0 ⟨(h.za.getD j Cl.none).zf,[⟨j,(j:Int)⟩]⟩).length:=hi
      show((qd (jy h n c)).zd.set 0 ⟨(h.za.getD j Cl.none).zf,[⟨j,(j:Int)⟩]⟩)[i].zk.length<=1000
      by_cases e:0=i
      ·subst e
       simp
      ·rw[List.getElem_set_ne e]
       simp[qd,jy,Zx]
     ·show((qd (jy h n c)).zh.set j _).length<=800000
      rw[List.length_set,ZG]
      omega
    have y2:=y6.cell 2 rfl
    have y3:=y6.cell 3 rfl
    have y4:=y6.cell 4 rfl
    have z2:=hb2.size
    have hWL:w.heap.size+2<W3.heap.size:=hr3l
    have HCL:Hid (∀X,Below W2.heap.size W2 X->Calls Tryz.prog 53 #[.slice aD h.zl.length kD] X fun e w'=>∃v',e=.returned v'/\zj X.heap.size w' v' h.zl/\Below X.heap.size X w'):=fun X hX=>Kx _ _ X ((HHH.out.s.below hb2).below hX) hsd
    have HMC:Hid (∀X,Below W2.heap.size W2 X->∀v,zR X v h.zl->Calls Tryz.prog 52 #[.pointer (some ⟨bl,0,none⟩),.int .i64 h.born,v,.int .i64 h.code] X fun e w'=>∃v1 v3,e=.returned (.agg (zI v1 (.slice ao (zX n n).length co) v3 v (US (qh h n c j) h.born h.zl h.code)).toArray)/\jr ⟨bl,vpp,.slice ao (zX n n).length co,bm,F9,D,T,qh h n c j⟩ X.heap.size w' v1 v3/\Below X.heap.size X w'):=fun X hX v hv=>UI (hL2.below hX) hwf8 HFEW.out.1 HFEW.out.2 h.born h.code v h.zl hv
    have hPN:(qh h n c j).zd.length<=1000:=HFEW.out.1.1
    clear hj y8
    go_wp2_with fail
    refine xY [[],[],[1],[],[3],[3,4],[],[6],[0,1,2,3,4,5,6,7],[0,1,2,3,4,5,6,7,8],[0,1,2,3,4,5,6,7,8,9]] [[0],[1],[2],[3],[4],[5],[6],[7],[5,8],[],[]] [[],[],[],[],[],[],[],[],[],[],[]] [qb (.pointer (some ⟨bl,0,none⟩)),qb (.pointer (some ⟨(w.heap.size+1),2,none⟩)),qb (.int .i64 h.born),qb (.pointer (some ⟨(w.heap.size+1),3,none⟩)),qb (.slice aD h.zl.length kD),X2 5 (fun(x:Option Addr × Nat) l=>l=[.slice x.1 h.zl.length x.2]) (fun x w1=>zj W2.heap.size w1 (.slice x.1 h.zl.length x.2) h.zl),qb (.pointer (some ⟨(w.heap.size+1),4,none⟩)),qb (.int .i64 h.code),X2 8 (fun(x:(Option Addr × Nat) × (Option Addr × Nat) × (Option Addr × Nat)) l=>l=[.slice x.1.1 h.zl.length x.1.2,.agg #[.int .i64 c,.slice x.2.1.1 (qh h n c j).zd.length x.2.1.2,.slice ao (zX n n).length co,.int .i64 0,.slice x.2.2.1 (qh h n c j).zh.length x.2.2.2,.int .i64 h.born,.slice x.1.1 h.zl.length x.1.2,.int .i64 h.code]]) (fun x w1=>jr ⟨bl,vpp,.slice ao (zX n n).length co,bm,F9,D,T,qh h n c j⟩ W2.heap.size w1 (.slice x.2.1.1 (qh h n c j).zd.length x.2.1.2) (.slice x.2.2.1 (qh h n c j).zh.length x.2.2.2)),wV fun _=>True,wV fun _=>True] 9 1 rfl (by kernel_rfl) (by kernel_rfl) (by kernel_rfl) (by kernel_rfl) ?_ ?_
    ·refine zi (zi (zi (zi (zi (zi (zi (zi (zi (qj) ?_) ?_) ?_) ?_) ?_) ?_) ?_) ?_) ?_
     ·intro a wS val own hB hf zx hk
      have s13:=hf.at (d:=13) (v:=.pointer (some ⟨bl,0,none⟩)) (by kernel_rfl) rfl
      exact zs (v:=.pointer (some ⟨bl,0,none⟩)) hB
     ·intro a wS val own hB hf zx hk
      have s5:=hf.at (d:=5) (v:=.pointer (some ⟨(w.heap.size+1),0,none⟩)) (by kernel_rfl) rfl
      exact zs (v:=.pointer (some ⟨(w.heap.size+1),2,none⟩)) hB
     ·intro a wS val own hB hf zx hk
      obtain⟨k1,f1⟩:=hk 1 (show 1∈[1] by decide)
      have s55:=k1 55 rfl
      rw[zu f1] at s55
      clear k1 f1
      have cy2:=zc hB y2
      exact zs (v:=.int .i64 h.born) hB
     ·intro a wS val own hB hf zx hk
      have s5:=hf.at (d:=5) (v:=.pointer (some ⟨(w.heap.size+1),0,none⟩)) (by kernel_rfl) rfl
      exact zs (v:=.pointer (some ⟨(w.heap.size+1),3,none⟩)) hB
     ·intro a wS val own hB hf zx hk
      obtain⟨k3,f3⟩:=hk 3 (show 3∈[3] by decide)
      have s57:=k3 57 rfl
      rw[zu f3] at s57
      clear k3 f3
      have cy3:=zc hB y3
      exact zs (v:=.slice aD h.zl.length kD) hB
     ·intro a wS val own hB hf zx hk
      obtain⟨k4,f4⟩:=hk 4 (show 4∈[3,4] by decide)
      have s58:=k4 58 rfl
      rw[zu f4] at s58
      clear k4 f4
      have Zp:=hB.size
      refine jg hB rfl rfl (by unfold execOp;go_simp) ((HCL.out wS hB).mono ?_)
      rintro e w' ⟨v1,rfl,r1,hb'⟩
      obtain⟨a0,c0,e0,_⟩:=r1.slice
      subst e0
      refine⟨_,rfl,hb',(a0,c0),rfl,Made.new fun w1 hs hbw hr=>?_⟩
      exact(r1.kept hs fun g e=>hr g (r1.lt g e).1 (r1.lt g e).2).mono Zp
     ·intro a wS val own hB hf zx hk
      have s5:=hf.at (d:=5) (v:=.pointer (some ⟨(w.heap.size+1),0,none⟩)) (by kernel_rfl) rfl
      exact zs (v:=.pointer (some ⟨(w.heap.size+1),4,none⟩)) hB
     ·intro a wS val own hB hf zx hk
      obtain⟨k6,f6⟩:=hk 6 (show 6∈[6] by decide)
      have s60:=k6 60 rfl
      rw[zu f6] at s60
      clear k6 f6
      have cy4:=zc hB y4
      exact zs (v:=.int .i64 h.code) hB
     ·intro a wS val own hB hf zx hk
      obtain⟨k0,f0⟩:=hk 0 (show 0∈[0,1,2,3,4,5,6,7] by decide)
      have s54:=k0 54 rfl
      rw[zu f0] at s54
      clear k0 f0
      obtain⟨k2,f2⟩:=hk 2 (show 2∈[0,1,2,3,4,5,6,7] by decide)
      have s56:=k2 56 rfl
      rw[zu f2] at s56
      clear k2 f2
      obtain⟨kc,xc,ec,mc⟩:=hk 5 (show 5∈[0,1,2,3,4,5,6,7] by decide)
      have vc:=yB ec
      have s59:=kc 59 rfl
      rw[vc] at s59
      have rc:=mc.here hB
      clear kc ec mc
      obtain⟨k7,f7⟩:=hk 7 (show 7∈[0,1,2,3,4,5,6,7] by decide)
      have s61:=k7 61 rfl
      rw[zu f7] at s61
      clear k7 f7
      have Zp:=hB.size
      refine jg hB rfl rfl (by unfold execOp;go_simp) ((HMC.out wS hB _ rc.at).mono ?_)
      rintro e w' ⟨v1,v3,rfl,r1,hb'⟩
      obtain⟨⟨m1,c1,e1⟩,m3,c3,e3⟩:=r1.slices
      subst e1 e3
      refine⟨_,rfl,hb',(xc,(m1,c1),(m3,c3)),by show [val 5,_]=_;rw[vc];rfl,Made.new fun w1 hs hbw hr=>?_⟩
      obtain⟨wm,B',q1,q2⟩:=r1.kept hs hr
      exact⟨wm,B',Nat.le_trans Zp q1,q2⟩
    intro aE qF val own hB hf zx hk
    obtain⟨kc,xc,ec,mc⟩:=hk 5 (by decide)
    have vc:=yB ec
    have rc:=mc.here hB
    clear kc ec mc
    obtain⟨kd,xd,ed,md⟩:=hk 8 (by decide)
    have ed':[val 5,val 8]=_:=ed
    injection ed' with ZN Ug
    have vd:=yB Ug
    rw[vc] at ZN
    have VX:=kd 62 rfl
    rw[vd] at VX
    have mo:=md.here hB
    clear kd ed Ug vd md vc
    obtain⟨⟨y1',y2'⟩,⟨m1,c1⟩,m3,c3⟩:=xd
    obtain⟨x1,x2⟩:=xc
    dsimp only at ZN mo rc
    dsimp only at VX
    injection ZN with e1 _ e2
    subst e1 e2
    have hB0:Below W2.heap.size W2 qF:=hB
    have hz0':=hB0.size
    have hL10:=hL2.below hB0
    have hb3:Below w.heap.size w qF:=hb2.trans (hB0.mono z2)
    have hr3:=hr2.below hB0
    have hrl:=hr2.lt
    obtain⟨⟨r0,r1',r2',r3,r4,r5,r6,r7⟩,⟨g0,g1,g2,g3,g4,g5,g6,g7⟩⟩:=xy hr3
    have HE:Hid (Below w.heap.size w ((((((((qF.setCell ⟨w.heap.size+2,0,none⟩ (.int .i64 c)).setCell ⟨w.heap.size+2,1,none⟩ (.slice m1 (qh h n c j).zd.length c1)).setCell ⟨w.heap.size+2,2,none⟩ (.slice ao (zX n n).length co)).setCell ⟨w.heap.size+2,3,none⟩ (.int .i64 0)).setCell ⟨w.heap.size+2,4,none⟩ (.slice m3 (qh h n c j).zh.length c3)).setCell ⟨w.heap.size+2,5,none⟩ (.int .i64 h.born)).setCell ⟨w.heap.size+2,6,none⟩ (.slice x1 h.zl.length x2)).setCell ⟨w.heap.size+2,7,none⟩ (.int .i64 h.code))/\Bx ((((((((qF.setCell ⟨w.heap.size+2,0,none⟩ (.int .i64 c)).setCell ⟨w.heap.size+2,1,none⟩ (.slice m1 (qh h n c j).zd.length c1)).setCell ⟨w.heap.size+2,2,none⟩ (.slice ao (zX n n).length co)).setCell ⟨w.heap.size+2,3,none⟩ (.int .i64 0)).setCell ⟨w.heap.size+2,4,none⟩ (.slice m3 (qh h n c j).zh.length c3)).setCell ⟨w.heap.size+2,5,none⟩ (.int .i64 h.born)).setCell ⟨w.heap.size+2,6,none⟩ (.slice x1 h.zl.length x2)).setCell ⟨w.heap.size+2,7,none⟩ (.int .i64 h.code)) (w.heap.size+2) 42 [.int .i64 c,.slice m1 (qh h n c j).zd.length c1,.slice ao (zX n n).length co,.int .i64 0,.slice m3 (qh h n c j).zh.length c3,.int .i64 h.born,.slice x1 h.zl.length x2,.int .i64 h.code]/\qF.heap.size<=((((((((qF.setCell ⟨w.heap.size+2,0,none⟩ (.int .i64 c)).setCell ⟨w.heap.size+2,1,none⟩ (.slice m1 (qh h n c j).zd.length c1)).setCell ⟨w.heap.size+2,2,none⟩ (.slice ao (zX n n).length co)).setCell ⟨w.heap.size+2,3,none⟩ (.int .i64 0)).setCell ⟨w.heap.size+2,4,none⟩ (.slice m3 (qh h n c j).zh.length c3)).setCell ⟨w.heap.size+2,5,none⟩ (.int .i64 h.born)).setCell ⟨w.heap.size+2,6,none⟩ (.slice x1 h.zl.length x2)).setCell ⟨w.heap.size+2,7,none⟩ (.int .i64 h.code)).heap.size/\∀g,g≠w.heap.size+2->((((((((qF.setCell ⟨w.heap.size+2,0,none⟩ (.int .i64 c)).setCell ⟨w.heap.size+2,1,none⟩ (.slice m1 (qh h n c j).zd.length c1)).setCell ⟨w.heap.size+2,2,none⟩ (.slice ao (zX n n).length co)).setCell ⟨w.heap.size+2,3,none⟩ (.int .i64 0)).setCell ⟨w.heap.size+2,4,none⟩ (.slice m3 (qh h n c j).zh.length c3)).setCell ⟨w.heap.size+2,5,none⟩ (.int .i64 h.born)).setCell ⟨w.heap.size+2,6,none⟩ (.slice x1 h.zl.length x2)).setCell ⟨w.heap.size+2,7,none⟩ (.int .i64 h.code)).heap[g]?=qF.heap[g]?):=by
     have HW:=((((((((Wr.refl1 (w.heap.size+2) qF).set1 (o:=0) (.int .i64 c)).set1 (o:=1) (.slice m1 (qh h n c j).zd.length c1)).set1 (o:=2) (.slice ao (zX n n).length co)).set1 (o:=3) (.int .i64 0)).set1 (o:=4) (.slice m3 (qh h n c j).zh.length c3)).set1 (o:=5) (.int .i64 h.born)).set1 (o:=6) (.slice x1 h.zl.length x2)).set1 (o:=7) (.int .i64 h.code)
     exact⟨HW.below1 hb3 zD (Nat.le_add_right _ _),(((((((hr3.set 0 _).set 1 _).set 2 _).set 3 _).set 4 _).set 5 _).set 6 _).set 7 _,by simp only[World.size_setCell];exact Nat.le_refl _,fun g hg=>(Below.heap_setCell _ ⟨w.heap.size+2,7,none⟩ _ _ hg).trans ((Below.heap_setCell _ ⟨w.heap.size+2,6,none⟩ _ _ hg).trans ((Below.heap_setCell _ ⟨w.heap.size+2,5,none⟩ _ _ hg).trans ((Below.heap_setCell _ ⟨w.heap.size+2,4,none⟩ _ _ hg).trans ((Below.heap_setCell _ ⟨w.heap.size+2,3,none⟩ _ _ hg).trans ((Below.heap_setCell _ ⟨w.heap.size+2,2,none⟩ _ _ hg).trans ((Below.heap_setCell _ ⟨w.heap.size+2,1,none⟩ _ _ hg).trans (Below.heap_setCell _ ⟨w.heap.size+2,0,none⟩ _ _ hg)))))))⟩
    have hu:=xD hf [54,55,56,57,58,59,60,61,62] (by kernel_rfl)
    dsimp only at hu
    simp only[List.foldl_cons,List.foldl_nil,List.setIfInBounds_toArray,List.set_cons_succ,List.set_cons_zero] at hu
    rw[VX] at hu
    generalize aE.tmps[54]?.getD undef=u54 at hu
    generalize aE.tmps[55]?.getD undef=u55 at hu
    generalize aE.tmps[56]?.getD undef=u56 at hu
    generalize aE.tmps[57]?.getD undef=u57 at hu
    generalize aE.tmps[58]?.getD undef=u58 at hu
    generalize aE.tmps[59]?.getD undef=u59 at hu
    generalize aE.tmps[60]?.getD undef=u60 at hu
    generalize aE.tmps[61]?.getD undef=u61 at hu
    obtain rfl:=kX hu (show aE.defers=[] from hf.defers)
    clear hu hk zx hf hr3 VX
    refine xx (w':=((((((((qF.setCell ⟨w.heap.size+2,0,none⟩ (.int .i64 c)).setCell ⟨w.heap.size+2,1,none⟩ (.slice m1 (qh h n c j).zd.length c1)).setCell ⟨w.heap.size+2,2,none⟩ (.slice ao (zX n n).length co)).setCell ⟨w.heap.size+2,3,none⟩ (.int .i64 0)).setCell ⟨w.heap.size+2,4,none⟩ (.slice m3 (qh h n c j).zh.length c3)).setCell ⟨w.heap.size+2,5,none⟩ (.int .i64 h.born)).setCell ⟨w.heap.size+2,6,none⟩ (.slice x1 h.zl.length x2)).setCell ⟨w.heap.size+2,7,none⟩ (.int .i64 h.code))) rfl rfl (by unfold execOp;go_simp) ?_
    simp only[Act.put]
    refine qs (v:=.bool true) (w':=((((((((qF.setCell ⟨w.heap.size+2,0,none⟩ (.int .i64 c)).setCell ⟨w.heap.size+2,1,none⟩ (.slice m1 (qh h n c j).zd.length c1)).setCell ⟨w.heap.size+2,2,none⟩ (.slice ao (zX n n).length co)).setCell ⟨w.heap.size+2,3,none⟩ (.int .i64 0)).setCell ⟨w.heap.size+2,4,none⟩ (.slice m3 (qh h n c j).zh.length c3)).setCell ⟨w.heap.size+2,5,none⟩ (.int .i64 h.born)).setCell ⟨w.heap.size+2,6,none⟩ (.slice x1 h.zl.length x2)).setCell ⟨w.heap.size+2,7,none⟩ (.int .i64 h.code))) rfl rfl (by unfold execOp;go_simp) ?_
    simp only[Act.put]
    clear r0 r1' r2' r3 r4 r5 r6 r7 g0 g1 g2 g3 g4 g5 g6 g7 hB
    refine kH (fun W9=>Below w.heap.size w W9/\Bx W9 (w.heap.size+2) 42 [.int .i64 c,.slice m1 (qh h n c j).zd.length c1,.slice ao (zX n n).length co,.int .i64 0,.slice m3 (qh h n c j).zh.length c3,.int .i64 h.born,.slice x1 h.zl.length x2,.int .i64 h.code]/\qF.heap.size<=W9.heap.size/\∀g,g≠w.heap.size+2->W9.heap[g]?=qF.heap[g]?) HE.out ?_
    rintro W9 ⟨k1,k2,k3,k4⟩
    clear HE
    obtain⟨⟨q0,q1,q2,q3,q4,q5,q6,q7⟩,_⟩:=xy k2
    have hL9:=hL10.from k3 fun g h1 h2=>k4 g (by omega)
    have mo9:=mo.kept k3 fun g h1 h2=>k4 g (by omega)
    have rc9:=rc.kept k3 fun g e=>k4 g (by have:=(rc.lt g e).1;omega)
    have HMA:=jr.at hL9 hwf8 (by omega) mo9 rc9.at h.born h.code
    go_wp2
    exact bodyPost_ret (v:=.tuple #[.agg #[.int .i64 c,.slice m1 (qh h n c j).zd.length c1,.slice ao (zX n n).length co,.int .i64 0,.slice m3 (qh h n c j).zh.length c3,.int .i64 h.born,.slice x1 h.zl.length x2,.int .i64 h.code],.bool true]) (by simp[results,Tryz.results11,go_sem,q0,q1,q2,q3,q4,q5,q6,q7]) rfl ⟨k1,.slice m1 (qh h n c j).zd.length c1,.slice ao (zX n n).length co,.slice m3 (qh h n c j).zh.length c3,.slice x1 h.zl.length x2,by rw[<-HEQ.out];rfl,by rw[<-HEQ.out];exact HMA⟩
end Go.Proofs.YtjbgpcileapogaaGreat

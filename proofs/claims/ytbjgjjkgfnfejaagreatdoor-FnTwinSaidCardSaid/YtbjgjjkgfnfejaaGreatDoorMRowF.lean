/-
  Pages in a row of cells: bases and frames, the first page alone with frames.
-/
import Derived.Test.YtbjgjjkgfnfejaaGreatDoorMNewS
namespace Go.Proofs.YtbjgjjkgfnfejaaGreatDoor
set_option maxHeartbeats 4000000
set_option maxRecDepth 100000
open Go.RowKit
def zbD (f:Nat->Int) (vf:Value) (n:Nat):List Value:=(List.range n).flatMap fun i=>[zI (f i),if i=0 then vf else zQ]
theorem V9 (f:Nat->Int) (vf:Value) (n:Nat):zbD f vf (n+1)=zbD f vf n ++ [zI (f n),if n=0 then vf else zQ]:=by simp[zbD,List.range_succ]
theorem Zg (f:Nat->Int) (vf:Value):∀n,(zbD f vf n).length=n * 2
 | 0=>rfl
 | n+1=>by rw[V9,List.length_append,Zg f vf n];simp;omega
theorem UV (f:Nat->Int) (vf:Value):∀(n i:Nat),i<n->(zbD f vf n)[i * 2]?=some (zI (f i))/\(zbD f vf n)[i * 2+1]?=some (if i=0 then vf else zQ)
 | 0,i,h=>absurd h yB
 | n+1,i,h=>by
  rw[V9]
  by_cases e:i=n
  ·subst e
   have hl:=Zg f vf i
   refine⟨?_,?_⟩
   ·rw[List.getElem?_append_right (by omega),hl];simp
   ·rw[List.getElem?_append_right (by omega),hl];simp
  ·have ih:=UV f vf n i (by omega)
   have hl:=Zg f vf n
   rw[List.getElem?_append_left (by omega),List.getElem?_append_left (by omega)]
   exact ih
theorem ze0 {a b:List Value} {n:Nat} (ha:a.length=n * 2) (hb:b.length=n * 2) (h:∀i,i<n->a[i * 2]?=b[i * 2]?/\a[i * 2+1]?=b[i * 2+1]?):a=b:=by
 refine List.ext_getElem? fun j=>?_
 by_cases hj:j<n * 2
 ·have e:j=(j / 2) * 2\/j=(j / 2) * 2+1:=by omega
  rcases e with e | e
  ·rw[e];exact(h (j / 2) (by omega)).1
  ·rw[e];exact(h (j / 2) (by omega)).2
 ·rw[List.getElem?_eq_none (by omega),List.getElem?_eq_none (by omega)]
theorem Ji (vf:Value):∀n,(Zu vf n).length=n * 2
 | 0=>rfl
 | n+1=>by rw[V8,List.length_append,Ji vf n];simp;omega
theorem zer (vf:Value) (n:Nat) (h:1<=n):zI (-1) :: vf :: Zu (zQ) (n - 1)=zbD (fun _=>-1) vf n:=by
 refine ze0 (n:=n) (by simp[Ji];omega) (Zg _ _ _) fun j hj=>?_
 obtain⟨b1,b2⟩:=UV (fun _=>-1) vf n j hj
 cases j with
 | zero=>exact⟨b1.symm,b2.symm⟩
 | succ j =>
  have a:=UU (zQ) (n - 1) j (by omega)
  rw[b1,b2,show(j+1) * 2=j * 2+1+1 by omega]
  exact⟨a.1,a.2⟩
def U7:Mc:=⟨0,[],[],0,[],0,[],0⟩
theorem zci (w:World):ql w (zQ) (zQ) (zQ) (zQ) U7 :=
 ⟨⟨none,0,rfl,Nat.zero_le _,fun _ h=>absurd h yB⟩,⟨none,0,rfl,Nat.zero_le _,fun _ h=>absurd h yB⟩,vX.nil w,Xh w none 0⟩
theorem K7.at {B:Nat} {w:World} {n t gp op cp gf:Nat} {vo vt:Value} {c:Int} (h:K7 B w n t (zK gp op n cp) vo gf vt (zQ)) (Km:1<=n) (hn:n<=4):ql w (zK gp op n cp) vo (zQ) (zQ) (yR n t c):=by
 have hpl:(xq n t).length=n:=by simp[xq]
 refine⟨⟨_,cp,by rw[show(yR n t c).zd.length=n from hpl],by rw[show(yR n t c).zd.length=n from hpl];unfold maxLen;omega,fun i hi=>?_⟩,h.o.at,vX.nil w,Xh w none 0⟩
 have hin:i<n:=by rw[<-hpl];exact hi
 have ev:(yR n t c).zd[i]=⟨-1,if i=0 then [⟨0,0,-1,List.replicate t (0,0),[]⟩] else []⟩:=by simp[yR,xq]
 rw[ev]
 have hp:=h.p
 rw[zer _ _ Km] at hp
 obtain⟨e0,e1⟩:=UV (fun _=>-1) (zK gf 0 1 1) n i hin
 have c0:=(hp.cell e0).1
 have c1:=(hp.cell e1).1
 rw[<-Nat.add_assoc] at c1
 refine⟨gp,op,_,rfl,c0,c1,?_⟩
 by_cases h0:i=0
 ·simp only[if_pos h0]
  refine⟨_,1,rfl,by unfold maxLen;simp,fun j hj=>?_⟩
  obtain rfl:j=0:=by simpa using hj
  exact⟨gf,0,vt,zQ,rfl,h.f.cell 0 rfl,h.f.cell 1 rfl,h.f.cell 2 rfl,h.f.cell 3 rfl,h.f.cell 4 rfl,h.t.at,Xh w none 0⟩
 ·simp only[if_neg h0]
  exact vj.nil w
def ud (ms:zM) (r c:Int):Mc:=if(yr ms && qW r c)=true then yR r.toNat (yx ms) c else U7
theorem JK (vp:Value) (ms:zM) (r c:Int) (w:World) (h:yD w vp ms) :
 Calls Tryz.prog 14 #[.agg #[vp],zI r,zI c] w fun e w'=>∃v1 v2 v3 v4,e=.returned (.tuple #[.agg (zE v1 v2 v3 v4 (ud ms r c)).toArray,.bool (yr ms && qW r c)])/\From w.heap.size w' (fun z=>ql z v1 v2 v3 v4 (ud ms r c))/\zO w w':=by
 refine(JL vp ms r c w h).mono ?_
 rintro e w' ⟨hb,⟨h0,rfl⟩ | ⟨h1,v,vo,vt,vs,rfl,hN⟩⟩
 ·have e1:ud ms r c=U7:=by unfold ud;rw[h0];rfl
  exact⟨_,_,_,_,by rw[e1,h0];rfl,by rw[e1];exact fun z _ _=>zci z,hb⟩
 ·have e1:ud ms r c=yR r.toNat (yx ms) c:=by unfold ud;rw[if_pos h1]
  exact⟨_,_,_,_,by rw[e1,h1];rfl,by rw[e1];exact hN,hb⟩
theorem XE (vp:Value) (ms:zM) (r c:Int) (w:World) (h:yD w vp ms) :
 Calls Tryz.prog 13 #[.agg #[vp],zI r,zI c] w fun e w'=>∃v1 v2 v3 v4,e=.returned (.tuple #[.agg (zE v1 v2 v3 v4 (ud ms r c)).toArray,.bool (yr ms && qW r c)])/\ql w' v1 v2 v3 v4 (ud ms r c)/\zO w w':=by
 refine(JB vp ms r c w h).mono ?_
 rintro e w' ⟨hb,⟨h0,rfl⟩ | ⟨h1,v,vo,gf,vt,vs,rfl,hN⟩⟩
 ·have e1:ud ms r c=U7:=by unfold ud;rw[h0];rfl
  exact⟨_,_,_,_,by rw[e1,h0];rfl,by rw[e1];exact zci _,hb⟩
 ·obtain⟨_,hr⟩:=Bool.and_eq_true_iff.1 h1
  obtain⟨Kn,Ko,_,_⟩:=kI hr
  have e1:ud ms r c=yR r.toNat (yx ms) c:=by unfold ud;rw[if_pos h1]
  obtain⟨gp,op,cp,hv,_,_⟩:=hN.p.form (by omega)
  have hsn:=hN.sn
  subst hv hsn
  exact⟨_,_,_,_,by rw[e1,h1];rfl,by rw[e1];exact hN.at (by omega) (by omega),hb⟩
theorem zdl {a b x1 x2 s d y1 y2:Value} (h:Value.agg #[a,b,x1,x2,s,d]=.agg #[a,b,y1,y2,s,d]):(x1,x2)=(y1,y2):=by
 injection h with h
 injection h with h
 injection h with _ h
 injection h with _ h
 injection h with h1 h
 injection h with h2 h
 rw[h1,h2]
structure ThS (wS V3:World) (g3 g4 B:Nat) (L1 L3:List Value) (now:Int) (w:World) (v:Value) (cs:List Cl):Prop where
 b:zO wS w
 x1:Bx w wS.heap.size 34 L1
 x2:Bx w (wS.heap.size+1) 44 [zQ,zI 0,zI 0,zQ,zI 0]
 x3:Bx w g3 152 L3
 x4:Bx w g4 44 [v,zI now,zI 0,zQ,zI 0]
 t:Js B w v cs
 z:B<=w.heap.size
 b3:Below g4 V3 w
 e3:V3.heap.size=g4
 q3:wS.heap.size+1<g3
 q4:g3<g4
 qB:g4<B
theorem ThS.below {wS V3:World} {g3 g4 B:Nat} {L1 L3:List Value} {now:Int} {w w':World} {v:Value} {cs:List Cl} (h:ThS wS V3 g3 g4 B L1 L3 now w v cs) (hb:zO w w'):ThS wS V3 g3 g4 B L1 L3 now w' v cs :=
 ⟨h.b.trans (hb.mono h.b.size),h.x1.below hb,h.x2.below hb,h.x3.below hb,h.x4.below hb,h.t.below hb,Nat.le_trans h.z hb.size,h.b3.trans (hb.mono (by have:=h.z;have:=h.qB;omega)),h.e3,h.q3,h.q4,h.qB⟩
theorem ThS.append {ty:TypeId} {wS V3:World} {g3 g4 B:Nat} {L1 L3:List Value} {now:Int} {w w3:World} {v:Value} {cs:List Cl} (h:ThS wS V3 g3 g4 B L1 L3 now w v cs) (hw:zO w w3) (c:Cl) (u1 u2:Value)
 (h1:zk w.heap.size w3 u1 c.zg) (h2:zk w.heap.size w3 u2 c.zf) (H k:Nat) (hx:∀j u,([zI c.m,zI c.pc,u1,u2,zI c.zi,.bool c.zv]:List Value)[j]?=some u->w3.cell? (zH H j)=some u) (hL:cs.length<=900000) :
 ∃a' c' w4,(Builtin.append_ #[39,39] ty #[v,zK H 0 1 k]).run Tryz.prog w3=.ok (.slice a' (cs.length+1) c') w4/\w4.cell? (zH g4 0)=some v/\w4.frozen? (zH g4 0)=false /\
  ThS wS V3 g3 g4 B L1 L3 now (w4.setCell (zH g4 0) (.slice a' (cs.length+1) c')) (.slice a' (cs.length+1) c') (cs ++ [c]):=by
 have hv:=h.t.lt
 have hz:=h.z
 have hbz:=h.b.size
 have q3:=h.q3
 have q4:=h.q4
 have qB:=h.qB
 obtain⟨a',c',w4,hrun,hT,hg⟩:=zbL (ty:=ty) (h.t.below hw) c u1 u2 (h1.mono hz) (h2.mono hz) (fun g e e2=>by have l1:=(h1.lt g e).1;have l2:=(hv g e2).2;omega) (fun g e e2=>by have l1:=(h2.lt g e).1;have l2:=(hv g e2).2;omega) H k hx hL (Nat.le_trans hz hw.size)
 have nb:∀g,g<B->v.ownBlock≠some g:=fun g hgB e=>by have:=(hv g e).1;omega
 have y4:=(h.x4.below hw).grown hg (nb g4 (by omega))
 have HW:=(Wr.refl1 g4 w4).set1 (o:=0) (.slice a' (cs.length+1) c')
 refine⟨a',c',w4,hrun,y4.cell 0 rfl,y4.frozen 0,?_,?_,?_,?_,?_,hT.wr HW (by omega),?_,?_,h.e3,q3,q4,qB⟩
 ·exact HW.below1 ((h.b.trans (hw.mono hbz)).grown hg (Nat.le_trans hbz hw.size) (fun q e=>by have:=(hv q e).1;omega)) zD (by omega)
 ·exact HW.bx ((h.x1.below hw).grown hg (nb _ (by omega))) (by omega)
 ·exact HW.bx ((h.x2.below hw).grown hg (nb _ (by omega))) (by omega)
 ·exact HW.bx ((h.x3.below hw).grown hg (nb _ (by omega))) (by omega)
 ·exact y4.set 0 _
 ·rw[World.size_setCell]
  exact Nat.le_trans (Nat.le_trans hz hw.size) hg.size
 ·exact HW.below1 ((h.b3.trans (hw.mono (by omega))).grown hg (by have:=hw.size;omega) (fun q e=>by have:=(hv q e).1;omega)) (by rw[h.e3];exact Nat.le_refl _) zD
theorem U3 (vp vo vt vs:Value) (m:Mc) (wS:World) (h:ql wS vp vo vt vs m) (hT:Told m) (hn:m.zd.length<=1048576) (hN:yd m.zd+m.ze.length<=900000) :
 Calls Tryz.prog 50 #[.agg (zE vp vo vt vs m).toArray] wS fun e w'=>∃vc,e=.returned (.agg #[vc,zI (wQ m),zI 0,zQ,zI 0])/\jD w' vc (ko m).za/\zO wS w':=by
 have HT:Hid (Told m):=hT
 have hM:=h
 clear hT
 have HTP:Hid (∀(W:World),zO wS W->Calls Tryz.prog 92 #[.agg (zE vp vo vt vs m).toArray] W fun e w'=>∃vl,e=.returned (.agg (zE vp vo vt vs m ++ [vl,zI (yd m.zd:Int)]).toArray)/\yf W.heap.size w' vl (xV m.zd)/\zO W w'):=fun W hW=>Zk _ _ _ _ m W (hM.below hW) hn (by omega)
 have HRU:Hid (∀(W:World) (vl:Value),Pl W vp vo vt vs vl m->Calls Tryz.prog 93 #[.agg (zE vp vo vt vs m ++ [vl,zI (yd m.zd:Int)]).toArray] W fun e w'=>e=.returned (zI (wQ m))/\zO W w'):=fun W vl hp=>Vn _ _ _ _ _ m W hp
 have HFR:Hid (∀(W:World) (vl:Value) (i k:Nat) (hi:i<m.zd.length) (hk:k<m.zd[i].zh.length),Pl W vp vo vt vs vl m->Calls Tryz.prog 94 #[.agg (zE vp vo vt vs m ++ [vl,zI (yd m.zd:Int)]).toArray,zI (i:Int),zI (k:Int)] W fun e w'=>∃u1 u2,e=.returned (.agg #[zI (uj m i k m.zd[i].zh[k]).m,zI (uj m i k m.zd[i].zh[k]).pc,u1,u2,zI (uj m i k m.zd[i].zh[k]).zi,.bool (uj m i k m.zd[i].zh[k]).zv])/\zk W.heap.size w' u1 (uj m i k m.zd[i].zh[k]).zg/\zk W.heap.size w' u2 (uj m i k m.zd[i].zh[k]).zf/\zO W w'):=fun W vl i k hi hk hp =>
  (XS _ _ _ _ _ m i k _ W hp hi hk rfl (HT.out.bs i hi) (HT.out.fr i k hi hk).1 (HT.out.fr i k hi hk).2).mono fun e w' ⟨u1,u2,e1,r1,r2,_,b⟩=>⟨u1,u2,e1,r1,r2,b⟩
 have HTW:Hid (∀(W:World) (vl w1 w2:Value) (j:Nat) (hj:j<m.ze.length),Pl W vp vo vt vs vl m->yo W w1 m.ze[j].left.zg->yo W w2 m.ze[j].left.zf->Calls Tryz.prog 95 #[.agg (zE vp vo vt vs m ++ [vl,zI (yd m.zd:Int)]).toArray,.agg #[zI m.ze[j].page,zI m.ze[j].place,zI m.ze[j].left.m,zI m.ze[j].left.pc,w1,w2,zI m.ze[j].left.zi,.bool m.ze[j].left.zv]] W fun e w'=>∃u1 u2,e=.returned (.agg #[zI (xI m m.ze[j]).m,zI (xI m m.ze[j]).pc,u1,u2,zI (xI m m.ze[j]).zi,.bool (xI m m.ze[j]).zv])/\zk W.heap.size w' u1 (xI m m.ze[j]).zg/\zk W.heap.size w' u2 (xI m m.ze[j]).zf/\zO W w'):=fun W vl w1 w2 j hj hp h1 h2 =>
  (JN _ _ _ _ _ m m.ze[j] w1 w2 W hp h1 h2 (HT.out.tw j hj).1 (HT.out.tw j hj).2).mono fun e w' ⟨u1,u2,e1,r1,r2,_,b⟩=>⟨u1,u2,e1,r1,r2,b⟩
 clear HT
 obtain⟨ap,cp,qI,hlp,hcp⟩:=id hM.p
 obtain⟨ao,co,j5⟩:=hM.o.shape
 obtain⟨at',ct,jz,hlt',hct⟩:=id hM.t
 obtain⟨as',cs,km⟩:=hM.s.shape
 subst qI j5 jz km
 unfold zE at HTP HRU HFR HTW
 simp only[List.cons_append,List.nil_append] at HTP HRU HFR HTW
 unfold zE
 go_enter Tryz.func50,Tryz.ntmps50
 go_upto_region 1 with fail
 refine ym (fun W=>zO wS W/\Bx W wS.heap.size 34 [.int .i64 m.cells,.slice ap m.zd.length cp,.slice ao m.order.length co,.int .i64 m.now,.slice at' m.ze.length ct,.int .i64 m.born,.slice as' m.zm.length cs,.int .i64 m.code]/\Bx W (wS.heap.size+1) 44 [.slice none 0 0,.int .i64 0,.int .i64 0,.slice none 0 0,.int .i64 0]) ⟨(zR _ _).alloc (by simp) _,(Bx.new wS _ _).alloc _,Bx.newAt _ _ _ (by simp)⟩ ?_
 rintro W1 ⟨B1,x1',y1'⟩
 obtain⟨⟨x0,x1,x2,x3,x4,x5,x6,x7⟩,_⟩:=uk x1'
 have z1:=B1.size
 go_wp2_with fail
 refine(HTP.out W1 B1).mono ?_
 rintro e V1 ⟨vl,rfl,rl,t1⟩
 obtain⟨al,cl,XB,_⟩:=rl.slice
 subst XB
 have BV1:=B1.trans (t1.mono z1)
 have xV1:=x1'.below t1
 have yV1:=y1'.below t1
 have K4:wS.heap.size+1<V1.heap.size:=yV1.lt
 have hP:Pl V1 (.slice ap m.zd.length cp) (.slice ao m.order.length co) (.slice at' m.ze.length ct) (.slice as' m.zm.length cs) (.slice al (xV m.zd).length cl) m:=⟨hM.below BV1,rl.at,by omega,by omega⟩
 clear t1 x1' y1' B1 z1 x0 x1 x2 x3 x4 x5 x6 x7 rl HTP
 go_upto_region 2 with fail
 obtain⟨g3,j9⟩:∃g,V1.heap.size=g:=⟨_,rfl⟩
 rw[j9]
 refine ym (fun W=>zO V1 W/\Bx W g3 152 [.int .i64 m.cells,.slice ap m.zd.length cp,.slice ao m.order.length co,.int .i64 m.now,.slice at' m.ze.length ct,.int .i64 m.born,.slice as' m.zm.length cs,.int .i64 m.code,.slice al (xV m.zd).length cl,.int .i64 (yd m.zd:Int)]) ⟨zR _ _,Bx.newAt _ _ _ j9⟩ ?_
 rintro W2 ⟨t2,z3⟩
 have B2:=BV1.trans (t2.mono BV1.size)
 have xV2:=xV1.below t2
 have yV2:=yV1.below t2
 have hP2:=hP.below t2
 have zB2:=B2.size
 clear t2 xV1 yV1 BV1 hP
 obtain⟨⟨x0,x1,x2,x3,x4,x5,x6,x7,x8,x9⟩,_⟩:=Yf z3
 have hg3l:g3<W2.heap.size:=z3.lt
 go_wp2_with fail
 refine(HRU.out W2 _ hP2).mono ?_
 rintro e V3 ⟨rfl,t3⟩
 have B3:=B2.trans (t3.mono zB2)
 have xV3:=xV2.below t3
 have yV3:=yV2.below t3
 have zV3:=z3.below t3
 have hP3:=hP2.below t3
 have hs3:=t3.size
 clear t3 B2 xV2 yV2 z3 hP2 x0 x1 x2 x3 x4 x5 x6 x7 x8 x9 HRU
 go_upto_region 3 with fail
 obtain⟨g4,wj⟩:∃g,V3.heap.size=g:=⟨_,rfl⟩
 rw[wj]
 obtain⟨now,uZ⟩:∃now,wQ m=now:=⟨_,rfl⟩
 rw[uZ]
 obtain⟨B,hBe⟩:∃B,g4+1=B:=⟨_,rfl⟩
 refine ym (fun W=>zO V3 W/\ThS wS V3 g3 g4 B [.int .i64 m.cells,.slice ap m.zd.length cp,.slice ao m.order.length co,.int .i64 m.now,.slice at' m.ze.length ct,.int .i64 m.born,.slice as' m.zm.length cs,.int .i64 m.code] [.int .i64 m.cells,.slice ap m.zd.length cp,.slice ao m.order.length co,.int .i64 m.now,.slice at' m.ze.length ct,.int .i64 m.born,.slice as' m.zm.length cs,.int .i64 m.code,.slice al (xV m.zd).length cl,.int .i64 (yd m.zd:Int)] now W (.slice none 0 0) (qg m 0)) ⟨zR _ _,B3.alloc B3.size _,xV3.alloc _,yV3.alloc _,zV3.alloc _,Bx.newAt _ _ _ wj,Js.nil _ _,by simp;omega,wj ▸ zR _ _,wj,by omega,by omega,by omega⟩ ?_
 rintro W4 ⟨t4,hth⟩
 clear t4 B3 xV3 yV3 zV3 hs3 hBe wj j9
 obtain⟨⟨x0,x1,x2,x3,x4,x5,x6,x7⟩,_⟩:=uk hth.x1
 go_wp2
 go_loopg [5,6,17,18,19,20,21,22,23,24,25,26,27,28,29,30,31,32,33,34,35,36,37,38,39,40] m.zd.length (fun g _ _ i _ _ _ _ _ _ _ _ _ _ _ _ _ _ _ _ _ _ _ _ _ _ _ wr=>∃(k:Nat) (v:Value),k<=m.zd.length/\g=m.zd.length - k/\i=zI k/\ThS wS V3 g3 g4 B [zI m.cells,.slice ap m.zd.length cp,.slice ao m.order.length co,zI m.now,.slice at' m.ze.length ct,zI m.born,.slice as' m.zm.length cs,zI m.code] [zI m.cells,.slice ap m.zd.length cp,.slice ao m.order.length co,zI m.now,.slice at' m.ze.length ct,zI m.born,.slice as' m.zm.length cs,zI m.code,.slice al (xV m.zd).length cl,zI (yd m.zd:Int)] now wr v (qg m k))
 case atStart=>exact⟨0,_,Nat.zero_le _,rfl,rfl,hth⟩
 case round =>
  obtain⟨k,v,hk,rfl,rfl,hth⟩:=hrel
  by_cases yz:k<m.zd.length
  ·obtain⟨a5,k5,hv5⟩:=hth.t.slice
   subst hv5
   have uW:(k:Int)<(m.zd.length:Int):=by omega
   obtain⟨bp,op,vf,hap,xE⟩:=hcp k yz
   subst hap
   obtain⟨af,cf,Q9⟩:=xE.f.shape
   have c1:=zc hth.b xE.c1
   rw[Q9] at c1
   have HFA:Hid ((qg m k).length=yS m.zd k):=vx hk
   have hsu:=xy yz
   have hsl:=kQ m.zd (k:=k+1) yz
   have HPA:Hid (qg m (k+1)=qg m k ++ xr m k m.zd[k].zh.length):=by show _=_;rw[Zq,kX yz]
   obtain⟨nf,hnf⟩:∃nf,m.zd[k].zh.length=nf:=⟨_,rfl⟩
   rw[hnf] at c1 hsu HPA
   have HNF:Hid (m.zd[k].zh.length=nf):=hnf
   clear hnf Q9 xE hcp hct
   have hnb:nf<=900000:=by omega
   obtain⟨⟨x0,x1,x2,x3,x4,x5,x6,x7⟩,_⟩:=uk hth.x1
   go_wp2
   clear x0 x1 x2 x3 x4 x5 x6 x7 c1
   go_loopg [6,27,28,29,30,31,32,33,34,35,36,37,38,39] nf (fun g _ i _ _ _ _ _ _ _ _ _ _ _ _ wr=>∃(q:Nat) (v:Value),q<=nf/\g=nf - q/\i=zI q/\ThS wS V3 g3 g4 B [zI m.cells,zK bp op m.zd.length cp,.slice ao m.order.length co,zI m.now,.slice at' m.ze.length ct,zI m.born,.slice as' m.zm.length cs,zI m.code] [zI m.cells,zK bp op m.zd.length cp,.slice ao m.order.length co,zI m.now,.slice at' m.ze.length ct,zI m.born,.slice as' m.zm.length cs,zI m.code,.slice al (xV m.zd).length cl,zI (yd m.zd:Int)] now wr v (qg m k ++ xr m k q))
   case atStart=>exact⟨0,_,Nat.zero_le _,rfl,rfl,by simpa [xr] using hth⟩
   case round =>
    clear hth
    obtain⟨q,v,hq,rfl,rfl,hth⟩:=hrel
    by_cases hqt:q<nf
    ·have hqz:(q:Int)<(nf:Int):=by omega
     have hql:q<m.zd[k].zh.length:=by rw[HNF.out];exact hqt
     have HCS:Hid (qg m k ++ xr m k (q+1)=(qg m k ++ xr m k q) ++ [uj m k q m.zd[k].zh[q]]):=by show _=_;rw[Vr,zbX yz hql,List.append_assoc]
     have HLN:Hid ((qg m k ++ xr m k q).length<=900000):=by show _<=_;rw[List.length_append,HFA.out,Z7];omega
     obtain⟨cc,hcc⟩:∃cc,qg m k ++ xr m k q=cc:=⟨_,rfl⟩
     rw[hcc] at hth HCS HLN
     have HC0:=fun(W:World) (hW:zO wr W)=>HFR.out W _ k q yz hql ((hP3.below (hth.b3.mono (Nat.le_of_eq hth.e3))).below hW)
     obtain⟨c,hc⟩:∃c,uj m k q m.zd[k].zh[q]=c:=⟨_,rfl⟩
     rw[hc] at HC0 HCS
     have HC:Hid (∀(W:World),zO wr W->_):=HC0
     clear HC0 hc hcc
     obtain⟨a2,k2,hv2⟩:=hth.t.slice
     subst hv2
     have h0:=hth.x4.cell 0 rfl
     obtain⟨⟨x0,x1,x2,x3,x4,x5,x6,x7,x8,x9⟩,_⟩:=Yf hth.x3
     go_upto_region 9 with fail
     refine Xo [[],[0],[],[],[],[2,3,4],[2,3,4,5],[0,1,2,3,4,5,6],[0,1,2,3,4,5,6,7],[0,1,2,3,4,5,6,7,8]] [[0],[1],[2],[3],[4],[5],[5,6],[],[],[]] [[],[],[],[],[],[],[],[],[],[]] [jy (zJ g4 0),jy (.slice a2 cc.length k2),jy (.agg #[zI m.cells,zK bp op m.zd.length cp,.slice ao m.order.length co,zI m.now,.slice at' m.ze.length ct,zI m.born,.slice as' m.zm.length cs,zI m.code,.slice al (xV m.zd).length cl,zI (yd m.zd:Int)]),jy (zI (k:Int)),jy (zI (q:Int)),Ws 5 (fun(x:Value × Value) l=>l=[.agg #[zI c.m,zI c.pc,x.1,x.2,zI c.zi,.bool c.zv]]) (fun x w1=>(∃a0 c0 a1 c1,x.1=.slice a0 c.zg.length c0/\x.2=.slice a1 c.zf.length c1)/\zk wr.heap.size w1 x.1 c.zg/\zk wr.heap.size w1 x.2 c.zf),Ws 6 (fun(x:(Value × Value) × Nat) l=>l=[.agg #[zI c.m,zI c.pc,x.1.1,x.1.2,zI c.zi,.bool c.zv],zK x.2 0 1 1]) (fun x w1=>∀j u,([zI c.m,zI c.pc,x.1.1,x.1.2,zI c.zi,.bool c.zv]:List Value)[j]?=some u->w1.cell? (zH x.2 j)=some u),X7 fun _=>True,X7 fun _=>True,X7 fun _=>True] 7 2 rfl (by kernel_rfl) (by kernel_rfl) (by kernel_rfl) (by kernel_rfl) ?_ ?_
     ·refine zl (zl (zl (zl (zl (zl (zl (jE) ?_) ?_) ?_) ?_) ?_) ?_) ?_
      ·intro a w val own hB hf zy hk
       have s4:=hf.at (d:=4) (v:=zJ g4 0) (by kernel_rfl) rfl
       exact zC (v:=zJ g4 0) hB
      ·intro a w val own hB hf zy hk
       have s30:=zL hk 0 30
       have ch:=zc hB h0
       exact zC (v:=.slice a2 cc.length k2) hB
      ·intro a w val own hB hf zy hk
       have s3:=hf.at (d:=3) (v:=zJ g3 0) (by kernel_rfl) rfl
       have cx0:=zc hB x0
       have cx1:=zc hB x1
       have cx2:=zc hB x2
       have cx3:=zc hB x3
       have cx4:=zc hB x4
       have cx5:=zc hB x5
       have cx6:=zc hB x6
       have cx7:=zc hB x7
       have cx8:=zc hB x8
       have cx9:=zc hB x9
       exact zC (v:=.agg #[zI m.cells,zK bp op m.zd.length cp,.slice ao m.order.length co,zI m.now,.slice at' m.ze.length ct,zI m.born,.slice as' m.zm.length cs,zI m.code,.slice al (xV m.zd).length cl,zI (yd m.zd:Int)]) hB
      ·intro a w val own hB hf zy hk
       have s5:=hf.at (d:=5) (v:=zI (k:Int)) (by kernel_rfl) rfl
       exact zC (v:=zI (k:Int)) hB
      ·intro a w val own hB hf zy hk
       have s6:=hf.at (d:=6) (v:=zI (q:Int)) (by kernel_rfl) rfl
       exact zC (v:=zI (q:Int)) hB
      ·intro a w val own hB hf zy hk
       have s32:=zL hk 2 32
       have s33:=zL hk 3 33
       have s34:=zL hk 4 34
       have K6:=hB.size
       refine uG hB rfl rfl (by unfold execOp;go_simp) ((HC.out w hB).mono ?_)
       rintro e w' ⟨v1,v2,rfl,r1,r2,hb'⟩
       refine⟨_,rfl,hb',(v1,v2),rfl,Made.new fun w1 hs _ hr=>⟨?_,?_,?_⟩⟩
       ·obtain⟨a0,c0,e0,_⟩:=r1.slice
        obtain⟨a1,c1,e1,_⟩:=r2.slice
        exact⟨a0,c0,a1,c1,e0,e1⟩
       ·exact(r1.kept hs fun g e=>hr g (r1.lt g e).1 (r1.lt g e).2).mono K6
       ·exact(r2.kept hs fun g e=>hr g (r2.lt g e).1 (r2.lt g e).2).mono K6
      ·intro a w val own hB hf zy hk
       obtain⟨kc,xc,ec,mc⟩:=hk 5 (show 5∈[2,3,4,5] by decide)
       have vc:=qy ec
       have s35:=kc 35 rfl
       rw[vc] at s35
       obtain⟨⟨a0,c0,a1,c1,q1,q2⟩,rc1,rc2⟩:=mc.here hB
       clear kc ec
       obtain⟨xa,xb⟩:=xc
       dsimp only at q1 q2
       subst q1 q2
       refine ZW (v:=.slice (some ⟨w.heap.size,0,none⟩) 1 1) (w':=w.alloc (.cells #[.int .i64 c.m,.int .i64 c.pc,.slice a0 c.zg.length c0,.slice a1 c.zf.length c1,.int .i64 c.zi,.bool c.zv] 96)) hB rfl rfl (by unfold execOp;go_simp) (zR _ _) ⟨((.slice a0 c.zg.length c0,.slice a1 c.zf.length c1),w.heap.size),?_,Made.new fun w1 _ _ hr=>?_⟩
       ·show [val 5,_]=_
        rw[vc]
        rfl
       ·exact fun j u hu=>((Bx.new w 96 [.int .i64 c.m,.int .i64 c.pc,.slice a0 c.zg.length c0,.slice a1 c.zf.length c1,.int .i64 c.zi,.bool c.zv]).kept (hr _ zD (by simp))).cell j hu
     intro aE vB val own hB hf zy hk
     obtain⟨kc,xc,ec,mc⟩:=hk 5 (by decide)
     have vc:=qy ec
     have s35:=kc 35 rfl
     rw[vc] at s35
     obtain⟨⟨a0,c0,a1,c1,q1,q2⟩,rc1,rc2⟩:=mc.here hB
     clear kc ec
     obtain⟨kb,xb,eb,mb⟩:=hk 6 (by decide)
     have eb':[val 5,val 6]=_:=eb
     injection eb' with eba ebb
     have vb:=qy ebb
     have s36:=kb 36 rfl
     rw[vb] at s36
     obtain⟨⟨ya,yb⟩,H⟩:=xb
     have hxx:xc=(ya,yb):=by rw[vc] at eba;exact zdl eba
     subst hxx
     have mh:=mb.here hB
     dsimp only at mh q1 q2 rc1 rc2
     obtain⟨kl,fl⟩:=hk 1 (by decide)
     have s31:=kl 31 rfl
     rw[JQ fl] at s31
     obtain⟨a',c',w4,hrun,g4c,g4f,hS⟩:=ThS.append (ty:=39) hth hB c _ _ rc1 rc2 H 1 mh HLN.out
     clear kl fl kb eb ebb vb vc eba mb mc mh q1 q2 rc1 rc2
     have hu:=ux hf [30,31,32,33,34,35,36,37,38] (by kernel_rfl)
     dsimp only at hu
     simp only[List.foldl_cons,List.foldl_nil,List.setIfInBounds_toArray,List.set_cons_succ,List.set_cons_zero] at hu
     rw[s31,s36] at hu
     generalize aE.tmps[30]?.getD undef=u30 at hu
     generalize aE.tmps[32]?.getD undef=u32 at hu
     generalize aE.tmps[33]?.getD undef=u33 at hu
     generalize aE.tmps[34]?.getD undef=u34 at hu
     generalize aE.tmps[35]?.getD undef=u35 at hu
     generalize aE.tmps[37]?.getD undef=u37 at hu
     generalize aE.tmps[38]?.getD undef=u38 at hu
     obtain rfl:=ZK hu (show aE.defers=[] from hf.defers)
     clear hu hk zy hf s31 s36 s35
     refine js (v:=.slice a' (cc.length+1) c') (w':=w4) rfl rfl (uH rfl (by go_simp) (by go_simp) hrun) ?_
     simp only[Act.put]
     refine js (v:=zJ g4 0) (w':=w4) rfl rfl (by unfold execOp;go_simp) ?_
     simp only[Act.put]
     refine vM (w':=w4.setCell (zH g4 0) (.slice a' (cc.length+1) c')) rfl rfl (by unfold execOp;go_simp) ?_
     simp only[Act.put]
     clear hrun g4c g4f
     refine wD (fun W=>ThS wS V3 g3 g4 B [zI m.cells,zK bp op m.zd.length cp,.slice ao m.order.length co,zI m.now,.slice at' m.ze.length ct,zI m.born,.slice as' m.zm.length cs,zI m.code] [zI m.cells,zK bp op m.zd.length cp,.slice ao m.order.length co,zI m.now,.slice at' m.ze.length ct,zI m.born,.slice as' m.zm.length cs,zI m.code,.slice al (xV m.zd).length cl,zI (yd m.zd:Int)] now W (.slice a' (cc.length+1) c') (cc ++ [c])) hS ?_
     rintro W5 h5
     clear hS hB
     go_wp2
     go_roundg (nf - (q+1))
     case measure=>omega
     case rel=>exact⟨q+1,_,by omega,rfl,by go_num,by rw[HCS.out];exact h5⟩
    ·obtain rfl:q=nf:=by omega
     have hqz:¬((q:Int)<(q:Int)):=by omega
     go_wp2
     go_roundg (m.zd.length - (k+1))
     case measure=>omega
     case rel=>exact⟨k+1,_,by omega,rfl,by go_num,by rw[HPA.out];exact hth⟩
  ·obtain rfl:k=m.zd.length:=by omega
   have uW:¬((m.zd.length:Int)<(m.zd.length:Int)):=by omega
   have HFA:Hid ((qg m m.zd.length).length=yd m.zd):=vx hk
   obtain⟨⟨x0,x1,x2,x3,x4,x5,x6,x7⟩,_⟩:=uk hth.x1
   clear hcp HFR
   go_wp2
   clear x0 x1 x2 x3 x4 x5 x6 x7
   go_loopg [8,44,45,46,47,48,49,50,51,52,53,54,55,56] m.ze.length (fun g _ i _ _ _ _ _ _ _ _ _ _ _ _ wr=>∃(q:Nat) (v:Value),q<=m.ze.length/\g=m.ze.length - q/\i=zI q/\ThS wS V3 g3 g4 B [zI m.cells,.slice ap m.zd.length cp,.slice ao m.order.length co,zI m.now,.slice at' m.ze.length ct,zI m.born,.slice as' m.zm.length cs,zI m.code] [zI m.cells,.slice ap m.zd.length cp,.slice ao m.order.length co,zI m.now,.slice at' m.ze.length ct,zI m.born,.slice as' m.zm.length cs,zI m.code,.slice al (xV m.zd).length cl,zI (yd m.zd:Int)] now wr v (qg m m.zd.length ++ jr m q))
   case atStart=>exact⟨0,_,Nat.zero_le _,rfl,rfl,by simpa [jr] using hth⟩
   case round =>
    clear hth
    obtain⟨q,v,hq,rfl,rfl,hth⟩:=hrel
    by_cases hqt:q<m.ze.length
    ·have hqz:(q:Int)<(m.ze.length:Int):=by omega
     have HCS:Hid (qg m m.zd.length ++ jr m (q+1)=(qg m m.zd.length ++ jr m q) ++ [xI m m.ze[q]]):=by show _=_;rw[Vz,Zl hqt,List.append_assoc]
     have HLN:Hid ((qg m m.zd.length ++ jr m q).length<=900000):=by show _<=_;rw[List.length_append,HFA.out,Ye];omega
     obtain⟨cc,hcc⟩:∃cc,qg m m.zd.length ++ jr m q=cc:=⟨_,rfl⟩
     rw[hcc] at hth HCS HLN
     obtain⟨bt,ot,U5,vs',hat,YY⟩:=hct q hqt
     subst hat
     have htr:=YY.below hth.b
     have HC0:=fun(W:World) (hp:Pl W _ _ _ _ _ m)=>HTW.out W (.slice al (xV m.zd).length cl) U5 vs' q hqt hp
     obtain⟨T,hTe⟩:∃T,m.ze[q]=T:=⟨_,rfl⟩
     rw[hTe] at htr HC0 HCS
     obtain⟨c,hc⟩:∃c,xI m T=c:=⟨_,rfl⟩
     rw[hc] at HC0 HCS
     obtain⟨d0,d1,d2,d3,d4,d5,d6,d7,dt,ds⟩:=htr
     obtain⟨b1,k3,e1⟩:=dt.shape
     obtain⟨b2,k4,e2⟩:=ds.shape
     subst e1 e2
     clear hc hcc hTe YY HTW hct
     go_upto_region 15 with fail
     refine ym (fun W=>zO wr W/\Bx W wr.heap.size 124 [.int .i64 T.page,.int .i64 T.place,.int .i64 T.left.m,.int .i64 T.left.pc,.slice b1 T.left.zg.length k3,.slice b2 T.left.zf.length k4,.int .i64 T.left.zi,.bool T.left.zv]) ⟨zR _ _,Bx.new _ _ _⟩ ?_
     rintro W7 ⟨t7,y7'⟩
     replace hth:=hth.below t7
     replace dt:=dt.below t7
     replace ds:=ds.below t7
     clear t7 d0 d1 d2 d3 d4 d5 d6 d7
     have HC:Hid (∀(W:World),zO W7 W->_):=fun W hW=>HC0 W ((hP3.below (hth.b3.mono (Nat.le_of_eq hth.e3))).below hW) (dt.below hW) (ds.below hW)
     clear HC0 dt ds
     obtain⟨a2,k2,hv2⟩:=hth.t.slice
     subst hv2
     have h0:=hth.x4.cell 0 rfl
     obtain⟨⟨x0,x1,x2,x3,x4,x5,x6,x7,x8,x9⟩,_⟩:=Yf hth.x3
     obtain⟨⟨y0,y1,y2,y3,y4,y5,y6,y7⟩,_⟩:=uk y7'
     refine Xo [[],[0],[],[],[2,3],[2,3,4],[0,1,2,3,4,5],[0,1,2,3,4,5,6],[0,1,2,3,4,5,6,7]] [[0],[1],[2],[3],[4],[4,5],[],[],[]] [[],[],[],[],[],[],[],[],[]] [jy (zJ g4 0),jy (.slice a2 cc.length k2),jy (.agg #[zI m.cells,.slice ap m.zd.length cp,.slice ao m.order.length co,zI m.now,zK bt ot m.ze.length ct,zI m.born,.slice as' m.zm.length cs,zI m.code,.slice al (xV m.zd).length cl,zI (yd m.zd:Int)]),jy (.agg #[zI T.page,zI T.place,zI T.left.m,zI T.left.pc,.slice b1 T.left.zg.length k3,.slice b2 T.left.zf.length k4,zI T.left.zi,.bool T.left.zv]),Ws 4 (fun(x:Value × Value) l=>l=[.agg #[zI c.m,zI c.pc,x.1,x.2,zI c.zi,.bool c.zv]]) (fun x w1=>(∃a0 c0 a1 c1,x.1=.slice a0 c.zg.length c0/\x.2=.slice a1 c.zf.length c1)/\zk W7.heap.size w1 x.1 c.zg/\zk W7.heap.size w1 x.2 c.zf),Ws 5 (fun(x:(Value × Value) × Nat) l=>l=[.agg #[zI c.m,zI c.pc,x.1.1,x.1.2,zI c.zi,.bool c.zv],zK x.2 0 1 1]) (fun x w1=>∀j u,([zI c.m,zI c.pc,x.1.1,x.1.2,zI c.zi,.bool c.zv]:List Value)[j]?=some u->w1.cell? (zH x.2 j)=some u),X7 fun _=>True,X7 fun _=>True,X7 fun _=>True] 6 2 rfl (by kernel_rfl) (by kernel_rfl) (by kernel_rfl) (by kernel_rfl) ?_ ?_
     ·refine zl (zl (zl (zl (zl (zl (jE) ?_) ?_) ?_) ?_) ?_) ?_
      ·intro a w val own hB hf zy hk
       have s4:=hf.at (d:=4) (v:=zJ g4 0) (by kernel_rfl) rfl
       exact zC (v:=zJ g4 0) hB
      ·intro a w val own hB hf zy hk
       have s48:=zL hk 0 48
       have ch:=zc hB h0
       exact zC (v:=.slice a2 cc.length k2) hB
      ·intro a w val own hB hf zy hk
       have s3:=hf.at (d:=3) (v:=zJ g3 0) (by kernel_rfl) rfl
       have cx0:=zc hB x0
       have cx1:=zc hB x1
       have cx2:=zc hB x2
       have cx3:=zc hB x3
       have cx4:=zc hB x4
       have cx5:=zc hB x5
       have cx6:=zc hB x6
       have cx7:=zc hB x7
       have cx8:=zc hB x8
       have cx9:=zc hB x9
       exact zC (v:=.agg #[zI m.cells,.slice ap m.zd.length cp,.slice ao m.order.length co,zI m.now,zK bt ot m.ze.length ct,zI m.born,.slice as' m.zm.length cs,zI m.code,.slice al (xV m.zd).length cl,zI (yd m.zd:Int)]) hB
      ·intro a w val own hB hf zy hk
       have s8:=hf.at (d:=8) (v:=zJ wr.heap.size 0) (by kernel_rfl) rfl
       have cy0:=zc hB y0
       have cy1:=zc hB y1
       have cy2:=zc hB y2
       have cy3:=zc hB y3
       have cy4:=zc hB y4
       have cy5:=zc hB y5
       have cy6:=zc hB y6
       have cy7:=zc hB y7
       exact zC (v:=.agg #[zI T.page,zI T.place,zI T.left.m,zI T.left.pc,.slice b1 T.left.zg.length k3,.slice b2 T.left.zf.length k4,zI T.left.zi,.bool T.left.zv]) hB
      ·intro a w val own hB hf zy hk
       have s50:=zL hk 2 50
       have s51:=zL hk 3 51
       have K6:=hB.size
       refine uG hB rfl rfl (by unfold execOp;go_simp) ((HC.out w hB).mono ?_)
       rintro e w' ⟨v1,v2,rfl,r1,r2,hb'⟩
       refine⟨_,rfl,hb',(v1,v2),rfl,Made.new fun w1 hs _ hr=>⟨?_,?_,?_⟩⟩
       ·obtain⟨a0,c0,e0,_⟩:=r1.slice
        obtain⟨a1,c1,e1,_⟩:=r2.slice
        exact⟨a0,c0,a1,c1,e0,e1⟩
       ·exact(r1.kept hs fun g e=>hr g (r1.lt g e).1 (r1.lt g e).2).mono K6
       ·exact(r2.kept hs fun g e=>hr g (r2.lt g e).1 (r2.lt g e).2).mono K6
      ·intro a w val own hB hf zy hk
       obtain⟨kc,xc,ec,mc⟩:=hk 4 (show 4∈[2,3,4] by decide)
       have vc:=qy ec
       have s52:=kc 52 rfl
       rw[vc] at s52
       obtain⟨⟨a0,c0,a1,c1,q1,q2⟩,rc1,rc2⟩:=mc.here hB
       clear kc ec
       obtain⟨xa,xb⟩:=xc
       dsimp only at q1 q2
       subst q1 q2
       refine ZW (v:=.slice (some ⟨w.heap.size,0,none⟩) 1 1) (w':=w.alloc (.cells #[.int .i64 c.m,.int .i64 c.pc,.slice a0 c.zg.length c0,.slice a1 c.zf.length c1,.int .i64 c.zi,.bool c.zv] 96)) hB rfl rfl (by unfold execOp;go_simp) (zR _ _) ⟨((.slice a0 c.zg.length c0,.slice a1 c.zf.length c1),w.heap.size),?_,Made.new fun w1 _ _ hr=>?_⟩
       ·show [val 4,_]=_
        rw[vc]
        rfl
       ·exact fun j u hu=>((Bx.new w 96 [.int .i64 c.m,.int .i64 c.pc,.slice a0 c.zg.length c0,.slice a1 c.zf.length c1,.int .i64 c.zi,.bool c.zv]).kept (hr _ zD (by simp))).cell j hu
     intro aE vB val own hB hf zy hk
     obtain⟨kc,xc,ec,mc⟩:=hk 4 (by decide)
     have vc:=qy ec
     have s52:=kc 52 rfl
     rw[vc] at s52
     obtain⟨⟨a0,c0,a1,c1,q1,q2⟩,rc1,rc2⟩:=mc.here hB
     clear kc ec
     obtain⟨kb,xb,eb,mb⟩:=hk 5 (by decide)
     have eb':[val 4,val 5]=_:=eb
     injection eb' with eba ebb
     have vb:=qy ebb
     have s53:=kb 53 rfl
     rw[vb] at s53
     obtain⟨⟨ya,yb⟩,H⟩:=xb
     have hxx:xc=(ya,yb):=by rw[vc] at eba;exact zdl eba
     subst hxx
     have mh:=mb.here hB
     dsimp only at mh q1 q2 rc1 rc2
     obtain⟨kl,fl⟩:=hk 1 (by decide)
     have s49:=kl 49 rfl
     rw[JQ fl] at s49
     obtain⟨a',c',w4,hrun,g4c,g4f,hS⟩:=ThS.append (ty:=39) hth hB c _ _ rc1 rc2 H 1 mh HLN.out
     clear kl fl kb eb ebb vb vc eba mb mc mh q1 q2 rc1 rc2
     have hu:=ux hf [48,49,50,51,52,53,54,55] (by kernel_rfl)
     dsimp only at hu
     simp only[List.foldl_cons,List.foldl_nil,List.setIfInBounds_toArray,List.set_cons_succ,List.set_cons_zero] at hu
     rw[s49,s53] at hu
     generalize aE.tmps[48]?.getD undef=u48 at hu
     generalize aE.tmps[50]?.getD undef=u50 at hu
     generalize aE.tmps[51]?.getD undef=u51 at hu
     generalize aE.tmps[52]?.getD undef=u52 at hu
     generalize aE.tmps[54]?.getD undef=u54 at hu
     generalize aE.tmps[55]?.getD undef=u55 at hu
     obtain rfl:=ZK hu (show aE.defers=[] from hf.defers)
     clear hu hk zy hf s49 s53 s52
     refine js (v:=.slice a' (cc.length+1) c') (w':=w4) rfl rfl (uH rfl (by go_simp) (by go_simp) hrun) ?_
     simp only[Act.put]
     refine js (v:=zJ g4 0) (w':=w4) rfl rfl (by unfold execOp;go_simp) ?_
     simp only[Act.put]
     refine vM (w':=w4.setCell (zH g4 0) (.slice a' (cc.length+1) c')) rfl rfl (by unfold execOp;go_simp) ?_
     simp only[Act.put]
     clear hrun g4c g4f
     refine wD (fun W=>ThS wS V3 g3 g4 B [zI m.cells,.slice ap m.zd.length cp,.slice ao m.order.length co,zI m.now,zK bt ot m.ze.length ct,zI m.born,.slice as' m.zm.length cs,zI m.code] [zI m.cells,.slice ap m.zd.length cp,.slice ao m.order.length co,zI m.now,zK bt ot m.ze.length ct,zI m.born,.slice as' m.zm.length cs,zI m.code,.slice al (xV m.zd).length cl,zI (yd m.zd:Int)] now W (.slice a' (cc.length+1) c') (cc ++ [c])) hS ?_
     rintro W5 h5
     clear hS hB
     go_wp2
     go_roundg (m.ze.length - (q+1))
     case measure=>omega
     case rel=>exact⟨q+1,_,by omega,rfl,by go_num,by rw[HCS.out];exact h5⟩
    ·obtain rfl:q=m.ze.length:=by omega
     have hqz:¬((m.ze.length:Int)<(m.ze.length:Int)):=by omega
     obtain⟨a2,k2,hv2⟩:=hth.t.slice
     subst hv2
     have JV:=hth.x4
     have wk:=hth.x2
     have hb9:=hth.b
     have ht9:=hth.t
     have q3:=hth.q3
     have q4:=hth.q4
     have qB:=hth.qB
     clear hth
     have HCS:Hid (qg m m.zd.length ++ jr m m.ze.length=(ko m).za):=rfl
     obtain⟨cs9,hcs9⟩:∃cs9,qg m m.zd.length ++ jr m m.ze.length=cs9:=⟨_,rfl⟩
     rw[hcs9] at JV ht9 HCS
     obtain⟨n9,hn9⟩:∃n9,cs9.length=n9:=⟨_,rfl⟩
     rw[hn9] at JV ht9
     have HNW:Hid (wQ m=now):=uZ
     clear hn9 hcs9 uZ HFA HTW hct hP3
     have p0:=JV.cell 0 rfl
     have r0:=wk.cell 0 rfl
     have f0:=wk.frozen 0
     have p1:=JV.cell 1 rfl
     have r1:=wk.cell 1 rfl
     have f1:=wk.frozen 1
     have p2:=JV.cell 2 rfl
     have r2:=wk.cell 2 rfl
     have f2:=wk.frozen 2
     have p3:=JV.cell 3 rfl
     have r3:=wk.cell 3 rfl
     have f3:=wk.frozen 3
     have p4:=JV.cell 4 rfl
     have r4:=wk.cell 4 rfl
     have f4:=wk.frozen 4
     go_wp2
     refine xU (fun W=>zO wS W/\Bx W (wS.heap.size+1) 44 [.slice a2 n9 k2,zI now,zI 0,zQ,zI 0]/\Js B W (.slice a2 n9 k2) cs9) ?_ ?_
     ·have HW:=(((((Wr.refl1 (wS.heap.size+1) wr).set1 (o:=0) (.slice a2 n9 k2)).set1 (o:=1) (zI now)).set1 (o:=2) (zI 0)).set1 (o:=3) (zQ)).set1 (o:=4) (zI 0)
      exact⟨HW.below1 hb9 zD (Nat.le_succ _),((((wk.set 0 _).set 1 _).set 2 _).set 3 _).set 4 _,ht9.wr HW (by omega)⟩
     rintro W9 ⟨B9,x9,r9⟩
     have i0:=x9.cell 0 rfl
     have i1:=x9.cell 1 rfl
     have i2:=x9.cell 2 rfl
     have i3:=x9.cell 3 rfl
     have i4:=x9.cell 4 rfl
     exact bodyPost_ret (v:=.agg #[.slice a2 n9 k2,zI now,zI 0,zQ,zI 0]) (by simp[results,Tryz.results50,go_sem,i0,i1,i2,i3,i4]) rfl ⟨_,by rw[HNW.out],HCS.out ▸ r9.at,B9⟩
def wH (ms:zM) (m:Mc):Bool :=
 yr ms && (qW m.zd.length m.cells && (kh m && (JF m && (qC m.born 1 30 && (decide ((Zn m:Int)<=m.born) && (yA ms.length m.zm && (qC m.code 0 3 && ((m.code == 1) == (m.now == -1)))))))))
noncomputable def kY (ms:zM) (m:Mc):Bool :=
 wH ms m && ((List.range m.zd.length).all (fun i=>jV ms m i (pgAt m (i:Int))) && ((List.range m.ze.length).all (fun j=>j8 ms m j (uR m (j:Int))) && uq (ko m).za (ko m).now))
theorem kE {ms:zM} {m:Mc} (h:wH ms m=false):kY ms m=false:=by unfold kY;rw[h];rfl
theorem zbu {ms:zM} {m:Mc} {k:Nat} (hk:k<m.zd.length) (h:jV ms m k m.zd[k]=false):kY ms m=false:=by
 unfold kY
 rw[show(List.range m.zd.length).all (fun i=>jV ms m i (pgAt m (i:Int)))=false from List.all_eq_false.2 ⟨k,List.mem_range.2 hk,by rw[kX hk,h];simp⟩]
 simp
theorem zbv {ms:zM} {m:Mc} {k:Nat} (hk:k<m.ze.length) (h:j8 ms m k m.ze[k]=false):kY ms m=false:=by
 unfold kY
 rw[show(List.range m.ze.length).all (fun i=>j8 ms m i (uR m (i:Int)))=false from List.all_eq_false.2 ⟨k,List.mem_range.2 hk,by rw[Zl hk,h];simp⟩]
 simp
theorem VS {ms:zM} {m:Mc} (h0:wH ms m=true) (h1:∀k,(hk:k<m.zd.length)->jV ms m k m.zd[k]=true) (h2:∀k,(hk:k<m.ze.length)->j8 ms m k m.ze[k]=true):kY ms m=uq (ko m).za (ko m).now:=by
 unfold kY
 rw[h0,show(List.range m.zd.length).all (fun i=>jV ms m i (pgAt m (i:Int)))=true from List.all_eq_true.2 fun i hi=>by rw[kX (List.mem_range.1 hi)];exact h1 i (List.mem_range.1 hi),
  show(List.range m.ze.length).all (fun i=>j8 ms m i (uR m (i:Int)))=true from List.all_eq_true.2 fun i hi=>by rw[Zl (List.mem_range.1 hi)];exact h2 i (List.mem_range.1 hi)]
 simp
theorem Qf {ps:List Pg} {B:Nat} (h:∀i,(hi:i<ps.length)->ps[i].zh.length<=B):∀k,k<=ps.length->yS ps k<=k * B
 | 0,_=>by simp[uD]
 | k+1,hk=>by
  rw[xy (show k<ps.length from hk),Nat.succ_mul]
  have:=Qf h k (by omega)
  have:=h k hk
  omega
theorem zcn {ms:zM} {n:Nat} {c:Cl} (hp:yr ms=true) (h:xN ms n c=true):c.zg.length<=1000/\c.zf.length<=1000:=by
 simp only[xN,Bool.and_eq_true,zF,decide_eq_true_iff] at h
 obtain⟨⟨⟨⟨h1,_⟩,h2⟩,h3⟩,_⟩:=h
 simp only[yr,Bool.and_eq_true] at hp
 obtain⟨k,hk⟩:=Int.eq_ofNat_of_zero_le h1.1
 rw[hk] at h2
 have hl:k<ms.length:=by omega
 have:=List.all_eq_true.1 hp.2 ms[k] (List.getElem_mem hl)
 simp only[qd,Bool.and_eq_true,zF,decide_eq_true_iff] at this
 simp only[Int.toNat_natCast,List.getD_eq_getElem?_getD,List.getElem?_eq_getElem hl,Option.getD_some] at h2
 omega
theorem Xt {ms:zM} {n:Nat} {c:Cl} (h:xN ms n c=true):qC c.zi (-1) ((n:Int) - 1)=true/\yA n c.zg=true/\yA n c.zf=true:=by
 simp only[xN,Bool.and_eq_true] at h
 exact⟨h.2.1.1.1,h.2.1.1.2,h.2.1.2⟩
theorem Jp {n:Nat} {l:yH} (h:yA n l=true) {q:Nat} (hq:q<l.length) (h2:l[q].1=2):qC l[q].2 0 ((n:Int) - 1)=true:=by
 have:=List.all_eq_true.1 h l[q] (List.getElem_mem hq)
 unfold qQ at this
 rw[h2] at this
 simpa using this
theorem JY {ms:zM} {m:Mc} (h:∀k,(hk:k<m.ze.length)->j8 ms m k m.ze[k]=true) {j:Int} (hj:qC j 0 ((m.ze.length:Int) - 1)=true):xg m j=true:=by
 obtain⟨k,rfl,hk⟩:=zch hj
 unfold xg
 rw[hj,Zl hk,Bool.true_and]
 have:=h k hk
 unfold j8 at this
 by_cases e:m.ze[k].page=-1
 ·simp[e]
 ·rw[if_neg e] at this
  rw[(Bool.and_eq_true_iff.1 this).1]
  simp
theorem zeZ {ms:zM} {m:Mc} (hp:yr ms=true) (h1:∀k,(hk:k<m.zd.length)->jV ms m k m.zd[k]=true) (h2:∀k,(hk:k<m.ze.length)->j8 ms m k m.ze[k]=true):Told m:=by
 have fine:∀c,xN ms m.ze.length c=true->(c.zg.length<=1000/\c.zf.length<=1000)/\(∀q,(hq:q<c.zg.length)->c.zg[q].1=2->xg m c.zg[q].2=true)/\(∀q,(hq:q<c.zf.length)->c.zf[q].1=2->xg m c.zf[q].2=true):=fun c hc =>
  ⟨zcn hp hc,fun q hq e=>JY h2 (Jp (Xt hc).2.1 hq e),fun q hq e=>JY h2 (Jp (Xt hc).2.2 hq e)⟩
 refine⟨fun i k hi hk=>?_,fun i hi=>?_,fun j hj=>?_⟩
 ·have:=h1 i hi
  unfold jV at this
  have:=List.all_eq_true.1 (Bool.and_eq_true_iff.1 this).1 k (List.mem_range.2 hk)
  unfold jH at this
  have:=fine _ (Bool.and_eq_true_iff.1 this).1
  simp only[Wu,List.getD_eq_getElem?_getD,List.getElem?_eq_getElem hk,Option.getD_some] at this
  exact this
 ·have:=h1 i hi
  unfold jV at this
  have:=(Bool.and_eq_true_iff.1 (Bool.and_eq_true_iff.1 this).2).2
  unfold vY at this
  rw[Bool.or_eq_true] at this ⊢
  rcases this with h | h
  ·exact Or.inl h
  ·exact Or.inr (JY h2 (Bool.and_eq_true_iff.1 (Bool.and_eq_true_iff.1 h).1).2)
 ·have:=h2 j hj
  unfold j8 at this
  by_cases e:m.ze[j].page=-1
  ·rw[if_pos e] at this
   have hc:=(Bool.and_eq_true_iff.1 this).2
   obtain⟨f1,f2,f3⟩:=fine _ hc
   refine⟨f1,fun _=>⟨?_,fun i hi hk=>by rw[f2 i hi hk];simp,fun i hi hk=>by rw[f3 i hi hk];simp⟩⟩
   have hs:=zF.1 (Xt hc).1
   by_cases e1:m.ze[j].left.zi=-1
   ·rw[e1];rfl
   ·rw[JY h2 (zF.2 ⟨by omega,hs.2⟩)];simp
  ·rw[if_neg e] at this
   have he:=(Bool.and_eq_true_iff.1 (Bool.and_eq_true_iff.1 this).2).2
   simp only[kx,Bool.and_eq_true,decide_eq_true_iff] at he
   exact⟨⟨by omega,by omega⟩,fun h=>absurd h e⟩
theorem uF {P:Program} {f:FuncId} {args:Array Value} {X:Value} {W:World} (h:∀w,Calls P f args w fun e w'=>e=.returned X/\w'=w):∀w,Gr W w->Calls P f args w fun e w''=>e=.returned X/\Gr W w'' :=
 fun w hw=>(h w).mono fun _ _ ⟨he,hb⟩=>⟨he,hb ▸ hw⟩
theorem Ks (vq:Value) (ms:zM) (vp vo vt vs:Value) (m:Mc) (w:World) (hq:yD w vq ms) (h:ql w vp vo vt vs m) (hsm:m.small) (htn:m.ze.length<=800000) :
 Calls Tryz.prog 27 #[.agg #[vq],.agg (zE vp vo vt vs m).toArray] w fun e w'=>e=.returned (.bool (kY ms m))/\zO w w':=by
 have HSM:Hid m.small:=hsm
 clear hsm
 obtain⟨aq,cq,hvq,hlq,hcq⟩:=id hq
 subst hvq
 obtain⟨ap,cp,qI,hlp,hcp⟩:=id h.p
 obtain⟨ao,co,j5,hlo,hco⟩:=id h.o
 obtain⟨at',ct,jz,hlt',hct⟩:=id h.t
 obtain⟨as',cs,km⟩:=h.s.shape
 subst qI j5 jz km
 unfold zE
 go_enter Tryz.func27,Tryz.ntmps27
 go_upto_region 1 with fail
 refine ym (fun W=>zO w W/\Bx W w.heap.size 25 [.slice aq ms.length cq]/\Bx W (w.heap.size+1) 34 [.int .i64 m.cells,.slice ap m.zd.length cp,.slice ao m.order.length co,.int .i64 m.now,.slice at' m.ze.length ct,.int .i64 m.born,.slice as' m.zm.length cs,.int .i64 m.code]) ⟨(zR _ _).alloc (by simp) _,(Bx.new w _ _).alloc _,Bx.newAt _ _ _ (by simp)⟩ ?_
 rintro W ⟨hb,hx,hm⟩
 have x0:=hx.cell 0 rfl
 obtain⟨⟨m0,m1,m2,m3,m4,m5,m6,m7⟩,_⟩:=uk hm
 have HQ0:Hid (yD w (.slice aq ms.length cq) ms):=hq
 have HM0:Hid (ql w (.slice ap m.zd.length cp) (.slice ao m.order.length co) (.slice at' m.ze.length ct) (.slice as' m.zm.length cs) m):=h
 clear hq h hcq hcp hco hct
 have zb:=hb.size
 go_wp2_with fail
 refine(uc _ ms _ (HQ0.out.below hb)).mono ?_
 rintro e W1 ⟨rfl,t1⟩
 have qa:=hb.trans (t1.mono zb)
 have Qh:=hm.below t1
 have Z5:=hx.below t1
 have zb1:=qa.size
 clear t1 hm hx hb zb x0 m0 m1 m2 m3 m4 m5 m6 m7
 obtain⟨⟨m0,m1,m2,m3,m4,m5,m6,m7⟩,_⟩:=uk Qh
 have x0:=Z5.cell 0 rfl
 cases h1:yr ms
 ·have HE:Hid (kY ms m=false):=kE (by unfold wH;simp[h1])
  go_wp2
  go_ret
  exact⟨zo HE.out.symm,qa⟩
 have HOPS:Hid (∀i,(hi:i<ms.length)->ms[i].2.2.length<=1000000):=zca h1
 obtain⟨f2,hf2⟩:∃f,qW m.zd.length m.cells=f:=⟨_,rfl⟩
 have HR:=Jh m.zd.length m.cells W1
 rw[hf2] at HR
 go_wp2_with fail
 refine HR.mono ?_
 rintro e W2 ⟨rfl,hw⟩
 obtain rfl:=hw.symm
 clear hw HR
 cases f2
 ·have HE:Hid (kY ms m=false):=kE (by unfold wH;simp[hf2])
  go_wp2
  go_ret
  exact⟨zo HE.out.symm,qa⟩
 have hpl:1<=m.zd.length/\m.zd.length<=4:=by
  have:=hf2
  simp only[qW,Bool.and_eq_true,zF] at this
  omega
 obtain⟨f3,hf3⟩:∃f,kh m=f:=⟨_,rfl⟩
 have HR:=zaa _ _ _ _ m W1 (HM0.out.below qa)
 rw[hf3] at HR
 unfold zE at HR
 go_wp2_with fail
 refine HR.mono ?_
 rintro e W3 ⟨rfl,t3⟩
 clear HR
 have xn:=qa.trans (t3.mono zb1)
 have VL:=Qh.below t3
 have YR:=Z5.below t3
 have zb3:=xn.size
 clear t3 Qh Z5 qa zb1 x0 m0 m1 m2 m3 m4 m5 m6 m7
 obtain⟨⟨m0,m1,m2,m3,m4,m5,m6,m7⟩,_⟩:=uk VL
 have x0:=YR.cell 0 rfl
 cases f3
 ·have HE:Hid (kY ms m=false):=kE (by unfold wH;simp[hf3])
  go_wp2
  go_ret
  exact⟨zo HE.out.symm,xn⟩
 obtain⟨f4,hf4⟩:∃f,JF m=f:=⟨_,rfl⟩
 have HR:=zcU _ _ _ _ m W3 (HM0.out.below xn) hf3 hpl.1
 rw[hf4] at HR
 unfold zE at HR
 go_wp2_with fail
 refine HR.mono ?_
 rintro e W4 ⟨rfl,t4⟩
 clear HR
 have Yg:=xn.trans (t4.mono zb3)
 have Wb:=VL.below t4
 have JV:=YR.below t4
 have zb4:=Yg.size
 clear t4 VL YR xn zb3 x0 m0 m1 m2 m3 m4 m5 m6 m7
 obtain⟨⟨m0,m1,m2,m3,m4,m5,m6,m7⟩,_⟩:=uk Wb
 have x0:=JV.cell 0 rfl
 cases f4
 ·have HE:Hid (kY ms m=false):=kE (by unfold wH;simp[hf4])
  go_wp2
  go_ret
  exact⟨zo HE.out.symm,Yg⟩
 have hfn:yd m.zd<=4 * 1048576:=by
  have:=Qf HSM.out.zh m.zd.length zD
  have h4:m.zd.length * 1048576<=4 * 1048576:=Nat.mul_le_mul_right _ hpl.2
  exact Nat.le_trans this h4
 have HCO:=jq (W:=W4) fun W' (hW:zO W4 W')=>Wi _ _ _ _ m W' ((HM0.out.below Yg).below hW) (by omega) (by omega) (by omega)
 unfold zE at HCO
 have HBO:=uF (W:=W4) fun W'=>jN m.born W'
 have HSO:=jq (W:=W4) fun W' (hW:zO W4 W')=>Yw _ _ ms m.zm W' ((HQ0.out.below Yg).below hW) ((HM0.out.below Yg).below hW).s
 have HKO:=uF (W:=W4) fun W'=>wL m.code m.now W'
 have hcl:Zn m<=4 * 1048576+800000:=by
  unfold Zn
  have:=WW m.ze m.ze.length
  omega
 obtain⟨C,hC⟩:∃C,Zn m=C:=⟨_,rfl⟩
 obtain⟨f5,hf5⟩:∃f,qC m.born 1 30=f:=⟨_,rfl⟩
 obtain⟨f7,hf7⟩:∃f,yA ms.length m.zm=f:=⟨_,rfl⟩
 obtain⟨f8,hf8⟩:∃f,(qC m.code 0 3 && ((m.code == 1) == (m.now == -1)))=f:=⟨_,rfl⟩
 rw[hC] at HCO hcl
 rw[hf5] at HBO
 rw[hf7] at HSO
 rw[hf8] at HKO
 have HC:Hid (Zn m=C):=hC
 have H5:Hid (qC m.born 1 30=f5):=hf5
 have H7:Hid (yA ms.length m.zm=f7):=hf7
 have H8:Hid ((qC m.code 0 3 && ((m.code == 1) == (m.now == -1)))=f8):=hf8
 have H14:Hid (yr ms=true/\qW m.zd.length m.cells=true/\kh m=true/\JF m=true):=⟨h1,hf2,hf3,hf4⟩
 clear hC hf5 hf7 hf8 h1 hf2 hf3 hf4
 go_upto_region 3 with fail
 have L0:=Gr.cell m0
 have L1:=Gr.cell m1
 have L2:=Gr.cell m2
 have L3:=Gr.cell m3
 have L4:=Gr.cell m4
 have L5:=Gr.cell m5
 have L6:=Gr.cell m6
 have L7:=Gr.cell m7
 have LX:=Gr.cell x0
 cases f5
 ·have HE:Hid (kY ms m=false):=kE (by unfold wH;simp[H5.out])
  clear x0 m0 m1 m2 m3 m4 m5 m6 m7
  refine WQ.region (by kernel_rfl) (by kernel_rfl) ?_
  iterate 26 (refine WQ.step (fun K hK=>?_);go_simp;first
   | (with_reducible refine hK _ ?_;clear hK K)
   | (with_reducible refine qu ?_;refine hK _ ?_;clear hK K)
   | (simp(contextual:=true) only [L5,Result.andThen_ok,true_and];with_reducible refine qu ?_;refine hK _ ?_;clear hK K)
   | (with_reducible refine yE HBO ?_;refine hK _ ?_;clear hK K)
   | (with_reducible refine yE HCO ?_;refine hK _ ?_;clear hK K)
   | (with_reducible refine yE HSO ?_;refine hK _ ?_;clear hK K)
   | (with_reducible refine yE HKO ?_;refine hK _ ?_;clear hK K))
  refine WQ.nil ?_
  intro W5 hG5
  have hb5:=Yg.trans (hG5.to.mono zb4)
  clear hG5 L0 L1 L2 L3 L4 L5 L6 L7 LX
  go_wp2
  go_ret
  exact⟨zo HE.out.symm,hb5⟩
 by_cases hcc:m.born<(C:Int)
 ·have HE:Hid (kY ms m=false):=kE (by unfold wH;simp[HC.out,Int.not_le.2 hcc])
  clear x0 m0 m1 m2 m3 m4 m5 m6 m7
  refine WQ.region (by kernel_rfl) (by kernel_rfl) ?_
  iterate 26 (refine WQ.step (fun K hK=>?_);go_simp;first
   | (with_reducible refine hK _ ?_;clear hK K)
   | (with_reducible refine qu ?_;refine hK _ ?_;clear hK K)
   | (simp(contextual:=true) only [L0,L1,L2,L3,L4,L5,L6,L7,Result.andThen_ok,true_and];with_reducible refine qu ?_;refine hK _ ?_;clear hK K)
   | (with_reducible refine yE HBO ?_;refine hK _ ?_;clear hK K)
   | (with_reducible refine yE HCO ?_;refine hK _ ?_;clear hK K)
   | (with_reducible refine yE HSO ?_;refine hK _ ?_;clear hK K)
   | (with_reducible refine yE HKO ?_;refine hK _ ?_;clear hK K))
  refine WQ.nil ?_
  intro W5 hG5
  have hb5:=Yg.trans (hG5.to.mono zb4)
  clear hG5 L0 L1 L2 L3 L4 L5 L6 L7 LX
  go_wp2
  go_ret
  exact⟨zo HE.out.symm,hb5⟩
 have hcc2:(C:Int)<=m.born:=by omega
 cases f7
 ·have HE:Hid (kY ms m=false):=kE (by unfold wH;simp[H7.out])
  clear x0 m0 m1 m2 m3 m4 m5 m6 m7
  refine WQ.region (by kernel_rfl) (by kernel_rfl) ?_
  iterate 26 (refine WQ.step (fun K hK=>?_);go_simp;first
   | (with_reducible refine hK _ ?_;clear hK K)
   | (with_reducible refine qu ?_;refine hK _ ?_;clear hK K)
   | (simp(contextual:=true) only [L0,L1,L2,L3,L4,L5,L6,L7,LX,Result.andThen_ok,true_and];with_reducible refine qu ?_;refine hK _ ?_;clear hK K)
   | (with_reducible refine yE HBO ?_;refine hK _ ?_;clear hK K)
   | (with_reducible refine yE HCO ?_;refine hK _ ?_;clear hK K)
   | (with_reducible refine yE HSO ?_;refine hK _ ?_;clear hK K)
   | (with_reducible refine yE HKO ?_;refine hK _ ?_;clear hK K))
  refine WQ.nil ?_
  intro W5 hG5
  have hb5:=Yg.trans (hG5.to.mono zb4)
  clear hG5 L0 L1 L2 L3 L4 L5 L6 L7 LX
  go_wp2
  go_ret
  exact⟨zo HE.out.symm,hb5⟩
 cases f8
 ·have HE:Hid (kY ms m=false):=kE (by unfold wH;rw[H8.out];simp)
  clear x0 m0 m1 m2 m3 m4 m5 m6 m7
  refine WQ.region (by kernel_rfl) (by kernel_rfl) ?_
  iterate 26 (refine WQ.step (fun K hK=>?_);go_simp;first
   | (with_reducible refine hK _ ?_;clear hK K)
   | (with_reducible refine qu ?_;refine hK _ ?_;clear hK K)
   | (simp(contextual:=true) only [L0,L1,L2,L3,L4,L5,L6,L7,LX,Result.andThen_ok,true_and];with_reducible refine qu ?_;refine hK _ ?_;clear hK K)
   | (with_reducible refine yE HBO ?_;refine hK _ ?_;clear hK K)
   | (with_reducible refine yE HCO ?_;refine hK _ ?_;clear hK K)
   | (with_reducible refine yE HSO ?_;refine hK _ ?_;clear hK K)
   | (with_reducible refine yE HKO ?_;refine hK _ ?_;clear hK K))
  refine WQ.nil ?_
  intro W5 hG5
  have hb5:=Yg.trans (hG5.to.mono zb4)
  clear hG5 L0 L1 L2 L3 L4 L5 L6 L7 LX
  go_wp2
  go_ret
  exact⟨zo HE.out.symm,hb5⟩
 have HHD:Hid (wH ms m=true):=by
  show _=_
  unfold wH
  obtain⟨e1,e2,e3,e4⟩:=H14.out
  rw[e1,e2,e3,e4,H5.out,HC.out,H7.out,H8.out]
  simpa using hcc2
 have HFN:Hid (yd m.zd<=30):=by
  have:=HC.out
  have h5:=zF.1 H5.out
  unfold Zn at this
  show _<=_
  omega
 clear x0 m0 m1 m2 m3 m4 m5 m6 m7
 refine WQ.region (by kernel_rfl) (by kernel_rfl) ?_
 iterate 26 (refine WQ.step (fun K hK=>?_);go_simp;first
  | (with_reducible refine hK _ ?_;clear hK K)
  | (with_reducible refine qu ?_;refine hK _ ?_;clear hK K)
  | (simp(contextual:=true) only [L0,L1,L2,L3,L4,L5,L6,L7,LX,Result.andThen_ok,true_and];with_reducible refine qu ?_;refine hK _ ?_;clear hK K)
  | (with_reducible refine yE HBO ?_;refine hK _ ?_;clear hK K)
  | (with_reducible refine yE HCO ?_;refine hK _ ?_;clear hK K)
  | (with_reducible refine yE HSO ?_;refine hK _ ?_;clear hK K)
  | (with_reducible refine yE HKO ?_;refine hK _ ?_;clear hK K))
 refine WQ.nil ?_
 intro W5 hG5
 have hb5:=Yg.trans (hG5.to.mono zb4)
 have hm5:=Wb.below hG5.to
 have hx5:=JV.below hG5.to
 have zb5:=hb5.size
 clear hG5 L0 L1 L2 L3 L4 L5 L6 L7 LX HBO HCO HSO HKO Wb JV Yg zb4
 obtain⟨⟨m0,m1,m2,m3,m4,m5,m6,m7⟩,_⟩:=uk hm5
 have x0:=hx5.cell 0 rfl
 go_wp2_with fail
 go_loopg [5,58] m.zd.length (fun d _ v wr=>∃k:Nat,k<=m.zd.length/\d=m.zd.length - k/\v=zI (k:Int)/\zO w wr/\zO W5 wr/\∀q,(hq:q<m.zd.length)->q<k->jV ms m q m.zd[q]=true)
 case atStart=>exact⟨0,Nat.zero_le _,rfl,rfl,hb5,zS,fun q _ h=>absurd h yB⟩
 case round =>
  obtain⟨k,hk,rfl,rfl,hbr,hb5r,hall⟩:=hrel
  have HALL:Hid (∀q,(hq:q<m.zd.length)->q<k->jV ms m q m.zd[q]=true):=hall
  clear hall
  have hm6:=hm5.below hb5r
  have hx6:=hx5.below hb5r
  have zr:=hbr.size
  have z5r:=hb5r.size
  clear hm5 hx5 hb5 x0 m0 m1 m2 m3 m4 m5 m6 m7
  obtain⟨⟨m0,m1,m2,m3,m4,m5,m6,m7⟩,_⟩:=uk hm6
  have x0:=hx6.cell 0 rfl
  by_cases yz:k<m.zd.length
  ·have uW:(k:Int)<(m.zd.length:Int):=by omega
   obtain⟨f,hf⟩:∃f,jV ms m k m.zd[k]=f:=⟨_,rfl⟩
   have HPO:=zbC _ ms _ _ _ _ m k wr (HQ0.out.below hbr) (HM0.out.below hbr) HOPS.out yz _ rfl (fun i hi=>Nat.le_trans (HSM.out.zh i hi) (by omega)) (fun q hq=>(HSM.out.zg k yz q hq).1)
   rw[hf] at HPO
   unfold zE at HPO
   have HF:Hid (jV ms m k m.zd[k]=f):=hf
   clear hf
   go_wp2_with fail
   refine HPO.mono ?_
   rintro e W6 ⟨rfl,t6⟩
   have hb6:=hbr.trans (t6.mono zr)
   have hb56:=hb5r.trans (t6.mono z5r)
   clear HPO t6 hm6 hx6 x0 m0 m1 m2 m3 m4 m5 m6 m7
   cases f
   ·have HE:Hid (kY ms m=false):=zbu yz HF.out
    go_wp2
    go_ret
    exact⟨zo HE.out.symm,hb6⟩
   have HN:Hid (∀q,(hq:q<m.zd.length)->q<k+1->jV ms m q m.zd[q]=true):=fun q hq hqk=>by
    by_cases e:q=k
    ·subst e;exact HF.out
    ·exact HALL.out q hq (by omega)
   clear HALL HF
   go_wp2
   go_roundg (m.zd.length - (k+1))
   case measure=>omega
   case rel=>exact⟨k+1,by omega,rfl,by go_num,hb6,hb56,HN.out⟩
  ·obtain rfl:k=m.zd.length:=by omega
   have HPG:Hid (∀q,(hq:q<m.zd.length)->jV ms m q m.zd[q]=true):=fun q hq=>HALL.out q hq hq
   clear HALL
   go_wp2_with fail
   go_loopg [6,70] m.ze.length (fun d _ v wt=>∃k:Nat,k<=m.ze.length/\d=m.ze.length - k/\v=zI (k:Int)/\zO w wt/\zO wr wt/\∀q,(hq:q<m.ze.length)->q<k->j8 ms m q m.ze[q]=true)
   case atStart=>exact⟨0,Nat.zero_le _,rfl,rfl,hbr,zS,fun q _ h=>absurd h yB⟩
   case round =>
    obtain⟨k,hk,rfl,rfl,hbt,hbrt,hall⟩:=hrel
    have HALL:Hid (∀q,(hq:q<m.ze.length)->q<k->j8 ms m q m.ze[q]=true):=hall
    clear hall
    have hm7:=hm6.below hbrt
    have hx7:=hx6.below hbrt
    have zt:=hbt.size
    have zrt:=hbrt.size
    clear hm6 hx6 x0 m0 m1 m2 m3 m4 m5 m6 m7
    obtain⟨⟨m0,m1,m2,m3,m4,m5,m6,m7⟩,_⟩:=uk hm7
    have x0:=hx7.cell 0 rfl
    by_cases yz:k<m.ze.length
    ·have uW:(k:Int)<(m.ze.length:Int):=by omega
     obtain⟨f,hf⟩:∃f,j8 ms m k m.ze[k]=f:=⟨_,rfl⟩
     have HPO:=zbN _ ms _ _ _ _ m k wr (HQ0.out.below hbt) (HM0.out.below hbt) HOPS.out yz _ rfl
     rw[hf] at HPO
     unfold zE at HPO
     have HF:Hid (j8 ms m k m.ze[k]=f):=hf
     clear hf
     go_wp2_with fail
     refine HPO.mono ?_
     rintro e W6 ⟨rfl,t6⟩
     have hb6:=hbt.trans (t6.mono zt)
     have hb56:=hbrt.trans (t6.mono zrt)
     clear HPO t6 hm7 hx7 x0 m0 m1 m2 m3 m4 m5 m6 m7
     cases f
     ·have HE:Hid (kY ms m=false):=zbv yz HF.out
      go_wp2
      go_ret
      exact⟨zo HE.out.symm,hb6⟩
     have HN:Hid (∀q,(hq:q<m.ze.length)->q<k+1->j8 ms m q m.ze[q]=true):=fun q hq hqk=>by
      by_cases e:q=k
      ·subst e;exact HF.out
      ·exact HALL.out q hq (by omega)
     clear HALL HF
     go_wp2
     go_roundg (m.ze.length - (k+1))
     case measure=>omega
     case rel=>exact⟨k+1,by omega,rfl,by go_num,hb6,hb56,HN.out⟩
    ·obtain rfl:k=m.ze.length:=by omega
     have HTW:Hid (∀q,(hq:q<m.ze.length)->j8 ms m q m.ze[q]=true):=fun q hq=>HALL.out q hq hq
     have HE:Hid (kY ms m=uq (ko m).za (ko m).now):=VS HHD.out HPG.out HTW.out
     have HTD:=zeZ H14.out.1 HPG.out HTW.out
     have hf30:=HFN.out
     have HTO:=U3 _ _ _ _ m wr (HM0.out.below hbt) HTD (by omega) (by omega)
     unfold zE at HTO
     have hcn:(ko m).za.length<=900000:=by
      show(qg m m.zd.length ++ jr m m.ze.length).length<=_
      rw[List.length_append,vx zD,Ye]
      show yd m.zd+_<=_
      omega
     clear HALL HTD hf30
     go_wp2_with fail
     refine HTO.mono ?_
     rintro e W8 ⟨vc,rfl,hcs,t8⟩
     have hb8:=hbt.trans (t8.mono zt)
     have zb8:=hb8.size
     have HWO:=Yx vc (zQ) (ko m) W8 ⟨hcs,⟨none,0,rfl,Nat.zero_le _,fun _ hi=>absurd hi yB⟩⟩ hcn
     clear HTO t8 hm7 hx7 x0 m0 m1 m2 m3 m4 m5 m6 m7 hcs
     obtain⟨wp',hwp⟩:∃f,uq (ko m).za (ko m).now=f:=⟨_,rfl⟩
     rw[hwp] at HWO HE
     clear hwp
     have HWP:Hid (Calls Tryz.prog 67 #[.agg #[vc,zI (wQ m),zI 0,zQ,zI 0]] W8 fun e w'=>e=.returned (.bool wp')/\zO W8 w'):=HWO
     clear HWO
     go_wp2_with fail
     refine HWP.out.mono ?_
     rintro e W9 ⟨rfl,t9⟩
     have hb9:=hb8.trans (t9.mono zb8)
     go_wp2
     go_ret
     exact⟨zo HE.out.symm,hb9⟩
theorem zcX {n k:Nat} (hk:k<n):(k:Int)∈yK n n:=by
 unfold yK
 rw[List.mem_map]
 by_cases h:k=0
 ·exact⟨n - 1,List.mem_range.2 (by omega),by rw[show n - 1+1=n by omega,Nat.mod_self];subst h;rfl⟩
 ·exact⟨k - 1,List.mem_range.2 (by omega),by rw[show k - 1+1=k by omega,Nat.mod_eq_of_lt hk]⟩
theorem qO (n t:Nat):(xq n t).length=n:=by simp[xq]
theorem uM {n t i:Nat} (h:i<(xq n t).length):(xq n t)[i]=⟨-1,if i=0 then [⟨0,0,-1,List.replicate t (0,0),[]⟩] else []⟩:=by simp[xq]
theorem Xf (n t:Nat):∀k,k<=n->yS (xq n t) k=if k=0 then 0 else 1
 | 0,_=>uD _
 | k+1,h=>by
  rw[xy (by rw[qO];omega),Xf n t k (by omega),uM]
  by_cases e:k=0
  ·subst e;rfl
  ·simp[e]
theorem YU {n t:Nat} {c:Int} (hn:1<=n):pgAt (yR n t c) 0=⟨-1,[⟨0,0,-1,List.replicate t (0,0),[]⟩]⟩:=by
 have:=kX (m:=yR n t c) (k:=0) (by show 0<(xq n t).length;rw[qO];omega)
 rw[show((0:Nat):Int)=0 from rfl] at this
 rw[this]
 exact uM (by rw[qO];omega)
theorem zcT {n t k:Nat} {c:Int} (hk:k<n) (h0:k≠0):pgAt (yR n t c) (k:Int)=⟨-1,[]⟩:=by
 rw[kX (show k<(yR n t c).zd.length by show k<(xq n t).length;rw[qO];omega)]
 show(xq n t)[k]'_=_
 rw[uM]
 simp[h0]
theorem JE {n t:Nat} {c:Int} (hn:1<=n):xr (yR n t c) 0 1=[⟨0,0,List.replicate t (0,0),[],-1,false⟩]:=by
 have hp0:=YU (t:=t) (c:=c) hn
 unfold xr
 have hf0:frAt (yR n t c) 0 0=⟨0,0,-1,List.replicate t (0,0),[]⟩:=by unfold frAt;rw[hp0];rfl
 have hs0:zas (yR n t c) 0 0=-1:=by
  unfold zas
  rw[show((0:Nat):Int)=0 from rfl,hp0]
  rfl
 simp only[List.range_one,List.map_cons,List.map_nil]
 rw[show((0:Nat):Int)=0 from rfl,hf0]
 unfold uj
 rw[hs0]
 simp[j6]
theorem VW {n t:Nat} {c:Int}:∀k,k<=n->qg (yR n t c) k=if k=0 then [] else [⟨0,0,List.replicate t (0,0),[],-1,false⟩]
 | 0,_=>rfl
 | k+1,h=>by
  rw[Zq,VW k (by omega)]
  by_cases e:k=0
  ·subst e
   rw[show((0:Nat):Int)=0 from rfl,YU (by omega)]
   show [] ++ xr (yR n t c) 0 1=_
   rw[JE (by omega)]
   rfl
  ·rw[zcT (by omega) e]
   simp[e,xr]
theorem UP {n t:Nat} {c:Int} (hn:1<=n):ko (yR n t c)=⟨[⟨0,0,List.replicate t (0,0),[],-1,false⟩],0,0,[],0⟩:=by
 unfold ko
 have hln:(yR n t c).zd.length=n:=qO n t
 rw[hln,VW n zD,if_neg (by omega)]
 have uZ:wQ (yR n t c)=0:=by
  unfold wQ
  show(if qC 0 0 (((yR n t c).zd.length:Int) - 1)=true/\(pgAt (yR n t c) 0).zh.length≠0 then XJ (yR n t c) 0 (((pgAt (yR n t c) 0).zh.length:Int) - 1) else -1)=0
  rw[hln,YU hn,if_pos ⟨zF.2 ⟨Int.le_refl _,by omega⟩,by simp⟩]
  rfl
 rw[uZ]
 rfl
theorem zbw {ms:zM} {n t:Nat} {c:Int} (h:yr ms=true) (hr:qW (n:Int) c=true):wH ms (yR n t c)=true:=by
 have hn:=kI hr
 have hln:(yR n t c).zd.length=n:=qO n t
 have ho:kh (yR n t c)=true:=by
  unfold kh
  rw[hln]
  simp only[Bool.and_eq_true,List.all_eq_true,List.mem_range,decide_eq_true_iff]
  exact⟨kU n n,fun k hk=>zcX hk⟩
 have hnw:JF (yR n t c)=true:=by
  unfold JF
  show((0:Int) == -1 || ((0:Int) == (yK n n).getD ((yK n n).length - 1) 0 && decide (0<(pgAt (yR n t c) 0).zh.length)))=true
  rw[YU (by omega),kU]
  have:(yK n n).getD (n - 1) 0=0:=by
   unfold yK
   have h1:n - 1<n:=by omega
   simp[List.getD_eq_getElem?_getD,h1]
   rw[show((n - 1:Nat):Int)+1=(n:Int) by omega]
   exact Int.emod_self
  rw[this]
  simp
 have hcl:Zn (yR n t c)=1:=by
  unfold Zn
  show yS (xq n t) (xq n t).length+_=_
  rw[qO,Xf n t n zD,if_neg (by omega)]
  rfl
 unfold wH
 rw[h,hln,show(yR n t c).cells=c from rfl,hr,ho,hnw,hcl]
 have h1:qC 1 1 30=true:=by decide
 have h2:yA (ms.length:Int) []=true:=rfl
 show(true && (true && (true && (true && (qC 1 1 30 && (decide (((1:Nat):Int)<=1) && (yA ms.length [] && (qC 0 0 3 && (((0:Int) == 1) == ((0:Int) == -1))))))))))=true
 rw[h1,h2]
 decide
theorem zbx {ms:zM} {n:Nat} {c:Int} (h:yr ms=true) (hr:qW (n:Int) c=true) (k:Nat) (hk:k<(yR n (yx ms) c).zd.length):jV ms (yR n (yx ms) c) k (yR n (yx ms) c).zd[k]=true:=by
 obtain⟨hl,h0,h4,ht,_⟩:=Zw h
 have hg:ms.getD 0 (0,0,[])=ms[0]:=by simp[hl]
 have hn:=kI hr
 have e:(yR n (yx ms) c).zd[k]=⟨-1,if k=0 then [⟨0,0,-1,List.replicate (yx ms) (0,0),[]⟩] else []⟩:=uM (n:=n) (t:=yx ms) hk
 rw[e]
 have hb:∀fs,vY (yR n (yx ms) c) ⟨-1,fs⟩=true:=fun fs=>rfl
 by_cases U9:k=0
 ·subst U9
  unfold jV
  rw[if_pos rfl,hb]
  have hc:xN ms 0 ⟨0,0,List.replicate (yx ms) (0,0),[],-1,false⟩=true:=by
   have a2:qC (-1) (-1) (-1)=true:=by decide
   have qA:ms[0]?=some ms[0]:=List.getElem?_eq_getElem hl
   have hv:=Ug 0 (yx ms)
   have hz:yA 0 []=true:=rfl
   have hm:qC 0 0 ((ms.length:Int) - 1)=true:=zF.2 ⟨by omega,by omega⟩
   have hpc:qC 0 0 (ms[0].2.2.length:Int)=true:=zF.2 ⟨by omega,by omega⟩
   simp[xN,qA,ht,hm,hpc,hv,hz,a2]
  have hf:jH ms (yR n (yx ms) c) 0 0 ⟨0,0,-1,List.replicate (yx ms) (0,0),[]⟩=true:=by
   unfold jH Wu
   show(xN ms (0:Nat) ⟨0,0,List.replicate (yx ms) (0,0),[],-1,false⟩ && _)=true
   rw[show xN ms ((0:Nat):Nat) ⟨0,0,List.replicate (yx ms) (0,0),[],-1,false⟩=true from hc]
   rfl
  have hcs:(jJ [(⟨0,0,-1,List.replicate (yx ms) (0,0),[]⟩:Fr)] 1:Int)<=c:=by
   simp[jJ]
   omega
  simp only[List.length_cons,List.length_nil,Nat.zero_add,List.range_one,List.all_cons,List.all_nil,List.getD_cons_zero,hf,Bool.and_true,Bool.true_and]
  show decide ((jJ [(⟨0,0,-1,List.replicate (yx ms) (0,0),[]⟩:Fr)] 1:Int)<=c)=true
  exact decide_eq_true hcs
 ·unfold jV
  rw[if_neg U9,hb]
  simp only[List.length_nil,List.range_zero,List.all_nil,Bool.and_true,Bool.true_and]
  show decide ((jJ [] 0:Int)<=c)=true
  exact decide_eq_true (by show(0:Int)<=c;omega)
theorem zd8 {ms:zM} {n:Nat} {c:Int} (h:yr ms=true) (hr:qW (n:Int) c=true):kY ms (yR n (yx ms) c)=true:=by
 rw[VS (zbw h hr) (fun k hk=>zbx h hr k hk) fun k hk=>absurd hk yB]
 rw[UP (by have:=kI hr;omega)]
 have h1:jL [(⟨0,0,List.replicate (yx ms) (0,0),[],-1,false⟩:Cl)] 0=1:=by simp[jL,kj]
 have h2:jO [(⟨0,0,List.replicate (yx ms) (0,0),[],-1,false⟩:Cl)]=1:=by simp[jO]
 have h3:VI [(⟨0,0,List.replicate (yx ms) (0,0),[],-1,false⟩:Cl)] 0:=fun i hi qF=>by
  have:i=0:=by simp at hi;omega
  subst this
  exact absurd rfl qF
 unfold uq
 rw[h1,h2]
 simp[h3]
theorem VV (n t:Nat) (c:Int):∀i,(hi:i<(yR n t c).zd.length)->(yR n t c).zd[i].zh.length<=1/\∀j,(hj:j<(yR n t c).zd[i].zh.length)->(yR n t c).zd[i].zh[j].zg.length<=t/\(yR n t c).zd[i].zh[j].zf.length=0:=by
 intro i hi
 have e:(yR n t c).zd[i]=⟨-1,if i=0 then [⟨0,0,-1,List.replicate t (0,0),[]⟩] else []⟩:=uM (n:=n) (t:=t) hi
 generalize (yR n t c).zd[i]=P at e ⊢
 subst e
 by_cases h0:i=0
 ·subst h0
  refine⟨by simp,fun j hj=>?_⟩
  have:j=0:=by simp at hj;omega
  subst this
  exact⟨by simp,rfl⟩
 ·simp[h0]
end Go.Proofs.YtbjgjjkgfnfejaaGreatDoor

/-
  A machine at work is handed out: a call, the frames of a page.
-/
import Derived.Test.YtbjgjjkgfnfejaaGreatDoorMKeep2
import Derived.Test.YtbjgjjkgfnfejaaGreatDoorRep
namespace Go.Proofs.YtbjgjjkgfnfejaaGreatDoor
set_option maxHeartbeats 4000000
set_option maxRecDepth 100000
open Go.RowKit
theorem Q2 {sz:Nat} {f:Nat->List Value} (hf:∀i,(f i).length=sz):∀(n i c:Nat),i<n->c<sz->((List.range n).flatMap f)[i * sz+c]?=(f i)[c]?
 | 0,_,_,h,_=>absurd h yB
 | n+1,i,c,h,hc=>by
  have hl:((List.range n).flatMap f).length=n * sz:=by
   clear h
   induction n with
   | zero=>simp
   | succ n ih=>rw[List.range_succ,List.flatMap_append,List.length_append,ih];simp[hf];rw[Nat.succ_mul]
  rw[List.range_succ,List.flatMap_append]
  by_cases e:i=n
  ·subst e
   rw[List.getElem?_append_right (by rw[hl];omega),hl]
   simp
  ·have h1:i * sz+c<n * sz:=by
    have:(i+1) * sz<=n * sz:=Nat.mul_le_mul_right _ (by omega)
    rw[Nat.succ_mul] at this
    omega
   rw[List.getElem?_append_left (by rw[hl];exact h1)]
   exact Q2 hf n i c (by omega) hc
theorem Zx (f:Nat->List Value) (n:Nat):(List.range (n+1)).flatMap f=(List.range n).flatMap f ++ f n:=by simp[List.range_succ]
theorem yj.lists {B:Nat} {ρ:Nat->Rl} {w:World} {P:Lay} (h:yj B ρ w P) {k:Nat} (hk:k<P.L.zj.length):∃a1 c1 a2 c2,P.T k=(.slice a1 P.L.zj[k].zg.length c1,.slice a2 P.L.zj[k].zf.length c2):=by
 obtain⟨a1,c1,e1,_⟩:=(h (.zg k) hk).1.slice
 obtain⟨a2,c2,e2,_⟩:=(h (.zf k) hk).1.slice
 exact⟨a1,c1,a2,c2,Prod.ext e1 e2⟩
theorem K8 {d:Nat} {b:jg} {a1 a2:Option Addr} {n1 n2 c1 c2:Nat} (s:Int) (w:World) (hb:Bx w d 186 (xx (.slice a1 n1 c1,.slice a2 n2 c2) b)) :
 Calls Tryz.prog 89 #[zJ d 0,zI s] w fun e w'=>e=.returned (.agg #[zI b.m,zI b.pc,.slice a1 n1 c1,.slice a2 n2 c2,zI s,.bool b.zv])/\zO w w':=by
 unfold xx at hb
 have x0:=hb.cell 0 rfl
 have x1:=hb.cell 1 rfl
 have x2:=hb.cell 2 rfl
 have x3:=hb.cell 3 rfl
 have x4:=hb.cell 4 rfl
 have hdl:=hb.lt
 go_enter Tryz.func89,Tryz.ntmps89
 go_upto_region 1 with fail
 refine ym (fun W=>zO w W/\Bx W w.heap.size 96 [.int .i64 0,.int .i64 0,.slice none 0 0,.slice none 0 0,.int .i64 0,.bool false]/\Bx W d 186 [.int .i64 b.m,.int .i64 b.pc,.slice a1 n1 c1,.slice a2 n2 c2,.bool b.zv]) ⟨zR _ _,Bx.new _ _ _,hb.alloc _⟩ ?_
 rintro W ⟨hbW,y,hx⟩
 clear x0 x1 x2 x3 x4
 have x0:=hx.cell 0 rfl
 have x1:=hx.cell 1 rfl
 have x2:=hx.cell 2 rfl
 have x3:=hx.cell 3 rfl
 have x4:=hx.cell 4 rfl
 have y0:=y.cell 0 rfl
 have y1:=y.cell 1 rfl
 have y2:=y.cell 2 rfl
 have y3:=y.cell 3 rfl
 have y4:=y.cell 4 rfl
 have y5:=y.cell 5 rfl
 have f0:=y.frozen 0
 have f1:=y.frozen 1
 have f2:=y.frozen 2
 have f3:=y.frozen 3
 have f4:=y.frozen 4
 have f5:=y.frozen 5
 have hz:=hbW.size
 go_region
 all_goals
  go_wp2
  refine xU (fun W'=>zO w W'/\Bx W' w.heap.size 96 [zI b.m,zI b.pc,.slice a1 n1 c1,.slice a2 n2 c2,zI s,.bool b.zv])
   ⟨((((((hbW.setCell (p:=zH w.heap.size 0) zD _).setCell (p:=zH w.heap.size 1) zD _).setCell (p:=zH w.heap.size 2) zD _).setCell (p:=zH w.heap.size 3) zD _).setCell (p:=zH w.heap.size 4) zD _).setCell (p:=zH w.heap.size 5) zD _).drew,
    ((((((y.set 0 _).set 1 _).set 2 _).set 3 _).set 4 _).set 5 _).drew⟩ ?_
  rintro W9 ⟨hb9,r⟩
  have r0:=r.cell 0 rfl
  have r1:=r.cell 1 rfl
  have r2:=r.cell 2 rfl
  have r3:=r.cell 3 rfl
  have r4:=r.cell 4 rfl
  have r5:=r.cell 5 rfl
  exact bodyPost_ret (v:=.agg #[zI b.m,zI b.pc,.slice a1 n1 c1,.slice a2 n2 c2,zI s,.bool b.zv]) (by simp[results,Tryz.results89,go_sem,r0,r1,r2,r3,r4,r5]) rfl ⟨rfl,hb9⟩
def wE (P:Lay) (fs:List ki) (q:Nat):List Value :=
 [zI (P.L.zj.getD (fs.getD q ⟨0,-1⟩).body jg.none).m,zI (P.L.zj.getD (fs.getD q ⟨0,-1⟩).body jg.none).pc,zI (fs.getD q ⟨0,-1⟩).twin,(P.T (fs.getD q ⟨0,-1⟩).body).1,(P.T (fs.getD q ⟨0,-1⟩).body).2]
theorem zcB (P:Lay) (fs:List ki) (q:Nat):(wE P fs q).length=5:=rfl
theorem Tryz.infoFrameO:(Tryz.prog.info? 75).map (fun i=>(i.zero,i.size,i.bytes))=some (some (.agg #[zI 0,zI 0,zI 0,zQ,zQ]),5,72):=by kernel_rfl
theorem US {B:Nat} {ρ:Nat->Rl} {w:World} {P:Lay} (h:yj B ρ w P) (hwf:P.L.wf) (i:Nat) (hi:i<P.L.zd.length) (base:Int) (zba:P.L.zd[i].zh.length<=1000) :
 Calls Tryz.prog 88 #[.agg #[zI base,P.F i]] w fun e w'=>∃v',e=.returned v'/\yg w.heap.size 5 w' v' P.L.zd[i].zh.length ((List.range P.L.zd[i].zh.length).flatMap (wE P P.L.zd[i].zh))/\zO w w':=by
 have HL:Hid (yj B ρ w P):=h
 have HW:=hwf.fr i hi
 obtain⟨fs,hfs⟩:∃fs,P.L.zd[i].zh=fs:=⟨_,rfl⟩
 have zT:=(h (.zh i) hi).1
 rw[hfs] at zT zba HW ⊢
 have HWF:Hid (∀k,(hk:k<fs.length)->fs[k].body<P.L.zj.length):=fun k hk=>by
  have e:=hfs
  subst e
  exact hwf.fr i hi k hk
 clear HW hfs
 obtain⟨aF,cF,hvF⟩:=zT.slice
 obtain⟨hvF,hmF⟩:=hvF
 rw[hvF] at zT ⊢
 obtain⟨i0,hii,jT,xF,kf⟩:=info_parts Tryz.infoFrameO
 clear h hwf
 go_enter Tryz.func88,Tryz.ntmps88
 go_upto_region 1 with fail
 refine ym (fun W=>zO w W/\Bx W w.heap.size 139 [.int .i64 base,.slice aF fs.length cF]) ⟨zR _ _,Bx.new _ _ _⟩ ?_
 rintro W ⟨hbW,y⟩
 have y1:=y.cell 1 rfl
 have ZQ:=hbW.size
 go_wp2_with fail
 go_loopg [3,5,9] fs.length (fun d v _ q wr=>∃k:Nat,k<=fs.length/\d=fs.length - k/\q=zI (k:Int)/\yg w.heap.size 5 wr v k ((List.range k).flatMap (wE P fs))/\zO w wr)
 case atStart=>exact⟨0,Nat.zero_le _,rfl,rfl,yg.nil _ _ _,hbW⟩
 case round =>
  obtain⟨k,hk,rfl,rfl,hv,hbr⟩:=hrel
  obtain⟨av,cv,hve,hmv⟩:=hv.slice
  subst hve
  have zr:=hbr.size
  by_cases yz:k<fs.length
  ·obtain⟨gf,of,cf,hform,_,_⟩:=zT.form (by omega)
   cases hform
   have uW:(k:Int)<(fs.length:Int):=by omega
   obtain⟨q0,q1⟩:=kO (yk P.D fs) k (by simp[yk];exact yz)
   have e0:(yk P.D fs)[k]'(by simp[yk];exact yz)=(zJ (P.D fs[k].body) 0,zI fs[k].twin):=by simp[yk]
   rw[e0] at q0 q1
   have c0:=zc hbr (zT.cell q0).1
   have c1:=zc hbr (zT.cell q1).1
   rw[<-Nat.add_assoc] at c1
   have hbk:=HWF.out k yz
   obtain⟨F,hF⟩:∃F,fs[k]=F:=⟨_,rfl⟩
   rw[hF] at c0 c1 hbk
   obtain⟨a1,k1,a2,k2,hT⟩:=HL.out.lists hbk
   have hbody:=(HL.out (.body F.body) hbk).1
   rw[hT] at hbody
   unfold xx at hbody
   obtain⟨b,hb⟩:∃b,P.L.zj[F.body]=b:=⟨_,rfl⟩
   rw[hb] at hbody hT
   have hfo:wE P fs k=[zI b.m,zI b.pc,zI F.twin,.slice a1 b.zg.length k1,.slice a2 b.zf.length k2]:=by
    unfold wE
    have h1:fs.getD k ⟨0,-1⟩=F:=by simp[yz,hF]
    have h2:P.L.zj.getD F.body jg.none=b:=by simp[hbk,hb]
    rw[h1,h2,hT]
   clear q0 q1 e0 hF hb hT hbk
   go_upto_region 5 with fail
   refine ym (fun W'=>zO wr W'/\Bx W' wr.heap.size 145 [.pointer (some ⟨P.D F.body,0,none⟩),.int .i64 F.twin]) ⟨zR _ _,Bx.new _ _ _⟩ ?_
   rintro W2 ⟨t2,y2⟩
   have yL:=hbr.trans (t2.mono zr)
   have z2:=yL.size
   have v2:=hv.below t2
   have hB2:=hbody.below yL
   have n0:=y2.cell 0 rfl
   have n1:=y2.cell 1 rfl
   have d0:=hB2.cell 0 rfl
   have d1:=hB2.cell 1 rfl
   have d2:=hB2.cell 2 rfl
   have d3:=hB2.cell 3 rfl
   clear c0 c1 t2
   have hblt:=hB2.lt
   have hylt:=y2.lt
   clear hv zT hbody
   refine Z3 [[],[],[1],[1,2],[1,2,3],[1,2,3,4],[],[6],[6,7],[6,7,8],[6,7,8,9],[],[11],[],[13],[13,14],[13,14,15],[13,14,15,16],[],[18],[18,19],[18,19,20],[18,19,20,21],[1,2,3,4,5,6,7,8,9,10,11,12,13,14,15,16,17,18,19,20,21,22],[1,2,3,4,5,6,7,8,9,10,11,12,13,14,15,16,17,18,19,20,21,22,23],[0,1,2,3,4,5,6,7,8,9,10,11,12,13,14,15,16,17,18,19,20,21,22,23,24],[0,1,2,3,4,5,6,7,8,9,10,11,12,13,14,15,16,17,18,19,20,21,22,23,24,25]] [[0],[1],[2],[3],[4],[5],[6],[7],[8],[9],[10],[11],[12],[13],[14],[15],[16],[17],[18],[19],[20],[21],[22],[23],[24],[],[]] [[],[],[],[],[],[],[],[],[],[],[],[],[],[],[],[],[],[],[],[],[],[],[],[],[],[],[]] [jy (.slice av k cv),jy (zJ wr.heap.size 0),jy (zJ (P.D F.body) 0),jy (zJ (P.D F.body) 0),jy (zJ (P.D F.body) 0),jy (zI b.m),jy (zJ wr.heap.size 0),jy (zJ (P.D F.body) 0),jy (zJ (P.D F.body) 0),jy (zJ (P.D F.body) 1),jy (zI b.pc),jy (zJ wr.heap.size 1),jy (zI F.twin),jy (zJ wr.heap.size 0),jy (zJ (P.D F.body) 0),jy (zJ (P.D F.body) 0),jy (zJ (P.D F.body) 2),jy (.slice a1 b.zg.length k1),jy (zJ wr.heap.size 0),jy (zJ (P.D F.body) 0),jy (zJ (P.D F.body) 0),jy (zJ (P.D F.body) 3),jy (.slice a2 b.zf.length k2),jy (.agg #[zI b.m,zI b.pc,zI F.twin,.slice a1 b.zg.length k1,.slice a2 b.zf.length k2]),Ws 24 (fun(x:Nat) l=>l=[zK x 0 1 1]) (fun x w1=>∀j u,([zI b.m,zI b.pc,zI F.twin,.slice a1 b.zg.length k1,.slice a2 b.zf.length k2]:List Value)[j]?=some u->w1.cell? (zH x j)=some u),X7 fun _=>True,X7 fun _=>True] 25 1 rfl (by kernel_rfl) (by kernel_rfl) (by kernel_rfl) (by kernel_rfl) ?_ ?_
   ·refine zl (zl (zl (zl (zl (zl (zl (zl (zl (zl (zl (zl (zl (zl (zl (zl (zl (zl (zl (zl (zl (zl (zl (zl (zl (jE) ?_) ?_) ?_) ?_) ?_) ?_) ?_) ?_) ?_) ?_) ?_) ?_) ?_) ?_) ?_) ?_) ?_) ?_) ?_) ?_) ?_) ?_) ?_) ?_) ?_
    ·intro a w val own hB hf zy hk
     have s3:=hf.at (d:=3) (v:=.slice av k cv) (by kernel_rfl) rfl
     exact zC (v:=.slice av k cv) hB
    ·intro a w val own hB hf zy hk
     have s5:=hf.at (d:=5) (v:=zJ wr.heap.size 0) (by kernel_rfl) rfl
     exact zC (v:=zJ wr.heap.size 0) hB
    ·intro a w val own hB hf zy hk
     have s14:=zL hk 1 14
     have cn0:=zc hB n0
     exact zC (v:=zJ (P.D F.body) 0) hB
    ·intro a w val own hB hf zy hk
     have s15:=zL hk 2 15
     exact zC (v:=zJ (P.D F.body) 0) hB
    ·intro a w val own hB hf zy hk
     have s16:=zL hk 3 16
     exact zC (v:=zJ (P.D F.body) 0) hB
    ·intro a w val own hB hf zy hk
     have s17:=zL hk 4 17
     have cd0:=zc hB d0
     exact zC (v:=zI b.m) hB
    ·intro a w val own hB hf zy hk
     have s5:=hf.at (d:=5) (v:=zJ wr.heap.size 0) (by kernel_rfl) rfl
     exact zC (v:=zJ wr.heap.size 0) hB
    ·intro a w val own hB hf zy hk
     have s19:=zL hk 6 19
     have cn0:=zc hB n0
     exact zC (v:=zJ (P.D F.body) 0) hB
    ·intro a w val own hB hf zy hk
     have s20:=zL hk 7 20
     exact zC (v:=zJ (P.D F.body) 0) hB
    ·intro a w val own hB hf zy hk
     have s21:=zL hk 8 21
     exact zC (v:=zJ (P.D F.body) 1) hB
    ·intro a w val own hB hf zy hk
     have s22:=zL hk 9 22
     have cd1:=zc hB d1
     exact zC (v:=zI b.pc) hB
    ·intro a w val own hB hf zy hk
     have s5:=hf.at (d:=5) (v:=zJ wr.heap.size 0) (by kernel_rfl) rfl
     exact zC (v:=zJ wr.heap.size 1) hB
    ·intro a w val own hB hf zy hk
     have s24:=zL hk 11 24
     have cn1:=zc hB n1
     exact zC (v:=zI F.twin) hB
    ·intro a w val own hB hf zy hk
     have s5:=hf.at (d:=5) (v:=zJ wr.heap.size 0) (by kernel_rfl) rfl
     exact zC (v:=zJ wr.heap.size 0) hB
    ·intro a w val own hB hf zy hk
     have s26:=zL hk 13 26
     have cn0:=zc hB n0
     exact zC (v:=zJ (P.D F.body) 0) hB
    ·intro a w val own hB hf zy hk
     have s27:=zL hk 14 27
     exact zC (v:=zJ (P.D F.body) 0) hB
    ·intro a w val own hB hf zy hk
     have s28:=zL hk 15 28
     exact zC (v:=zJ (P.D F.body) 2) hB
    ·intro a w val own hB hf zy hk
     have s29:=zL hk 16 29
     have cd2:=zc hB d2
     exact zC (v:=.slice a1 b.zg.length k1) hB
    ·intro a w val own hB hf zy hk
     have s5:=hf.at (d:=5) (v:=zJ wr.heap.size 0) (by kernel_rfl) rfl
     exact zC (v:=zJ wr.heap.size 0) hB
    ·intro a w val own hB hf zy hk
     have s31:=zL hk 18 31
     have cn0:=zc hB n0
     exact zC (v:=zJ (P.D F.body) 0) hB
    ·intro a w val own hB hf zy hk
     have s32:=zL hk 19 32
     exact zC (v:=zJ (P.D F.body) 0) hB
    ·intro a w val own hB hf zy hk
     have s33:=zL hk 20 33
     exact zC (v:=zJ (P.D F.body) 3) hB
    ·intro a w val own hB hf zy hk
     have s34:=zL hk 21 34
     have cd3:=zc hB d3
     exact zC (v:=.slice a2 b.zf.length k2) hB
    ·intro a w val own hB hf zy hk
     have s18:=zL hk 5 18
     have s23:=zL hk 10 23
     have s25:=zL hk 12 25
     have s30:=zL hk 17 30
     have s35:=zL hk 22 35
     exact zC (v:=.agg #[zI b.m,zI b.pc,zI F.twin,.slice a1 b.zg.length k1,.slice a2 b.zf.length k2]) hB
    ·intro a w val own hB hf zy hk
     have s36:=zL hk 23 36
     refine ZW (v:=.slice (some ⟨w.heap.size,0,none⟩) 1 1) (w':=w.alloc (.cells #[.int .i64 b.m,.int .i64 b.pc,.int .i64 F.twin,.slice a1 b.zg.length k1,.slice a2 b.zf.length k2] 75)) hB rfl rfl (by unfold execOp;go_simp) (zR _ _) ⟨w.heap.size,rfl,Made.new fun w1 _ _ hr=>?_⟩
     exact fun j u hu=>((Bx.new w 75 [.int .i64 b.m,.int .i64 b.pc,.int .i64 F.twin,.slice a1 b.zg.length k1,.slice a2 b.zf.length k2]).kept (hr _ zD (by simp))).cell j hu
   intro aE vB val own hB hf zy hk
   obtain⟨kb,H,eb,mb⟩:=hk 24 (by decide)
   have vb:=qy eb
   have s37:=kb 37 rfl
   rw[vb] at s37
   have mh:=mb.here hB
   have s13:=ZY (hk 0 (by decide)) 13
   have hB0:zO W2 vB:=hB
   obtain⟨v',W3,hrun,yT,j9,_⟩:=vu (P:=Tryz.prog) (t:=76) (ty:=76) Tryz.underlying76 hii jT xF rfl (by omega) (v2.below hB0) [zI b.m,zI b.pc,zI F.twin,.slice a1 b.zg.length k1,.slice a2 b.zf.length k2] rfl (by intro u hu;simp at hu;rcases hu with rfl | rfl | rfl | rfl | rfl <;> rfl) H 1 mh (by omega) (Nat.le_trans z2 hB0.size)
   have xn:zO w W3:=(yL.trans (hB0.mono z2)).grown j9 (Nat.le_trans z2 hB0.size) fun q e=>(v2.lt q e).1
   rw[<-hfo,<-Zx] at yT
   obtain⟨a9,c9,hv9,_⟩:=yT.slice
   subst hv9
   have HE:Hid (yg w.heap.size 5 W3 (.slice a9 (k+1) c9) (k+1) ((List.range (k+1)).flatMap (wE P fs))/\zO w W3):=⟨yT,xn⟩
   clear yT j9 xn hB0
   clear kb eb vb mb mh
   have hu:=ux hf [13,14,15,16,17,18,19,20,21,22,23,24,25,26,27,28,29,30,31,32,33,34,35,36,37] (by kernel_rfl)
   dsimp only at hu
   simp only[List.foldl_cons,List.foldl_nil,List.setIfInBounds_toArray,List.set_cons_succ,List.set_cons_zero] at hu
   rw[s13,s37] at hu
   generalize aE.tmps[14]?.getD undef=u14 at hu
   generalize aE.tmps[15]?.getD undef=u15 at hu
   generalize aE.tmps[16]?.getD undef=u16 at hu
   generalize aE.tmps[17]?.getD undef=u17 at hu
   generalize aE.tmps[18]?.getD undef=u18 at hu
   generalize aE.tmps[19]?.getD undef=u19 at hu
   generalize aE.tmps[20]?.getD undef=u20 at hu
   generalize aE.tmps[21]?.getD undef=u21 at hu
   generalize aE.tmps[22]?.getD undef=u22 at hu
   generalize aE.tmps[23]?.getD undef=u23 at hu
   generalize aE.tmps[24]?.getD undef=u24 at hu
   generalize aE.tmps[25]?.getD undef=u25 at hu
   generalize aE.tmps[26]?.getD undef=u26 at hu
   generalize aE.tmps[27]?.getD undef=u27 at hu
   generalize aE.tmps[28]?.getD undef=u28 at hu
   generalize aE.tmps[29]?.getD undef=u29 at hu
   generalize aE.tmps[30]?.getD undef=u30 at hu
   generalize aE.tmps[31]?.getD undef=u31 at hu
   generalize aE.tmps[32]?.getD undef=u32 at hu
   generalize aE.tmps[33]?.getD undef=u33 at hu
   generalize aE.tmps[34]?.getD undef=u34 at hu
   generalize aE.tmps[35]?.getD undef=u35 at hu
   generalize aE.tmps[36]?.getD undef=u36 at hu
   obtain rfl:=ZK hu (show aE.defers=[] from hf.defers)
   clear hu hk zy hf s13 s37
   refine js (v:=.slice a9 (k+1) c9) (w':=W3) rfl rfl (vD rfl (by go_simp) (by go_simp) hrun) ?_
   simp only[Act.put]
   refine js (v:=.slice a9 (k+1) c9) (w':=W3) rfl rfl (by unfold execOp;go_simp) ?_
   simp only[Act.put]
   clear hrun hB
   refine wD (fun W9=>yg w.heap.size 5 W9 (.slice a9 (k+1) c9) (k+1) ((List.range (k+1)).flatMap (wE P fs))/\zO w W9) HE.out ?_
   rintro W9 hW9
   clear HE
   go_wp2
   go_roundg (fs.length - (k+1))
   case measure=>omega
   case rel=>exact⟨k+1,by omega,rfl,by go_num,hW9.1,hW9.2⟩
  ·obtain rfl:k=fs.length:=by omega
   go_wp2
   go_ret
   exact⟨_,rfl,hv,hbr⟩
structure ul (L:yF):Prop where
 f:∀i,qq L i<=900
 p:L.zd.length<=900
 t:L.ze.length<=900
theorem zeM {L:yF} {k:Nat} (hk:k<L.order.length) {i:Nat} (hi:L.order[k]=(i:Int)) (h0:qq L i=0) (hno:∀j,(hj:j<k)->qq L (L.order[j]).toNat≠0):xC L=(L,i):=by
 have:L.order.find? (fun x=>decide (qq L x.toNat=0))=some (i:Int):=by
  rw[List.find?_eq_some_iff_getElem]
  refine⟨by simp[h0],k,hk,hi,fun j hj=>by simp[hno j hj]⟩
 unfold xC
 rw[this]
 simp
theorem zcC {L:yF} (hno:∀j,(hj:j<L.order.length)->qq L (L.order[j]).toNat≠0) {i:Nat} (hi:L.order.getD 0 0=(i:Int)):xC L=((jG L i).1,i):=by
 have:L.order.find? (fun x=>decide (qq L x.toNat=0))=none:=by
  rw[List.find?_eq_none]
  intro x hx
  obtain⟨j,hj,rfl⟩:=List.getElem_of_mem hx
  simp[hno j hj]
 unfold xC
 rw[this,hi]
 simp
theorem zfl {B:Nat} {ρ:Nat->Rl} {w:World} {P:Lay} (h:yj B ρ w P) (hB:B<=w.heap.size) {hp:Hp} (s:jB 0 0 P.L hp) (ho:qU P.L) (hpos:1<=P.L.zd.length) (few:ul P.L) :
 Calls Tryz.prog 220 #[zJ P.bl 0] w fun e w'=>e=.returned (zI ((xC P.L).2:Int))/\∃F',Goes B ρ w w' {P with F:=F',L:=(xC P.L).1}:=by
 have hor:yf B w P.vo P.L.order:=(h .order).1
 obtain⟨ao,co,j5,_⟩:=hor.slice
 have hol:=ho.len
 have hol9:P.L.order.length<=900:=by rw[hol];exact few.p
 have hbx:=h.box
 rw[j5] at hor hbx
 have x2:=hbx.cell 2 rfl
 have km:∃ap cp,P.vp=.slice ap P.L.zd.length cp:=by
  obtain⟨gp,op,cp,_,_,hv,_⟩:=h.pgAt (i:=0) (by omega)
  exact⟨_,cp,hv⟩
 obtain⟨ap,cp,qI⟩:=km
 rw[qI] at hbx
 have x1:=hbx.cell 1 rfl
 have HL:Hid (yj B ρ w P):=h
 have HFL:Hid (∀I,I<P.L.zd.length->Calls Tryz.prog 68 #[zJ P.bl 0,zI (I:Int)] w fun e w'=>e=.returned (zI (jG P.L I).2)/\∃F',Goes B ρ w w' {P with F:=F',L:=(jG P.L I).1}):=fun I hI=>zeL h hB s hI (by have:=few.f I;omega) (by have:=few.p;omega) (by have:=few.t;omega)
 have HO:Hid (qU P.L):=ho
 clear h hbx j5 qI s ho
 go_enter Tryz.func220,Tryz.ntmps220
 go_wp2_with fail
 go_loopg [4,11] P.L.order.length (fun d _ q wr=>∃k:Nat,k<=P.L.order.length/\d=P.L.order.length - k/\q=zI (k:Int)/\wr=w/\∀j,(hj:j<P.L.order.length)->j<k->qq P.L (P.L.order[j]).toNat≠0)
 case atStart=>exact⟨0,Nat.zero_le _,rfl,rfl,rfl,fun j _ h=>absurd h yB⟩
 case round =>
  obtain⟨k,hk,rfl,rfl,hw,hno⟩:=hrel
  subst hw
  have HNO:Hid (∀j,(hj:j<P.L.order.length)->j<k->qq P.L (P.L.order[j]).toNat≠0):=hno
  clear hno
  by_cases yz:k<P.L.order.length
  ·obtain⟨i,hi',hi⟩:=HO.out.mem.1 (List.getElem_mem yz)
   obtain⟨gp,op,cp2,a,cf,Jy,_,p0,p1,_,_,_,_,_⟩:=HL.out.pgAt hi
   have Z5:wr.cell? (zH P.bl 1)=some P.vp:=HL.out.box.cell 1 rfl
   rw[Jy] at Z5
   obtain⟨g1,o1,c1,e1,_,_⟩:=hor.form (by omega)
   obtain rfl:ao=some ⟨g1,o1,none⟩:=by injection e1
   clear e1 x1
   have d1:=(hor.cell (i:=k) yz).1
   rw[hi'] at d1
   have uW:(k:Int)<(P.L.order.length:Int):=by omega
   have hiz:(i:Int)<(P.L.zd.length:Int):=by omega
   obtain⟨m,hm⟩:∃m,qq P.L i=m:=⟨_,rfl⟩
   have HM:Hid (qq P.L i=m):=hm
   have HI:Hid (P.L.order[k]=(i:Int)):=hi'
   rw[hm] at p1
   clear hm hi' hor Jy
   by_cases h0:m=0
   ·subst h0
    have HE:Hid (xC P.L=(P.L,i)):=zeM yz HI.out HM.out fun j hj=>HNO.out j (Nat.lt_trans hj yz) hj
    go_wp2
    go_ret
    rw[HE.out]
    exact⟨rfl,P.F,ρ,HL.out,Ch.refl _ _ _,zS⟩
   ·have hmz:¬((m:Int)=0):=by omega
    go_wp2
    go_roundg (P.L.order.length - (k+1))
    case measure=>omega
    case rel=>exact⟨k+1,by omega,rfl,by go_num,rfl,fun j hj hjk=>by
     by_cases e:j=k
     ·subst e;rw[HI.out,Int.toNat_natCast,HM.out];exact h0
     ·exact HNO.out j hj (by omega)⟩
  ·obtain rfl:k=P.L.order.length:=by omega
   have h00:0<P.L.order.length:=by omega
   obtain⟨i,hi',hi⟩:=HO.out.mem.1 (List.getElem_mem h00)
   obtain⟨g1,o1,c1,e1,_,_⟩:=hor.form h00
   obtain rfl:ao=some ⟨g1,o1,none⟩:=by injection e1
   clear e1
   have d1:=(hor.cell (i:=0) h00).1
   rw[hi',Nat.add_zero] at d1
   have HE:Hid (xC P.L=((jG P.L i).1,i)):=zcC (fun j hj=>HNO.out j hj hj) (by rw[List.getD_eq_getElem?_getD,List.getElem?_eq_getElem h00];exact hi')
   have hzz:(0:Int)<(P.L.order.length:Int):=by omega
   have uW:¬((P.L.order.length:Int)<(P.L.order.length:Int)):=by omega
   have HC:=HFL.out i hi
   clear HFL hi' hor x1
   go_wp2_with fail
   refine HC.mono ?_
   rintro e W2 ⟨rfl,F',hG⟩
   have HG:Hid (Goes B ρ wr W2 {P with F:=F',L:=(jG P.L i).1}):=hG
   clear hG HC
   go_wp2
   go_ret
   rw[HE.out]
   exact⟨rfl,F',HG.out⟩
theorem Ch.drew (w:World) (ρ:Nat->Rl):Ch (fun r=>r≠.other) ρ (zu ρ w .other) w w.drew:=Ch.below zS.drew _ ρ .other
theorem zcK {l:List Int} {i:Int}:∀j,(hj:j<l.length)->j<l.idxOf i->l[j]≠i:=fun j hj yz e=>by
 have:=List.not_of_lt_findIdx (p:=(· == i)) (xs:=l) (i:=j) yz
 simp[e] at this
theorem UX {B:Nat} {ρ:Nat->Rl} {w:World} {P:Lay} (h:yj B ρ w P) (hB:B<=w.heap.size) (ho:qU P.L) {i:Nat} (hi:i<P.L.zd.length) (few:P.L.zd.length<=900) :
 Calls Tryz.prog 75 #[zJ P.bl 0,zI (i:Int)] w fun e w'=>e=.returned (.tuple #[])/\∃uP,Goes B ρ w w' {P with vo:=uP,L:=uh P.L i}:=by
 have hm:=ho.mem.2 ⟨i,rfl,hi⟩
 have hk:=List.idxOf_lt_length_iff.2 hm
 refine(zc5 h hB (i:Int) (P.L.order.idxOf (i:Int)) hk (List.getElem_idxOf hk) zcK (by rw[ho.len];omega)).mono ?_
 rintro e w' ⟨rfl,ρ',uP,h',c',b'⟩
 exact⟨rfl,uP,ρ',h',c',b'⟩
theorem Jl {B:Nat} {ρ:Nat->Rl} {w:World} {P:Lay} (h:yj B ρ w P) (hB:B<=w.heap.size) {i m:Nat} (hn:P.L.now=(i:Int)) (hm:qq P.L i=m+1) (few:ul P.L) :
 Calls Tryz.prog 215 #[zJ P.bl 0] w fun e w'=>e=.returned (zI (zx P.L i m).2)/\Goes B ρ w w' {P with L:=(zx P.L i m).1}:=by
 obtain⟨f,hf⟩:=vG (L:=P.L) (i:=i) (k:=m) (by omega)
 have hi:=(zb6 hf).1
 obtain⟨gp,op,cp,a,cf,qI,hF,p0,p1,_,_,_,_,Jb⟩:=h.pgAt hi
 have hbx:=h.box
 rw[qI,hn] at hbx
 rw[hm] at p1
 have x1:=hbx.cell 1 rfl
 have x3:=hbx.cell 3 rfl
 have hiz:(i:Int)<(P.L.zd.length:Int):=by omega
 have f1:=few.f i
 have hw1:IntKind.i64.wrap (m:Int)=(m:Int):=by rw[IntKind.wrap_i64];omega
 have HT:Hid (Calls Tryz.prog 112 #[zJ P.bl 0,zI (i:Int),zI (m:Int)] w.drew fun e w'=>e=.returned (zI (zx P.L i m).2)/\Goes B (zu ρ w .other) w.drew w' {P with L:=(zx P.L i m).1}) :=
  KU (h.below zS.drew) hB hf (by omega) (by have:=few.p;omega) (by have:=few.t;omega)
 have HC:Hid (Ch (fun r=>r≠.other) ρ (zu ρ w .other) w w.drew/\Below B w w.drew):=⟨Ch.drew w ρ,zS.drew⟩
 clear h hbx qI hF p0 few hf
 go_enter Tryz.func215,Tryz.ntmps215
 go_upto_region 1 with fail
 go_region_law ((go_simp;go_at_call 112;refine HT.out.mono ?_;rintro e w2 ⟨rfl,hG⟩))
 all_goals
  have HG:Hid (Goes B (zu ρ w .other) w.drew w2 {P with L:=(zx P.L i m).1}):=hG
  clear hG
  go_wp2
  go_ret
  exact⟨rfl,Goes.trans HC.out.1 HC.out.2 HG.out⟩
theorem zei {B:Nat} {ρ:Nat->Rl} {w:World} {P:Lay} (h:yj B ρ w P) (hB:B<=w.heap.size) {hp:Hp} (s:jB 0 0 P.L hp) (ho:qU P.L) {i:Nat} (hn:P.L.now=(i:Int)) (hi:i<P.L.zd.length) (hf:0<qq P.L i) (few:ul P.L) (ft:P.L.ze.length<=800) :
 Calls Tryz.prog 212 #[zJ P.bl 0] w fun e w'=>e=.returned (.tuple #[])/\∃F' uP,Goes B ρ w w' {P with F:=F',vo:=uP,L:=jP P.L}:=by
 obtain⟨m,hm⟩:∃m,qq P.L i=m+1:=⟨qq P.L i - 1,by omega⟩
 obtain⟨f,hfr⟩:=vG (L:=P.L) (i:=i) (k:=m) (by omega)
 obtain⟨s1,l1,j,sx,e1,e2,e3⟩:=vC s hfr (yP _ _)
 have hOL:jP P.L=uh (yM (xC (zx P.L i m).1).1 (xC (zx P.L i m).1).2 (zx P.L i m).2) (xC (zx P.L i m).1).2:=by
  unfold jP
  rw[hn,Int.toNat_natCast,hm,Nat.add_sub_cancel]
 have o1:qU (zx P.L i m).1:=by unfold qU;rw[l1.ord,l1.pl];exact ho
 have few1:ul (zx P.L i m).1:=⟨fun q=>by rw[l1.n];exact few.f q,by rw[l1.pl];exact few.p,by have:=KT P.L i m;omega⟩
 obtain⟨s2,k2,q2,xE,hemp⟩:=Wx s1 o1 (by rw[l1.pl];omega)
 have HTT:=Jl h hB hn hm few
 have HFR:=fun(W:World) (ρ1:Nat->Rl) (h1:yj B ρ1 W {P with L:=(zx P.L i m).1}) (hB1:B<=W.heap.size)=>zfl h1 hB1 s1 o1 (by show 1<=(zx P.L i m).1.zd.length;rw[l1.pl];omega) few1
 rw[hOL]
 rw[e1] at HTT ⊢
 have o2:qU (yM (xC (zx P.L i m).1).1 (xC (zx P.L i m).1).2 (j:Int)):=by unfold qU;rw[(vE _ _).pl,show(yM (xC (zx P.L i m).1).1 (xC (zx P.L i m).1).2 (j:Int)).order=(xC (zx P.L i m).1).1.order from rfl,q2,k2.pl];exact o1
 have hplT:(xC (zx P.L i m).1).1.zd.length<=900:=by rw[k2.pl,l1.pl];exact few.p
 generalize hR:xC (zx P.L i m).1=R at *
 generalize hT:(zx P.L i m).1=T at *
 clear e1 e2 e3 l1 s1 o1 few1 few hfr hOL hR hT s ho h s2 k2 q2
 have HTT':Hid _:=HTT
 have HO2:Hid (qU (yM R.1 R.2 (j:Int))):=o2
 have HEM:Hid (R.1.zd[R.2].zh=[]):=hemp
 clear HTT o2 hemp
 go_enter Tryz.func212,Tryz.ntmps212
 go_wp2_with fail
 refine Calls.mono HTT'.out ?_
 rintro e W1 ⟨rfl,ρ1,h1,c1,b1⟩
 have z1:=c1.size
 have HF:=HFR W1 ρ1 h1 (by omega)
 have H1:Hid (Ch (fun r=>r≠.other) ρ ρ1 w W1/\Below B w W1):=⟨c1,b1⟩
 clear HTT' HFR h1 c1 b1
 go_wp2_with fail
 refine HF.mono ?_
 rintro e W2 ⟨rfl,F2,ρ2,h2,c2,b2⟩
 have z2:=c2.size
 obtain⟨gp,op,cp,a,cf,qI,hF,p0,p1,y0,y1,Ve,hρp,Jb⟩:=h2.pgAt xE
 have hbx:=h2.box
 rw[qI] at hbx
 have x1:W2.cell? (zH P.bl 1)=some (zK gp op R.1.zd.length cp):=hbx.cell 1 rfl
 have hRz:((R.2:Nat):Int)<(R.1.zd.length:Int):=by omega
 have S:=h2.setBase xE qI (j:Int)
 have C3:Ch (fun r=>r≠.other) ρ (zu ρ2 W2 .other) w (W2.setCell (zH gp (op+R.2 * 2)) (zI (j:Int))):=(H1.out.1.trans c2).trans (Ch.grown (xj _ _ _ _) ρ2 .other fun q e=>by cases e;rw[hρp];simp)
 have B3:Below B w (W2.setCell (zH gp (op+R.2 * 2)) (zI (j:Int))):=(H1.out.2.trans b2).setCell (p:=zH gp (op+R.2 * 2)) Ve _
 have hLb:(⟨(j:Int),R.1.zd[R.2].zh⟩:wh)=⟨(j:Int),[]⟩:=by rw[HEM.out]
 have S2:yj B (zu ρ2 W2 .other) (W2.setCell (zH gp (op+R.2 * 2)) (zI (j:Int))) {P with F:=fun k=>if k=R.2 then F2 R.2 else F2 k,L:=yM R.1 R.2 (j:Int)}:=by
  unfold yM
  rw[<-hLb]
  exact S
 have z3:=C3.size
 have K5:W2.heap.size=(W2.setCell (zH gp (op+R.2 * 2)) (zI (j:Int))).heap.size:=by simp
 obtain⟨W3,hW3⟩:∃W3,W2.setCell (zH gp (op+R.2 * 2)) (zI (j:Int))=W3:=⟨_,rfl⟩
 rw[hW3] at S2 C3 B3 z3
 have HRO:=UX S2 (by omega) HO2.out (i:=R.2) (by rw[(vE _ _).pl];exact xE) (by rw[(vE _ _).pl];exact hplT)
 have H3:Hid (Ch (fun r=>r≠.other) ρ (zu ρ2 W2 .other) w W3/\Below B w W3):=⟨C3,B3⟩
 clear HF S S2 C3 B3 h2 c2 b2 hbx p1 K5 qI hF
 go_wp2_with fail
 refine HRO.mono ?_
 rintro e W4 ⟨rfl,uP,hG⟩
 have HG:Hid (Goes B (zu ρ2 W2 .other) W3 W4 {P with F:=fun k=>if k=R.2 then F2 R.2 else F2 k,vo:=uP,L:=uh (yM R.1 R.2 (j:Int)) R.2}):=hG
 clear hG HRO
 go_wp2
 exact bodyPost_end (results_none rfl _ _ _) rfl ⟨rfl,_,_,Goes.trans H3.out.1 H3.out.2 HG.out⟩
theorem VC (a:Option Addr) (n c:Nat) (w:World) (hn:n<=1000) :
 Calls Tryz.prog 108 #[.slice a n c] w fun e w'=>e=.returned (zI (xB n))/\w'=w:=by
 have h1:IntKind.i64.wrap (4+(n:Int))=4+(n:Int):=by rw[IntKind.wrap_i64];omega
 have h2:IntKind.i64.wrap (4+(n:Int)+6)=4+(n:Int)+6:=by rw[IntKind.wrap_i64];omega
 unfold xB
 go_enter Tryz.func108,Tryz.ntmps108
 go_wp2
 go_ret
 exact⟨rfl,rfl⟩
def kK (g:Nat->Int):Nat->Int
 | 0=>0
 | k+1=>kK g k+g k
theorem zav {g:Nat->Int} {M:Int}:∀k:Nat,(∀j,j<k->0<=g j/\g j<=M)->0<=kK g k/\kK g k<=(k:Int) * M
 | 0,_=>⟨Int.le_refl _,by simp[kK]⟩
 | k+1,h=>by
  have h1:=zav k fun j hj=>h j (by omega)
  have h2:=h k (by omega)
  show 0<=kK g k+g k/\kK g k+g k<=((k+1:Nat):Int) * M
  rw[Int.natCast_add,Int.add_mul]
  simp only[Int.natCast_one,Int.one_mul]
  omega
theorem zbK {α:Type} {l:List α} (f:α->Int) (g:Nat->Int) (h:∀j,(hj:j<l.length)->g j=f l[j]):kK g l.length=(l.map f).sum:=by
 have key:∀k,k<=l.length->kK g k=((l.take k).map f).sum:=by
  intro k
  induction k with
  | zero=>intro _;simp[kK]
  | succ k ih =>
   intro hk
   have yz:k<l.length:=by omega
   rw[List.take_succ_eq_append_getElem yz,List.map_append,List.sum_append]
   show kK g k+g k=_
   rw[ih (by omega),h k yz]
   simp
 have:=key l.length zD
 rwa [List.take_length] at this
theorem zft (v0:Value) (gf of n cf:Nat) (cells:Int) (w:World) (hc:-1000000<=cells/\cells<=1000000) (hn:n<=900) (d:Nat->Nat) (tw:Nat->Int) (va:Nat->Option Addr) (ln vc:Nat->Nat) (hln:∀k,k<n->ln k<=1000)
 (hf:∀k,k<n->w.cell? (zH gf (of+k * 2))=some (zJ (d k) 0)/\w.cell? (zH gf (of+k * 2+1))=some (zI (tw k))/\w.cell? (zH (d k) 2)=some (.slice (va k) (ln k) (vc k))) :
 Calls Tryz.prog 211 #[.agg #[v0,zK gf of n cf],zI cells] w fun e w'=>e=.returned (zI (cells - kK (fun k=>xB (ln k)) n))/\zO w w':=by
 obtain⟨g,hg⟩:∃g:Nat->Int,(fun k=>xB (ln k))=g:=⟨_,rfl⟩
 have hgk:∀k,xB (ln k)=g k:=fun k=>by rw[<-hg]
 have HG:Hid (∀k,k<n->0<=g k/\g k<=1010):=fun k hk=>by have:=hln k hk;rw[<-hgk];unfold xB;omega
 have hbd:∀k,k<=n->-2000000<=cells - kK g k/\cells - kK g k<=2000000:=fun k hk=>by
  have:=zav (M:=1010) k fun j hj=>HG.out j (by omega)
  omega
 rw[hg]
 have HF:Hid (∀k,k<n->w.cell? (zH gf (of+k * 2))=some (zJ (d k) 0)/\w.cell? (zH gf (of+k * 2+1))=some (zI (tw k))/\w.cell? (zH (d k) 2)=some (.slice (va k) (ln k) (vc k))):=hf
 have HBD:Hid (∀k,k<=n->-2000000<=cells - kK g k/\cells - kK g k<=2000000):=hbd
 have HS:Hid (cells - kK g 0=cells):=by show cells - 0=cells;omega
 clear hf hbd hg
 go_enter Tryz.func211,Tryz.ntmps211
 go_upto_region 1 with fail
 refine ym (fun W=>zO w W/\Bx W w.heap.size 139 [v0,.slice (some ⟨gf,of,none⟩) n cf]) ⟨zR _ _,Bx.new _ _ _⟩ ?_
 rintro W ⟨hbW,y⟩
 have y1:=y.cell 1 rfl
 have ZQ:=hbW.size
 go_wp2_with fail
 go_loopg [1,6,10] n (fun dd x _ q wr=>∃k:Nat,k<=n/\dd=n - k/\x=zI (cells - kK g k)/\q=zI (k:Int)/\zO w wr)
 case atStart=>exact⟨0,Nat.zero_le _,rfl,by rw[HS.out],rfl,hbW⟩
 case round =>
  obtain⟨k,hk,rfl,rfl,rfl,hbr⟩:=hrel
  have zr:=hbr.size
  by_cases yz:k<n
  ·have uW:(k:Int)<(n:Int):=by omega
   obtain⟨q0,q1,q2⟩:=HF.out k yz
   have c0:=zc hbr q0
   have c1:=zc hbr q1
   have b1:=HBD.out (k+1) yz
   have hw1:IntKind.i64.wrap (cells - kK g k - g k)=cells - kK g (k+1):=by
    show _=cells - (kK g k+g k)
    rw[IntKind.wrap_i64]
    have:kK g (k+1)=kK g k+g k:=rfl
    omega
   go_upto_region 4 with fail
   refine ym (fun W'=>zO wr W'/\Bx W' wr.heap.size 145 [.pointer (some ⟨d k,0,none⟩),.int .i64 (tw k)]) ⟨zR _ _,Bx.new _ _ _⟩ ?_
   rintro W2 ⟨t2,y2⟩
   have yL:=hbr.trans (t2.mono zr)
   have n0:=y2.cell 0 rfl
   have n2:=zc yL q2
   have HC:=VC (va k) (ln k) (vc k) W2 (hln k yz)
   rw[hgk] at HC
   clear c0 c1 q0 q1 q2 t2 y2 y y1
   go_wp2_with fail
   refine HC.mono ?_
   rintro e w3 ⟨rfl,hw3⟩
   subst hw3
   go_wp2_with fail
   go_roundg (n - (k+1))
   case measure=>omega
   case rel=>exact⟨k+1,yz,rfl,rfl,by go_num,yL⟩
  ·obtain rfl:k=n:=by omega
   go_wp2_with fail
   go_ret
   exact⟨rfl,hbr⟩
theorem Tryz.infoLF:(Tryz.prog.info? 145).map (fun i=>(i.zero,i.size,i.bytes))=some (some (.agg #[.pointer none,zI 0]),2,16):=by kernel_rfl
theorem zeu {w:World} {g c d:Nat} {x:Int} (h0:w.cell? (zH g 0)=some (zJ d 0)) (h1:w.cell? (zH g 1)=some (zI x)):Src Tryz.prog 2 136 (zK g 0 1 c) 1 [zJ d 0,zI x] w:=by
 refine Src.ofSlice w Tryz.underlying136 ⟨g,0,none⟩ _ c _ rfl (fun j u hu=>?_) (fun u hu=>?_)
 ·match j with
  | 0=>simp at hu;subst hu;rw[Addr.add_lit];exact h0
  | 1=>simp at hu;subst hu;rw[Addr.add_lit];exact h1
  | j+2=>simp at hu
 ·simp at hu;rcases hu with rfl | rfl <;> rfl
theorem YB {ty:TypeId} {B:Nat} {w:World} {v xv:Value} {n d:Nat} {x:Int} {xs:List Value} (zy:yg B 2 w v n xs) (hM:Src Tryz.prog 2 136 xv 1 [zJ d 0,zI x] w) (hL:n+1<=3000000) (hB:B<=w.heap.size) :
 ∃v' w',(Builtin.append_ #[136,136] ty #[v,xv]).run Tryz.prog w=.ok v' w'/\yg B 2 w' v' (n+1) (xs ++ [zJ d 0,zI x])/\w.grownBy w' v.ownBlock/\(v'.ownBlock=v.ownBlock\/v'.ownBlock=some w.heap.size):=by
 obtain⟨i0,hi,jT,xF,kf⟩:=info_parts Tryz.infoLF
 have h1:yg B i0.size w v n xs:=by rw[xF];exact zy
 have h2:Src Tryz.prog i0.size 136 xv 1 [zJ d 0,zI x] w:=by rw[xF];exact hM
 obtain⟨v',w',hr,hc,hg,hb⟩:=j7 (P:=Tryz.prog) (ty:=ty) Tryz.underlying136 hi jT (by rw[xF];rfl) (by rw[kf];omega) h1 xv 1 _ h2 hL hB
 rw[xF] at hc
 exact⟨v',w',hr,hc,hg,hb⟩
theorem zev {ops:Array Oper} {o:Oper} {act:Act} {K:Act->World->Prop} {Q:Exit->Act->World->Prop} {E:Prop} (w:World) (hgd:o.guard=none) (s x:Operand)
 (ho:o.op=.call {callee:=.builtin .append,args:=#[s,x],argTypes:=#[136,136]}) (B:Nat) (v xv:Value) (n:Nat) (xs:List Value) (d:Nat) (y:Int) (hs:act.eval s=v) (hx:act.eval x=xv) (zy:yg B 2 w v n xs) (hM:Src Tryz.prog 2 136 xv 1 [zJ d 0,zI y] w)
 (hL:n+1<=3000000) (hB:B<=w.heap.size)
 (h:∀v' w',yg B 2 w' v' (n+1) (xs ++ [zJ d 0,zI y])->w.grownBy w' v.ownBlock->(v'.ownBlock=v.ownBlock\/v'.ownBlock=some w.heap.size)->K (act.put o.dst v') w') :
 if Region.wanted o (yielded ops act.tmps)=true then Oper.wp Tryz.prog o act w K Q else E:=by
 obtain⟨v',w',hr,h2,h3,h4⟩:=YB (ty:=o.type) zy hM hL hB
 rw[if_pos (by simp[Region.wanted,hgd])]
 unfold Oper.wp execOp
 simp only[ho,resolve,invoke,builtin,Sem.run_bind,Sem.run_pure,Result.andThen_ok,List.map_toArray,List.map_cons,List.map_nil,hs,hx,hr]
 exact h v' w' h2 h3 h4
structure zaG (B:Nat) (w:World) (v:Value) (n:Nat) (xs:List Value) (gp o:Nat) (w':World):Prop where
 ex:∃W0 W1 v',zO w W0/\W0.grownBy W1 v.ownBlock/\yg B 2 W1 v' (n+1) xs/\(v'.ownBlock=v.ownBlock\/v'.ownBlock=some W0.heap.size)/\w'=W1.setCell (zH gp (o+1)) v'
theorem zfr {B:Nat} {w:World} {gp o n cf d:Nat} {a:Option Addr} {x:Int} {xs:List Value} (zT:yg B 2 w (.slice a n cf) n xs) (c1:w.cell? (zH gp (o+1))=some (.slice a n cf)) (z1:w.frozen? (zH gp (o+1))=false) (qF:(Value.slice a n cf).ownBlock≠some gp) (hB:B<=w.heap.size) (hn:n<=100000) :
 Calls Tryz.prog 213 #[zJ gp o,.agg #[zJ d 0,zI x]] w fun e w'=>e=.returned (.tuple #[])/\zaG B w (.slice a n cf) n (xs ++ [zJ d 0,zI x]) gp o w':=by
 have Jb:=World.block_lt_of_cell? _ _ c1
 have hgp':gp<w.heap.size:=Jb
 go_enter Tryz.func213,Tryz.ntmps213
 go_upto_region 1 with fail
 refine ym (fun W=>zO w W/\W.heap.size=w.heap.size+1/\Bx W w.heap.size 145 [.pointer (some ⟨d,0,none⟩),.int .i64 x]) ⟨zR _ _,by simp,Bx.new _ _ _⟩ ?_
 rintro W ⟨hbW,ZQ,y⟩
 have y0:=y.cell 0 rfl
 have y1:=y.cell 1 rfl
 have p1:=zc hbW c1
 have NA:zO w (W.alloc (.cells #[.pointer (some ⟨d,0,none⟩),.int .i64 x] 145)).drew:=(hbW.alloc (by omega) _).drew
 have s1:Src Tryz.prog 2 136 (.slice (some ⟨w.heap.size+1,0,none⟩) 1 1) 1 [.pointer (some ⟨d,0,none⟩),.int .i64 x] (W.alloc (.cells #[.pointer (some ⟨d,0,none⟩),.int .i64 x] 145)).drew:=zeu (by rw[<-ZQ];simp[go_sem]) (by rw[<-ZQ];simp[go_sem])
 have zeq:yg B 2 (W.alloc (.cells #[.pointer (some ⟨d,0,none⟩),.int .i64 x] 145)).drew (.slice a n cf) n xs:=zT.below NA
 have Vd:B<=(W.alloc (.cells #[.pointer (some ⟨d,0,none⟩),.int .i64 x] 145)).drew.heap.size:=by simp;omega
 have HFH:Hid (∀v' w',yg B 2 w' v' (n+1) (xs ++ [.pointer (some ⟨d,0,none⟩),.int .i64 x])->(W.alloc (.cells #[.pointer (some ⟨d,0,none⟩),.int .i64 x] 145)).drew.grownBy w' (Value.slice a n cf).ownBlock->(v'.ownBlock=(Value.slice a n cf).ownBlock\/v'.ownBlock=some (W.alloc (.cells #[.pointer (some ⟨d,0,none⟩),.int .i64 x] 145)).drew.heap.size) ->
  (w'.cell? (zH gp (o+1))=some (.slice a n cf)/\w'.frozen? (zH gp (o+1))=false)/\zaG B w (.slice a n cf) n (xs ++ [zJ d 0,zI x]) gp o (w'.setCell (zH gp (o+1)) v')):=fun v' w' h1 h2 h3=>by
  have hk:w'.heap[gp]?=w.heap[gp]?:=(h2.block gp (by have:=NA.size;omega) (fun e=>qF e.symm)).trans (NA.block gp hgp')
  exact⟨⟨(World.cell?_of_block (a:=⟨gp,o+1,none⟩) hk).trans c1,(World.frozen?_of_block (a:=⟨gp,o+1,none⟩) hk).trans z1⟩,⟨_,w',v',NA,h2,h1,h3,rfl⟩⟩
 clear zT NA y hbW c1 z1
 go_region_law (refine zev _ (by rfl) _ _ (by rfl) B _ _ n xs d x (by rfl) (by rfl) zeq s1 (by omega) (by first | exact Vd | (simp;omega)) ?_;intro v' w' zT hg hbk;obtain⟨a',c',hv',_⟩:=zT.slice;subst hv';obtain⟨⟨z4,f4⟩,Wy⟩:=HFH.out _ w' zT hg hbk)
 all_goals exact bodyPost_end (results_none rfl _ _ _) rfl ⟨rfl,Wy⟩
theorem Q4 (D:Nat->Nat) (fs:List ki) (f:ki):cells2 (yk D (fs ++ [f]))=cells2 (yk D fs) ++ [zJ (D f.body) 0,zI f.twin]:=by
 have:yk D (fs ++ [f])=yk D fs ++ [(zJ (D f.body) 0,zI f.twin)]:=by simp[yk]
 rw[this,X3]
theorem yj.pushed {B:Nat} {ρ:Nat->Rl} {w w':World} {P:Lay} (h:yj B ρ w P) (hB:B<=w.heap.size) {i:Nat} (hi:i<P.L.zd.length) {gp op cp cf:Nat} {a:Option Addr} (qI:P.vp=zK gp op P.L.zd.length cp) (hF:P.F i=.slice a (qq P.L i) cf) (Jb:gp<w.heap.size) (Ve:B<=gp) (hρ:ρ gp=.zd)
 {k:Nat} (hp:zaG B w (.slice a (qq P.L i) cf) (qq P.L i) (cells2 (yk P.D P.L.zd[i].zh) ++ [zJ (P.D k) 0,zI (-1)]) gp (op+i * 2) w'):∃F',Goes B ρ w w' {P with F:=F',L:=KH P.L i k}:=by
 obtain⟨W0,W1,v',b0,g1,hr,hv,rfl⟩:=hp.ex
 have hfr:=(h (.zh i)) hi
 rw[hF] at hfr
 have z0:=b0.size
 have z1:=g1.size
 have c0:Ch (fun r=>r=.zh i) ρ (zu ρ w .other) w W0:=Ch.below b0 _ ρ .other
 have c1:Ch (fun r=>r=.zh i) (zu ρ w .other) (zu (zu ρ w .other) W0 (.zh i)) W0 W1:=Ch.grown g1 (zu ρ w .other) (.zh i) fun g e=>by rw[yG (hfr.1.lt g e).2];exact hfr.2 g e
 have hfg:∀g,v'.ownBlock=some g->zu (zu ρ w .other) W0 (.zh i) g=.zh i:=fun g e=>by
  rcases hv with x | x
  ·rw[x] at e
   have yz:=(hfr.1.lt g e).2
   rw[yG (by omega),yG yz]
   exact hfr.2 g e
  ·rw[x] at e
   injection e with e
   exact qj (by omega)
 have hn:=kF hi
 rw[hn,show cells2 (yk P.D P.L.zd[i].zh) ++ [zJ (P.D k) 0,zI (-1)]=cells2 (yk P.D (P.L.zd[i].zh ++ [⟨k,-1⟩])) from (Q4 P.D _ ⟨k,-1⟩).symm] at hr
 have S:=h.setFrames hi (c0.trans c1) (fs:=P.L.zd[i].zh ++ [⟨k,-1⟩]) (vf:=v') (by rw[List.length_append];exact hr) hfg qI
 have hg:P.L.zd.getD i ⟨-1,[]⟩=P.L.zd[i]:=by simp[hi]
 have C:Ch (fun r=>r≠.other) ρ (zu (zu (zu ρ w .other) W0 (.zh i)) W1 .other) w (W1.setCell (zH gp (op+i * 2+1)) v'):=((c0.trans c1).mono fun r e=>by rw[e];simp).trans (Ch.grown (xj _ gp _ _) _ .other fun q e=>by
  cases e
  rw[(c0.trans c1).role gp Jb,hρ]
  simp)
 have hb:Below B w (W1.setCell (zH gp (op+i * 2+1)) v'):=((b0.mono hB).grown g1 (by omega) fun g e=>(hfr.1.lt g e).1).setCell (p:=zH gp (op+i * 2+1)) Ve v'
 refine⟨fun k'=>if k'=i then v' else P.F k',_,?_,C,hb⟩
 unfold KH
 rw[hg]
 exact S
theorem zeK {B:Nat} {ρ:Nat->Rl} {w:World} {P:Lay} (h:yj B ρ w P) (hB:B<=w.heap.size) {hp:Hp} (s:jB 0 0 P.L hp) (ho:qU P.L) {i:Nat} (hn:P.L.now=(i:Int)) (hi:i<P.L.zd.length) (hf:0<qq P.L i) (few:ul P.L) (ft:P.L.ze.length<=800)
 (hce:-1000000<=P.L.cells/\P.L.cells<=1000000) (hbt:∀q,(hq:q<P.L.zj.length)->P.L.zj[q].zg.length<=1000) {k:Nat} (hk:k<P.L.zj.length) :
 Calls Tryz.prog 205 #[zJ P.bl 0,zJ (P.D k) 0] w fun e w'=>e=.returned (.tuple #[])/\∃F' uP,Goes B ρ w w' {P with F:=F',vo:=uP,L:=KH (if vL P.L i<xB P.L.zj[k].zg.length then jP P.L else P.L) (if vL P.L i<xB P.L.zj[k].zg.length then jP P.L else P.L).now.toNat k}:=by
 have HO:=zei h hB s ho hn hi hf few ft
 have HOK:Hid (∃p:Nat,(jP P.L).now=(p:Int)/\p<(jP P.L).zd.length/\qq (jP P.L) p=0):=by
  obtain⟨_,_,_,p,e1,hp,e3,_⟩:=KB s ho hn hi hf
  exact⟨p,e1,hp,e3⟩
 -- where all lies
 obtain⟨gp,op,cp,a,cf,qI,hF,p0,p1,_,_,_,_,Jb⟩:=h.pgAt hi
 obtain⟨f0,hf0⟩:=vG (L:=P.L) (i:=i) (k:=0) hf
 obtain⟨_,_,_,gf,of,_,cf',hvp',hF',hnn,_,_,_⟩:=h.frAt hf0
 rw[hF] at hF'
 obtain rfl:a=some ⟨gf,of,none⟩:=by injection hF'
 clear hF' hvp' hnn
 have hbx:=h.box
 rw[qI,hn] at hbx
 have x0:=hbx.cell 0 rfl
 have x1:=hbx.cell 1 rfl
 have x3:=hbx.cell 3 rfl
 have hiz:(i:Int)<(P.L.zd.length:Int):=by omega
 obtain⟨a1,k1,a2,k2,hT⟩:=h.lists hk
 have hbody:=(h (.body k) hk).1
 rw[hT] at hbody
 unfold xx at hbody
 have d2:=hbody.cell 2 rfl
 have hnl:=hbt k hk
 -- how much room there is
 have hroom:∀W,zO w W->Calls Tryz.prog 211 #[.agg #[zI (yw P.L i),zK gf of (qq P.L i) cf],zI P.L.cells] W fun e w'=>e=.returned (zI (vL P.L i))/\zO W w':=by
  intro W hW
  have hfi:∀q,q<qq P.L i->∃f,P.L.fr i q=some f/\f.body<P.L.zj.length:=fun q hq=>by
   obtain⟨f,hf⟩:=vG (L:=P.L) (i:=i) (k:=q) hq
   exact⟨f,hf,(s.fb i q f hf (yP _ _)).1⟩
  have hfq:∀q f,P.L.fr i q=some f->f.body<P.L.zj.length->w.cell? (zH gf (of+q * 2))=some (zJ (P.D f.body) 0)/\w.cell? (zH gf (of+q * 2+1))=some (zI f.twin)/\∃va vc,w.cell? (zH (P.D f.body) 2)=some (.slice va (P.L.zj.getD f.body jg.none).zg.length vc):=fun q f hf hb=>by
   obtain⟨_,_,_,gf2,of2,_,cf2,_,hF2,_,_,_,_,_,q0,q1,_⟩:=h.frAt hf
   rw[hF] at hF2
   injection hF2 with e1 e2 e3
   injection e1 with e1
   injection e1 with e4 e5
   subst e4 e5
   obtain⟨a1,k1,a2,k2,hT⟩:=h.lists hb
   have hbody:=(h (.body f.body) hb).1
   rw[hT] at hbody
   unfold xx at hbody
   exact⟨q0,q1,a1,k1,by rw[show P.L.zj.getD f.body jg.none=P.L.zj[f.body] by simp[hb]];exact hbody.cell 2 rfl⟩
  have pick:∀q,∃x:(Nat × Int) × (Option Addr × Nat × Nat),q<qq P.L i->w.cell? (zH gf (of+q * 2))=some (zJ x.1.1 0)/\w.cell? (zH gf (of+q * 2+1))=some (zI x.1.2)/\w.cell? (zH x.1.1 2)=some (.slice x.2.1 x.2.2.1 x.2.2.2)/\x.2.2.1<=1000/\∃f,P.L.fr i q=some f/\x.2.2.1=(P.L.zj.getD f.body jg.none).zg.length:=fun q=>by
   by_cases hq:q<qq P.L i
   ·obtain⟨f,hf,hb⟩:=hfi q hq
    obtain⟨q0,q1,va,vc,q2⟩:=hfq q f hf hb
    exact⟨⟨⟨P.D f.body,f.twin⟩,va,_,vc⟩,fun _=>⟨q0,q1,q2,by rw[show P.L.zj.getD f.body jg.none=P.L.zj[f.body] by simp[hb]];exact hbt _ hb,f,hf,rfl⟩⟩
   ·exact⟨⟨⟨0,0⟩,none,0,0⟩,fun h=>absurd h hq⟩
  obtain⟨X,hX⟩:=Classical.axiomOfChoice pick
  have hR:=zft (zI (yw P.L i)) gf of (qq P.L i) cf P.L.cells W hce (few.f i) (fun q=>(X q).1.1) (fun q=>(X q).1.2) (fun q=>(X q).2.1) (fun q=>(X q).2.2.1) (fun q=>(X q).2.2.2) (fun q hq=>(hX q hq).2.2.2.1) (fun q hq=>⟨zc hW (hX q hq).1,zc hW (hX q hq).2.1,zc hW (hX q hq).2.2.1⟩)
  have e:P.L.cells - kK (fun q=>xB (X q).2.2.1) (qq P.L i)=vL P.L i:=by
   unfold vL
   congr 1
   refine zbK (fun f:ki=>xB (P.L.zj.getD f.body jg.none).zg.length) (fun q=>xB (X q).2.2.1) fun j hj=>?_
   obtain⟨_,_,_,_,f,hf,hl⟩:=hX j hj
   obtain⟨hi',hk',he⟩:=yF.fr_some hf
   show xB (X j).2.2.1=_
   rw[hl]
   have hg:P.L.zd.getD i ⟨-1,[]⟩=P.L.zd[i]:=by simp[hi]
   simp only[hg,he]
  rw[e] at hR
  exact hR
 have HR:Hid (∀W,zO w W->Calls Tryz.prog 211 #[.agg #[zI (yw P.L i),zK gf of (qq P.L i) cf],zI P.L.cells] W fun e w'=>e=.returned (zI (vL P.L i))/\zO W w'):=hroom
 have HC:Hid (∀W:World,Calls Tryz.prog 108 #[.slice a1 P.L.zj[k].zg.length k1] W fun e w'=>e=.returned (zI (xB P.L.zj[k].zg.length))/\w'=W):=fun W=>VC _ _ _ W hnl
 obtain⟨nl,hnl'⟩:∃nl,P.L.zj[k].zg.length=nl:=⟨_,rfl⟩
 rw[hnl'] at HC d2 ⊢
 obtain⟨L1,hL1⟩:∃L1,(if vL P.L i<xB nl then jP P.L else P.L)=L1:=⟨_,rfl⟩
 rw[hL1]
 have HL1:Hid ((if vL P.L i<xB nl then jP P.L else P.L)=L1):=hL1
 clear hL1
 have HS:∀w':World,zO w w'->((w'.cell? (zH P.bl 0)=some (zI P.L.cells)/\w'.cell? (zH P.bl 1)=some (zK gp op P.L.zd.length cp)/\w'.cell? (zH P.bl 3)=some (zI (i:Int))/\w'.cell? (zH gp (op+i * 2))=some (zI (yw P.L i))/\w'.cell? (zH gp (op+i * 2+1))=some (zK gf of (qq P.L i) cf)/\w'.cell? (zH (P.D k) 2)=some (.slice a1 nl k1))/\zO w w'):=fun w' hb=>⟨⟨zc hb x0,zc hb x1,zc hb x3,zc hb p0,zc hb p1,zc hb d2⟩,hb⟩
 have HL:Hid (yj B ρ w P):=h
 have HOL:Hid (∀(W:World) (ρ1:Nat->Rl),yj B ρ1 W P->B<=W.heap.size->Calls Tryz.prog 212 #[zJ P.bl 0] W fun e w'=>e=.returned (.tuple #[])/\∃F' uP,Goes B ρ1 W w' {P with F:=F',vo:=uP,L:=jP P.L}):=fun W ρ1 h1 hB1=>zei h1 hB1 s ho hn hi hf few ft
 have HNI:Hid (P.L.now=(i:Int)/\i<P.L.zd.length/\qq P.L i<=900):=⟨hn,hi,few.f i⟩
 clear hroom HO s ho few hbx hf0 hbody hT hF qI h x0 x1 x3 p0 p1 d2 hbt
 go_enter Tryz.func205,Tryz.ntmps205
 go_upto_region 0 with fail
 go_cut [24] (fun v wx=>v=.bool (decide (vL P.L i<xB nl))/\zO w wx)
 case first =>
  go_region_held3 (fun w'=>(w'.cell? (zH P.bl 0)=some (zI P.L.cells)/\w'.cell? (zH P.bl 1)=some (zK gp op P.L.zd.length cp)/\w'.cell? (zH P.bl 3)=some (zI (i:Int))/\w'.cell? (zH gp (op+i * 2))=some (zI (yw P.L i))/\w'.cell? (zH gp (op+i * 2+1))=some (zK gf of (qq P.L i) cf)/\w'.cell? (zH (P.D k) 2)=some (.slice a1 nl k1))/\zO w w')
   ((refine HS _ ?_;first
    | (with_reducible exact(‹(_/\_/\_/\_/\_/\_)/\zO w _›).2)
    | (with_reducible exact zS.drew)
    | (with_reducible exact QN)))
   (first
    | (go_at_call 211;refine(HR.out _ (‹(_/\_/\_/\_/\_/\_)/\zO w _›).2).mono ?_;rintro e wT ⟨rfl,hbT⟩;have QN:=Below.trans (‹(_/\_/\_/\_/\_/\_)/\zO w _›).2 (hbT.mono ((‹(_/\_/\_/\_/\_/\_)/\zO w _›).2).size))
    | (go_at_call 108;refine(HC.out _).mono ?_;rintro e wC ⟨rfl,hwC⟩;subst hwC))
  all_goals
   go_wp2_with fail
   go_meet
   exact⟨rfl,(‹(_/\_/\_/\_/\_/\_)/\zO w _›).2⟩
 case rest =>
  obtain⟨rfl,hbx⟩:=hcut
  clear HS HR HC Jb hiz hnl'
  go_upto_if 24 with fail
  go_cut [] (fun wy=>∃F1 vo1,Goes B ρ w wy {P with F:=F1,vo:=vo1,L:=L1})
  case first =>
   by_cases hr:vL P.L i<xB nl
   ·have HO:=HOL.out wc (zu ρ w .other) (HL.out.below hbx) (by have:=hbx.size;omega)
    have HB:Hid (zO w wc):=hbx
    have hrb:decide (vL P.L i<xB nl)=true:=decide_eq_true hr
    rw[hrb]
    clear hbx
    go_wp2_with fail
    refine HO.mono ?_
    rintro e w2 ⟨rfl,F',uP,hG⟩
    have HG:Hid (Goes B (zu ρ w .other) wc w2 {P with F:=F',vo:=uP,L:=jP P.L}):=hG
    clear hG HO
    go_wp2_with fail
    go_meet
    rw[<-HL1.out,if_pos hr]
    exact⟨_,_,Goes.trans (Ch.below HB.out _ ρ .other) (HB.out.mono hB) HG.out⟩
   ·have hrb:decide (vL P.L i<xB nl)=false:=decide_eq_false hr
    rw[hrb]
    go_wp2_with fail
    go_meet
    rw[<-HL1.out,if_neg (by omega)]
    exact⟨_,_,_,HL.out.below hbx,Ch.below hbx _ ρ .other,hbx.mono hB⟩
  case rest =>
   obtain⟨F1,vo1,ρ1,h1,c1,b1⟩:=hcut
   have hN:∃p:Nat,L1.now=(p:Int)/\p<L1.zd.length/\qq L1 p<=900:=by
    rw[<-HL1.out]
    split
    ·obtain⟨p,e1,e2,e3⟩:=HOK.out
     exact⟨p,e1,e2,by omega⟩
    ·exact⟨i,HNI.out⟩
   obtain⟨p,Km,UD,hf1⟩:=hN
   have hpk:Hid (L1.now.toNat=p):=by show L1.now.toNat=p;rw[Km,Int.toNat_natCast]
   have z1:=b1.size
   have hd:=h1.below zS.drew
   obtain⟨gp1,op1,cp1,a1',cf1,zbi,hF1,q0,q1,y0,y1,hBp1,hρp1,hgp1⟩:=hd.pgAt UD
   have za8:=hd.box
   rw[zbi] at za8
   have x1:wc.drew.cell? (zH P.bl 1)=some (zK gp1 op1 L1.zd.length cp1):=za8.cell 1 rfl
   have x3:wc.drew.cell? (zH P.bl 3)=some (zI L1.now):=za8.cell 3 rfl
   rw[Km] at x3
   have hpz:(p:Int)<(L1.zd.length:Int):=by omega
   have zT:yg B 2 wc.drew (F1 p) L1.zd[p].zh.length (cells2 (yk P.D L1.zd[p].zh)):=((hd (.zh p)) UD).1
   have zy:∀g,(F1 p).ownBlock=some g->zu ρ1 wc .other g=.zh p:=((hd (.zh p)) UD).2
   have hF1':F1 p=.slice a1' (qq L1 p) cf1:=hF1
   rw[hF1',<-kF UD] at zT
   rw[hF1'] at zy
   have qF:(Value.slice a1' (qq L1 p) cf1).ownBlock≠some gp1:=fun e=>by
    have:=zy gp1 e
    rw[hρp1] at this
    cases this
   have HP:Hid (Calls Tryz.prog 213 #[zJ gp1 (op1+p * 2),.agg #[zJ (P.D k) 0,zI (-1)]] wc.drew fun e w'=>e=.returned (.tuple #[])/\∃F',Goes B (zu ρ1 wc .other) wc.drew w' {P with F:=F',vo:=vo1,L:=KH L1 p k}):=by
    refine(zfr (d:=P.D k) (x:=-1) zT q1 y1 qF (by show B<=wc.heap.size;omega) (by omega)).mono ?_
    rintro e w' ⟨rfl,hp⟩
    exact⟨rfl,hd.pushed (by show B<=wc.heap.size;omega) UD zbi hF1 hgp1 hBp1 hρp1 hp⟩
   have HC2:Hid (Ch (fun r=>r≠.other) ρ (zu ρ1 wc .other) w wc.drew/\Below B w wc.drew):=⟨c1.trans (Ch.drew wc ρ1),b1.drew⟩
   clear hd h1 c1 b1 za8 zT zy hF1 hF1' q0 q1 y0 y1 zbi qF
   go_upto_region 2 with fail
   go_region_law ((go_simp;go_at_call 213;refine HP.out.mono ?_;rintro e w2 ⟨rfl,hG⟩))
   all_goals
    obtain⟨F2,hG⟩:=hG
    have HG:Hid (Goes B (zu ρ1 wc .other) wc.drew w2 {P with F:=F2,vo:=vo1,L:=KH L1 p k}):=hG
    clear hG
    go_wp2
    exact bodyPost_end (results_none rfl _ _ _) rfl ⟨rfl,_,_,by rw[hpk.out];exact Goes.trans HC2.out.1 HC2.out.2 HG.out⟩
theorem pop_m {w:World} {gp o gf of m cf d:Nat} {v0:Value} {x:Int} (p0:w.cell? (zH gp o)=some v0) (_hv0:v0.oneCell'=true) (p1:w.cell? (zH gp (o+1))=some (zK gf of (m+1) cf)) (z1:w.frozen? (zH gp (o+1))=false)
 (c0:w.cell? (zH gf (of+m * 2))=some (zJ d 0)) (c1:w.cell? (zH gf (of+m * 2+1))=some (zI x)) (hm:m<=100000) (hc:m<=cf) :
 Calls Tryz.prog 216 #[zJ gp o] w fun e w'=>e=.returned (.agg #[zJ d 0,zI x])/\∃W0,zO w W0/\Below w.heap.size (W0.setCell (zH gp (o+1)) (zK gf of m cf)) w':=by
 have Qh:IntKind.i64.wrap (m:Int)=(m:Int):=by rw[IntKind.wrap_i64];omega
 have Jb:gp<w.heap.size:=World.block_lt_of_cell? _ _ p1
 have HT:Hid (∀W,zO w W->Calls Tryz.prog 219 #[.agg #[v0,zK gf of (m+1) cf]] W fun e w'=>e=.returned (.agg #[zJ d 0,zI x])/\zO W w'):=fun W hW=>zfi v0 gf of m cf d x W (zc hW c0) (zc hW c1) hm
 clear c0 c1
 go_enter Tryz.func216,Tryz.ntmps216
 go_upto_region 1 with fail
 refine ym (fun W=>zO w W/\W.heap.size=w.heap.size+1/\Bx W w.heap.size 145 [.pointer none,.int .i64 0]) ⟨zR _ _,by simp,Bx.new _ _ _⟩ ?_
 rintro W ⟨hbW,ZQ,y⟩
 have q0:=zc hbW p0
 have q1:=zc hbW p1
 have HC:=HT.out W hbW
 go_upto_region 2 with(go_at_call 219;refine HC.mono ?_;rintro e w2 ⟨rfl,b2⟩)
 have z2:=b2.size
 refine ym (fun X=>zO w X/\X.heap.size=w2.heap.size+1/\Bx X w.heap.size 145 [.pointer none,.int .i64 0]/\Bx X w2.heap.size 145 [.pointer (some ⟨d,0,none⟩),.int .i64 x]) ⟨(hbW.trans (b2.mono (by omega))).alloc (by omega) _,by simp,(y.below b2).alloc _,Bx.new _ _ _⟩ ?_
 rintro X ⟨bX,zX,yX,uX⟩
 have zz:=bX.size
 have r1:=zc bX p1
 have rz:X.frozen? (zH gp (o+1))=false:=(World.frozen?_of_block (a:=⟨gp,o+1,none⟩) (bX.block gp Jb)).trans z1
 clear q0 q1 HC HT b2 hbW y p0 p1 z1
 go_region_law (fail)
 all_goals
  go_upto_region 3 with fail
  refine ym (fun Y=>Below w.heap.size (X.setCell (zH gp (o+1)) (zK gf of m cf)) Y/\Bx Y w.heap.size 145 [.pointer none,zI 0]/\Bx Y w2.heap.size 145 [zJ d 0,zI x]) ⟨zS.drew,(yX.other (by omega) _).drew,(uX.other (by omega) _).drew⟩ ?_
  rintro Y ⟨bY,yY,uY⟩
  have s0:=yY.cell 0 rfl
  have s1:=yY.cell 1 rfl
  have sf0:=yY.frozen 0
  have sf1:=yY.frozen 1
  have t0:=uY.cell 0 rfl
  have t1:=uY.cell 1 rfl
  go_wp2_with fail
  refine xU (fun Z=>Below w.heap.size (X.setCell (zH gp (o+1)) (zK gf of m cf)) Z/\Bx Z w.heap.size 145 [zJ d 0,zI x]) ⟨(bY.setCell (p:=zH w.heap.size 0) zD _).setCell (p:=zH w.heap.size 1) zD _,(yY.set 0 _).set 1 _⟩ ?_
  rintro Z ⟨bZ,yZ⟩
  have e0:=yZ.cell 0 rfl
  have e1:=yZ.cell 1 rfl
  exact bodyPost_ret (v:=.agg #[zJ d 0,zI x]) (by simp[results,Tryz.results216,go_sem,e0,e1]) rfl ⟨rfl,X,bX,bZ⟩
theorem yg.front {B sz n m g off cap:Nat} {w:World} {xs ys:List Value} (h:yg B sz w (zK g off n cap) n xs) (hm:m<=n) (hl:ys.length=m * sz) (hy:∀i,(hi:i<ys.length)->xs[i]?=some ys[i]):yg B sz w (zK g off m cap) m ys:=by
 refine⟨hl,.inr ?_⟩
 rcases h.2 with⟨e,_⟩ | ⟨g',o',c',e,hB,hg,hnc,hc,hsp,hx⟩
 ·cases e
 ·cases e
  refine⟨g,off,cap,rfl,hB,hg,by omega,hc,hsp,fun i hi=>?_⟩
  obtain⟨hi',e⟩:=List.getElem?_eq_some_iff.1 (hy i hi)
  rw[hx i hi',e]
theorem Vb (D:Nat->Nat) (fs:List ki) (i:Nat) (hi:i<(cells2 (yk D fs.dropLast)).length):(cells2 (yk D fs))[i]?=some (cells2 (yk D fs.dropLast))[i]:=by
 rcases List.eq_nil_or_concat fs with e | ⟨l,x,e⟩
 ·subst e
  simp[yk,cells2] at hi
 ·have e':fs=l ++ [x]:=by rw[e,List.concat_eq_append]
  subst e'
  have e2:(l ++ [x]).dropLast=l:=by simp
  simp only[e2] at hi ⊢
  rw[Q4,List.getElem?_append_left hi,List.getElem?_eq_getElem hi]
theorem yj.loose {B:Nat} {ρ ρ':Nat->Rl} {w w':World} {P:Lay} (h:yj B ρ w P) (c:Ch (fun r=>r=.other) ρ ρ' w w'):yj B ρ' w' P:=fun r=>by
 cases r with
 | other=>trivial
 | _=>exact Lay.it_keep (h _) c (by simp)
theorem yj.popped {B:Nat} {ρ:Nat->Rl} {w w' W0:World} {P:Lay} (h:yj B ρ w P) (hB:B<=w.heap.size) {i m:Nat} (hi:i<P.L.zd.length) {gp op cp gf of cf:Nat} (qI:P.vp=zK gp op P.L.zd.length cp) (hF:P.F i=zK gf of (m+1) cf) (hm:qq P.L i=m+1) (Jb:gp<w.heap.size) (Ve:B<=gp) (hρ:ρ gp=.zd)
 (b0:zO w W0) (b1:Below w.heap.size (W0.setCell (zH gp (op+i * 2+1)) (zK gf of m cf)) w') :
 ∃F',Goes B ρ w w' {P with F:=F',L:={P.L with zd:=P.L.zd.set i ⟨P.L.zd[i].base,P.L.zd[i].zh.dropLast⟩}}:=by
 have hfr:=(h (.zh i)) hi
 have hn:=kF hi
 rw[hF] at hfr
 have z0:=b0.size
 have c0:Ch (fun r=>r=.zh i) ρ (zu ρ w .other) w W0:=Ch.below b0 _ ρ .other
 have zT:yg B 2 W0 (zK gf of (m+1) cf) (m+1) (cells2 (yk P.D P.L.zd[i].zh)):=by
  have:=hfr.1.below b0
  rw[<-hn,hm] at this
  exact this
 have hl:P.L.zd[i].zh.dropLast.length=m:=by rw[List.length_dropLast,<-hn,hm,Nat.add_sub_cancel]
 have hlen:(cells2 (yk P.D P.L.zd[i].zh.dropLast)).length=m * 2:=by rw[Qd];simp[yk];omega
 have hr':yg B 2 W0 (zK gf of m cf) P.L.zd[i].zh.dropLast.length (cells2 (yk P.D P.L.zd[i].zh.dropLast)):=by
  rw[hl]
  exact zT.front (by omega) hlen fun q hq=>Vb _ _ q hq
 have S:=h.setFrames hi c0 hr' (fun g e=>by rw[yG (hfr.1.lt g e).2];exact hfr.2 g e) qI
 have zs:(W0.setCell (zH gp (op+i * 2+1)) (zK gf of m cf)).heap.size=W0.heap.size:=by simp
 have Xw:∀g,g<W0.heap.size->zu (zu ρ w .other) W0 .other g≠.other->g<w.heap.size:=fun g hg hr=>by
  rw[yG hg] at hr
  exact Classical.byContradiction fun hc=>hr (qj (by omega))
 have c1:Ch (fun r=>r=.other) (zu (zu ρ w .other) W0 .other) (zu (zu (zu ρ w .other) W0 .other) (W0.setCell (zH gp (op+i * 2+1)) (zK gf of m cf)) .other) (W0.setCell (zH gp (op+i * 2+1)) (zK gf of m cf)) w' :=
  ⟨b1.size,fun g hg=>yG hg,fun g hg hr=>b1.block g (Xw g (by omega) hr)⟩
 have hb:Below B w w':=((b0.mono hB).setCell (p:=zH gp (op+i * 2+1)) Ve _).trans (b1.mono hB)
 have C:Ch (fun r=>r≠.other) ρ (zu (zu (zu ρ w .other) W0 .other) (W0.setCell (zH gp (op+i * 2+1)) (zK gf of m cf)) .other) w w':=by
  refine⟨hb.size,fun g hg=>?_,fun g hg hr=>?_⟩
  ·rw[yG (by omega),yG (by omega),yG hg]
  ·have qF:g≠gp:=fun e=>by subst e;rw[hρ] at hr;simp at hr
   rw[b1.block g hg,Below.heap_setCell _ _ _ _ qF,b0.block g hg]
 exact⟨_,_,S.loose c1,C,hb⟩
theorem yj.look {B:Nat} {ρ:Nat->Rl} {w:World} {P:Lay} (h:yj B ρ w P) {j:Nat} {t:kN} (hj:P.L.ze[j]?=some t) :
 (Instr.lookup 115 (.map (some P.bm)) (zI (j:Int)) false).run Tryz.prog w=.ok (.agg #[zI t.page,zI t.place,zJ (P.D t.body) 0,zI t.zi]) w:=by
 obtain⟨hjl,rfl⟩:=List.getElem?_eq_some_iff.1 hj
 have hlk:=xl.look (P:=Tryz.prog) (t:=115) (kt:=3) (et:=143) (by kernel_rfl) (by kernel_rfl) (h .ze).1 (k:=j) (by simpa using hjl)
 have hval:(P.L.ze.map (xG P.D))[j]'(by simpa using hjl)=xG P.D P.L.ze[j]:=by simp
 rw[hval] at hlk
 exact hlk
theorem WR {B:Nat} {ρ:Nat->Rl} {w:World} {P:Lay} (h:yj B ρ w P) (hB:B<=w.heap.size) (ho:qU P.L) {i:Nat} (hn:P.L.now=(i:Int)) (hi:i<P.L.zd.length) (hf:qq P.L i=0) (hpl:P.L.zd.length<=900) (htl:P.L.ze.length<=900)
 (hbs:us P.L.ze.length (yw P.L i)) (xE:∀(j:Nat) (t:kN),P.L.ze[j]?=some t->t.page=-1\/∃q:Nat,t.page=(q:Int)/\q<P.L.zd.length) :
 Calls Tryz.prog 218 #[zJ P.bl 0] w fun e w'=>e=.returned (.tuple #[])/\∃F' uP,Goes B ρ w w' {P with F:=F',vo:=uP,L:=qR P.L i}:=by
 obtain⟨gp,op,cp,a,cf,qI,hF,p0,p1,z0,z1,Ve,hρp,Jb⟩:=h.pgAt hi
 have hbx:=h.box
 rw[qI,hn] at hbx
 have x1:=hbx.cell 1 rfl
 have x3:=hbx.cell 3 rfl
 have hiz:(i:Int)<(P.L.zd.length:Int):=by omega
 have HL:Hid (yj B ρ w P):=h
 have hemp:P.L.zd[i].zh=[]:=List.eq_nil_of_length_eq_zero (by rw[<-kF hi];exact hf)
 have hbl:Hid (yM P.L i (-1)={P.L with zd:=P.L.zd.set i ⟨-1,P.L.zd[i].zh⟩}):=by
  show yM P.L i (-1)=_
  unfold yM
  rw[hemp]
 have HVP:Hid (P.vp=zK gp op P.L.zd.length cp):=qI
 have HGP:Hid (B<=gp/\ρ gp=.zd/\gp<w.heap.size):=⟨Ve,hρp,Jb⟩
 have HH:Hid (qU P.L/\P.L.now=(i:Int)/\P.L.zd.length<=900/\P.L.ze.length<=900/\us P.L.ze.length (yw P.L i)/\∀(j:Nat) (t:kN),P.L.ze[j]?=some t->t.page=-1\/∃q:Nat,t.page=(q:Int)/\q<P.L.zd.length):=⟨ho,hn,hpl,htl,hbs,xE⟩
 obtain⟨b0,Uy⟩:∃b0,yw P.L i=b0:=⟨_,rfl⟩
 have HB0:Hid (yw P.L i=b0):=Uy
 rw[Uy] at p0
 clear h hbx ho hn hf hpl htl hbs xE qI hF Ve hρp Jb hemp Uy
 go_enter Tryz.func218,Tryz.ntmps218
 go_upto_region 0 with fail
 go_cut [2] (fun v wx=>v=zI b0/\zO w wx)
 case first =>
  go_region_law (fail)
  all_goals
   go_wp2_with fail
   go_meet
   exact⟨rfl,zS.drew⟩
 case rest =>
  obtain⟨rfl,qa⟩:=hcut
  have h1:=HL.out.below qa
  have xF:=qa.size
  have p1':=zc qa p0
  have z1':wc.frozen? (zH gp (op+i * 2))=false:=(World.frozen?_of_block (a:=⟨gp,op+i * 2,none⟩) (qa.block gp HGP.out.2.2)).trans z0
  have x1':=zc qa x1
  have x3':=zc qa x3
  have HE:Hid (∃F1,Goes B ρ w (wc.setCell (zH gp (op+i * 2)) (zI (-1))).drew {P with F:=F1,L:=yM P.L i (-1)}):=by
   have S:=h1.setBase hi HVP.out (-1)
   have c1:Ch (fun r=>r≠.other) ρ (zu ρ w .other) w wc:=Ch.below qa _ ρ .other
   have C:=(c1.trans (Ch.grown (xj wc gp (op+i * 2) (zI (-1))) (zu ρ w .other) .other fun q e=>by cases e;rw[yG HGP.out.2.2,HGP.out.2.1];simp)).trans (Ch.drew _ _)
   have hbb:Below B w (wc.setCell (zH gp (op+i * 2)) (zI (-1))).drew:=((qa.mono hB).setCell (p:=zH gp (op+i * 2)) HGP.out.1 _).drew
   refine⟨fun k=>if k=i then P.F i else P.F k,_,?_,C,hbb⟩
   rw[hbl.out]
   exact S.below zS.drew
  clear h1 p0 z0 p1 z1 x1 x3
  go_upto_region 1 with fail
  go_cut [] (fun wy=>∃F1,Goes B ρ w wy {P with F:=F1,L:=yM P.L i (-1)})
  case first =>
   go_region_law (fail)
   all_goals
    go_wp2_with fail
    go_meet
    exact HE.out
  case rest =>
   obtain⟨F1,ρ1,h1,c1,b1⟩:=hcut
   have kf:=b1.size
   have hbx:Bx wc P.bl 117 _:=h1.box
   have y3:wc.cell? (zH P.bl 3)=some (zI P.L.now):=hbx.cell 3 rfl
   rw[HH.out.2.1] at y3
   have y4:wc.cell? (zH P.bl 4)=some (.map (some P.bm)):=hbx.cell 4 rfl
   have f3:=hbx.frozen 3
   by_cases Uy:b0=-1
   ·have HG:Hid (Goes B ρ w (wc.setCell (zH P.bl 3) (zI (-1))) {P with F:=F1,L:=qR P.L i}):=by
     have hlv:qR P.L i={yM P.L i (-1) with now:=-1}:=by
      unfold qR
      rw[if_pos (HB0.out.trans Uy)]
     rw[hlv]
     exact⟨ρ1,h1.setNow (-1),c1.trans (Ch.set wc ρ1 P.bl 3 _ (by rw[(h1 .live).2.1];simp)),b1.setCell (p:=zH P.bl 3) (h1 .live).2.2 _⟩
    subst Uy
    clear h1 c1 b1 hbx y4
    go_wp2
    exact bodyPost_ret (results_none rfl _ _ _) rfl ⟨rfl,F1,P.vo,HG.out⟩
   ·obtain⟨ho,hn,hpl,htl,hbs,xE⟩:=HH.out
    rw[HB0.out] at hbs
    rcases hbs with e | ⟨j,e,hj⟩
    ·exact absurd e Uy
    ·subst e
     obtain⟨t,ht⟩:∃t,P.L.ze[j]?=some t:=⟨_,List.getElem?_eq_getElem hj⟩
     have hlk:=h1.look (j:=j) (t:=t) ht
     have hft:=Tryz.twin0
     have hjne:(j:Int)≠-1:=by omega
     have hjb:((j:Int) == -1)=false:=by simp
     have HG1:Hid (yj B ρ1 wc {P with F:=F1,L:=yM P.L i (-1)}/\Ch (fun r=>r≠.other) ρ ρ1 w wc/\Below B w wc):=⟨h1,c1,b1⟩
     have hlv:Hid (qR P.L i=if t.page=-1 then uh (JG (yM P.L i (-1)) i j t) i else uh (yM P.L i (-1)) t.page.toNat):=by
      show qR P.L i=_
      unfold qR
      rw[if_neg (by rw[HB0.out];exact Uy),HB0.out,Int.toNat_natCast,show(yM P.L i (-1)).ze[j]?=some t from ht]
     have HO1:Hid (qU (yM P.L i (-1))/\(yM P.L i (-1)).zd.length=P.L.zd.length):=by
      have e:=(vE (L:=P.L) i (-1)).pl
      refine⟨?_,e⟩
      unfold qU
      rw[e]
      exact ho
     have HPG:Hid (P.L.zd.length<=900/\(t.page=-1\/∃q:Nat,t.page=(q:Int)/\q<P.L.zd.length)):=⟨hpl,xE j t ht⟩
     clear h1 c1 b1 hbx ho hn hpl htl xE
     by_cases htp:t.page=-1
     ·have HP:=zc1 HG1.out.1 (by omega) i (by rw[HO1.out.2];exact hi) j hj t (by obtain⟨_,e⟩:=List.getElem?_eq_some_iff.1 ht;exact e)
      rw[htp] at hlk
      go_wp2_with fail
      refine HP.mono ?_
      rintro e w2 ⟨rfl,ρ2,F2,h2,c2,b2⟩
      have K5:=c2.size
      have h2':yj B ρ2 w2 {P with F:=F2,L:=JG (yM P.L i (-1)) i j t}:=h2
      have WD:(JG (yM P.L i (-1)) i j t).ze[j]?=some ⟨(i:Int),0,t.body,0⟩:=by
       show(P.L.ze.set j _)[j]?=_
       rw[List.getElem?_set_self hj]
      have hlk2:=h2'.look (j:=j) WD
      have y42:w2.cell? (zH P.bl 4)=some (.map (some P.bm)):=h2'.box.cell 4 rfl
      have HR:=UX h2' (by omega) (by
       have:=HO1.out.1
       unfold qU at this ⊢
       show(yM P.L i (-1)).order.Perm ((List.range ((yM P.L i (-1)).zd.set i _).length).map _)
       rw[List.length_set]
       exact this) (i:=i) (by show i<((yM P.L i (-1)).zd.set i _).length;rw[List.length_set,HO1.out.2];exact hi) (by show((yM P.L i (-1)).zd.set i _).length<=900;rw[List.length_set,HO1.out.2];exact HPG.out.1)
      have HC2:Hid (Ch (fun r=>r≠.other) ρ ρ2 w w2/\Below B w w2):=⟨HG1.out.2.1.trans c2,HG1.out.2.2.trans b2⟩
      clear h2 h2' c2 b2 hlk HP y4 y3
      go_wp2_with fail
      refine HR.mono ?_
      rintro e w3 ⟨rfl,vo3,hG⟩
      have HG3:Hid (Goes B ρ2 w2 w3 {P with F:=F2,vo:=vo3,L:=uh (JG (yM P.L i (-1)) i j t) i}):=hG
      clear hG HR
      go_wp2
      exact bodyPost_end (results_none rfl _ _ _) rfl ⟨rfl,F2,vo3,by rw[hlv.out,if_pos htp];exact Goes.trans HC2.out.1 HC2.out.2 HG3.out⟩
     ·rcases HPG.out.2 with e | ⟨q,e,hq⟩
      ·exact absurd e htp
      ·have HR:=UX HG1.out.1 (by omega) HO1.out.1 (i:=q) (by rw[HO1.out.2];exact hq) (by rw[HO1.out.2];exact HPG.out.1)
       rw[e] at hlk
       have hqne:(q:Int)≠-1:=by omega
       have hqb:((q:Int) == -1)=false:=by simp
       go_wp2_with fail
       refine HR.mono ?_
       rintro e3 w3 ⟨rfl,vo3,hG⟩
       have HG3:Hid (Goes B ρ1 wc w3 {P with F:=F1,vo:=vo3,L:=uh (yM P.L i (-1)) q}):=hG
       clear hG HR
       go_wp2
       exact bodyPost_end (results_none rfl _ _ _) rfl ⟨rfl,F1,vo3,by rw[hlv.out,if_neg htp,e,Int.toNat_natCast];exact Goes.trans HG1.out.2.1 HG1.out.2.2 HG3.out⟩
end Go.Proofs.YtbjgjjkgfnfejaaGreatDoor

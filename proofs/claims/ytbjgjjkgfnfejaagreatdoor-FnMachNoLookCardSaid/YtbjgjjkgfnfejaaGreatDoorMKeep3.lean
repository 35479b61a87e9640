/-
  A machine at work is handed out: a call, the frames of a page.
-/
import Derived.Test.YtbjgjjkgfnfejaaGreatDoorMKeep2
namespace Go.Proofs.YtbjgjjkgfnfejaaGreatDoor
set_option maxHeartbeats 4000000
set_option maxRecDepth 100000
open Go.RowKit
theorem Xm {sz:Nat} {f:Nat->List Value} (hf:∀i,(f i).length=sz):∀(n i c:Nat),i<n->c<sz->((List.range n).flatMap f)[i * sz+c]?=(f i)[c]?
 | 0,_,_,h,_=>absurd h yB
 | n+1,i,c,h,hc=>by
  have hl:((List.range n).flatMap f).length=n * sz:=by
   clear h
   induction n with
   | zero=>simp
   | succ n ih=>rw[List.range_succ,List.flatMap_append,List.length_append,ih];simp[hf];rw[Nat.succ_mul]
  rw[List.range_succ,List.flatMap_append]
  by_cases e:i=n
  ·subst e
   rw[List.getElem?_append_right (by rw[hl];omega),hl]
   simp
  ·have h1:i * sz+c<n * sz:=by
    have:(i+1) * sz<=n * sz:=Nat.mul_le_mul_right _ (by omega)
    rw[Nat.succ_mul] at this
    omega
   rw[List.getElem?_append_left (by rw[hl];exact h1)]
   exact Xm hf n i c (by omega) hc
theorem ZJ (f:Nat->List Value) (n:Nat):(List.range (n+1)).flatMap f=(List.range n).flatMap f ++ f n:=by simp[List.range_succ]
theorem yj.lists {B:Nat} {ρ:Nat->Rl} {w:World} {P:Lay} (h:yj B ρ w P) {k:Nat} (hk:k<P.L.zj.length):∃a1 c1 a2 c2,P.T k=(.slice a1 P.L.zj[k].zh.length c1,.slice a2 P.L.zj[k].zf.length c2):=by
 obtain⟨a1,c1,e1,_⟩:=(h (.zh k) hk).1.slice
 obtain⟨a2,c2,e2,_⟩:=(h (.zf k) hk).1.slice
 exact⟨a1,c1,a2,c2,Prod.ext e1 e2⟩
theorem VW {d:Nat} {b:jg} {a1 a2:Option Addr} {n1 n2 c1 c2:Nat} (s:Int) (w:World) (hb:Bx w d 186 (xA (.slice a1 n1 c1,.slice a2 n2 c2) b)) :
 Calls Tryz.prog 89 #[zJ d 0,zI s] w fun e w'=>e=.returned (.agg #[zI b.m,zI b.pc,.slice a1 n1 c1,.slice a2 n2 c2,zI s,.bool b.zy])/\zO w w':=by
 unfold xA at hb
 have x0:=hb.cell 0 rfl
 have x1:=hb.cell 1 rfl
 have x2:=hb.cell 2 rfl
 have x3:=hb.cell 3 rfl
 have x4:=hb.cell 4 rfl
 have hdl:=hb.lt
 go_enter Tryz.func89,Tryz.ntmps89
 go_upto_region 1 with fail
 refine yg (fun W=>zO w W/\Bx W w.heap.size 96 [.int .i64 0,.int .i64 0,.slice none 0 0,.slice none 0 0,.int .i64 0,.bool false]/\Bx W d 186 [.int .i64 b.m,.int .i64 b.pc,.slice a1 n1 c1,.slice a2 n2 c2,.bool b.zy]) ⟨zR _ _,Bx.new _ _ _,hb.alloc _⟩ ?_
 rintro W ⟨hbW,y,hx⟩
 clear x0 x1 x2 x3 x4
 have x0:=hx.cell 0 rfl
 have x1:=hx.cell 1 rfl
 have x2:=hx.cell 2 rfl
 have x3:=hx.cell 3 rfl
 have x4:=hx.cell 4 rfl
 have y0:=y.cell 0 rfl
 have y1:=y.cell 1 rfl
 have y2:=y.cell 2 rfl
 have y3:=y.cell 3 rfl
 have y4:=y.cell 4 rfl
 have y5:=y.cell 5 rfl
 have f0:=y.frozen 0
 have f1:=y.frozen 1
 have f2:=y.frozen 2
 have f3:=y.frozen 3
 have f4:=y.frozen 4
 have f5:=y.frozen 5
 have hz:=hbW.size
 go_region
 all_goals
  go_wp2
  refine xW (fun W'=>zO w W'/\Bx W' w.heap.size 96 [zI b.m,zI b.pc,.slice a1 n1 c1,.slice a2 n2 c2,zI s,.bool b.zy])
   ⟨((((((hbW.setCell (p:=zH w.heap.size 0) zD _).setCell (p:=zH w.heap.size 1) zD _).setCell (p:=zH w.heap.size 2) zD _).setCell (p:=zH w.heap.size 3) zD _).setCell (p:=zH w.heap.size 4) zD _).setCell (p:=zH w.heap.size 5) zD _).drew,
    ((((((y.set 0 _).set 1 _).set 2 _).set 3 _).set 4 _).set 5 _).drew⟩ ?_
  rintro W9 ⟨hb9,r⟩
  have r0:=r.cell 0 rfl
  have r1:=r.cell 1 rfl
  have r2:=r.cell 2 rfl
  have r3:=r.cell 3 rfl
  have r4:=r.cell 4 rfl
  have r5:=r.cell 5 rfl
  exact bodyPost_ret (v:=.agg #[zI b.m,zI b.pc,.slice a1 n1 c1,.slice a2 n2 c2,zI s,.bool b.zy]) (by simp[results,Tryz.results89,go_sem,r0,r1,r2,r3,r4,r5]) rfl ⟨rfl,hb9⟩
def wH (P:Lay) (fs:List jV) (q:Nat):List Value :=
 [zI (P.L.zj.getD (fs.getD q ⟨0,-1⟩).body jg.none).m,zI (P.L.zj.getD (fs.getD q ⟨0,-1⟩).body jg.none).pc,zI (fs.getD q ⟨0,-1⟩).twin,(P.T (fs.getD q ⟨0,-1⟩).body).1,(P.T (fs.getD q ⟨0,-1⟩).body).2]
theorem zdH (P:Lay) (fs:List jV) (q:Nat):(wH P fs q).length=5:=rfl
theorem Tryz.infoFrameO:(Tryz.prog.info? 75).map (fun i=>(i.zero,i.size,i.bytes))=some (some (.agg #[zI 0,zI 0,zI 0,zQ,zQ]),5,72):=by kernel_rfl
theorem WS {B:Nat} {ρ:Nat->Rl} {w:World} {P:Lay} (h:yj B ρ w P) (hwf:P.L.wf) (i:Nat) (hi:i<P.L.za.length) (base:Int) (zb9:P.L.za[i].zg.length<=1000) :
 Calls Tryz.prog 88 #[.agg #[zI base,P.F i]] w fun e w'=>∃v',e=.returned v'/\ym w.heap.size 5 w' v' P.L.za[i].zg.length ((List.range P.L.za[i].zg.length).flatMap (wH P P.L.za[i].zg))/\zO w w':=by
 have HL:Hid (yj B ρ w P):=h
 have HW:=hwf.fr i hi
 obtain⟨fs,hfs⟩:∃fs,P.L.za[i].zg=fs:=⟨_,rfl⟩
 have yd:=(h (.zg i) hi).1
 rw[hfs] at yd zb9 HW ⊢
 have HWF:Hid (∀k,(hk:k<fs.length)->fs[k].body<P.L.zj.length):=fun k hk=>by
  have e:=hfs
  subst e
  exact hwf.fr i hi k hk
 clear HW hfs
 obtain⟨aF,cF,hvF⟩:=yd.slice
 obtain⟨hvF,hmF⟩:=hvF
 rw[hvF] at yd ⊢
 obtain⟨i0,hii,jM,xP,vJ⟩:=info_parts Tryz.infoFrameO
 clear h hwf
 go_enter Tryz.func88,Tryz.ntmps88
 go_upto_region 1 with fail
 refine yg (fun W=>zO w W/\Bx W w.heap.size 139 [.int .i64 base,.slice aF fs.length cF]) ⟨zR _ _,Bx.new _ _ _⟩ ?_
 rintro W ⟨hbW,y⟩
 have y1:=y.cell 1 rfl
 have J7:=hbW.size
 go_wp2_with fail
 go_loopg [3,5,9] fs.length (fun d v _ q wr=>∃k:Nat,k<=fs.length/\d=fs.length - k/\q=zI (k:Int)/\ym w.heap.size 5 wr v k ((List.range k).flatMap (wH P fs))/\zO w wr)
 case atStart=>exact⟨0,Nat.zero_le _,rfl,rfl,ym.nil _ _ _,hbW⟩
 case round =>
  obtain⟨k,hk,rfl,rfl,hv,hbr⟩:=hrel
  obtain⟨av,cv,hve,hmv⟩:=hv.slice
  subst hve
  have zr:=hbr.size
  by_cases yt:k<fs.length
  ·obtain⟨gf,of,cf,hform,_,_⟩:=yd.form (by omega)
   cases hform
   have v7:(k:Int)<(fs.length:Int):=by omega
   obtain⟨q0,q1⟩:=vu (yk P.D fs) k (by simp[yk];exact yt)
   have e0:(yk P.D fs)[k]'(by simp[yk];exact yt)=(zJ (P.D fs[k].body) 0,zI fs[k].twin):=by simp[yk]
   rw[e0] at q0 q1
   have c0:=zc hbr (yd.cell q0).1
   have c1:=zc hbr (yd.cell q1).1
   rw[<-Nat.add_assoc] at c1
   have hbk:=HWF.out k yt
   obtain⟨F,hF⟩:∃F,fs[k]=F:=⟨_,rfl⟩
   rw[hF] at c0 c1 hbk
   obtain⟨a1,k1,a2,k2,hT⟩:=HL.out.lists hbk
   have hbody:=(HL.out (.body F.body) hbk).1
   rw[hT] at hbody
   unfold xA at hbody
   obtain⟨b,hb⟩:∃b,P.L.zj[F.body]=b:=⟨_,rfl⟩
   rw[hb] at hbody hT
   have hfo:wH P fs k=[zI b.m,zI b.pc,zI F.twin,.slice a1 b.zh.length k1,.slice a2 b.zf.length k2]:=by
    unfold wH
    have h1:fs.getD k ⟨0,-1⟩=F:=by simp[yt,hF]
    have h2:P.L.zj.getD F.body jg.none=b:=by simp[hbk,hb]
    rw[h1,h2,hT]
   clear q0 q1 e0 hF hb hT hbk
   go_upto_region 5 with fail
   refine yg (fun W'=>zO wr W'/\Bx W' wr.heap.size 145 [.pointer (some ⟨P.D F.body,0,none⟩),.int .i64 F.twin]) ⟨zR _ _,Bx.new _ _ _⟩ ?_
   rintro W2 ⟨t2,y2⟩
   have yE:=hbr.trans (t2.mono zr)
   have z2:=yE.size
   have v2:=hv.below t2
   have hB2:=hbody.below yE
   have n0:=y2.cell 0 rfl
   have n1:=y2.cell 1 rfl
   have d0:=hB2.cell 0 rfl
   have d1:=hB2.cell 1 rfl
   have d2:=hB2.cell 2 rfl
   have d3:=hB2.cell 3 rfl
   clear c0 c1 t2
   have hblt:=hB2.lt
   have hylt:=y2.lt
   clear hv yd hbody
   refine Yd [[],[],[1],[1,2],[1,2,3],[1,2,3,4],[],[6],[6,7],[6,7,8],[6,7,8,9],[],[11],[],[13],[13,14],[13,14,15],[13,14,15,16],[],[18],[18,19],[18,19,20],[18,19,20,21],[1,2,3,4,5,6,7,8,9,10,11,12,13,14,15,16,17,18,19,20,21,22],[1,2,3,4,5,6,7,8,9,10,11,12,13,14,15,16,17,18,19,20,21,22,23],[0,1,2,3,4,5,6,7,8,9,10,11,12,13,14,15,16,17,18,19,20,21,22,23,24],[0,1,2,3,4,5,6,7,8,9,10,11,12,13,14,15,16,17,18,19,20,21,22,23,24,25]] [[0],[1],[2],[3],[4],[5],[6],[7],[8],[9],[10],[11],[12],[13],[14],[15],[16],[17],[18],[19],[20],[21],[22],[23],[24],[],[]] [[],[],[],[],[],[],[],[],[],[],[],[],[],[],[],[],[],[],[],[],[],[],[],[],[],[],[]] [jy (.slice av k cv),jy (zJ wr.heap.size 0),jy (zJ (P.D F.body) 0),jy (zJ (P.D F.body) 0),jy (zJ (P.D F.body) 0),jy (zI b.m),jy (zJ wr.heap.size 0),jy (zJ (P.D F.body) 0),jy (zJ (P.D F.body) 0),jy (zJ (P.D F.body) 1),jy (zI b.pc),jy (zJ wr.heap.size 1),jy (zI F.twin),jy (zJ wr.heap.size 0),jy (zJ (P.D F.body) 0),jy (zJ (P.D F.body) 0),jy (zJ (P.D F.body) 2),jy (.slice a1 b.zh.length k1),jy (zJ wr.heap.size 0),jy (zJ (P.D F.body) 0),jy (zJ (P.D F.body) 0),jy (zJ (P.D F.body) 3),jy (.slice a2 b.zf.length k2),jy (.agg #[zI b.m,zI b.pc,zI F.twin,.slice a1 b.zh.length k1,.slice a2 b.zf.length k2]),fGh 24 (fun(x:Nat) l=>l=[zK x 0 1 1]) (fun x w1=>∀j u,([zI b.m,zI b.pc,zI F.twin,.slice a1 b.zh.length k1,.slice a2 b.zf.length k2]:List Value)[j]?=some u->w1.cell? (zH x j)=some u),JD fun _=>True,JD fun _=>True] 25 1 rfl (by kernel_rfl) (by kernel_rfl) (by kernel_rfl) (by kernel_rfl) ?_ ?_
   ·refine zk (zk (zk (zk (zk (zk (zk (zk (zk (zk (zk (zk (zk (zk (zk (zk (zk (zk (zk (zk (zk (zk (zk (zk (zk (jE) ?_) ?_) ?_) ?_) ?_) ?_) ?_) ?_) ?_) ?_) ?_) ?_) ?_) ?_) ?_) ?_) ?_) ?_) ?_) ?_) ?_) ?_) ?_) ?_) ?_
    ·intro a w val own hB hf zE hk
     have s3:=hf.at (d:=3) (v:=.slice av k cv) (by kernel_rfl) rfl
     exact zF (v:=.slice av k cv) hB
    ·intro a w val own hB hf zE hk
     have s5:=hf.at (d:=5) (v:=zJ wr.heap.size 0) (by kernel_rfl) rfl
     exact zF (v:=zJ wr.heap.size 0) hB
    ·intro a w val own hB hf zE hk
     have s14:=zU hk 1 14
     have cn0:=zc hB n0
     exact zF (v:=zJ (P.D F.body) 0) hB
    ·intro a w val own hB hf zE hk
     have s15:=zU hk 2 15
     exact zF (v:=zJ (P.D F.body) 0) hB
    ·intro a w val own hB hf zE hk
     have s16:=zU hk 3 16
     exact zF (v:=zJ (P.D F.body) 0) hB
    ·intro a w val own hB hf zE hk
     have s17:=zU hk 4 17
     have cd0:=zc hB d0
     exact zF (v:=zI b.m) hB
    ·intro a w val own hB hf zE hk
     have s5:=hf.at (d:=5) (v:=zJ wr.heap.size 0) (by kernel_rfl) rfl
     exact zF (v:=zJ wr.heap.size 0) hB
    ·intro a w val own hB hf zE hk
     have s19:=zU hk 6 19
     have cn0:=zc hB n0
     exact zF (v:=zJ (P.D F.body) 0) hB
    ·intro a w val own hB hf zE hk
     have s20:=zU hk 7 20
     exact zF (v:=zJ (P.D F.body) 0) hB
    ·intro a w val own hB hf zE hk
     have s21:=zU hk 8 21
     exact zF (v:=zJ (P.D F.body) 1) hB
    ·intro a w val own hB hf zE hk
     have s22:=zU hk 9 22
     have cd1:=zc hB d1
     exact zF (v:=zI b.pc) hB
    ·intro a w val own hB hf zE hk
     have s5:=hf.at (d:=5) (v:=zJ wr.heap.size 0) (by kernel_rfl) rfl
     exact zF (v:=zJ wr.heap.size 1) hB
    ·intro a w val own hB hf zE hk
     have s24:=zU hk 11 24
     have cn1:=zc hB n1
     exact zF (v:=zI F.twin) hB
    ·intro a w val own hB hf zE hk
     have s5:=hf.at (d:=5) (v:=zJ wr.heap.size 0) (by kernel_rfl) rfl
     exact zF (v:=zJ wr.heap.size 0) hB
    ·intro a w val own hB hf zE hk
     have s26:=zU hk 13 26
     have cn0:=zc hB n0
     exact zF (v:=zJ (P.D F.body) 0) hB
    ·intro a w val own hB hf zE hk
     have s27:=zU hk 14 27
     exact zF (v:=zJ (P.D F.body) 0) hB
    ·intro a w val own hB hf zE hk
     have s28:=zU hk 15 28
     exact zF (v:=zJ (P.D F.body) 2) hB
    ·intro a w val own hB hf zE hk
     have s29:=zU hk 16 29
     have cd2:=zc hB d2
     exact zF (v:=.slice a1 b.zh.length k1) hB
    ·intro a w val own hB hf zE hk
     have s5:=hf.at (d:=5) (v:=zJ wr.heap.size 0) (by kernel_rfl) rfl
     exact zF (v:=zJ wr.heap.size 0) hB
    ·intro a w val own hB hf zE hk
     have s31:=zU hk 18 31
     have cn0:=zc hB n0
     exact zF (v:=zJ (P.D F.body) 0) hB
    ·intro a w val own hB hf zE hk
     have s32:=zU hk 19 32
     exact zF (v:=zJ (P.D F.body) 0) hB
    ·intro a w val own hB hf zE hk
     have s33:=zU hk 20 33
     exact zF (v:=zJ (P.D F.body) 3) hB
    ·intro a w val own hB hf zE hk
     have s34:=zU hk 21 34
     have cd3:=zc hB d3
     exact zF (v:=.slice a2 b.zf.length k2) hB
    ·intro a w val own hB hf zE hk
     have s18:=zU hk 5 18
     have s23:=zU hk 10 23
     have s25:=zU hk 12 25
     have s30:=zU hk 17 30
     have s35:=zU hk 22 35
     exact zF (v:=.agg #[zI b.m,zI b.pc,zI F.twin,.slice a1 b.zh.length k1,.slice a2 b.zf.length k2]) hB
    ·intro a w val own hB hf zE hk
     have s36:=zU hk 23 36
     refine Z6 (v:=.slice (some ⟨w.heap.size,0,none⟩) 1 1) (w':=w.alloc (.cells #[.int .i64 b.m,.int .i64 b.pc,.int .i64 F.twin,.slice a1 b.zh.length k1,.slice a2 b.zf.length k2] 75)) hB rfl rfl (by unfold execOp;go_simp) (zR _ _) ⟨w.heap.size,rfl,Made.new fun w1 _ _ hr=>?_⟩
     exact fun j u hu=>((Bx.new w 75 [.int .i64 b.m,.int .i64 b.pc,.int .i64 F.twin,.slice a1 b.zh.length k1,.slice a2 b.zf.length k2]).kept (hr _ zD (by simp))).cell j hu
   intro aE vI val own hB hf zE hk
   obtain⟨kb,H,eb,mb⟩:=hk 24 (by decide)
   have vb:=qI eb
   have s37:=kb 37 rfl
   rw[vb] at s37
   have mh:=mb.here hB
   have s13:=Z8 (hk 0 (by decide)) 13
   have hB0:zO W2 vI:=hB
   obtain⟨v',W3,hrun,qf,ko,_⟩:=vH (P:=Tryz.prog) (t:=76) (ty:=76) Tryz.underlying76 hii jM xP rfl (by omega) (v2.below hB0) [zI b.m,zI b.pc,zI F.twin,.slice a1 b.zh.length k1,.slice a2 b.zf.length k2] rfl (by intro u hu;simp at hu;rcases hu with rfl | rfl | rfl | rfl | rfl <;> rfl) H 1 mh (by omega) (Nat.le_trans z2 hB0.size)
   have qR:zO w W3:=(yE.trans (hB0.mono z2)).grown ko (Nat.le_trans z2 hB0.size) fun q e=>(v2.lt q e).1
   rw[<-hfo,<-ZJ] at qf
   obtain⟨a9,c9,hv9,_⟩:=qf.slice
   subst hv9
   have HE:Hid (ym w.heap.size 5 W3 (.slice a9 (k+1) c9) (k+1) ((List.range (k+1)).flatMap (wH P fs))/\zO w W3):=⟨qf,qR⟩
   clear qf ko qR hB0
   clear kb eb vb mb mh
   have hu:=ux hf [13,14,15,16,17,18,19,20,21,22,23,24,25,26,27,28,29,30,31,32,33,34,35,36,37] (by kernel_rfl)
   dsimp only at hu
   simp only[List.foldl_cons,List.foldl_nil,List.setIfInBounds_toArray,List.set_cons_succ,List.set_cons_zero] at hu
   rw[s13,s37] at hu
   generalize aE.tmps[14]?.getD undef=u14 at hu
   generalize aE.tmps[15]?.getD undef=u15 at hu
   generalize aE.tmps[16]?.getD undef=u16 at hu
   generalize aE.tmps[17]?.getD undef=u17 at hu
   generalize aE.tmps[18]?.getD undef=u18 at hu
   generalize aE.tmps[19]?.getD undef=u19 at hu
   generalize aE.tmps[20]?.getD undef=u20 at hu
   generalize aE.tmps[21]?.getD undef=u21 at hu
   generalize aE.tmps[22]?.getD undef=u22 at hu
   generalize aE.tmps[23]?.getD undef=u23 at hu
   generalize aE.tmps[24]?.getD undef=u24 at hu
   generalize aE.tmps[25]?.getD undef=u25 at hu
   generalize aE.tmps[26]?.getD undef=u26 at hu
   generalize aE.tmps[27]?.getD undef=u27 at hu
   generalize aE.tmps[28]?.getD undef=u28 at hu
   generalize aE.tmps[29]?.getD undef=u29 at hu
   generalize aE.tmps[30]?.getD undef=u30 at hu
   generalize aE.tmps[31]?.getD undef=u31 at hu
   generalize aE.tmps[32]?.getD undef=u32 at hu
   generalize aE.tmps[33]?.getD undef=u33 at hu
   generalize aE.tmps[34]?.getD undef=u34 at hu
   generalize aE.tmps[35]?.getD undef=u35 at hu
   generalize aE.tmps[36]?.getD undef=u36 at hu
   obtain rfl:=ZW hu (show aE.defers=[] from hf.defers)
   clear hu hk zE hf s13 s37
   refine jr (v:=.slice a9 (k+1) c9) (w':=W3) rfl rfl (vU rfl (by go_simp) (by go_simp) hrun) ?_
   simp only[Act.put]
   refine jr (v:=.slice a9 (k+1) c9) (w':=W3) rfl rfl (by unfold execOp;go_simp) ?_
   simp only[Act.put]
   clear hrun hB
   refine wG (fun W9=>ym w.heap.size 5 W9 (.slice a9 (k+1) c9) (k+1) ((List.range (k+1)).flatMap (wH P fs))/\zO w W9) HE.out ?_
   rintro W9 hW9
   clear HE
   go_wp2
   go_roundg (fs.length - (k+1))
   case measure=>omega
   case rel=>exact⟨k+1,by omega,rfl,by go_num,hW9.1,hW9.2⟩
  ·obtain rfl:k=fs.length:=by omega
   go_wp2
   go_ret
   exact⟨_,rfl,hv,hbr⟩
structure uu (L:yw):Prop where
 f:∀i,qv L i<=900
 p:L.za.length<=900
 t:L.zd.length<=900
theorem zf8 {L:yw} {k:Nat} (hk:k<L.order.length) {i:Nat} (hi:L.order[k]=(i:Int)) (h0:qv L i=0) (hno:∀j,(hj:j<k)->qv L (L.order[j]).toNat≠0):xG L=(L,i):=by
 have:L.order.find? (fun x=>decide (qv L x.toNat=0))=some (i:Int):=by
  rw[List.find?_eq_some_iff_getElem]
  refine⟨by simp[h0],k,hk,hi,fun j hj=>by simp[hno j hj]⟩
 unfold xG
 rw[this]
 simp
theorem zdI {L:yw} (hno:∀j,(hj:j<L.order.length)->qv L (L.order[j]).toNat≠0) {i:Nat} (hi:L.order.getD 0 0=(i:Int)):xG L=((jI L i).1,i):=by
 have:L.order.find? (fun x=>decide (qv L x.toNat=0))=none:=by
  rw[List.find?_eq_none]
  intro x hx
  obtain⟨j,hj,rfl⟩:=List.getElem_of_mem hx
  simp[hno j hj]
 unfold xG
 rw[this,hi]
 simp
theorem zgO {B:Nat} {ρ:Nat->Rl} {w:World} {P:Lay} (h:yj B ρ w P) (hB:B<=w.heap.size) {hp:Hp} (s:xE 0 0 P.L hp) (ho:xm P.L) (hpos:1<=P.L.za.length) (few:uu P.L) :
 Calls Tryz.prog 220 #[zJ P.bl 0] w fun e w'=>e=.returned (zI ((xG P.L).2:Int))/\∃F',Goes B ρ w w' {P with F:=F',L:=(xG P.L).1}:=by
 have hor:zL B w P.vo P.L.order:=(h .order).1
 obtain⟨ao,co,jw,_⟩:=hor.slice
 have hol:=ho.len
 have hol9:P.L.order.length<=900:=by rw[hol];exact few.p
 have hbx:=h.box
 rw[jw] at hor hbx
 have x2:=hbx.cell 2 rfl
 have jG:∃ap cp,P.vp=.slice ap P.L.za.length cp:=by
  obtain⟨gp,op,cp,_,_,hv,_⟩:=h.pgAt (i:=0) (by omega)
  exact⟨_,cp,hv⟩
 obtain⟨ap,cp,qz⟩:=jG
 rw[qz] at hbx
 have x1:=hbx.cell 1 rfl
 have HL:Hid (yj B ρ w P):=h
 have HFL:Hid (∀I,I<P.L.za.length->Calls Tryz.prog 68 #[zJ P.bl 0,zI (I:Int)] w fun e w'=>e=.returned (zI (jI P.L I).2)/\∃F',Goes B ρ w w' {P with F:=F',L:=(jI P.L I).1}):=fun I hI=>zf7 h hB s hI (by have:=few.f I;omega) (by have:=few.p;omega) (by have:=few.t;omega)
 have HO:Hid (xm P.L):=ho
 clear h hbx jw qz s ho
 go_enter Tryz.func220,Tryz.ntmps220
 go_wp2_with fail
 go_loopg [4,11] P.L.order.length (fun d _ q wr=>∃k:Nat,k<=P.L.order.length/\d=P.L.order.length - k/\q=zI (k:Int)/\wr=w/\∀j,(hj:j<P.L.order.length)->j<k->qv P.L (P.L.order[j]).toNat≠0)
 case atStart=>exact⟨0,Nat.zero_le _,rfl,rfl,rfl,fun j _ h=>absurd h yB⟩
 case round =>
  obtain⟨k,hk,rfl,rfl,hw,hno⟩:=hrel
  subst hw
  have HNO:Hid (∀j,(hj:j<P.L.order.length)->j<k->qv P.L (P.L.order[j]).toNat≠0):=hno
  clear hno
  by_cases yt:k<P.L.order.length
  ·obtain⟨i,hi',hi⟩:=HO.out.mem.1 (List.getElem_mem yt)
   obtain⟨gp,op,cp2,a,cf,J6,_,p0,p1,_,_,_,_,_⟩:=HL.out.pgAt hi
   have ZH:wr.cell? (zH P.bl 1)=some P.vp:=HL.out.box.cell 1 rfl
   rw[J6] at ZH
   obtain⟨g1,o1,c1,e1,_,_⟩:=hor.form (by omega)
   obtain rfl:ao=some ⟨g1,o1,none⟩:=by injection e1
   clear e1 x1
   have d1:=(hor.cell (i:=k) yt).1
   rw[hi'] at d1
   have v7:(k:Int)<(P.L.order.length:Int):=by omega
   have hiz:(i:Int)<(P.L.za.length:Int):=by omega
   obtain⟨m,hm⟩:∃m,qv P.L i=m:=⟨_,rfl⟩
   have HM:Hid (qv P.L i=m):=hm
   have HI:Hid (P.L.order[k]=(i:Int)):=hi'
   rw[hm] at p1
   clear hm hi' hor J6
   by_cases h0:m=0
   ·subst h0
    have HE:Hid (xG P.L=(P.L,i)):=zf8 yt HI.out HM.out fun j hj=>HNO.out j (Nat.lt_trans hj yt) hj
    go_wp2
    go_ret
    rw[HE.out]
    exact⟨rfl,P.F,ρ,HL.out,Ch.refl _ _ _,zS⟩
   ·have hmz:¬((m:Int)=0):=by omega
    go_wp2
    go_roundg (P.L.order.length - (k+1))
    case measure=>omega
    case rel=>exact⟨k+1,by omega,rfl,by go_num,rfl,fun j hj hjk=>by
     by_cases e:j=k
     ·subst e;rw[HI.out,Int.toNat_natCast,HM.out];exact h0
     ·exact HNO.out j hj (by omega)⟩
  ·obtain rfl:k=P.L.order.length:=by omega
   have h00:0<P.L.order.length:=by omega
   obtain⟨i,hi',hi⟩:=HO.out.mem.1 (List.getElem_mem h00)
   obtain⟨g1,o1,c1,e1,_,_⟩:=hor.form h00
   obtain rfl:ao=some ⟨g1,o1,none⟩:=by injection e1
   clear e1
   have d1:=(hor.cell (i:=0) h00).1
   rw[hi',Nat.add_zero] at d1
   have HE:Hid (xG P.L=((jI P.L i).1,i)):=zdI (fun j hj=>HNO.out j hj hj) (by rw[List.getD_eq_getElem?_getD,List.getElem?_eq_getElem h00];exact hi')
   have hzz:(0:Int)<(P.L.order.length:Int):=by omega
   have v7:¬((P.L.order.length:Int)<(P.L.order.length:Int)):=by omega
   have HC:=HFL.out i hi
   clear HFL hi' hor x1
   go_wp2_with fail
   refine HC.mono ?_
   rintro e W2 ⟨rfl,F',hG⟩
   have HG:Hid (Goes B ρ wr W2 {P with F:=F',L:=(jI P.L i).1}):=hG
   clear hG HC
   go_wp2
   go_ret
   rw[HE.out]
   exact⟨rfl,F',HG.out⟩
theorem Ch.drew (w:World) (ρ:Nat->Rl):Ch (fun r=>r≠.other) ρ (zv ρ w .other) w w.drew:=Ch.below zS.drew _ ρ .other
theorem zdU {l:List Int} {i:Int}:∀j,(hj:j<l.length)->j<l.idxOf i->l[j]≠i:=fun j hj yt e=>by
 have:=List.not_of_lt_findIdx (p:=(· == i)) (xs:=l) (i:=j) yt
 simp[e] at this
theorem zaa {B:Nat} {ρ:Nat->Rl} {w:World} {P:Lay} (h:yj B ρ w P) (hB:B<=w.heap.size) (ho:xm P.L) {i:Nat} (hi:i<P.L.za.length) (few:P.L.za.length<=900) :
 Calls Tryz.prog 75 #[zJ P.bl 0,zI (i:Int)] w fun e w'=>e=.returned (.tuple #[])/\∃uV,Goes B ρ w w' {P with vo:=uV,L:=us P.L i}:=by
 have hm:=ho.mem.2 ⟨i,rfl,hi⟩
 have hk:=List.idxOf_lt_length_iff.2 hm
 refine(zef h hB (i:Int) (P.L.order.idxOf (i:Int)) hk (List.getElem_idxOf hk) zdU (by rw[ho.len];omega)).mono ?_
 rintro e w' ⟨rfl,ρ',uV,h',c',b'⟩
 exact⟨rfl,uV,ρ',h',c',b'⟩
theorem JU {B:Nat} {ρ:Nat->Rl} {w:World} {P:Lay} (h:yj B ρ w P) (hB:B<=w.heap.size) {i m:Nat} (hn:P.L.now=(i:Int)) (hm:qv P.L i=m+1) (few:uu P.L) :
 Calls Tryz.prog 215 #[zJ P.bl 0] w fun e w'=>e=.returned (zI (zC P.L i m).2)/\Goes B ρ w w' {P with L:=(zC P.L i m).1}:=by
 obtain⟨f,hf⟩:=vB (L:=P.L) (i:=i) (k:=m) (by omega)
 have hi:=(zc6 hf).1
 obtain⟨gp,op,cp,a,cf,qz,hF,p0,p1,_,_,_,_,JG⟩:=h.pgAt hi
 have hbx:=h.box
 rw[qz,hn] at hbx
 rw[hm] at p1
 have x1:=hbx.cell 1 rfl
 have x3:=hbx.cell 3 rfl
 have hiz:(i:Int)<(P.L.za.length:Int):=by omega
 have f1:=few.f i
 have hw1:IntKind.i64.wrap (m:Int)=(m:Int):=by rw[IntKind.wrap_i64];omega
 have HT:Hid (Calls Tryz.prog 112 #[zJ P.bl 0,zI (i:Int),zI (m:Int)] w.drew fun e w'=>e=.returned (zI (zC P.L i m).2)/\Goes B (zv ρ w .other) w.drew w' {P with L:=(zC P.L i m).1}) :=
  VJ (h.below zS.drew) hB hf (by omega) (by have:=few.p;omega) (by have:=few.t;omega)
 have HC:Hid (Ch (fun r=>r≠.other) ρ (zv ρ w .other) w w.drew/\Below B w w.drew):=⟨Ch.drew w ρ,zS.drew⟩
 clear h hbx qz hF p0 few hf
 go_enter Tryz.func215,Tryz.ntmps215
 go_upto_region 1 with fail
 go_region_law ((go_simp;go_at_call 112;refine HT.out.mono ?_;rintro e w2 ⟨rfl,hG⟩))
 all_goals
  have HG:Hid (Goes B (zv ρ w .other) w.drew w2 {P with L:=(zC P.L i m).1}):=hG
  clear hG
  go_wp2
  go_ret
  exact⟨rfl,Goes.trans HC.out.1 HC.out.2 HG.out⟩
theorem zfA {B:Nat} {ρ:Nat->Rl} {w:World} {P:Lay} (h:yj B ρ w P) (hB:B<=w.heap.size) {hp:Hp} (s:xE 0 0 P.L hp) (ho:xm P.L) {i:Nat} (hn:P.L.now=(i:Int)) (hi:i<P.L.za.length) (hf:0<qv P.L i) (few:uu P.L) (ft:P.L.zd.length<=800) :
 Calls Tryz.prog 212 #[zJ P.bl 0] w fun e w'=>e=.returned (.tuple #[])/\∃F' uV,Goes B ρ w w' {P with F:=F',vo:=uV,L:=jS P.L}:=by
 obtain⟨m,hm⟩:∃m,qv P.L i=m+1:=⟨qv P.L i - 1,by omega⟩
 obtain⟨f,hfr⟩:=vB (L:=P.L) (i:=i) (k:=m) (by omega)
 obtain⟨s1,l1,j,sx,e1,e2,e3⟩:=vN s hfr (yv _ _)
 have hOL:jS P.L=us (yL (xG (zC P.L i m).1).1 (xG (zC P.L i m).1).2 (zC P.L i m).2) (xG (zC P.L i m).1).2:=by
  unfold jS
  rw[hn,Int.toNat_natCast,hm,Nat.add_sub_cancel]
 have o1:xm (zC P.L i m).1:=by unfold xm;rw[l1.ord,l1.pl];exact ho
 have few1:uu (zC P.L i m).1:=⟨fun q=>by rw[l1.n];exact few.f q,by rw[l1.pl];exact few.p,by have:=VI P.L i m;omega⟩
 obtain⟨s2,k2,q2,xt,hemp⟩:=zaB s1 o1 (by rw[l1.pl];omega)
 have HTT:=JU h hB hn hm few
 have HFR:=fun(W:World) (ρ1:Nat->Rl) (h1:yj B ρ1 W {P with L:=(zC P.L i m).1}) (hB1:B<=W.heap.size)=>zgO h1 hB1 s1 o1 (by show 1<=(zC P.L i m).1.za.length;rw[l1.pl];omega) few1
 rw[hOL]
 rw[e1] at HTT ⊢
 have o2:xm (yL (xG (zC P.L i m).1).1 (xG (zC P.L i m).1).2 (j:Int)):=by unfold xm;rw[(vV _ _).pl,show(yL (xG (zC P.L i m).1).1 (xG (zC P.L i m).1).2 (j:Int)).order=(xG (zC P.L i m).1).1.order from rfl,q2,k2.pl];exact o1
 have hplT:(xG (zC P.L i m).1).1.za.length<=900:=by rw[k2.pl,l1.pl];exact few.p
 generalize hR:xG (zC P.L i m).1=R at *
 generalize hT:(zC P.L i m).1=T at *
 clear e1 e2 e3 l1 s1 o1 few1 few hfr hOL hR hT s ho h s2 k2 q2
 have HTT':Hid _:=HTT
 have HO2:Hid (xm (yL R.1 R.2 (j:Int))):=o2
 have HEM:Hid (R.1.za[R.2].zg=[]):=hemp
 clear HTT o2 hemp
 go_enter Tryz.func212,Tryz.ntmps212
 go_wp2_with fail
 refine Calls.mono HTT'.out ?_
 rintro e W1 ⟨rfl,ρ1,h1,c1,b1⟩
 have z1:=c1.size
 have HF:=HFR W1 ρ1 h1 (by omega)
 have H1:Hid (Ch (fun r=>r≠.other) ρ ρ1 w W1/\Below B w W1):=⟨c1,b1⟩
 clear HTT' HFR h1 c1 b1
 go_wp2_with fail
 refine HF.mono ?_
 rintro e W2 ⟨rfl,F2,ρ2,h2,c2,b2⟩
 have z2:=c2.size
 obtain⟨gp,op,cp,a,cf,qz,hF,p0,p1,y0,y1,V6,hρp,JG⟩:=h2.pgAt xt
 have hbx:=h2.box
 rw[qz] at hbx
 have x1:W2.cell? (zH P.bl 1)=some (zK gp op R.1.za.length cp):=hbx.cell 1 rfl
 have hRz:((R.2:Nat):Int)<(R.1.za.length:Int):=by omega
 have S:=h2.setBase xt qz (j:Int)
 have C3:Ch (fun r=>r≠.other) ρ (zv ρ2 W2 .other) w (W2.setCell (zH gp (op+R.2 * 2)) (zI (j:Int))):=(H1.out.1.trans c2).trans (Ch.grown (qM _ _ _ _) ρ2 .other fun q e=>by cases e;rw[hρp];simp)
 have B3:Below B w (W2.setCell (zH gp (op+R.2 * 2)) (zI (j:Int))):=(H1.out.2.trans b2).setCell (p:=zH gp (op+R.2 * 2)) V6 _
 have hLb:(⟨(j:Int),R.1.za[R.2].zg⟩:ws)=⟨(j:Int),[]⟩:=by rw[HEM.out]
 have S2:yj B (zv ρ2 W2 .other) (W2.setCell (zH gp (op+R.2 * 2)) (zI (j:Int))) {P with F:=fun k=>if k=R.2 then F2 R.2 else F2 k,L:=yL R.1 R.2 (j:Int)}:=by
  unfold yL
  rw[<-hLb]
  exact S
 have z3:=C3.size
 have hz3:W2.heap.size=(W2.setCell (zH gp (op+R.2 * 2)) (zI (j:Int))).heap.size:=by simp
 obtain⟨W3,hW3⟩:∃W3,W2.setCell (zH gp (op+R.2 * 2)) (zI (j:Int))=W3:=⟨_,rfl⟩
 rw[hW3] at S2 C3 B3 z3
 have HRO:=zaa S2 (by omega) HO2.out (i:=R.2) (by rw[(vV _ _).pl];exact xt) (by rw[(vV _ _).pl];exact hplT)
 have H3:Hid (Ch (fun r=>r≠.other) ρ (zv ρ2 W2 .other) w W3/\Below B w W3):=⟨C3,B3⟩
 clear HF S S2 C3 B3 h2 c2 b2 hbx p1 hz3 qz hF
 go_wp2_with fail
 refine HRO.mono ?_
 rintro e W4 ⟨rfl,uV,hG⟩
 have HG:Hid (Goes B (zv ρ2 W2 .other) W3 W4 {P with F:=fun k=>if k=R.2 then F2 R.2 else F2 k,vo:=uV,L:=us (yL R.1 R.2 (j:Int)) R.2}):=hG
 clear hG HRO
 go_wp2
 exact bodyPost_end (results_none rfl _ _ _) rfl ⟨rfl,_,_,Goes.trans H3.out.1 H3.out.2 HG.out⟩
theorem Uu (a:Option Addr) (n c:Nat) (w:World) (hn:n<=1000) :
 Calls Tryz.prog 108 #[.slice a n c] w fun e w'=>e=.returned (zI (xF n))/\w'=w:=by
 have h1:IntKind.i64.wrap (4+(n:Int))=4+(n:Int):=by rw[IntKind.wrap_i64];omega
 have h2:IntKind.i64.wrap (4+(n:Int)+6)=4+(n:Int)+6:=by rw[IntKind.wrap_i64];omega
 unfold xF
 go_enter Tryz.func108,Tryz.ntmps108
 go_wp2
 go_ret
 exact⟨rfl,rfl⟩
def vi (g:Nat->Int):Nat->Int
 | 0=>0
 | k+1=>vi g k+g k
theorem zbu {g:Nat->Int} {M:Int}:∀k:Nat,(∀j,j<k->0<=g j/\g j<=M)->0<=vi g k/\vi g k<=(k:Int) * M
 | 0,_=>⟨Int.le_refl _,by simp[vi]⟩
 | k+1,h=>by
  have h1:=zbu k fun j hj=>h j (by omega)
  have h2:=h k (by omega)
  show 0<=vi g k+g k/\vi g k+g k<=((k+1:Nat):Int) * M
  rw[Int.natCast_add,Int.add_mul]
  simp only[Int.natCast_one,Int.one_mul]
  omega
theorem zcJ {α:Type} {l:List α} (f:α->Int) (g:Nat->Int) (h:∀j,(hj:j<l.length)->g j=f l[j]):vi g l.length=(l.map f).sum:=by
 have key:∀k,k<=l.length->vi g k=((l.take k).map f).sum:=by
  intro k
  induction k with
  | zero=>intro _;simp[vi]
  | succ k ih =>
   intro hk
   have yt:k<l.length:=by omega
   rw[List.take_succ_eq_append_getElem yt,List.map_append,List.sum_append]
   show vi g k+g k=_
   rw[ih (by omega),h k yt]
   simp
 have:=key l.length zD
 rwa [List.take_length] at this
theorem zg0 (v0:Value) (gf of n cf:Nat) (cells:Int) (w:World) (hc:-1000000<=cells/\cells<=1000000) (hn:n<=900) (d:Nat->Nat) (tw:Nat->Int) (va:Nat->Option Addr) (ln vc:Nat->Nat) (hln:∀k,k<n->ln k<=1000)
 (hf:∀k,k<n->w.cell? (zH gf (of+k * 2))=some (zJ (d k) 0)/\w.cell? (zH gf (of+k * 2+1))=some (zI (tw k))/\w.cell? (zH (d k) 2)=some (.slice (va k) (ln k) (vc k))) :
 Calls Tryz.prog 211 #[.agg #[v0,zK gf of n cf],zI cells] w fun e w'=>e=.returned (zI (cells - vi (fun k=>xF (ln k)) n))/\zO w w':=by
 obtain⟨g,hg⟩:∃g:Nat->Int,(fun k=>xF (ln k))=g:=⟨_,rfl⟩
 have hgk:∀k,xF (ln k)=g k:=fun k=>by rw[<-hg]
 have HG:Hid (∀k,k<n->0<=g k/\g k<=1010):=fun k hk=>by have:=hln k hk;rw[<-hgk];unfold xF;omega
 have hbd:∀k,k<=n->-2000000<=cells - vi g k/\cells - vi g k<=2000000:=fun k hk=>by
  have:=zbu (M:=1010) k fun j hj=>HG.out j (by omega)
  omega
 rw[hg]
 have HF:Hid (∀k,k<n->w.cell? (zH gf (of+k * 2))=some (zJ (d k) 0)/\w.cell? (zH gf (of+k * 2+1))=some (zI (tw k))/\w.cell? (zH (d k) 2)=some (.slice (va k) (ln k) (vc k))):=hf
 have HBD:Hid (∀k,k<=n->-2000000<=cells - vi g k/\cells - vi g k<=2000000):=hbd
 have HS:Hid (cells - vi g 0=cells):=by show cells - 0=cells;omega
 clear hf hbd hg
 go_enter Tryz.func211,Tryz.ntmps211
 go_upto_region 1 with fail
 refine yg (fun W=>zO w W/\Bx W w.heap.size 139 [v0,.slice (some ⟨gf,of,none⟩) n cf]) ⟨zR _ _,Bx.new _ _ _⟩ ?_
 rintro W ⟨hbW,y⟩
 have y1:=y.cell 1 rfl
 have J7:=hbW.size
 go_wp2_with fail
 go_loopg [1,6,10] n (fun dd x _ q wr=>∃k:Nat,k<=n/\dd=n - k/\x=zI (cells - vi g k)/\q=zI (k:Int)/\zO w wr)
 case atStart=>exact⟨0,Nat.zero_le _,rfl,by rw[HS.out],rfl,hbW⟩
 case round =>
  obtain⟨k,hk,rfl,rfl,rfl,hbr⟩:=hrel
  have zr:=hbr.size
  by_cases yt:k<n
  ·have v7:(k:Int)<(n:Int):=by omega
   obtain⟨q0,q1,q2⟩:=HF.out k yt
   have c0:=zc hbr q0
   have c1:=zc hbr q1
   have b1:=HBD.out (k+1) yt
   have hw1:IntKind.i64.wrap (cells - vi g k - g k)=cells - vi g (k+1):=by
    show _=cells - (vi g k+g k)
    rw[IntKind.wrap_i64]
    have:vi g (k+1)=vi g k+g k:=rfl
    omega
   go_upto_region 4 with fail
   refine yg (fun W'=>zO wr W'/\Bx W' wr.heap.size 145 [.pointer (some ⟨d k,0,none⟩),.int .i64 (tw k)]) ⟨zR _ _,Bx.new _ _ _⟩ ?_
   rintro W2 ⟨t2,y2⟩
   have yE:=hbr.trans (t2.mono zr)
   have n0:=y2.cell 0 rfl
   have n2:=zc yE q2
   have HC:=Uu (va k) (ln k) (vc k) W2 (hln k yt)
   rw[hgk] at HC
   clear c0 c1 q0 q1 q2 t2 y2 y y1
   go_wp2_with fail
   refine HC.mono ?_
   rintro e w3 ⟨rfl,hw3⟩
   subst hw3
   go_wp2_with fail
   go_roundg (n - (k+1))
   case measure=>omega
   case rel=>exact⟨k+1,yt,rfl,rfl,by go_num,yE⟩
  ·obtain rfl:k=n:=by omega
   go_wp2_with fail
   go_ret
   exact⟨rfl,hbr⟩
theorem Tryz.infoLF:(Tryz.prog.info? 145).map (fun i=>(i.zero,i.size,i.bytes))=some (some (.agg #[.pointer none,zI 0]),2,16):=by kernel_rfl
theorem zfM {w:World} {g c d:Nat} {x:Int} (h0:w.cell? (zH g 0)=some (zJ d 0)) (h1:w.cell? (zH g 1)=some (zI x)):Src Tryz.prog 2 136 (zK g 0 1 c) 1 [zJ d 0,zI x] w:=by
 refine Src.ofSlice w Tryz.underlying136 ⟨g,0,none⟩ _ c _ rfl (fun j u hu=>?_) (fun u hu=>?_)
 ·match j with
  | 0=>simp at hu;subst hu;rw[Addr.add_lit];exact h0
  | 1=>simp at hu;subst hu;rw[Addr.add_lit];exact h1
  | j+2=>simp at hu
 ·simp at hu;rcases hu with rfl | rfl <;> rfl
theorem YU {ty:TypeId} {B:Nat} {w:World} {v xv:Value} {n d:Nat} {x:Int} {xs:List Value} (zE:ym B 2 w v n xs) (hM:Src Tryz.prog 2 136 xv 1 [zJ d 0,zI x] w) (hL:n+1<=3000000) (hB:B<=w.heap.size) :
 ∃v' w',(Builtin.append_ #[136,136] ty #[v,xv]).run Tryz.prog w=.ok v' w'/\ym B 2 w' v' (n+1) (xs ++ [zJ d 0,zI x])/\w.grownBy w' v.ownBlock/\(v'.ownBlock=v.ownBlock\/v'.ownBlock=some w.heap.size):=by
 obtain⟨i0,hi,jM,xP,vJ⟩:=info_parts Tryz.infoLF
 have h1:ym B i0.size w v n xs:=by rw[xP];exact zE
 have h2:Src Tryz.prog i0.size 136 xv 1 [zJ d 0,zI x] w:=by rw[xP];exact hM
 obtain⟨v',w',hr,hc,hg,hb⟩:=vK (P:=Tryz.prog) (ty:=ty) Tryz.underlying136 hi jM (by rw[xP];rfl) (by rw[vJ];omega) h1 xv 1 _ h2 hL hB
 rw[xP] at hc
 exact⟨v',w',hr,hc,hg,hb⟩
theorem zfN {ops:Array Oper} {o:Oper} {act:Act} {K:Act->World->Prop} {Q:Exit->Act->World->Prop} {E:Prop} (w:World) (hgd:o.guard=none) (s x:Operand)
 (ho:o.op=.call {callee:=.builtin .append,args:=#[s,x],argTypes:=#[136,136]}) (B:Nat) (v xv:Value) (n:Nat) (xs:List Value) (d:Nat) (y:Int) (hs:act.eval s=v) (hx:act.eval x=xv) (zE:ym B 2 w v n xs) (hM:Src Tryz.prog 2 136 xv 1 [zJ d 0,zI y] w)
 (hL:n+1<=3000000) (hB:B<=w.heap.size)
 (h:∀v' w',ym B 2 w' v' (n+1) (xs ++ [zJ d 0,zI y])->w.grownBy w' v.ownBlock->(v'.ownBlock=v.ownBlock\/v'.ownBlock=some w.heap.size)->K (act.put o.dst v') w') :
 if Region.wanted o (yielded ops act.tmps)=true then Oper.wp Tryz.prog o act w K Q else E:=by
 obtain⟨v',w',hr,h2,h3,h4⟩:=YU (ty:=o.type) zE hM hL hB
 rw[if_pos (by simp[Region.wanted,hgd])]
 unfold Oper.wp execOp
 simp only[ho,resolve,invoke,builtin,Sem.run_bind,Sem.run_pure,Result.andThen_ok,List.map_toArray,List.map_cons,List.map_nil,hs,hx,hr]
 exact h v' w' h2 h3 h4
structure zbK (B:Nat) (w:World) (v:Value) (n:Nat) (xs:List Value) (gp o:Nat) (w':World):Prop where
 ex:∃W0 W1 v',zO w W0/\W0.grownBy W1 v.ownBlock/\ym B 2 W1 v' (n+1) xs/\(v'.ownBlock=v.ownBlock\/v'.ownBlock=some W0.heap.size)/\w'=W1.setCell (zH gp (o+1)) v'
theorem zgY {B:Nat} {w:World} {gp o n cf d:Nat} {a:Option Addr} {x:Int} {xs:List Value} (yd:ym B 2 w (.slice a n cf) n xs) (c1:w.cell? (zH gp (o+1))=some (.slice a n cf)) (z1:w.frozen? (zH gp (o+1))=false) (xp:(Value.slice a n cf).ownBlock≠some gp) (hB:B<=w.heap.size) (hn:n<=100000) :
 Calls Tryz.prog 213 #[zJ gp o,.agg #[zJ d 0,zI x]] w fun e w'=>e=.returned (.tuple #[])/\zbK B w (.slice a n cf) n (xs ++ [zJ d 0,zI x]) gp o w':=by
 have JG:=World.block_lt_of_cell? _ _ c1
 have hgp':gp<w.heap.size:=JG
 go_enter Tryz.func213,Tryz.ntmps213
 go_upto_region 1 with fail
 refine yg (fun W=>zO w W/\W.heap.size=w.heap.size+1/\Bx W w.heap.size 145 [.pointer (some ⟨d,0,none⟩),.int .i64 x]) ⟨zR _ _,by simp,Bx.new _ _ _⟩ ?_
 rintro W ⟨hbW,J7,y⟩
 have y0:=y.cell 0 rfl
 have y1:=y.cell 1 rfl
 have p1:=zc hbW c1
 have NA:zO w (W.alloc (.cells #[.pointer (some ⟨d,0,none⟩),.int .i64 x] 145)).drew:=(hbW.alloc (by omega) _).drew
 have s1:Src Tryz.prog 2 136 (.slice (some ⟨w.heap.size+1,0,none⟩) 1 1) 1 [.pointer (some ⟨d,0,none⟩),.int .i64 x] (W.alloc (.cells #[.pointer (some ⟨d,0,none⟩),.int .i64 x] 145)).drew:=zfM (by rw[<-J7];simp[go_sem]) (by rw[<-J7];simp[go_sem])
 have row2:ym B 2 (W.alloc (.cells #[.pointer (some ⟨d,0,none⟩),.int .i64 x] 145)).drew (.slice a n cf) n xs:=yd.below NA
 have hBA:B<=(W.alloc (.cells #[.pointer (some ⟨d,0,none⟩),.int .i64 x] 145)).drew.heap.size:=by simp;omega
 have HFH:Hid (∀v' w',ym B 2 w' v' (n+1) (xs ++ [.pointer (some ⟨d,0,none⟩),.int .i64 x])->(W.alloc (.cells #[.pointer (some ⟨d,0,none⟩),.int .i64 x] 145)).drew.grownBy w' (Value.slice a n cf).ownBlock->(v'.ownBlock=(Value.slice a n cf).ownBlock\/v'.ownBlock=some (W.alloc (.cells #[.pointer (some ⟨d,0,none⟩),.int .i64 x] 145)).drew.heap.size) ->
  (w'.cell? (zH gp (o+1))=some (.slice a n cf)/\w'.frozen? (zH gp (o+1))=false)/\zbK B w (.slice a n cf) n (xs ++ [zJ d 0,zI x]) gp o (w'.setCell (zH gp (o+1)) v')):=fun v' w' h1 h2 h3=>by
  have hk:w'.heap[gp]?=w.heap[gp]?:=(h2.block gp (by have:=NA.size;omega) (fun e=>xp e.symm)).trans (NA.block gp hgp')
  exact⟨⟨(World.cell?_of_block (a:=⟨gp,o+1,none⟩) hk).trans c1,(World.frozen?_of_block (a:=⟨gp,o+1,none⟩) hk).trans z1⟩,⟨_,w',v',NA,h2,h1,h3,rfl⟩⟩
 clear yd NA y hbW c1 z1
 go_region_law (refine zfN _ (by rfl) _ _ (by rfl) B _ _ n xs d x (by rfl) (by rfl) row2 s1 (by omega) (by first | exact hBA | (simp;omega)) ?_;intro v' w' yd hg hbk;obtain⟨a',c',hv',_⟩:=yd.slice;subst hv';obtain⟨⟨z4,f4⟩,hLV⟩:=HFH.out _ w' yd hg hbk)
 all_goals exact bodyPost_end (results_none rfl _ _ _) rfl ⟨rfl,hLV⟩
theorem Xp (D:Nat->Nat) (fs:List jV) (f:jV):cells2 (yk D (fs ++ [f]))=cells2 (yk D fs) ++ [zJ (D f.body) 0,zI f.twin]:=by
 have:yk D (fs ++ [f])=yk D fs ++ [(zJ (D f.body) 0,zI f.twin)]:=by simp[yk]
 rw[this,JC]
theorem yj.pushed {B:Nat} {ρ:Nat->Rl} {w w':World} {P:Lay} (h:yj B ρ w P) (hB:B<=w.heap.size) {i:Nat} (hi:i<P.L.za.length) {gp op cp cf:Nat} {a:Option Addr} (qz:P.vp=zK gp op P.L.za.length cp) (hF:P.F i=.slice a (qv P.L i) cf) (JG:gp<w.heap.size) (V6:B<=gp) (hρ:ρ gp=.za)
 {k:Nat} (hp:zbK B w (.slice a (qv P.L i) cf) (qv P.L i) (cells2 (yk P.D P.L.za[i].zg) ++ [zJ (P.D k) 0,zI (-1)]) gp (op+i * 2) w'):∃F',Goes B ρ w w' {P with F:=F',L:=Vw P.L i k}:=by
 obtain⟨W0,W1,v',b0,g1,hr,hv,rfl⟩:=hp.ex
 have hfr:=(h (.zg i)) hi
 rw[hF] at hfr
 have z0:=b0.size
 have z1:=g1.size
 have c0:Ch (fun r=>r=.zg i) ρ (zv ρ w .other) w W0:=Ch.below b0 _ ρ .other
 have c1:Ch (fun r=>r=.zg i) (zv ρ w .other) (zv (zv ρ w .other) W0 (.zg i)) W0 W1:=Ch.grown g1 (zv ρ w .other) (.zg i) fun g e=>by rw[yJ (hfr.1.lt g e).2];exact hfr.2 g e
 have hfg:∀g,v'.ownBlock=some g->zv (zv ρ w .other) W0 (.zg i) g=.zg i:=fun g e=>by
  rcases hv with x | x
  ·rw[x] at e
   have yt:=(hfr.1.lt g e).2
   rw[yJ (by omega),yJ yt]
   exact hfr.2 g e
  ·rw[x] at e
   injection e with e
   exact qt (by omega)
 have hn:=kx hi
 rw[hn,show cells2 (yk P.D P.L.za[i].zg) ++ [zJ (P.D k) 0,zI (-1)]=cells2 (yk P.D (P.L.za[i].zg ++ [⟨k,-1⟩])) from (Xp P.D _ ⟨k,-1⟩).symm] at hr
 have S:=h.setFrames hi (c0.trans c1) (fs:=P.L.za[i].zg ++ [⟨k,-1⟩]) (vf:=v') (by rw[List.length_append];exact hr) hfg qz
 have hg:P.L.za.getD i ⟨-1,[]⟩=P.L.za[i]:=by simp[hi]
 have C:Ch (fun r=>r≠.other) ρ (zv (zv (zv ρ w .other) W0 (.zg i)) W1 .other) w (W1.setCell (zH gp (op+i * 2+1)) v'):=((c0.trans c1).mono fun r e=>by rw[e];simp).trans (Ch.grown (qM _ gp _ _) _ .other fun q e=>by
  cases e
  rw[(c0.trans c1).role gp JG,hρ]
  simp)
 have hb:Below B w (W1.setCell (zH gp (op+i * 2+1)) v'):=((b0.mono hB).grown g1 (by omega) fun g e=>(hfr.1.lt g e).1).setCell (p:=zH gp (op+i * 2+1)) V6 v'
 refine⟨fun k'=>if k'=i then v' else P.F k',_,?_,C,hb⟩
 unfold Vw
 rw[hg]
 exact S
theorem zf6 {B:Nat} {ρ:Nat->Rl} {w:World} {P:Lay} (h:yj B ρ w P) (hB:B<=w.heap.size) {hp:Hp} (s:xE 0 0 P.L hp) (ho:xm P.L) {i:Nat} (hn:P.L.now=(i:Int)) (hi:i<P.L.za.length) (hf:0<qv P.L i) (few:uu P.L) (ft:P.L.zd.length<=800)
 (hce:-1000000<=P.L.cells/\P.L.cells<=1000000) (hbt:∀q,(hq:q<P.L.zj.length)->P.L.zj[q].zh.length<=1000) {k:Nat} (hk:k<P.L.zj.length) :
 Calls Tryz.prog 205 #[zJ P.bl 0,zJ (P.D k) 0] w fun e w'=>e=.returned (.tuple #[])/\∃F' uV,Goes B ρ w w' {P with F:=F',vo:=uV,L:=Vw (if ub P.L i<xF P.L.zj[k].zh.length then jS P.L else P.L) (if ub P.L i<xF P.L.zj[k].zh.length then jS P.L else P.L).now.toNat k}:=by
 have HO:=zfA h hB s ho hn hi hf few ft
 have HOK:Hid (∃p:Nat,(jS P.L).now=(p:Int)/\p<(jS P.L).za.length/\qv (jS P.L) p=0):=by
  obtain⟨_,_,_,p,e1,hp,e3,_⟩:=Vl s ho hn hi hf
  exact⟨p,e1,hp,e3⟩
 -- where all lies
 obtain⟨gp,op,cp,a,cf,qz,hF,p0,p1,_,_,_,_,JG⟩:=h.pgAt hi
 obtain⟨f0,hf0⟩:=vB (L:=P.L) (i:=i) (k:=0) hf
 obtain⟨_,_,_,gf,of,_,cf',hvp',hF',hnn,_,_,_⟩:=h.frAt hf0
 rw[hF] at hF'
 obtain rfl:a=some ⟨gf,of,none⟩:=by injection hF'
 clear hF' hvp' hnn
 have hbx:=h.box
 rw[qz,hn] at hbx
 have x0:=hbx.cell 0 rfl
 have x1:=hbx.cell 1 rfl
 have x3:=hbx.cell 3 rfl
 have hiz:(i:Int)<(P.L.za.length:Int):=by omega
 obtain⟨a1,k1,a2,k2,hT⟩:=h.lists hk
 have hbody:=(h (.body k) hk).1
 rw[hT] at hbody
 unfold xA at hbody
 have d2:=hbody.cell 2 rfl
 have hnl:=hbt k hk
 -- how much room there is
 have hroom:∀W,zO w W->Calls Tryz.prog 211 #[.agg #[zI (yu P.L i),zK gf of (qv P.L i) cf],zI P.L.cells] W fun e w'=>e=.returned (zI (ub P.L i))/\zO W w':=by
  intro W hW
  have hfi:∀q,q<qv P.L i->∃f,P.L.fr i q=some f/\f.body<P.L.zj.length:=fun q hq=>by
   obtain⟨f,hf⟩:=vB (L:=P.L) (i:=i) (k:=q) hq
   exact⟨f,hf,(s.fb i q f hf (yv _ _)).1⟩
  have hfq:∀q f,P.L.fr i q=some f->f.body<P.L.zj.length->w.cell? (zH gf (of+q * 2))=some (zJ (P.D f.body) 0)/\w.cell? (zH gf (of+q * 2+1))=some (zI f.twin)/\∃va vc,w.cell? (zH (P.D f.body) 2)=some (.slice va (P.L.zj.getD f.body jg.none).zh.length vc):=fun q f hf hb=>by
   obtain⟨_,_,_,gf2,of2,_,cf2,_,hF2,_,_,_,_,_,q0,q1,_⟩:=h.frAt hf
   rw[hF] at hF2
   injection hF2 with e1 e2 e3
   injection e1 with e1
   injection e1 with e4 e5
   subst e4 e5
   obtain⟨a1,k1,a2,k2,hT⟩:=h.lists hb
   have hbody:=(h (.body f.body) hb).1
   rw[hT] at hbody
   unfold xA at hbody
   exact⟨q0,q1,a1,k1,by rw[show P.L.zj.getD f.body jg.none=P.L.zj[f.body] by simp[hb]];exact hbody.cell 2 rfl⟩
  have pick:∀q,∃x:(Nat × Int) × (Option Addr × Nat × Nat),q<qv P.L i->w.cell? (zH gf (of+q * 2))=some (zJ x.1.1 0)/\w.cell? (zH gf (of+q * 2+1))=some (zI x.1.2)/\w.cell? (zH x.1.1 2)=some (.slice x.2.1 x.2.2.1 x.2.2.2)/\x.2.2.1<=1000/\∃f,P.L.fr i q=some f/\x.2.2.1=(P.L.zj.getD f.body jg.none).zh.length:=fun q=>by
   by_cases hq:q<qv P.L i
   ·obtain⟨f,hf,hb⟩:=hfi q hq
    obtain⟨q0,q1,va,vc,q2⟩:=hfq q f hf hb
    exact⟨⟨⟨P.D f.body,f.twin⟩,va,_,vc⟩,fun _=>⟨q0,q1,q2,by rw[show P.L.zj.getD f.body jg.none=P.L.zj[f.body] by simp[hb]];exact hbt _ hb,f,hf,rfl⟩⟩
   ·exact⟨⟨⟨0,0⟩,none,0,0⟩,fun h=>absurd h hq⟩
  obtain⟨X,hX⟩:=Classical.axiomOfChoice pick
  have hR:=zg0 (zI (yu P.L i)) gf of (qv P.L i) cf P.L.cells W hce (few.f i) (fun q=>(X q).1.1) (fun q=>(X q).1.2) (fun q=>(X q).2.1) (fun q=>(X q).2.2.1) (fun q=>(X q).2.2.2) (fun q hq=>(hX q hq).2.2.2.1) (fun q hq=>⟨zc hW (hX q hq).1,zc hW (hX q hq).2.1,zc hW (hX q hq).2.2.1⟩)
  have e:P.L.cells - vi (fun q=>xF (X q).2.2.1) (qv P.L i)=ub P.L i:=by
   unfold ub
   congr 1
   refine zcJ (fun f:jV=>xF (P.L.zj.getD f.body jg.none).zh.length) (fun q=>xF (X q).2.2.1) fun j hj=>?_
   obtain⟨_,_,_,_,f,hf,hl⟩:=hX j hj
   obtain⟨hi',hk',he⟩:=yw.fr_some hf
   show xF (X j).2.2.1=_
   rw[hl]
   have hg:P.L.za.getD i ⟨-1,[]⟩=P.L.za[i]:=by simp[hi]
   simp only[hg,he]
  rw[e] at hR
  exact hR
 have HR:Hid (∀W,zO w W->Calls Tryz.prog 211 #[.agg #[zI (yu P.L i),zK gf of (qv P.L i) cf],zI P.L.cells] W fun e w'=>e=.returned (zI (ub P.L i))/\zO W w'):=hroom
 have HC:Hid (∀W:World,Calls Tryz.prog 108 #[.slice a1 P.L.zj[k].zh.length k1] W fun e w'=>e=.returned (zI (xF P.L.zj[k].zh.length))/\w'=W):=fun W=>Uu _ _ _ W hnl
 obtain⟨nl,hnl'⟩:∃nl,P.L.zj[k].zh.length=nl:=⟨_,rfl⟩
 rw[hnl'] at HC d2 ⊢
 obtain⟨L1,hL1⟩:∃L1,(if ub P.L i<xF nl then jS P.L else P.L)=L1:=⟨_,rfl⟩
 rw[hL1]
 have HL1:Hid ((if ub P.L i<xF nl then jS P.L else P.L)=L1):=hL1
 clear hL1
 have HS:∀w':World,zO w w'->((w'.cell? (zH P.bl 0)=some (zI P.L.cells)/\w'.cell? (zH P.bl 1)=some (zK gp op P.L.za.length cp)/\w'.cell? (zH P.bl 3)=some (zI (i:Int))/\w'.cell? (zH gp (op+i * 2))=some (zI (yu P.L i))/\w'.cell? (zH gp (op+i * 2+1))=some (zK gf of (qv P.L i) cf)/\w'.cell? (zH (P.D k) 2)=some (.slice a1 nl k1))/\zO w w'):=fun w' hb=>⟨⟨zc hb x0,zc hb x1,zc hb x3,zc hb p0,zc hb p1,zc hb d2⟩,hb⟩
 have HL:Hid (yj B ρ w P):=h
 have HOL:Hid (∀(W:World) (ρ1:Nat->Rl),yj B ρ1 W P->B<=W.heap.size->Calls Tryz.prog 212 #[zJ P.bl 0] W fun e w'=>e=.returned (.tuple #[])/\∃F' uV,Goes B ρ1 W w' {P with F:=F',vo:=uV,L:=jS P.L}):=fun W ρ1 h1 hB1=>zfA h1 hB1 s ho hn hi hf few ft
 have HNI:Hid (P.L.now=(i:Int)/\i<P.L.za.length/\qv P.L i<=900):=⟨hn,hi,few.f i⟩
 clear hroom HO s ho few hbx hf0 hbody hT hF qz h x0 x1 x3 p0 p1 d2 hbt
 go_enter Tryz.func205,Tryz.ntmps205
 go_upto_region 0 with fail
 go_cut [24] (fun v wx=>v=.bool (decide (ub P.L i<xF nl))/\zO w wx)
 case first =>
  go_region_held3 (fun w'=>(w'.cell? (zH P.bl 0)=some (zI P.L.cells)/\w'.cell? (zH P.bl 1)=some (zK gp op P.L.za.length cp)/\w'.cell? (zH P.bl 3)=some (zI (i:Int))/\w'.cell? (zH gp (op+i * 2))=some (zI (yu P.L i))/\w'.cell? (zH gp (op+i * 2+1))=some (zK gf of (qv P.L i) cf)/\w'.cell? (zH (P.D k) 2)=some (.slice a1 nl k1))/\zO w w')
   ((refine HS _ ?_;first
    | (with_reducible exact(‹(_/\_/\_/\_/\_/\_)/\zO w _›).2)
    | (with_reducible exact zS.drew)
    | (with_reducible exact V5)))
   (first
    | (go_at_call 211;refine(HR.out _ (‹(_/\_/\_/\_/\_/\_)/\zO w _›).2).mono ?_;rintro e wT ⟨rfl,hbT⟩;have V5:=Below.trans (‹(_/\_/\_/\_/\_/\_)/\zO w _›).2 (hbT.mono ((‹(_/\_/\_/\_/\_/\_)/\zO w _›).2).size))
    | (go_at_call 108;refine(HC.out _).mono ?_;rintro e wC ⟨rfl,hwC⟩;subst hwC))
  all_goals
   go_wp2_with fail
   go_meet
   exact⟨rfl,(‹(_/\_/\_/\_/\_/\_)/\zO w _›).2⟩
 case rest =>
  obtain⟨rfl,hbx⟩:=hcut
  clear HS HR HC JG hiz hnl'
  go_upto_if 24 with fail
  go_cut [] (fun wy=>∃F1 vo1,Goes B ρ w wy {P with F:=F1,vo:=vo1,L:=L1})
  case first =>
   by_cases hr:ub P.L i<xF nl
   ·have HO:=HOL.out wc (zv ρ w .other) (HL.out.below hbx) (by have:=hbx.size;omega)
    have HB:Hid (zO w wc):=hbx
    have hrb:decide (ub P.L i<xF nl)=true:=decide_eq_true hr
    rw[hrb]
    clear hbx
    go_wp2_with fail
    refine HO.mono ?_
    rintro e w2 ⟨rfl,F',uV,hG⟩
    have HG:Hid (Goes B (zv ρ w .other) wc w2 {P with F:=F',vo:=uV,L:=jS P.L}):=hG
    clear hG HO
    go_wp2_with fail
    go_meet
    rw[<-HL1.out,if_pos hr]
    exact⟨_,_,Goes.trans (Ch.below HB.out _ ρ .other) (HB.out.mono hB) HG.out⟩
   ·have hrb:decide (ub P.L i<xF nl)=false:=decide_eq_false hr
    rw[hrb]
    go_wp2_with fail
    go_meet
    rw[<-HL1.out,if_neg (by omega)]
    exact⟨_,_,_,HL.out.below hbx,Ch.below hbx _ ρ .other,hbx.mono hB⟩
  case rest =>
   obtain⟨F1,vo1,ρ1,h1,c1,b1⟩:=hcut
   have hN:∃p:Nat,L1.now=(p:Int)/\p<L1.za.length/\qv L1 p<=900:=by
    rw[<-HL1.out]
    split
    ·obtain⟨p,e1,e2,e3⟩:=HOK.out
     exact⟨p,e1,e2,by omega⟩
    ·exact⟨i,HNI.out⟩
   obtain⟨p,Ww,hp1,hf1⟩:=hN
   have hpk:Hid (L1.now.toNat=p):=by show L1.now.toNat=p;rw[Ww,Int.toNat_natCast]
   have z1:=b1.size
   have hd:=h1.below zS.drew
   obtain⟨gp1,op1,cp1,a1',cf1,zcg,hF1,q0,q1,y0,y1,hBp1,hρp1,hgp1⟩:=hd.pgAt hp1
   have zb7:=hd.box
   rw[zcg] at zb7
   have x1:wc.drew.cell? (zH P.bl 1)=some (zK gp1 op1 L1.za.length cp1):=zb7.cell 1 rfl
   have x3:wc.drew.cell? (zH P.bl 3)=some (zI L1.now):=zb7.cell 3 rfl
   rw[Ww] at x3
   have hpz:(p:Int)<(L1.za.length:Int):=by omega
   have yd:ym B 2 wc.drew (F1 p) L1.za[p].zg.length (cells2 (yk P.D L1.za[p].zg)):=((hd (.zg p)) hp1).1
   have zE:∀g,(F1 p).ownBlock=some g->zv ρ1 wc .other g=.zg p:=((hd (.zg p)) hp1).2
   have hF1':F1 p=.slice a1' (qv L1 p) cf1:=hF1
   rw[hF1',<-kx hp1] at yd
   rw[hF1'] at zE
   have xp:(Value.slice a1' (qv L1 p) cf1).ownBlock≠some gp1:=fun e=>by
    have:=zE gp1 e
    rw[hρp1] at this
    cases this
   have HP:Hid (Calls Tryz.prog 213 #[zJ gp1 (op1+p * 2),.agg #[zJ (P.D k) 0,zI (-1)]] wc.drew fun e w'=>e=.returned (.tuple #[])/\∃F',Goes B (zv ρ1 wc .other) wc.drew w' {P with F:=F',vo:=vo1,L:=Vw L1 p k}):=by
    refine(zgY (d:=P.D k) (x:=-1) yd q1 y1 xp (by show B<=wc.heap.size;omega) (by omega)).mono ?_
    rintro e w' ⟨rfl,hp⟩
    exact⟨rfl,hd.pushed (by show B<=wc.heap.size;omega) hp1 zcg hF1 hgp1 hBp1 hρp1 hp⟩
   have HC2:Hid (Ch (fun r=>r≠.other) ρ (zv ρ1 wc .other) w wc.drew/\Below B w wc.drew):=⟨c1.trans (Ch.drew wc ρ1),b1.drew⟩
   clear hd h1 c1 b1 zb7 yd zE hF1 hF1' q0 q1 y0 y1 zcg xp
   go_upto_region 2 with fail
   go_region_law ((go_simp;go_at_call 213;refine HP.out.mono ?_;rintro e w2 ⟨rfl,hG⟩))
   all_goals
    obtain⟨F2,hG⟩:=hG
    have HG:Hid (Goes B (zv ρ1 wc .other) wc.drew w2 {P with F:=F2,vo:=vo1,L:=Vw L1 p k}):=hG
    clear hG
    go_wp2
    exact bodyPost_end (results_none rfl _ _ _) rfl ⟨rfl,_,_,by rw[hpk.out];exact Goes.trans HC2.out.1 HC2.out.2 HG.out⟩
theorem pop_m {w:World} {gp o gf of m cf d:Nat} {v0:Value} {x:Int} (p0:w.cell? (zH gp o)=some v0) (_hv0:v0.oneCell'=true) (p1:w.cell? (zH gp (o+1))=some (zK gf of (m+1) cf)) (z1:w.frozen? (zH gp (o+1))=false)
 (c0:w.cell? (zH gf (of+m * 2))=some (zJ d 0)) (c1:w.cell? (zH gf (of+m * 2+1))=some (zI x)) (hm:m<=100000) (hc:m<=cf) :
 Calls Tryz.prog 216 #[zJ gp o] w fun e w'=>e=.returned (.agg #[zJ d 0,zI x])/\∃W0,zO w W0/\Below w.heap.size (W0.setCell (zH gp (o+1)) (zK gf of m cf)) w':=by
 have V8:IntKind.i64.wrap (m:Int)=(m:Int):=by rw[IntKind.wrap_i64];omega
 have JG:gp<w.heap.size:=World.block_lt_of_cell? _ _ p1
 have HT:Hid (∀W,zO w W->Calls Tryz.prog 219 #[.agg #[v0,zK gf of (m+1) cf]] W fun e w'=>e=.returned (.agg #[zJ d 0,zI x])/\zO W w'):=fun W hW=>zgK v0 gf of m cf d x W (zc hW c0) (zc hW c1) hm
 clear c0 c1
 go_enter Tryz.func216,Tryz.ntmps216
 go_upto_region 1 with fail
 refine yg (fun W=>zO w W/\W.heap.size=w.heap.size+1/\Bx W w.heap.size 145 [.pointer none,.int .i64 0]) ⟨zR _ _,by simp,Bx.new _ _ _⟩ ?_
 rintro W ⟨hbW,J7,y⟩
 have q0:=zc hbW p0
 have q1:=zc hbW p1
 have HC:=HT.out W hbW
 go_upto_region 2 with(go_at_call 219;refine HC.mono ?_;rintro e w2 ⟨rfl,b2⟩)
 have z2:=b2.size
 refine yg (fun X=>zO w X/\X.heap.size=w2.heap.size+1/\Bx X w.heap.size 145 [.pointer none,.int .i64 0]/\Bx X w2.heap.size 145 [.pointer (some ⟨d,0,none⟩),.int .i64 x]) ⟨(hbW.trans (b2.mono (by omega))).alloc (by omega) _,by simp,(y.below b2).alloc _,Bx.new _ _ _⟩ ?_
 rintro X ⟨bX,zX,yX,uX⟩
 have zz:=bX.size
 have r1:=zc bX p1
 have rz:X.frozen? (zH gp (o+1))=false:=(World.frozen?_of_block (a:=⟨gp,o+1,none⟩) (bX.block gp JG)).trans z1
 clear q0 q1 HC HT b2 hbW y p0 p1 z1
 go_region_law (fail)
 all_goals
  go_upto_region 3 with fail
  refine yg (fun Y=>Below w.heap.size (X.setCell (zH gp (o+1)) (zK gf of m cf)) Y/\Bx Y w.heap.size 145 [.pointer none,zI 0]/\Bx Y w2.heap.size 145 [zJ d 0,zI x]) ⟨zS.drew,(yX.other (by omega) _).drew,(uX.other (by omega) _).drew⟩ ?_
  rintro Y ⟨bY,yY,uY⟩
  have s0:=yY.cell 0 rfl
  have s1:=yY.cell 1 rfl
  have sf0:=yY.frozen 0
  have sf1:=yY.frozen 1
  have t0:=uY.cell 0 rfl
  have t1:=uY.cell 1 rfl
  go_wp2_with fail
  refine xW (fun Z=>Below w.heap.size (X.setCell (zH gp (o+1)) (zK gf of m cf)) Z/\Bx Z w.heap.size 145 [zJ d 0,zI x]) ⟨(bY.setCell (p:=zH w.heap.size 0) zD _).setCell (p:=zH w.heap.size 1) zD _,(yY.set 0 _).set 1 _⟩ ?_
  rintro Z ⟨bZ,yZ⟩
  have e0:=yZ.cell 0 rfl
  have e1:=yZ.cell 1 rfl
  exact bodyPost_ret (v:=.agg #[zJ d 0,zI x]) (by simp[results,Tryz.results216,go_sem,e0,e1]) rfl ⟨rfl,X,bX,bZ⟩
theorem ym.front {B sz n m g off cap:Nat} {w:World} {xs ys:List Value} (h:ym B sz w (zK g off n cap) n xs) (hm:m<=n) (hl:ys.length=m * sz) (hy:∀i,(hi:i<ys.length)->xs[i]?=some ys[i]):ym B sz w (zK g off m cap) m ys:=by
 refine⟨hl,.inr ?_⟩
 rcases h.2 with⟨e,_⟩ | ⟨g',o',c',e,hB,hg,hnc,hc,hsp,hx⟩
 ·cases e
 ·cases e
  refine⟨g,off,cap,rfl,hB,hg,by omega,hc,hsp,fun i hi=>?_⟩
  obtain⟨hi',e⟩:=List.getElem?_eq_some_iff.1 (hy i hi)
  rw[hx i hi',e]
theorem V0 (D:Nat->Nat) (fs:List jV) (i:Nat) (hi:i<(cells2 (yk D fs.dropLast)).length):(cells2 (yk D fs))[i]?=some (cells2 (yk D fs.dropLast))[i]:=by
 rcases List.eq_nil_or_concat fs with e | ⟨l,x,e⟩
 ·subst e
  simp[yk,cells2] at hi
 ·have e':fs=l ++ [x]:=by rw[e,List.concat_eq_append]
  subst e'
  have e2:(l ++ [x]).dropLast=l:=by simp
  simp only[e2] at hi ⊢
  rw[Xp,List.getElem?_append_left hi,List.getElem?_eq_getElem hi]
theorem yj.loose {B:Nat} {ρ ρ':Nat->Rl} {w w':World} {P:Lay} (h:yj B ρ w P) (c:Ch (fun r=>r=.other) ρ ρ' w w'):yj B ρ' w' P:=fun r=>by
 cases r with
 | other=>trivial
 | _=>exact Lay.it_keep (h _) c (by simp)
theorem yj.popped {B:Nat} {ρ:Nat->Rl} {w w' W0:World} {P:Lay} (h:yj B ρ w P) (hB:B<=w.heap.size) {i m:Nat} (hi:i<P.L.za.length) {gp op cp gf of cf:Nat} (qz:P.vp=zK gp op P.L.za.length cp) (hF:P.F i=zK gf of (m+1) cf) (hm:qv P.L i=m+1) (JG:gp<w.heap.size) (V6:B<=gp) (hρ:ρ gp=.za)
 (b0:zO w W0) (b1:Below w.heap.size (W0.setCell (zH gp (op+i * 2+1)) (zK gf of m cf)) w') :
 ∃F',Goes B ρ w w' {P with F:=F',L:={P.L with za:=P.L.za.set i ⟨P.L.za[i].base,P.L.za[i].zg.dropLast⟩}}:=by
 have hfr:=(h (.zg i)) hi
 have hn:=kx hi
 rw[hF] at hfr
 have z0:=b0.size
 have c0:Ch (fun r=>r=.zg i) ρ (zv ρ w .other) w W0:=Ch.below b0 _ ρ .other
 have yd:ym B 2 W0 (zK gf of (m+1) cf) (m+1) (cells2 (yk P.D P.L.za[i].zg)):=by
  have:=hfr.1.below b0
  rw[<-hn,hm] at this
  exact this
 have hl:P.L.za[i].zg.dropLast.length=m:=by rw[List.length_dropLast,<-hn,hm,Nat.add_sub_cancel]
 have hlen:(cells2 (yk P.D P.L.za[i].zg.dropLast)).length=m * 2:=by rw[Qv];simp[yk];omega
 have hr':ym B 2 W0 (zK gf of m cf) P.L.za[i].zg.dropLast.length (cells2 (yk P.D P.L.za[i].zg.dropLast)):=by
  rw[hl]
  exact yd.front (by omega) hlen fun q hq=>V0 _ _ q hq
 have S:=h.setFrames hi c0 hr' (fun g e=>by rw[yJ (hfr.1.lt g e).2];exact hfr.2 g e) qz
 have zs:(W0.setCell (zH gp (op+i * 2+1)) (zK gf of m cf)).heap.size=W0.heap.size:=by simp
 have Kv:∀g,g<W0.heap.size->zv (zv ρ w .other) W0 .other g≠.other->g<w.heap.size:=fun g hg hr=>by
  rw[yJ hg] at hr
  exact Classical.byContradiction fun hc=>hr (qt (by omega))
 have c1:Ch (fun r=>r=.other) (zv (zv ρ w .other) W0 .other) (zv (zv (zv ρ w .other) W0 .other) (W0.setCell (zH gp (op+i * 2+1)) (zK gf of m cf)) .other) (W0.setCell (zH gp (op+i * 2+1)) (zK gf of m cf)) w' :=
  ⟨b1.size,fun g hg=>yJ hg,fun g hg hr=>b1.block g (Kv g (by omega) hr)⟩
 have hb:Below B w w':=((b0.mono hB).setCell (p:=zH gp (op+i * 2+1)) V6 _).trans (b1.mono hB)
 have C:Ch (fun r=>r≠.other) ρ (zv (zv (zv ρ w .other) W0 .other) (W0.setCell (zH gp (op+i * 2+1)) (zK gf of m cf)) .other) w w':=by
  refine⟨hb.size,fun g hg=>?_,fun g hg hr=>?_⟩
  ·rw[yJ (by omega),yJ (by omega),yJ hg]
  ·have xp:g≠gp:=fun e=>by subst e;rw[hρ] at hr;simp at hr
   rw[b1.block g hg,Below.heap_setCell _ _ _ _ xp,b0.block g hg]
 exact⟨_,_,S.loose c1,C,hb⟩
theorem yj.look {B:Nat} {ρ:Nat->Rl} {w:World} {P:Lay} (h:yj B ρ w P) {j:Nat} {t:km} (hj:P.L.zd[j]?=some t) :
 (Instr.lookup 115 (.map (some P.bm)) (zI (j:Int)) false).run Tryz.prog w=.ok (.agg #[zI t.page,zI t.place,zJ (P.D t.body) 0,zI t.zi]) w:=by
 obtain⟨hjl,rfl⟩:=List.getElem?_eq_some_iff.1 hj
 have hlk:=xw.look (P:=Tryz.prog) (t:=115) (kt:=3) (et:=143) (by kernel_rfl) (by kernel_rfl) (h .zd).1 (k:=j) (by simpa using hjl)
 have hval:(P.L.zd.map (xJ P.D))[j]'(by simpa using hjl)=xJ P.D P.L.zd[j]:=by simp
 rw[hval] at hlk
 exact hlk
theorem zaP {B:Nat} {ρ:Nat->Rl} {w:World} {P:Lay} (h:yj B ρ w P) (hB:B<=w.heap.size) (ho:xm P.L) {i:Nat} (hn:P.L.now=(i:Int)) (hi:i<P.L.za.length) (hf:qv P.L i=0) (hpl:P.L.za.length<=900) (htl:P.L.zd.length<=900)
 (hbs:ui P.L.zd.length (yu P.L i)) (xt:∀(j:Nat) (t:km),P.L.zd[j]?=some t->t.page=-1\/∃q:Nat,t.page=(q:Int)/\q<P.L.za.length) :
 Calls Tryz.prog 218 #[zJ P.bl 0] w fun e w'=>e=.returned (.tuple #[])/\∃F' uV,Goes B ρ w w' {P with F:=F',vo:=uV,L:=xh P.L i}:=by
 obtain⟨gp,op,cp,a,cf,qz,hF,p0,p1,z0,z1,V6,hρp,JG⟩:=h.pgAt hi
 have hbx:=h.box
 rw[qz,hn] at hbx
 have x1:=hbx.cell 1 rfl
 have x3:=hbx.cell 3 rfl
 have hiz:(i:Int)<(P.L.za.length:Int):=by omega
 have HL:Hid (yj B ρ w P):=h
 have hemp:P.L.za[i].zg=[]:=List.eq_nil_of_length_eq_zero (by rw[<-kx hi];exact hf)
 have hbl:Hid (yL P.L i (-1)={P.L with za:=P.L.za.set i ⟨-1,P.L.za[i].zg⟩}):=by
  show yL P.L i (-1)=_
  unfold yL
  rw[hemp]
 have HVP:Hid (P.vp=zK gp op P.L.za.length cp):=qz
 have HGP:Hid (B<=gp/\ρ gp=.za/\gp<w.heap.size):=⟨V6,hρp,JG⟩
 have HH:Hid (xm P.L/\P.L.now=(i:Int)/\P.L.za.length<=900/\P.L.zd.length<=900/\ui P.L.zd.length (yu P.L i)/\∀(j:Nat) (t:km),P.L.zd[j]?=some t->t.page=-1\/∃q:Nat,t.page=(q:Int)/\q<P.L.za.length):=⟨ho,hn,hpl,htl,hbs,xt⟩
 obtain⟨b0,hb0⟩:∃b0,yu P.L i=b0:=⟨_,rfl⟩
 have HB0:Hid (yu P.L i=b0):=hb0
 rw[hb0] at p0
 clear h hbx ho hn hf hpl htl hbs xt qz hF V6 hρp JG hemp hb0
 go_enter Tryz.func218,Tryz.ntmps218
 go_upto_region 0 with fail
 go_cut [2] (fun v wx=>v=zI b0/\zO w wx)
 case first =>
  go_region_law (fail)
  all_goals
   go_wp2_with fail
   go_meet
   exact⟨rfl,zS.drew⟩
 case rest =>
  obtain⟨rfl,qk⟩:=hcut
  have h1:=HL.out.below qk
  have xP:=qk.size
  have p1':=zc qk p0
  have z1':wc.frozen? (zH gp (op+i * 2))=false:=(World.frozen?_of_block (a:=⟨gp,op+i * 2,none⟩) (qk.block gp HGP.out.2.2)).trans z0
  have x1':=zc qk x1
  have x3':=zc qk x3
  have HE:Hid (∃F1,Goes B ρ w (wc.setCell (zH gp (op+i * 2)) (zI (-1))).drew {P with F:=F1,L:=yL P.L i (-1)}):=by
   have S:=h1.setBase hi HVP.out (-1)
   have c1:Ch (fun r=>r≠.other) ρ (zv ρ w .other) w wc:=Ch.below qk _ ρ .other
   have C:=(c1.trans (Ch.grown (qM wc gp (op+i * 2) (zI (-1))) (zv ρ w .other) .other fun q e=>by cases e;rw[yJ HGP.out.2.2,HGP.out.2.1];simp)).trans (Ch.drew _ _)
   have hbb:Below B w (wc.setCell (zH gp (op+i * 2)) (zI (-1))).drew:=((qk.mono hB).setCell (p:=zH gp (op+i * 2)) HGP.out.1 _).drew
   refine⟨fun k=>if k=i then P.F i else P.F k,_,?_,C,hbb⟩
   rw[hbl.out]
   exact S.below zS.drew
  clear h1 p0 z0 p1 z1 x1 x3
  go_upto_region 1 with fail
  go_cut [] (fun wy=>∃F1,Goes B ρ w wy {P with F:=F1,L:=yL P.L i (-1)})
  case first =>
   go_region_law (fail)
   all_goals
    go_wp2_with fail
    go_meet
    exact HE.out
  case rest =>
   obtain⟨F1,ρ1,h1,c1,b1⟩:=hcut
   have vJ:=b1.size
   have hbx:Bx wc P.bl 117 _:=h1.box
   have y3:wc.cell? (zH P.bl 3)=some (zI P.L.now):=hbx.cell 3 rfl
   rw[HH.out.2.1] at y3
   have y4:wc.cell? (zH P.bl 4)=some (.map (some P.bm)):=hbx.cell 4 rfl
   have f3:=hbx.frozen 3
   by_cases hb0:b0=-1
   ·have HG:Hid (Goes B ρ w (wc.setCell (zH P.bl 3) (zI (-1))) {P with F:=F1,L:=xh P.L i}):=by
     have hlv:xh P.L i={yL P.L i (-1) with now:=-1}:=by
      unfold xh
      rw[if_pos (HB0.out.trans hb0)]
     rw[hlv]
     exact⟨ρ1,h1.setNow (-1),c1.trans (Ch.set wc ρ1 P.bl 3 _ (by rw[(h1 .live).2.1];simp)),b1.setCell (p:=zH P.bl 3) (h1 .live).2.2 _⟩
    subst hb0
    clear h1 c1 b1 hbx y4
    go_wp2
    exact bodyPost_ret (results_none rfl _ _ _) rfl ⟨rfl,F1,P.vo,HG.out⟩
   ·obtain⟨ho,hn,hpl,htl,hbs,xt⟩:=HH.out
    rw[HB0.out] at hbs
    rcases hbs with e | ⟨j,e,hj⟩
    ·exact absurd e hb0
    ·subst e
     obtain⟨t,ht⟩:∃t,P.L.zd[j]?=some t:=⟨_,List.getElem?_eq_getElem hj⟩
     have hlk:=h1.look (j:=j) (t:=t) ht
     have hft:=Tryz.twin0
     have hjne:(j:Int)≠-1:=by omega
     have hjb:((j:Int) == -1)=false:=by simp
     have HG1:Hid (yj B ρ1 wc {P with F:=F1,L:=yL P.L i (-1)}/\Ch (fun r=>r≠.other) ρ ρ1 w wc/\Below B w wc):=⟨h1,c1,b1⟩
     have hlv:Hid (xh P.L i=if t.page=-1 then us (Kh (yL P.L i (-1)) i j t) i else us (yL P.L i (-1)) t.page.toNat):=by
      show xh P.L i=_
      unfold xh
      rw[if_neg (by rw[HB0.out];exact hb0),HB0.out,Int.toNat_natCast,show(yL P.L i (-1)).zd[j]?=some t from ht]
     have HO1:Hid (xm (yL P.L i (-1))/\(yL P.L i (-1)).za.length=P.L.za.length):=by
      have e:=(vV (L:=P.L) i (-1)).pl
      refine⟨?_,e⟩
      unfold xm
      rw[e]
      exact ho
     have HPG:Hid (P.L.za.length<=900/\(t.page=-1\/∃q:Nat,t.page=(q:Int)/\q<P.L.za.length)):=⟨hpl,xt j t ht⟩
     clear h1 c1 b1 hbx ho hn hpl htl xt
     by_cases htp:t.page=-1
     ·have HP:=zec HG1.out.1 (by omega) i (by rw[HO1.out.2];exact hi) j hj t (by obtain⟨_,e⟩:=List.getElem?_eq_some_iff.1 ht;exact e)
      rw[htp] at hlk
      go_wp2_with fail
      refine HP.mono ?_
      rintro e w2 ⟨rfl,ρ2,F2,h2,c2,b2⟩
      have hz3:=c2.size
      have h2':yj B ρ2 w2 {P with F:=F2,L:=Kh (yL P.L i (-1)) i j t}:=h2
      have hj2:(Kh (yL P.L i (-1)) i j t).zd[j]?=some ⟨(i:Int),0,t.body,0⟩:=by
       show(P.L.zd.set j _)[j]?=_
       rw[List.getElem?_set_self hj]
      have hlk2:=h2'.look (j:=j) hj2
      have y42:w2.cell? (zH P.bl 4)=some (.map (some P.bm)):=h2'.box.cell 4 rfl
      have HR:=zaa h2' (by omega) (by
       have:=HO1.out.1
       unfold xm at this ⊢
       show(yL P.L i (-1)).order.Perm ((List.range ((yL P.L i (-1)).za.set i _).length).map _)
       rw[List.length_set]
       exact this) (i:=i) (by show i<((yL P.L i (-1)).za.set i _).length;rw[List.length_set,HO1.out.2];exact hi) (by show((yL P.L i (-1)).za.set i _).length<=900;rw[List.length_set,HO1.out.2];exact HPG.out.1)
      have HC2:Hid (Ch (fun r=>r≠.other) ρ ρ2 w w2/\Below B w w2):=⟨HG1.out.2.1.trans c2,HG1.out.2.2.trans b2⟩
      clear h2 h2' c2 b2 hlk HP y4 y3
      go_wp2_with fail
      refine HR.mono ?_
      rintro e w3 ⟨rfl,vo3,hG⟩
      have HG3:Hid (Goes B ρ2 w2 w3 {P with F:=F2,vo:=vo3,L:=us (Kh (yL P.L i (-1)) i j t) i}):=hG
      clear hG HR
      go_wp2
      exact bodyPost_end (results_none rfl _ _ _) rfl ⟨rfl,F2,vo3,by rw[hlv.out,if_pos htp];exact Goes.trans HC2.out.1 HC2.out.2 HG3.out⟩
     ·rcases HPG.out.2 with e | ⟨q,e,hq⟩
      ·exact absurd e htp
      ·have HR:=zaa HG1.out.1 (by omega) HO1.out.1 (i:=q) (by rw[HO1.out.2];exact hq) (by rw[HO1.out.2];exact HPG.out.1)
       rw[e] at hlk
       have hqne:(q:Int)≠-1:=by omega
       have hqb:((q:Int) == -1)=false:=by simp
       go_wp2_with fail
       refine HR.mono ?_
       rintro e3 w3 ⟨rfl,vo3,hG⟩
       have HG3:Hid (Goes B ρ1 wc w3 {P with F:=F1,vo:=vo3,L:=us (yL P.L i (-1)) q}):=hG
       clear hG HR
       go_wp2
       exact bodyPost_end (results_none rfl _ _ _) rfl ⟨rfl,F1,vo3,by rw[hlv.out,if_neg htp,e,Int.toNat_natCast];exact Goes.trans HG1.out.2.1 HG1.out.2.2 HG3.out⟩
end Go.Proofs.YtbjgjjkgfnfejaaGreatDoor

/-
  Pages in a row of cells: bases and frames, the first page alone with frames.
-/
import Derived.Test.YtbjgjjkgfnfejaaGreatDoorMNewS
import Derived.Test.YtbjgjjkgfnfejaaGreatDoorMThing6
import Derived.Test.YtbjgjjkgfnfejaaGreatDoorPgBack
namespace Go.Proofs.YtbjgjjkgfnfejaaGreatDoor
set_option maxHeartbeats 4000000
set_option maxRecDepth 100000
open Go.RowKit
def zcD (f:Nat->Int) (vf:Value) (n:Nat):List Value:=(List.range n).flatMap fun i=>[zI (f i),if i=0 then vf else zQ]
theorem UW (f:Nat->Int) (vf:Value) (n:Nat):zcD f vf (n+1)=zcD f vf n ++ [zI (f n),if n=0 then vf else zQ]:=by simp[zcD,List.range_succ]
theorem Zo (f:Nat->Int) (vf:Value):∀n,(zcD f vf n).length=n * 2
 | 0=>rfl
 | n+1=>by rw[UW,List.length_append,Zo f vf n];simp;omega
theorem WX (f:Nat->Int) (vf:Value):∀(n i:Nat),i<n->(zcD f vf n)[i * 2]?=some (zI (f i))/\(zcD f vf n)[i * 2+1]?=some (if i=0 then vf else zQ)
 | 0,i,h=>absurd h yB
 | n+1,i,h=>by
  rw[UW]
  by_cases e:i=n
  ·subst e
   have hl:=Zo f vf i
   refine⟨?_,?_⟩
   ·rw[List.getElem?_append_right (by omega),hl];simp
   ·rw[List.getElem?_append_right (by omega),hl];simp
  ·have ih:=WX f vf n i (by omega)
   have hl:=Zo f vf n
   rw[List.getElem?_append_left (by omega),List.getElem?_append_left (by omega)]
   exact ih
theorem zgq {a b:List Value} {n:Nat} (ha:a.length=n * 2) (hb:b.length=n * 2) (h:∀i,i<n->a[i * 2]?=b[i * 2]?/\a[i * 2+1]?=b[i * 2+1]?):a=b:=by
 refine List.ext_getElem? fun j=>?_
 by_cases hj:j<n * 2
 ·have e:j=(j / 2) * 2\/j=(j / 2) * 2+1:=by omega
  rcases e with e | e
  ·rw[e];exact(h (j / 2) (by omega)).1
  ·rw[e];exact(h (j / 2) (by omega)).2
 ·rw[List.getElem?_eq_none (by omega),List.getElem?_eq_none (by omega)]
theorem JQ (vf:Value):∀n,(ZD vf n).length=n * 2
 | 0=>rfl
 | n+1=>by rw[UV,List.length_append,JQ vf n];simp;omega
theorem zfJ (vf:Value) (n:Nat) (h:1<=n):zI (-1) :: vf :: ZD (zQ) (n - 1)=zcD (fun _=>-1) vf n:=by
 refine zgq (n:=n) (by simp[JQ];omega) (Zo _ _ _) fun j hj=>?_
 obtain⟨b1,b2⟩:=WX (fun _=>-1) vf n j hj
 cases j with
 | zero=>exact⟨b1.symm,b2.symm⟩
 | succ j =>
  have a:=WW (zQ) (n - 1) j (by omega)
  rw[b1,b2,show(j+1) * 2=j * 2+1+1 by omega]
  exact⟨a.1,a.2⟩
def zaf:Mc:=⟨0,[],[],0,[],0,[],0⟩
theorem zdl (w:World):yC w (zQ) (zQ) (zQ) (zQ) zaf :=
 ⟨⟨none,0,rfl,Nat.zero_le _,fun _ h=>absurd h yB⟩,⟨none,0,rfl,Nat.zero_le _,fun _ h=>absurd h yB⟩,uj.nil w,Xy w none 0⟩
theorem VV.at {B:Nat} {w:World} {n t gp op cp gf:Nat} {vo vt:Value} {c:Int} (h:VV B w n t (zK gp op n cp) vo gf vt (zQ)) (Ww:1<=n) (hn:n<=4):yC w (zK gp op n cp) vo (zQ) (zQ) (yV n t c):=by
 have hpl:(xy n t).length=n:=by simp[xy]
 refine⟨⟨_,cp,by rw[show(yV n t c).za.length=n from hpl],by rw[show(yV n t c).za.length=n from hpl];unfold maxLen;omega,fun i hi=>?_⟩,h.o.at,uj.nil w,Xy w none 0⟩
 have hin:i<n:=by rw[<-hpl];exact hi
 have ev:(yV n t c).za[i]=⟨-1,if i=0 then [⟨0,0,-1,List.replicate t (0,0),[]⟩] else []⟩:=by simp[yV,xy]
 rw[ev]
 have hp:=h.p
 rw[zfJ _ _ Ww] at hp
 obtain⟨e0,e1⟩:=WX (fun _=>-1) (zK gf 0 1 1) n i hin
 have c0:=(hp.cell e0).1
 have c1:=(hp.cell e1).1
 rw[<-Nat.add_assoc] at c1
 refine⟨gp,op,_,rfl,c0,c1,?_⟩
 by_cases h0:i=0
 ·simp only[if_pos h0]
  refine⟨_,1,rfl,by unfold maxLen;simp,fun j hj=>?_⟩
  obtain rfl:j=0:=by simpa using hj
  exact⟨gf,0,vt,zQ,rfl,h.f.cell 0 rfl,h.f.cell 1 rfl,h.f.cell 2 rfl,h.f.cell 3 rfl,h.f.cell 4 rfl,h.t.at,Xy w none 0⟩
 ·simp only[if_neg h0]
  exact ke.nil w
def ky (ms:zM) (r c:Int):Mc:=if(yn ms && qP r c)=true then yV r.toNat (yr ms) c else zaf
theorem Yq (vp:Value) (ms:zM) (r c:Int) (w:World) (h:yD w vp ms) :
 Calls Tryz.prog 14 #[.agg #[vp],zI r,zI c] w fun e w'=>∃v1 v2 v3 v4,e=.returned (.tuple #[.agg (zu v1 v2 v3 v4 (ky ms r c)).toArray,.bool (yn ms && qP r c)])/\From w.heap.size w' (fun z=>yC z v1 v2 v3 v4 (ky ms r c))/\zO w w':=by
 refine(Kl vp ms r c w h).mono ?_
 rintro e w' ⟨hb,⟨h0,rfl⟩ | ⟨h1,v,vo,vt,vs,rfl,hN⟩⟩
 ·have e1:ky ms r c=zaf:=by unfold ky;rw[h0];rfl
  exact⟨_,_,_,_,by rw[e1,h0];rfl,by rw[e1];exact fun z _ _=>zdl z,hb⟩
 ·have e1:ky ms r c=yV r.toNat (yr ms) c:=by unfold ky;rw[if_pos h1]
  exact⟨_,_,_,_,by rw[e1,h1];rfl,by rw[e1];exact hN,hb⟩
theorem uz (vp:Value) (ms:zM) (r c:Int) (w:World) (h:yD w vp ms) :
 Calls Tryz.prog 13 #[.agg #[vp],zI r,zI c] w fun e w'=>∃v1 v2 v3 v4,e=.returned (.tuple #[.agg (zu v1 v2 v3 v4 (ky ms r c)).toArray,.bool (yn ms && qP r c)])/\yC w' v1 v2 v3 v4 (ky ms r c)/\zO w w':=by
 refine(J9 vp ms r c w h).mono ?_
 rintro e w' ⟨hb,⟨h0,rfl⟩ | ⟨h1,v,vo,gf,vt,vs,rfl,hN⟩⟩
 ·have e1:ky ms r c=zaf:=by unfold ky;rw[h0];rfl
  exact⟨_,_,_,_,by rw[e1,h0];rfl,by rw[e1];exact zdl _,hb⟩
 ·obtain⟨_,hr⟩:=Bool.and_eq_true_iff.1 h1
  obtain⟨X8,Wy,_,_⟩:=jZ hr
  have e1:ky ms r c=yV r.toNat (yr ms) c:=by unfold ky;rw[if_pos h1]
  obtain⟨gp,op,cp,hv,_,_⟩:=hN.p.form (by omega)
  have hsn:=hN.sn
  subst hv hsn
  exact⟨_,_,_,_,by rw[e1,h1];rfl,by rw[e1];exact hN.at (by omega) (by omega),hb⟩
def kK (n:Nat) (l:yH):Prop:=∀q,(hq:q<l.length)->l[q].1=2->qy l[q].2 0 ((n:Int) - 1)=true
structure Jw (m:Mc):Prop where
 fr:∀i k,(hi:i<m.za.length)->(hk:k<m.za[i].zg.length)->(m.za[i].zg[k].twin == -1 || qy m.za[i].zg[k].twin 0 ((m.zd.length:Int) - 1))=true/\kK m.zd.length m.za[i].zg[k].zh/\kK m.zd.length m.za[i].zg[k].zf
 bs:∀i,(hi:i<m.za.length)->(m.za[i].base == -1 || qy m.za[i].base 0 ((m.zd.length:Int) - 1))=true
 tw:∀j,(hj:j<m.zd.length)->(m.zd[j].page≠-1->frB m m.zd[j].page m.zd[j].place=true)/\(m.zd[j].page=-1->(m.zd[j].left.zi == -1 || qy m.zd[j].left.zi 0 ((m.zd.length:Int) - 1))=true/\kK m.zd.length m.zd[j].left.zh/\kK m.zd.length m.zd[j].left.zf)
theorem zfk {j:Int} {n:Nat} (w:World) (h:qy j 0 ((n:Int) - 1)=true):Calls Tryz.prog 58 #[zI j,zI n] w fun e w'=>e=.returned (.bool true)/\w'=w:=by
 have:=zZ j n w
 rwa [h] at this
theorem WC {j:Int} {n:Nat} (w:World) (h:(j == -1 || qy j 0 ((n:Int) - 1))=true):Calls Tryz.prog 96 #[zI j,zI n] w fun e w'=>e=.returned (.bool true)/\w'=w:=by
 have:=kV j n w
 rwa [h] at this
theorem kB (vp vo vt vs:Value) (m:Mc) (v:Value) (l:yH) (w:World) (h:yC w vp vo vt vs m) (hv:yi w v l) (hT:kK m.zd.length l) :
 Calls Tryz.prog 130 #[.agg (zu vp vo vt vs m).toArray,v] w fun e w'=>e=.returned (.bool true)/\zO w w':=by
 have HT:Hid (kK m.zd.length l):=hT
 clear hT
 obtain⟨av,cv,hvv,hlv,hcv⟩:=hv
 subst hvv
 unfold maxLen at hlv
 obtain⟨ap,cp,qz,hlp,hcp⟩:=id h.p
 obtain⟨ao,co,jw,hlo,hco⟩:=id h.o
 obtain⟨at',ct,jA,hlt',hct⟩:=id h.t
 obtain⟨as',cs,jG⟩:=h.s.shape
 subst qz jw jA jG
 unfold zu
 go_enter Tryz.func130,Tryz.ntmps130
 go_upto_region 1 with fail
 refine yg (fun W=>zO w W/\Bx W w.heap.size 34 [.int .i64 m.cells,.slice ap m.za.length cp,.slice ao m.order.length co,.int .i64 m.now,.slice at' m.zd.length ct,.int .i64 m.born,.slice as' m.zm.length cs,.int .i64 m.code]) ⟨zR _ _,Bx.new w _ _⟩ ?_
 rintro W ⟨hb,hm⟩
 obtain⟨⟨m0,m1,m2,m3,m4,m5,m6,m7⟩,_⟩:=jW hm
 have zb:=hb.size
 clear hcp hco hct hlp hlo hlt'
 go_wp2_with fail
 go_loopg [6,9] l.length (fun d _ v wr=>∃k:Nat,k<=l.length/\d=l.length - k/\v=zI (k:Int)/\zO w wr/\zO W wr)
 case atStart=>exact⟨0,Nat.zero_le _,rfl,rfl,hb,zS⟩
 case round =>
  obtain⟨k,hk,rfl,rfl,hbr,hbW⟩:=hrel
  have zr:=hbr.size
  have zW:=hbW.size
  have hmr:=hm.below hbW
  by_cases yt:k<l.length
  ·obtain⟨b,o,rfl,c0,c1⟩:=hcv k yt
   have d0:=zc hbr c0
   have d1:=zc hbr c1
   have HTk:=HT.out k yt
   obtain⟨L,hL⟩:∃L,l[k]=L:=⟨_,rfl⟩
   rw[hL] at d0 d1 HTk
   have v7:(k:Int)<(l.length:Int):=by omega
   clear hcv c0 c1 hL
   go_upto_region 4 with fail
   refine yg (fun W'=>zO wr W'/\Bx W' wr.heap.size 86 [.int .i64 L.1,.int .i64 L.2]) ⟨zR _ _,Bx.new _ _ _⟩ ?_
   rintro W2 ⟨t2,y2⟩
   have yE:=hbr.trans (t2.mono zr)
   have qR:=hbW.trans (t2.mono zW)
   have ww:=hmr.below t2
   have z2:=yE.size
   have z3:=qR.size
   clear t2 hmr d0 d1 m0 m1 m2 m3 m4 m5 m6 m7
   obtain⟨⟨m0,m1,m2,m3,m4,m5,m6,m7⟩,_⟩:=jW ww
   have y0:=y2.cell 0 rfl
   have y1:=y2.cell 1 rfl
   by_cases h2:L.1=2
   ·have HP:=zfk W2 (HTk h2)
    rw[h2] at y0
    clear HTk
    go_wp2_with fail
    refine HP.mono ?_
    rintro e W3 ⟨rfl,hw⟩
    obtain rfl:=hw.symm
    clear hw HP
    go_wp2
    go_roundg (l.length - (k+1))
    case measure=>omega
    case rel=>exact⟨k+1,by omega,rfl,by go_num,yE,qR⟩
   ·have h2b:(L.1 == 2)=false:=by simpa using h2
    clear HTk
    go_wp2
    go_roundg (l.length - (k+1))
    case measure=>omega
    case rel=>exact⟨k+1,by omega,rfl,by go_num,yE,qR⟩
  ·obtain rfl:k=l.length:=by omega
   go_wp2
   go_ret
   exact⟨rfl,hbr⟩
theorem Qq (vp vo vt vs:Value) (m:Mc) (i:Nat) (w:World) (h:yC w vp vo vt vs m) (hi:i<m.za.length) (hT:Jw m) (af:Option Addr) (cf:Nat) (hf:ke w (.slice af m.za[i].zg.length cf) m.za[i].zg) :
 Calls Tryz.prog 90 #[.agg (zu vp vo vt vs m).toArray,.agg #[zI m.za[i].base,.slice af m.za[i].zg.length cf]] w fun e w'=>e=.returned (.bool true)/\zO w w':=by
 have HT:Hid (Jw m):=hT
 clear hT
 have HM:Hid (yC w vp vo vt vs m):=h
 obtain⟨P,hP⟩:∃P,m.za[i]=P:=⟨_,rfl⟩
 have hbs:=HT.out.bs i hi
 have hfr:∀k,(hk:k<P.zg.length)->(P.zg[k].twin == -1 || qy P.zg[k].twin 0 ((m.zd.length:Int) - 1))=true/\kK m.zd.length P.zg[k].zh/\kK m.zd.length P.zg[k].zf:=fun k hk=>by
  have e:=hP
  subst e
  exact HT.out.fr i k hi hk
 rw[hP] at hf hbs ⊢
 have HBS:Hid ((P.base == -1 || qy P.base 0 ((m.zd.length:Int) - 1))=true):=hbs
 clear hP hbs HT
 obtain⟨_,_,e0,hlf,hcf⟩:=hf
 cases e0
 unfold maxLen at hlf
 obtain⟨ap,cp,qz,hlp,hcp⟩:=id h.p
 obtain⟨ao,co,jw,hlo,hco⟩:=id h.o
 obtain⟨at',ct,jA,hlt',hct⟩:=id h.t
 obtain⟨as',cs,jG⟩:=h.s.shape
 subst qz jw jA jG
 unfold zu
 go_enter Tryz.func90,Tryz.ntmps90
 go_upto_region 1 with fail
 refine yg (fun W=>zO w W/\Bx W w.heap.size 34 [.int .i64 m.cells,.slice ap m.za.length cp,.slice ao m.order.length co,.int .i64 m.now,.slice at' m.zd.length ct,.int .i64 m.born,.slice as' m.zm.length cs,.int .i64 m.code]/\Bx W (w.heap.size+1) 78 [.int .i64 P.base,.slice af P.zg.length cf]) ⟨(zR _ _).alloc (by simp) _,(Bx.new w _ _).alloc _,Bx.newAt _ _ _ (by simp)⟩ ?_
 rintro W ⟨hb,hm,hx⟩
 obtain⟨⟨m0,m1,m2,m3,m4,m5,m6,m7⟩,_⟩:=jW hm
 have x0:=hx.cell 0 rfl
 have x1:=hx.cell 1 rfl
 have zb:=hb.size
 clear hcp hco hct hlp hlo hlt'
 go_wp2_with fail
 go_loopg [6,10] P.zg.length (fun d _ v wr=>∃k:Nat,k<=P.zg.length/\d=P.zg.length - k/\v=zI (k:Int)/\zO w wr/\zO W wr)
 case atStart=>exact⟨0,Nat.zero_le _,rfl,rfl,hb,zS⟩
 case round =>
  obtain⟨k,hk,rfl,rfl,hbr,hbW⟩:=hrel
  have zr:=hbr.size
  have zW:=hbW.size
  have hmr:=hm.below hbW
  have hxr:=hx.below hbW
  clear m0 m1 m2 m3 m4 m5 m6 m7 x0 x1
  by_cases yt:k<P.zg.length
  ·obtain⟨bf,of,v1,v2,rfl,hF⟩:=hcf k yt
   obtain⟨HF1,HF2,HF3⟩:=hfr k yt
   obtain⟨F,hFe⟩:∃F,P.zg[k]=F:=⟨_,rfl⟩
   rw[hFe] at hF HF1 HF2 HF3
   obtain⟨d0,d1,d2,d3,d4,dt,ds⟩:=hF.below hbr
   obtain⟨a1,k1,e1⟩:=dt.shape
   obtain⟨a2,k2,e2⟩:=ds.shape
   subst e1 e2
   have v7:(k:Int)<(P.zg.length:Int):=by omega
   clear hcf hfr hF hFe
   go_upto_region 4 with fail
   refine yg (fun W'=>zO wr W'/\Bx W' wr.heap.size 75 [.int .i64 F.m,.int .i64 F.pc,.int .i64 F.twin,.slice a1 F.zh.length k1,.slice a2 F.zf.length k2]) ⟨zR _ _,Bx.new _ _ _⟩ ?_
   rintro W2 ⟨t2,y2⟩
   have yE:=hbr.trans (t2.mono zr)
   have qR:=hbW.trans (t2.mono zW)
   have ww:=hmr.below t2
   have dt2:=dt.below t2
   have ds2:=ds.below t2
   have z2:=yE.size
   have z3:=qR.size
   clear t2 hmr hxr dt ds d0 d1 d2 d3 d4
   obtain⟨⟨m0,m1,m2,m3,m4,m5,m6,m7⟩,_⟩:=jW ww
   have y2':=y2.cell 2 rfl
   have y3:=y2.cell 3 rfl
   have y4:=y2.cell 4 rfl
   have HP:=WC W2 HF1
   go_wp2_with fail
   refine HP.mono ?_
   rintro e W3 ⟨rfl,hw⟩
   obtain rfl:=hw.symm
   clear hw HP
   have HQ:=kB _ _ _ _ m _ F.zh W2 (HM.out.below yE) dt2 HF2
   unfold zu at HQ
   go_wp2_with fail
   refine HQ.mono ?_
   rintro e W3 ⟨rfl,t3⟩
   have Za:=yE.trans (t3.mono z2)
   have XK:=qR.trans (t3.mono z3)
   have Kw:=ww.below t3
   have ds3:=ds2.below t3
   have y24:=zc t3 y4
   have z4:=Za.size
   have z5:=XK.size
   clear HQ t3 ww dt2 ds2 m0 m1 m2 m3 m4 m5 m6 m7 y2' y3 y4 y2
   obtain⟨⟨m0,m1,m2,m3,m4,m5,m6,m7⟩,_⟩:=jW Kw
   have HR:=kB _ _ _ _ m _ F.zf W3 (HM.out.below Za) ds3 HF3
   unfold zu at HR
   go_wp2_with fail
   refine HR.mono ?_
   rintro e W4 ⟨rfl,t4⟩
   have hb6:=Za.trans (t4.mono z4)
   have hb7:=XK.trans (t4.mono z5)
   clear HR t4 m0 m1 m2 m3 m4 m5 m6 m7
   go_wp2
   go_roundg (P.zg.length - (k+1))
   case measure=>omega
   case rel=>exact⟨k+1,by omega,rfl,by go_num,hb6,hb7⟩
  ·obtain rfl:k=P.zg.length:=by omega
   obtain⟨⟨m0,m1,m2,m3,m4,m5,m6,m7⟩,_⟩:=jW hmr
   have x0:=hxr.cell 0 rfl
   clear hcf hfr
   go_wp2_with fail
   refine(WC _ HBS.out).mono ?_
   rintro e W2 ⟨rfl,hw⟩
   obtain rfl:=hw.symm
   go_wp2
   go_ret
   exact⟨rfl,hbr⟩
theorem Qr (vp vo vt vs:Value) (m:Mc) (j:Nat) (w:World) (h:yC w vp vo vt vs m) (hj:j<m.zd.length) (hT:Jw m) (w1 w2:Value) (h1:yi w w1 m.zd[j].left.zh) (h2:yi w w2 m.zd[j].left.zf) :
 Calls Tryz.prog 91 #[.agg (zu vp vo vt vs m).toArray,.agg #[zI m.zd[j].page,zI m.zd[j].place,zI m.zd[j].left.m,zI m.zd[j].left.pc,w1,w2,zI m.zd[j].left.zi,.bool m.zd[j].left.zy]] w fun e w'=>e=.returned (.bool true)/\zO w w':=by
 have HM:Hid (yC w vp vo vt vs m):=h
 obtain⟨hT1,hT2⟩:=hT.tw j hj
 obtain⟨T,hTe⟩:∃T,m.zd[j]=T:=⟨_,rfl⟩
 rw[hTe] at h1 h2 hT1 hT2 ⊢
 have HT1:Hid (T.page≠-1->frB m T.page T.place=true):=hT1
 have HT2:Hid (T.page=-1->(T.left.zi == -1 || qy T.left.zi 0 ((m.zd.length:Int) - 1))=true/\kK m.zd.length T.left.zh/\kK m.zd.length T.left.zf):=hT2
 clear hT hT1 hT2 hTe
 obtain⟨a1,k1,e1⟩:=h1.shape
 obtain⟨a2,k2,e2⟩:=h2.shape
 subst e1 e2
 obtain⟨ap,cp,qz,hlp,hcp⟩:=id h.p
 obtain⟨ao,co,jw,hlo,hco⟩:=id h.o
 obtain⟨at',ct,jA,hlt',hct⟩:=id h.t
 obtain⟨as',cs,jG⟩:=h.s.shape
 subst qz jw jA jG
 unfold zu
 go_enter Tryz.func91,Tryz.ntmps91
 go_upto_region 1 with fail
 refine yg (fun W=>zO w W/\Bx W w.heap.size 34 [.int .i64 m.cells,.slice ap m.za.length cp,.slice ao m.order.length co,.int .i64 m.now,.slice at' m.zd.length ct,.int .i64 m.born,.slice as' m.zm.length cs,.int .i64 m.code]/\Bx W (w.heap.size+1) 124 [.int .i64 T.page,.int .i64 T.place,.int .i64 T.left.m,.int .i64 T.left.pc,.slice a1 T.left.zh.length k1,.slice a2 T.left.zf.length k2,.int .i64 T.left.zi,.bool T.left.zy]) ⟨(zR _ _).alloc (by simp) _,(Bx.new w _ _).alloc _,Bx.newAt _ _ _ (by simp)⟩ ?_
 rintro W ⟨hb,hm,hx⟩
 obtain⟨⟨m0,m1,m2,m3,m4,m5,m6,m7⟩,_⟩:=jW hm
 obtain⟨⟨x0,x1,x2,x3,x4,x5,x6,x7⟩,_⟩:=jW hx
 have zb:=hb.size
 clear hcp hco hct hlp hlo hlt'
 by_cases hp:T.page=-1
 ·obtain⟨t1,t2,tq⟩:=HT2.out hp
  rw[hp] at x0
  have HP:=WC W t1
  go_wp2_with fail
  refine HP.mono ?_
  rintro e W3 ⟨rfl,hw⟩
  obtain rfl:=hw.symm
  clear hw HP
  have HQ:=kB _ _ _ _ m _ T.left.zh W (HM.out.below hb) (h1.below hb) t2
  unfold zu at HQ
  go_wp2_with fail
  refine HQ.mono ?_
  rintro e W3 ⟨rfl,t3⟩
  have qR:=hb.trans (t3.mono zb)
  have Kw:=hm.below t3
  have QX:=hx.below t3
  have z3:=qR.size
  clear HQ t3 hm hx m0 m1 m2 m3 m4 m5 m6 m7 x0 x1 x2 x3 x4 x5 x6 x7
  obtain⟨⟨m0,m1,m2,m3,m4,m5,m6,m7⟩,_⟩:=jW Kw
  obtain⟨⟨x0,x1,x2,x3,x4,x5,x6,x7⟩,_⟩:=jW QX
  have HR:=kB _ _ _ _ m _ T.left.zf W3 (HM.out.below qR) (h2.below qR) (by assumption)
  unfold zu at HR
  go_wp2_with fail
  refine HR.mono ?_
  rintro e W4 ⟨rfl,t4⟩
  have Za:=qR.trans (t4.mono z3)
  clear HR t4
  go_wp2
  go_ret
  exact⟨rfl,Za⟩
 ·have hpb:(T.page == -1)=false:=by simpa using hp
  have HF:=JK _ _ _ _ m T.page T.place W (HM.out.below hb)
  rw[HT1.out hp] at HF
  unfold zu at HF
  go_wp2_with fail
  refine HF.mono ?_
  rintro e W2 ⟨rfl,t2⟩
  have yE:=hb.trans (t2.mono zb)
  go_wp2
  go_ret
  exact⟨rfl,yE⟩
theorem Yr (vp vo vt vs:Value) (m:Mc) (w:World) (h:yC w vp vo vt vs m) (hT:Jw m) :
 Calls Tryz.prog 49 #[.agg (zu vp vo vt vs m).toArray] w fun e w'=>e=.returned (.bool true)/\zO w w':=by
 have HT:Hid (Jw m):=hT
 clear hT
 have HM:Hid (yC w vp vo vt vs m):=h
 obtain⟨ap,cp,qz,hlp,hcp⟩:=id h.p
 obtain⟨ao,co,jw,hlo,hco⟩:=id h.o
 obtain⟨at',ct,jA,hlt',hct⟩:=id h.t
 obtain⟨as',cs,jG⟩:=h.s.shape
 subst qz jw jA jG
 unfold zu
 go_enter Tryz.func49,Tryz.ntmps49
 go_upto_region 1 with fail
 refine yg (fun W=>zO w W/\Bx W w.heap.size 34 [.int .i64 m.cells,.slice ap m.za.length cp,.slice ao m.order.length co,.int .i64 m.now,.slice at' m.zd.length ct,.int .i64 m.born,.slice as' m.zm.length cs,.int .i64 m.code]) ⟨zR _ _,Bx.new w _ _⟩ ?_
 rintro W ⟨hb,hm⟩
 obtain⟨⟨m0,m1,m2,m3,m4,m5,m6,m7⟩,_⟩:=jW hm
 have zb:=hb.size
 unfold maxLen at hlp hlt'
 clear hco
 go_wp2_with fail
 go_loopg [4,10] m.za.length (fun d _ v wr=>∃k:Nat,k<=m.za.length/\d=m.za.length - k/\v=zI (k:Int)/\zO w wr/\zO W wr)
 case atStart=>exact⟨0,Nat.zero_le _,rfl,rfl,hb,zS⟩
 case round =>
  obtain⟨k,hk,rfl,rfl,hbr,hbW⟩:=hrel
  have zr:=hbr.size
  have zW:=hbW.size
  have hmr:=hm.below hbW
  clear m0 m1 m2 m3 m4 m5 m6 m7
  obtain⟨⟨m0,m1,m2,m3,m4,m5,m6,m7⟩,_⟩:=jW hmr
  by_cases yt:k<m.za.length
  ·obtain⟨bp,op,vf,rfl,xt⟩:=hcp k yt
   obtain⟨af,cf,QW⟩:=xt.f.shape
   subst QW
   have g0:=zc hbr xt.c0
   have g1:=zc hbr xt.c1
   have HFA:Hid (ke w (.slice af m.za[k].zg.length cf) m.za[k].zg):=xt.f
   have v7:(k:Int)<(m.za.length:Int):=by omega
   clear xt hcp hct
   go_upto_region 4 with fail
   refine yg (fun W'=>zO wr W'/\Bx W' wr.heap.size 78 [.int .i64 m.za[k].base,.slice af m.za[k].zg.length cf]) ⟨zR _ _,Bx.new _ _ _⟩ ?_
   rintro W2 ⟨t2,y2⟩
   have yE:=hbr.trans (t2.mono zr)
   have qR:=hbW.trans (t2.mono zW)
   have ww:=hmr.below t2
   have z2:=yE.size
   have z3:=qR.size
   clear t2 hmr g0 g1 m0 m1 m2 m3 m4 m5 m6 m7
   obtain⟨⟨m0,m1,m2,m3,m4,m5,m6,m7⟩,_⟩:=jW ww
   have y0:=y2.cell 0 rfl
   have y1:=y2.cell 1 rfl
   have HC:=Qq _ _ _ _ m k W2 (HM.out.below yE) yt HT.out af cf (HFA.out.below yE)
   unfold zu at HC
   go_wp2_with fail
   refine HC.mono ?_
   rintro e W3 ⟨rfl,t3⟩
   have Za:=yE.trans (t3.mono z2)
   have XK:=qR.trans (t3.mono z3)
   clear HC t3 m0 m1 m2 m3 m4 m5 m6 m7 y0 y1 y2
   go_wp2
   go_roundg (m.za.length - (k+1))
   case measure=>omega
   case rel=>exact⟨k+1,by omega,rfl,by go_num,Za,XK⟩
  ·obtain rfl:k=m.za.length:=by omega
   clear hcp
   go_wp2_with fail
   go_loopg [6,22] m.zd.length (fun d _ v wt=>∃k:Nat,k<=m.zd.length/\d=m.zd.length - k/\v=zI (k:Int)/\zO w wt/\zO wr wt)
   case atStart=>exact⟨0,Nat.zero_le _,rfl,rfl,hbr,zS⟩
   case round =>
    obtain⟨k,hk,rfl,rfl,hbt,hbT⟩:=hrel
    have zt:=hbt.size
    have zT:=hbT.size
    have hmt:=hmr.below hbT
    clear m0 m1 m2 m3 m4 m5 m6 m7
    obtain⟨⟨m0,m1,m2,m3,m4,m5,m6,m7⟩,_⟩:=jW hmt
    by_cases yt:k<m.zd.length
    ·obtain⟨bt,ot,w1,w2,rfl,ZT⟩:=hct k yt
     have h1:=ZT.t
     have h2:=ZT.s
     obtain⟨d0,d1,d2,d3,d4,d5,d6,d7,dt,ds⟩:=ZT.below hbt
     obtain⟨a1,k1,e1⟩:=dt.shape
     obtain⟨a2,k2,e2⟩:=ds.shape
     subst e1 e2
     have H1:Hid (yi w (.slice a1 m.zd[k].left.zh.length k1) m.zd[k].left.zh/\yi w (.slice a2 m.zd[k].left.zf.length k2) m.zd[k].left.zf):=⟨h1,h2⟩
     have v7:(k:Int)<(m.zd.length:Int):=by omega
     have HCT:Hid (∀W2,zO w W2->Calls Tryz.prog 91 #[.agg (zu (.slice ap m.za.length cp) (.slice ao m.order.length co) (zK bt ot m.zd.length ct) (.slice as' m.zm.length cs) m).toArray,.agg #[zI m.zd[k].page,zI m.zd[k].place,zI m.zd[k].left.m,zI m.zd[k].left.pc,.slice a1 m.zd[k].left.zh.length k1,.slice a2 m.zd[k].left.zf.length k2,zI m.zd[k].left.zi,.bool m.zd[k].left.zy]] W2 fun e w'=>e=.returned (.bool true)/\zO W2 w'):=fun W2 hW=>Qr _ _ _ _ m k W2 (HM.out.below hW) yt HT.out _ _ (H1.out.1.below hW) (H1.out.2.below hW)
     obtain⟨T,hTe⟩:∃T,m.zd[k]=T:=⟨_,rfl⟩
     rw[hTe] at d0 d1 d2 d3 d4 d5 d6 d7 HCT
     clear hct ZT dt ds h1 h2 H1 hTe
     go_upto_region 10 with fail
     refine yg (fun W'=>zO wr W'/\Bx W' wr.heap.size 124 [.int .i64 T.page,.int .i64 T.place,.int .i64 T.left.m,.int .i64 T.left.pc,.slice a1 T.left.zh.length k1,.slice a2 T.left.zf.length k2,.int .i64 T.left.zi,.bool T.left.zy]) ⟨zR _ _,Bx.new _ _ _⟩ ?_
     rintro W2 ⟨t2,y2⟩
     have yE:=hbt.trans (t2.mono zt)
     have qR:=hbT.trans (t2.mono zT)
     have ww:=hmt.below t2
     have z2:=yE.size
     have z3:=qR.size
     clear t2 hmt d0 d1 d2 d3 d4 d5 d6 d7 m0 m1 m2 m3 m4 m5 m6 m7
     obtain⟨⟨m0,m1,m2,m3,m4,m5,m6,m7⟩,_⟩:=jW ww
     obtain⟨⟨y0,y1,y2',y3,y4,y5,y6,y7⟩,_⟩:=jW y2
     have HC:=HCT.out W2 yE
     clear HCT
     unfold zu at HC
     go_wp2_with fail
     refine HC.mono ?_
     rintro e W3 ⟨rfl,t3⟩
     have Za:=yE.trans (t3.mono z2)
     have XK:=qR.trans (t3.mono z3)
     clear HC t3 m0 m1 m2 m3 m4 m5 m6 m7 y0 y1 y2 y2' y3 y4 y5 y6 y7
     go_wp2
     go_roundg (m.zd.length - (k+1))
     case measure=>omega
     case rel=>exact⟨k+1,by omega,rfl,by go_num,Za,XK⟩
    ·obtain rfl:k=m.zd.length:=by omega
     go_wp2
     go_ret
     exact⟨rfl,hbt⟩
theorem zd8 {n k:Nat} (hk:k<n):(k:Int)∈yG n n:=by
 unfold yG
 rw[List.mem_map]
 by_cases h:k=0
 ·exact⟨n - 1,List.mem_range.2 (by omega),by rw[show n - 1+1=n by omega,Nat.mod_self];subst h;rfl⟩
 ·exact⟨k - 1,List.mem_range.2 (by omega),by rw[show k - 1+1=k by omega,Nat.mod_eq_of_lt hk]⟩
theorem xe (n t:Nat):(xy n t).length=n:=by simp[xy]
theorem uS {n t i:Nat} (h:i<(xy n t).length):(xy n t)[i]=⟨-1,if i=0 then [⟨0,0,-1,List.replicate t (0,0),[]⟩] else []⟩:=by simp[xy]
theorem Xu (n t:Nat):∀k,k<=n->qc (xy n t) k=if k=0 then 0 else 1
 | 0,_=>uH _
 | k+1,h=>by
  rw[xB (by rw[xe];omega),Xu n t k (by omega),uS]
  by_cases e:k=0
  ·subst e;rfl
  ·simp[e]
theorem Qm {n t:Nat} {c:Int} (hn:1<=n):pgAt (yV n t c) 0=⟨-1,[⟨0,0,-1,List.replicate t (0,0),[]⟩]⟩:=by
 have:=kE (m:=yV n t c) (k:=0) (by show 0<(xy n t).length;rw[xe];omega)
 rw[show((0:Nat):Int)=0 from rfl] at this
 rw[this]
 exact uS (by rw[xe];omega)
theorem zd2 {n t k:Nat} {c:Int} (hk:k<n) (h0:k≠0):pgAt (yV n t c) (k:Int)=⟨-1,[]⟩:=by
 rw[kE (show k<(yV n t c).za.length by show k<(xy n t).length;rw[xe];omega)]
 show(xy n t)[k]'_=_
 rw[uS]
 simp[h0]
theorem Kc {n t:Nat} {c:Int} (hn:1<=n):qJ (yV n t c) 0 1=[⟨0,0,List.replicate t (0,0),[],-1,false⟩]:=by
 have hp0:=Qm (t:=t) (c:=c) hn
 unfold qJ
 have hf0:frAt (yV n t c) 0 0=⟨0,0,-1,List.replicate t (0,0),[]⟩:=by unfold frAt;rw[hp0];rfl
 have hs0:VE (yV n t c) 0 0=-1:=by
  unfold VE
  rw[show((0:Nat):Int)=0 from rfl,hp0]
  rfl
 simp only[List.range_one,List.map_cons,List.map_nil]
 rw[show((0:Nat):Int)=0 from rfl,hf0]
 unfold j8
 rw[hs0]
 simp[jx]
theorem UK {n t:Nat} {c:Int}:∀k,k<=n->yR (yV n t c) k=if k=0 then [] else [⟨0,0,List.replicate t (0,0),[],-1,false⟩]
 | 0,_=>rfl
 | k+1,h=>by
  rw[ZA,UK k (by omega)]
  by_cases e:k=0
  ·subst e
   rw[show((0:Nat):Int)=0 from rfl,Qm (by omega)]
   show [] ++ qJ (yV n t c) 0 1=_
   rw[Kc (by omega)]
   rfl
  ·rw[zd2 (by omega) e]
   simp[e,qJ]
theorem WO {n t:Nat} {c:Int} (hn:1<=n):yQ (yV n t c)=⟨[⟨0,0,List.replicate t (0,0),[],-1,false⟩],0,0,[],0⟩:=by
 unfold yQ
 have hln:(yV n t c).za.length=n:=xe n t
 rw[hln,UK n zD,if_neg (by omega)]
 have YK:kF (yV n t c)=0:=by
  unfold kF
  show(if qy 0 0 (((yV n t c).za.length:Int) - 1)=true/\(pgAt (yV n t c) 0).zg.length≠0 then Q4 (yV n t c) 0 (((pgAt (yV n t c) 0).zg.length:Int) - 1) else -1)=0
  rw[hln,Qm hn,if_pos ⟨zx.2 ⟨Int.le_refl _,by omega⟩,by simp⟩]
  rfl
 rw[YK]
 rfl
theorem zct {ms:zM} {n t:Nat} {c:Int} (h:yn ms=true) (hr:qP (n:Int) c=true):wJ ms (yV n t c)=true:=by
 have hn:=jZ hr
 have hln:(yV n t c).za.length=n:=xe n t
 have ho:kz (yV n t c)=true:=by
  unfold kz
  rw[hln]
  simp only[Bool.and_eq_true,List.all_eq_true,List.mem_range,decide_eq_true_iff]
  exact⟨vy n n,fun k hk=>zd8 hk⟩
 have hnw:Ke (yV n t c)=true:=by
  unfold Ke
  show((0:Int) == -1 || ((0:Int) == (yG n n).getD ((yG n n).length - 1) 0 && decide (0<(pgAt (yV n t c) 0).zg.length)))=true
  rw[Qm (by omega),vy]
  have:(yG n n).getD (n - 1) 0=0:=by
   unfold yG
   have h1:n - 1<n:=by omega
   simp[List.getD_eq_getElem?_getD,h1]
   rw[show((n - 1:Nat):Int)+1=(n:Int) by omega]
   exact Int.emod_self
  rw[this]
  simp
 have hcl:Zx (yV n t c)=1:=by
  unfold Zx
  show qc (xy n t) (xy n t).length+_=_
  rw[xe,Xu n t n zD,if_neg (by omega)]
  rfl
 unfold wJ
 rw[h,hln,show(yV n t c).cells=c from rfl,hr,ho,hnw,hcl]
 have h1:qy 1 1 30=true:=by decide
 have h2:yI (ms.length:Int) []=true:=rfl
 show(true && (true && (true && (true && (qy 1 1 30 && (decide (((1:Nat):Int)<=1) && (yI ms.length [] && (qy 0 0 3 && (((0:Int) == 1) == ((0:Int) == -1))))))))))=true
 rw[h1,h2]
 decide
theorem zcu {ms:zM} {n:Nat} {c:Int} (h:yn ms=true) (hr:qP (n:Int) c=true) (k:Nat) (hk:k<(yV n (yr ms) c).za.length):jY ms (yV n (yr ms) c) k (yV n (yr ms) c).za[k]=true:=by
 obtain⟨hl,h0,h4,ht,_⟩:=YD h
 have hg:ms.getD 0 (0,0,[])=ms[0]:=by simp[hl]
 have hn:=jZ hr
 have e:(yV n (yr ms) c).za[k]=⟨-1,if k=0 then [⟨0,0,-1,List.replicate (yr ms) (0,0),[]⟩] else []⟩:=uS (n:=n) (t:=yr ms) hk
 rw[e]
 have hb:∀fs,uk (yV n (yr ms) c) ⟨-1,fs⟩=true:=fun fs=>rfl
 by_cases Wt:k=0
 ·subst Wt
  unfold jY
  rw[if_pos rfl,hb]
  have hc:kf ms 0 ⟨0,0,List.replicate (yr ms) (0,0),[],-1,false⟩=true:=by
   have a2:qy (-1) (-1) (-1)=true:=by decide
   have qF:ms[0]?=some ms[0]:=List.getElem?_eq_getElem hl
   have hv:=U2 0 (yr ms)
   have hz:yI 0 []=true:=rfl
   have hm:qy 0 0 ((ms.length:Int) - 1)=true:=zx.2 ⟨by omega,by omega⟩
   have hpc:qy 0 0 (ms[0].2.2.length:Int)=true:=zx.2 ⟨by omega,by omega⟩
   simp[kf,qF,ht,hm,hpc,hv,hz,a2]
  have hf:jJ ms (yV n (yr ms) c) 0 0 ⟨0,0,-1,List.replicate (yr ms) (0,0),[]⟩=true:=by
   unfold jJ zax
   show(kf ms (0:Nat) ⟨0,0,List.replicate (yr ms) (0,0),[],-1,false⟩ && _)=true
   rw[show kf ms ((0:Nat):Nat) ⟨0,0,List.replicate (yr ms) (0,0),[],-1,false⟩=true from hc]
   rfl
  have hcs:(jQ [(⟨0,0,-1,List.replicate (yr ms) (0,0),[]⟩:Fr)] 1:Int)<=c:=by
   simp[jQ]
   omega
  simp only[List.length_cons,List.length_nil,Nat.zero_add,List.range_one,List.all_cons,List.all_nil,List.getD_cons_zero,hf,Bool.and_true,Bool.true_and]
  show decide ((jQ [(⟨0,0,-1,List.replicate (yr ms) (0,0),[]⟩:Fr)] 1:Int)<=c)=true
  exact decide_eq_true hcs
 ·unfold jY
  rw[if_neg Wt,hb]
  simp only[List.length_nil,List.range_zero,List.all_nil,Bool.and_true,Bool.true_and]
  show decide ((jQ [] 0:Int)<=c)=true
  exact decide_eq_true (by show(0:Int)<=c;omega)
theorem zfs {ms:zM} {n:Nat} {c:Int} (h:yn ms=true) (hr:qP (n:Int) c=true):vC ms (yV n (yr ms) c)=true:=by
 rw[UI (zct h hr) (fun k hk=>zcu h hr k hk) fun k hk=>absurd hk yB]
 rw[WO (by have:=jZ hr;omega)]
 have h1:qQ [(⟨0,0,List.replicate (yr ms) (0,0),[],-1,false⟩:Cl)] 0=1:=by simp[qQ,kg]
 have h2:jX [(⟨0,0,List.replicate (yr ms) (0,0),[],-1,false⟩:Cl)]=1:=by simp[jX]
 have h3:zaA [(⟨0,0,List.replicate (yr ms) (0,0),[],-1,false⟩:Cl)] 0:=fun i hi xp=>by
  have:i=0:=by simp at hi;omega
  subst this
  exact absurd rfl xp
 unfold ZQ
 rw[h1,h2]
 simp[h3]
theorem UJ (n t:Nat) (c:Int):∀i,(hi:i<(yV n t c).za.length)->(yV n t c).za[i].zg.length<=1/\∀j,(hj:j<(yV n t c).za[i].zg.length)->(yV n t c).za[i].zg[j].zh.length<=t/\(yV n t c).za[i].zg[j].zf.length=0:=by
 intro i hi
 have e:(yV n t c).za[i]=⟨-1,if i=0 then [⟨0,0,-1,List.replicate t (0,0),[]⟩] else []⟩:=uS (n:=n) (t:=t) hi
 generalize (yV n t c).za[i]=P at e ⊢
 subst e
 by_cases h0:i=0
 ·subst h0
  refine⟨by simp,fun j hj=>?_⟩
  have:j=0:=by simp at hj;omega
  subst this
  exact⟨by simp,rfl⟩
 ·simp[h0]
theorem Jc (vp vo vt vs:Value) (m:Mc) (w:World) (h:yC w vp vo vt vs m) (hT:Jw m) (hD:zdm m) (hn:m.za.length<=1048576) (hN:yc m.za+m.zd.length<=61) (hsh:(yQ m).short) :
 Calls Tryz.prog 17 #[.agg (zu vp vo vt vs m).toArray] w fun e w'=>(∃v V,e=.returned v/\qq w.heap.size w' v (jq (yQ m)) V)/\zO w w':=by
 have HM:Hid (yC w vp vo vt vs m):=h
 have hcn:(yQ m).ze.length<=61:=by
  show(yR m m.za.length ++ qV m m.zd.length).length<=_
  rw[List.length_append,qY zD,ki]
  exact hN
 obtain⟨ap,cp,qz,hlp,hcp⟩:=id h.p
 obtain⟨ao,co,jw,hlo,hco⟩:=id h.o
 obtain⟨at',ct,jA,hlt',hct⟩:=id h.t
 obtain⟨as',cs,jG⟩:=h.s.shape
 subst qz jw jA jG
 unfold zu
 go_enter Tryz.func17,Tryz.ntmps17
 go_upto_region 1 with fail
 refine yg (fun W=>zO w W/\Bx W w.heap.size 34 [.int .i64 m.cells,.slice ap m.za.length cp,.slice ao m.order.length co,.int .i64 m.now,.slice at' m.zd.length ct,.int .i64 m.born,.slice as' m.zm.length cs,.int .i64 m.code]) ⟨zR _ _,Bx.new w _ _⟩ ?_
 rintro W ⟨hb,hm⟩
 obtain⟨⟨m0,m1,m2,m3,m4,m5,m6,m7⟩,_⟩:=jW hm
 have zb:=hb.size
 clear hcp hco hct
 have HP:=Yr _ _ _ _ m W (HM.out.below hb) hT
 unfold zu at HP
 go_wp2_with fail
 refine HP.mono ?_
 rintro e W2 ⟨rfl,t2⟩
 have yE:=hb.trans (t2.mono zb)
 have ww:=hm.below t2
 have z2:=yE.size
 clear HP t2 hm m0 m1 m2 m3 m4 m5 m6 m7
 obtain⟨⟨m0,m1,m2,m3,m4,m5,m6,m7⟩,_⟩:=jW ww
 have HQ:=Z9 _ _ _ _ m W2 (HM.out.below yE) hD hn (by omega)
 unfold zu at HQ
 go_wp2_with fail
 refine HQ.mono ?_
 rintro e W3 ⟨vc,rfl,hc,t3⟩
 have qR:=yE.trans (t3.mono z2)
 have z3:=qR.size
 have HV:Hid (Calls Tryz.prog 23 #[.agg #[vc,zI (kF m),zI 0,zQ,zI 0]] W3 fun e w'=>(∃v V,e=.returned v/\qq W3.heap.size w' v (jq (yQ m)) V)/\zO W3 w') :=
  J8 vc (zQ) (yQ m) W3 ⟨hc,⟨none,0,rfl,Nat.zero_le _,fun _ hi=>absurd hi yB⟩⟩ hsh hcn
 clear HQ t3 ww m0 m1 m2 m3 m4 m5 m6 m7
 go_wp2_with fail
 refine HV.out.mono ?_
 rintro e W4 ⟨⟨v,V,rfl,hv⟩,t4⟩
 have Za:=qR.trans (t4.mono z3)
 have hv2:=hv.mono z3
 have jG:=hv2
 obtain⟨x1,x2,x3⟩:=jG.at.shape
 subst x3
 have HO:Hid (qq w.heap.size W4 (.slice x1 (jq (yQ m)).length x2) (jq (yQ m)) V):=hv2
 clear hv jG hv2
 go_wp2
 go_ret
 exact⟨⟨_,V,rfl,HO.out⟩,Za⟩
end Go.Proofs.YtbjgjjkgfnfejaaGreatDoor

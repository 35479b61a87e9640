/-
  The program's step, its parts: the operation that is next, the kinds of what is taken, what is taken, who does it.
-/
import Derived.Test.YtbjgjjkgfnfejaaGreatDoorLMem2
namespace Go.Proofs.YtbjgjjkgfnfejaaGreatDoor
set_option maxHeartbeats 4000000
set_option maxRecDepth 100000
open Go.RowKit
theorem WX (vp:Value) (ms:Ms) (m pc:Nat) (w:World) (hM:yD w vp ms) (hm:m<ms.length) :
 Calls Tryz.prog 127 #[.agg #[vp],zI m,zI pc] w fun e w'=>e=.returned (.tuple #[.agg #[zI (ms[m].2.2.getD pc (0,0)).1,zI (ms[m].2.2.getD pc (0,0)).2],.bool (decide (pc<ms[m].2.2.length))])/\zO w w':=by
 have hA:zO w ((w.alloc (.cells #[vp] 25)).alloc (.cells #[.int .i64 0,.int .i64 0] 70)):=(zR _ _).alloc (by simp) _
 have hMA:=hM.below hA
 obtain⟨ap,cp,qI,hlp,hms⟩:=id hMA
 obtain⟨pb,po,vo,hap,p0,p1,p2,p3⟩:=hms m hm
 obtain⟨oa,oc,j5,hol,hops⟩:=id p3
 subst qI hap j5
 have r1:=xJ (w.alloc (.cells #[.slice (some ⟨pb,po,none⟩) ms.length cp] 25)) 70 (.int .i64 0) (.int .i64 0)
 simp only[World.size_alloc] at r1
 have hmz:(m:Int)<(ms.length:Int):=by omega
 clear hms hM hMA
 by_cases hpl:pc<ms[m].2.2.length
 ·rw[decide_eq_true hpl,yn hpl]
  obtain⟨ob,oo,hob,q0,q1⟩:=hops pc hpl
  subst hob
  have hpz:(pc:Int)<(ms[m].2.2.length:Int):=by omega
  have hp0:(0:Int)<=(pc:Int):=by omega
  clear hops p3
  generalize ms[m].2.2[pc]=op at *
  obtain⟨kk,a⟩:=op
  generalize ms[m].2.2.length=no at *
  have r0:=(QX w 25 (.slice (some ⟨pb,po,none⟩) ms.length cp)).alloc (.cells #[.int .i64 0,.int .i64 0] 70)
  go_enter Tryz.func127,Tryz.ntmps127
  go_upto_region 1 with fail
  generalize (w.alloc (.cells #[.slice (some ⟨pb,po,none⟩) ms.length cp] 25)).alloc (.cells #[.int .i64 0,.int .i64 0] 70)=W at *
  obtain⟨⟨u0,u1⟩,uf0,uf1⟩:=zZ r1
  have v0:=r0.cell (i:=0) (by decide)
  go_wp2_with (go_at_call 58;refine(yc _ _ _).mono ?_;rintro e w' ⟨rfl,hw⟩;obtain rfl:=hw.symm;rw[zF.2 ⟨hp0,by omega⟩])
  have R9:((W.setCell (zH (w.heap.size+1) 0) (zI kk)).setCell (zH (w.heap.size+1) 1) (zI a)).rowIs (w.heap.size+1) 70 2 (Jn (zI kk) (zI a)):=((uO r1 (zI kk)).set 1 (zI a)).congr fun i hi=>by match i,hi with | 0,_=>rfl | 1,_=>rfl
  have B9:zO w ((W.setCell (zH (w.heap.size+1) 0) (zI kk)).setCell (zH (w.heap.size+1) 1) (zI a)):=(hA.setCell (p:=zH (w.heap.size+1) 0) (Nat.le_succ _) _).setCell (p:=zH (w.heap.size+1) 1) (Nat.le_succ _) _
  obtain⟨⟨s0,s1⟩,_⟩:=zZ R9
  generalize (W.setCell (zH (w.heap.size+1) 0) (zI kk)).setCell (zH (w.heap.size+1) 1) (zI a)=W9 at *
  exact bodyPost_ret (v:=.tuple #[.agg #[zI kk,zI a],.bool true]) (by simp[results,Tryz.results127,go_sem,s0,s1]) rfl ⟨rfl,B9⟩
 ·rw[decide_eq_false hpl,List.getD_eq_getElem?_getD,List.getElem?_eq_none (by omega)]
  clear hops
  generalize ms[m].2.2.length=no at *
  have r0:=(QX w 25 (.slice (some ⟨pb,po,none⟩) ms.length cp)).alloc (.cells #[.int .i64 0,.int .i64 0] 70)
  go_enter Tryz.func127,Tryz.ntmps127
  go_upto_region 1 with fail
  generalize (w.alloc (.cells #[.slice (some ⟨pb,po,none⟩) ms.length cp] 25)).alloc (.cells #[.int .i64 0,.int .i64 0] 70)=W at *
  obtain⟨⟨u0,u1⟩,uf0,uf1⟩:=zZ r1
  have v0:=r0.cell (i:=0) (by decide)
  go_wp2_with (go_at_call 58;refine(yc _ _ _).mono ?_;rintro e w' ⟨rfl,hw⟩;obtain rfl:=hw.symm;rw[qc.2 (by omega)])
  have R9:((W.setCell (zH (w.heap.size+1) 0) (zI 0)).setCell (zH (w.heap.size+1) 1) (zI 0)).rowIs (w.heap.size+1) 70 2 (Jn (zI 0) (zI 0)):=((uO r1 (zI 0)).set 1 (zI 0)).congr fun i hi=>by match i,hi with | 0,_=>rfl | 1,_=>rfl
  have B9:zO w ((W.setCell (zH (w.heap.size+1) 0) (zI 0)).setCell (zH (w.heap.size+1) 1) (zI 0)):=(hA.setCell (p:=zH (w.heap.size+1) 0) (Nat.le_succ _) _).setCell (p:=zH (w.heap.size+1) 1) (Nat.le_succ _) _
  obtain⟨⟨s0,s1⟩,_⟩:=zZ R9
  generalize (W.setCell (zH (w.heap.size+1) 0) (zI 0)).setCell (zH (w.heap.size+1) 1) (zI 0)=W9 at *
  exact bodyPost_ret (v:=.tuple #[.agg #[zI 0,zI 0],.bool false]) (by simp[results,Tryz.results127,go_sem,s0,s1]) rfl ⟨rfl,B9⟩
variable {B:Nat} {w w':World} {bl br:Nat} {vp vcs vsd:Value} {C D:Nat->Nat} {T:Nat->Value × Value} {h h':Hp}
theorem LV.ptr (k:LV B w bl br vp vcs vsd C D T h) (hp:0<h.za.length):∃g off cap,vcs=zK g off h.za.length cap/\h.za.length<=cap/\∀i,i<h.za.length->w.cell? (zH g (off+i))=some (zJ (C i) 0):=by
 obtain⟨_,hr⟩:=k.row
 rcases hr with⟨_,e⟩ | ⟨g,off,cap,hv,_,_,hl,_,_,hx⟩
 ·omega
 ·refine⟨g,off,cap,hv,hl,fun i hi=>?_⟩
  have:=hx i (by simp[wY];exact hi)
  simpa [wY] using this
theorem kJ (k:LV B w bl br vp vcs vsd C D T h) {j:Nat} (hn:h.now=(j:Int)) (hj:j<h.za.length) :
 Calls Tryz.prog 227 #[zJ bl 0] w fun e w'=>e=.returned (zJ (D j) 0)/\w'=w:=by
 obtain⟨⟨x0,x1⟩,_⟩:=zZ k.hp
 rw[hn,u9] at x1
 obtain⟨⟨y0,y1,y2⟩,_⟩:=xu (k.cl j hj)
 go_enter Tryz.func227,Tryz.ntmps227
 go_wp2
 go_ret
 exact⟨rfl,rfl⟩
theorem U0 (k:LV B w bl br vp vcs vsd C D T h) (hn:h.now<0) :
 Calls Tryz.prog 227 #[zJ bl 0] w fun e w'=>e=.returned (.pointer none)/\w'=w:=by
 obtain⟨⟨x0,x1⟩,_⟩:=zZ k.hp
 rw[vr hn] at x1
 go_enter Tryz.func227,Tryz.ntmps227
 go_wp2
 go_ret
 exact⟨rfl,rfl⟩
theorem uy (k:LV B w bl br vp vcs vsd C D T h) {j:Nat} (hj:j<h.za.length) :
 Calls Tryz.prog 226 #[zJ bl 0,zI j] w fun e w'=>e=.returned (zJ (D j) 0)/\w'=w:=by
 obtain⟨⟨x0,x1⟩,_⟩:=zZ k.hp
 obtain⟨g,off,cap,hv,hl,hx⟩:=k.ptr (by omega)
 subst hv
 have z:=hx j hj
 clear hx
 obtain⟨⟨y0,y1,y2⟩,_⟩:=xu (k.cl j hj)
 have hjz:(j:Int)<(h.za.length:Int):=by omega
 go_enter Tryz.func226,Tryz.ntmps226
 go_wp2
 go_ret
 exact⟨rfl,rfl⟩
theorem Qp (j:Nat) (w:World) :
 Calls Tryz.prog 214 #[zI j] w fun e w'=>e=.returned (.agg #[zI 2,zI j])/\zO w w':=by
 have qF:((j:Int) == -1)=false:=zG.2 (by omega)
 go_enter Tryz.func214,Tryz.ntmps214
 go_wp2
 exact bodyPost_ret (v:=.agg #[zI 2,zI j]) (by simp[results,Tryz.results214,go_sem]) rfl ⟨rfl,zR _ _⟩
theorem QY (w:World) :
 Calls Tryz.prog 214 #[zI (-1)] w fun e w'=>e=.returned (.agg #[zI 0,zI 0])/\zO w w':=by
 go_enter Tryz.func214,Tryz.ntmps214
 go_wp2
 exact bodyPost_ret (v:=.agg #[zI 0,zI 0]) (by simp[results,Tryz.results214,go_sem]) rfl ⟨rfl,zR _ _⟩
theorem ZV (w:World):Calls Tryz.prog 54 #[.pointer none] w fun e w'=>e=.returned (zI (-1))/\w'=w:=by
 go_enter Tryz.func54,Tryz.ntmps54
 go_wp2
 go_ret
 exact⟨rfl,rfl⟩
theorem QD (c j:Nat) (w:World) (hc:w.cell? (zH c 1)=some (zI j)):Calls Tryz.prog 54 #[zJ c 0] w fun e w'=>e=.returned (zI j)/\w'=w:=by
 go_enter Tryz.func54,Tryz.ntmps54
 go_wp2
 go_ret
 exact⟨rfl,rfl⟩
theorem zdN (k:LV B w bl br vp vcs vsd C D T h) {j:Nat} (hn:h.now=(j:Int)) (hj:j<h.za.length) :
 Calls Tryz.prog 224 #[zJ bl 0] w fun e w'=>e=.returned (.agg #[zI 2,zI j])/\zO w w':=by
 have hA:zO w (w.alloc (.cells #[.int .i64 0,.int .i64 0] 86)):=zR _ _
 have rx:=xJ w 86 (.int .i64 0) (.int .i64 0)
 have kA:=k.below hA
 obtain⟨⟨x0,x1⟩,_⟩:=zZ kA.hp
 rw[hn,u9] at x1
 obtain⟨⟨y0,y1,y2⟩,_⟩:=xu (kA.cl j hj)
 go_enter Tryz.func224,Tryz.ntmps224
 go_wp2_with (go_at_call 214;refine(Qp j _).mono ?_;rintro e w2 ⟨rfl,hb⟩;have r2:=yp hb rx;obtain⟨⟨t0,t1⟩,tf0,tf1⟩:=zZ r2)
 have hB2:=hA.trans (hb.mono hA.size)
 have R9:((w2.setCell (zH w.heap.size 0) (zI 2)).setCell (zH w.heap.size 1) (zI j)).rowIs w.heap.size 86 2 (Jn (zI 2) (zI j)):=((uO r2 (zI 2)).set 1 (zI j)).congr fun i hi=>by match i,hi with | 0,_=>rfl | 1,_=>rfl
 have B9:=(hB2.setCell (p:=zH w.heap.size 0) zD (zI 2)).setCell (p:=zH w.heap.size 1) zD (zI j)
 generalize (w2.setCell (zH w.heap.size 0) (zI 2)).setCell (zH w.heap.size 1) (zI j)=W9 at *
 obtain⟨⟨q0,q1⟩,_⟩:=zZ R9
 exact bodyPost_ret (v:=.agg #[zI 2,zI j]) (by simp[results,Tryz.results224,go_sem,q0,q1]) rfl ⟨rfl,B9⟩
theorem Xb (k a:Int) (va:Value) (args:yH) (w:World) (hM:yo w va args) (h5:k=5->args.length=2) (h1:k=12\/k=13\/k=14\/k=15\/k=17\/k=18->1<=args.length) :
 Calls Tryz.prog 145 #[.agg #[zI k,zI a],va] w fun e w'=>e=.returned (.bool (qK k args))/\zO w w':=by
 obtain⟨aa,ca,rfl,hal,hc⟩:=hM
 have hA:zO w (w.alloc (.cells #[.int .i64 k,.int .i64 a] 70)):=zR _ _
 have ro:=xJ w 70 (.int .i64 k) (.int .i64 a)
 by_cases e5:k=5
 ·subst e5
  have hl:=h5 rfl
  obtain⟨b,o,rfl,p0,p1⟩:=hc 0 (by omega)
  obtain⟨b',o',Xw,q0,q1⟩:=hc 1 (by omega)
  obtain⟨rfl,rfl⟩:b=b'/\o=o':=by injection Xw with e;injection e with e1 e2;exact⟨e1,e2⟩
  have jT:(0:Int)<(args.length:Int):=by omega
  have xF:(1:Int)<(args.length:Int):=by omega
  have HK:Hid (qK 5 args=((args[0]'(by omega)).1 == 1 && (args[1]'(by omega)).1 == 1)):=by
   show _=_
   unfold qK
   rw[if_pos rfl,yn (by omega),yn (by omega)]
  have p0A:=zc hA p0
  have q0A:=zc hA q0
  simp only[Nat.zero_mul,Nat.add_zero,Nat.one_mul] at p0A q0A
  go_enter Tryz.func145,Tryz.ntmps145
  go_upto_region 1 with fail
  generalize w.alloc (.cells #[.int .i64 5,.int .i64 a] 70)=W at *
  obtain⟨⟨o0,o1⟩,_⟩:=zZ ro
  generalize hx:args[0].1=X at *
  generalize hy:args[1].1=Y at *
  by_cases ex:X=1
  ·subst ex
   go_wp2
   go_ret
   exact⟨by rw[HK.out];simp,hA⟩
  ·have ex':(X == 1)=false:=zG.2 ex
   go_wp2
   go_ret
   exact⟨by rw[HK.out,ex'];simp,hA⟩
 have e5':(k == 5)=false:=zG.2 e5
 by_cases ek:k=12\/k=13\/k=14\/k=15\/k=17\/k=18
 ·have hl:=h1 ek
  obtain⟨b,o,rfl,p0,p1⟩:=hc 0 (by omega)
  have jT:(0:Int)<(args.length:Int):=by omega
  have HK:Hid (qK k args=((args[0]'(by omega)).1 == 2)):=by
   show _=_
   unfold qK
   rw[if_neg e5,if_pos ek,yn (by omega)]
  have p0A:=zc hA p0
  simp only[Nat.zero_mul,Nat.add_zero] at p0A
  generalize args[0].1=X at *
  rcases ek with e | e | e | e | e | e
  all_goals
   subst e
   go_enter Tryz.func145,Tryz.ntmps145
   go_upto_region 1 with fail
   generalize w.alloc _=W at *
   obtain⟨⟨o0,o1⟩,_⟩:=zZ ro
   go_wp2
   go_ret
   exact⟨by rw[HK.out];rfl,hA⟩
 ·have HK:Hid (qK k args=true):=by
   show _=_
   unfold qK
   rw[if_neg e5,if_neg ek]
  have n12:(k == 12)=false:=zG.2 (by omega)
  have n13:(k == 13)=false:=zG.2 (by omega)
  have n14:(k == 14)=false:=zG.2 (by omega)
  have n15:(k == 15)=false:=zG.2 (by omega)
  have n17:(k == 17)=false:=zG.2 (by omega)
  have n18:(k == 18)=false:=zG.2 (by omega)
  clear e5 ek
  go_enter Tryz.func145,Tryz.ntmps145
  go_upto_region 1 with fail
  generalize w.alloc _=W at *
  obtain⟨⟨o0,o1⟩,_⟩:=zZ ro
  go_wp2
  go_ret
  exact⟨by rw[HK.out];rfl,hA⟩
theorem Zj {ms:Ms} {kk a t l:Int} (e:yv ms kk a=(t,l)) {DR:yH} (hd:(DR.length:Int)=t):(kk=5->DR.length=2)/\(kk=12\/kk=13\/kk=14\/kk=15\/kk=17\/kk=18->1<=DR.length):=by
 refine⟨fun q=>?_,fun q=>?_⟩
 ·subst q
  rw[je (by decide)] at e
  injection e with e1 e2
  have:tk 5=2:=rfl
  omega
 ·rw[je (by omega)] at e
  injection e with e1 e2
  have:1<=tk kk:=by
   rcases q with q | q | q | q | q | q <;> subst q <;> decide
  omega
theorem PsOk.nil (n:Nat):PsOk n []:=⟨by simp,fun p hp=>by cases hp⟩
theorem jD.cl {w:World} {a:Option Addr} {n c:Nat} {cs:List Cl} (h:jD w (.slice a n c) cs) {p:Nat} (hp:p<cs.length):∃b o vt vs,a=some ⟨b,o,none⟩/\zdh w b (o+p * 6) vt vs cs[p]:=by
 obtain⟨a',c',e,_,hc⟩:=h
 obtain⟨b,o,vt,vs,rfl,hx⟩:=hc p hp
 injection e with e1 e2 e3
 exact⟨b,o,vt,vs,e1,hx⟩
theorem ur.kept {B:Nat} {w w1:World} {d:Nat} {vt vs:Value} {c:Cl} (h:ur B w d vt vs c) (hs:w.heap.size<=w1.heap.size) (hr:∀r,B<=r->r<w.heap.size->w1.heap[r]?=w.heap[r]?):ur B w1 d vt vs c:=by
 obtain⟨r,ht,hs',hd,Km,WG⟩:=h
 exact⟨World.rowIs.of_block r (hr d hd (World.rowIs.lt r)),ht.kept hs fun g e=>hr g (ht.lt g e).1 (ht.lt g e).2,hs'.kept hs fun g e=>hr g (hs'.lt g e).1 (hs'.lt g e).2,hd,Km,WG⟩
theorem ur.mono {B B':Nat} {w:World} {d:Nat} {vt vs:Value} {c:Cl} (h:ur B w d vt vs c) (hB:B'<=B):ur B' w d vt vs c:=by
 obtain⟨r,ht,hs',hd,Km,WG⟩:=h
 exact⟨r,ht.mono hB,hs'.mono hB,Nat.le_trans hB hd,Km,WG⟩
def zdk (c:Cl):jg:=⟨c.m,c.pc,c.zg,c.zf,c.zv⟩
def jJ (fs:List Fr) (k:Nat):Nat:=((fs.take k).map fun f=>10+f.zg.length).sum
theorem QZ {fs:List Fr} {k:Nat} (h:k<fs.length):jJ fs (k+1)=jJ fs k+(10+fs[k].zg.length):=by
 unfold jJ
 rw[List.take_add_one,List.getElem?_eq_getElem h,List.map_append,List.sum_append]
 simp
theorem J4 {fs:List Fr} (ht:∀i,(hi:i<fs.length)->fs[i].zg.length<=1048576):∀k,k<=fs.length->jJ fs k<=k * 1048586
 | 0,_=>Nat.zero_le _
 | k+1,h=>by
  rw[QZ (show k<fs.length from h)]
  have:=J4 ht k (by omega)
  have:=ht k h
  omega
def jV (ms:zM) (m:Mc) (i:Nat) (p:Pg):Bool :=
 (List.range p.zh.length).all (fun k=>jH ms m i k (p.zh.getD k Fr.none)) && (decide ((jJ p.zh p.zh.length:Int)<=m.cells) && vY m p)
theorem zel {ms:zM} {m:Mc} {i:Nat} {p:Pg} {k:Nat} (hk:k<p.zh.length) (h:jH ms m i k p.zh[k]=false):jV ms m i p=false:=by
 unfold jV
 rw[Bool.and_eq_false_iff]
 left
 rw[List.all_eq_false]
 exact⟨k,List.mem_range.2 hk,by simp[hk,h]⟩
theorem zc0 {ms:zM} {m:Mc} {i:Nat} {p:Pg} (h:∀k,(hk:k<p.zh.length)->jH ms m i k p.zh[k]=true):jV ms m i p=(decide ((jJ p.zh p.zh.length:Int)<=m.cells) && vY m p):=by
 unfold jV
 have:(List.range p.zh.length).all (fun k=>jH ms m i k (p.zh.getD k Fr.none))=true:=List.all_eq_true.2 fun k hk=>by
  have hk':=List.mem_range.1 hk
  simp[hk',h k hk']
 rw[this,Bool.true_and]
theorem zbC (vq:Value) (ms:zM) (vp vo vt vs:Value) (m:Mc) (i:Nat) (w:World) (hq:yD w vq ms) (h:ql w vp vo vt vs m) (hops:∀i,(h:i<ms.length)->ms[i].2.2.length<=1000000) (hi:i<m.zd.length) (P:Pg) (hP0:m.zd[i]=P) (hsm:∀i,(hi:i<m.zd.length)->m.zd[i].zh.length<=1099511627776) (htl:∀k,(hk:k<P.zh.length)->P.zh[k].zg.length<=1048576) :
 Calls Tryz.prog 65 #[.agg #[vq],.agg (zE vp vo vt vs m).toArray,zI (i:Int)] w fun e w'=>e=.returned (.bool (jV ms m i P))/\zO w w':=by
 have HP:Hid (m.zd[i]=P):=hP0
 clear hP0
 have HOPS:Hid (∀i,(h:i<ms.length)->ms[i].2.2.length<=1000000):=hops
 have HSM:Hid (∀i,(hi:i<m.zd.length)->m.zd[i].zh.length<=1099511627776):=hsm
 have HTL:Hid (∀k,(hk:k<P.zh.length)->P.zh[k].zg.length<=1048576):=htl
 clear hops hsm htl
 obtain⟨aq,cq,hvq,hlq,hcq⟩:=id hq
 subst hvq
 obtain⟨ap,cp,qI,hlp,hcp⟩:=id h.p
 obtain⟨ao,co,j5,hlo,hco⟩:=id h.o
 obtain⟨at',ct,jz,hlt',hct⟩:=id h.t
 obtain⟨as',cs,km⟩:=h.s.shape
 subst qI j5 jz km
 unfold zE
 go_enter Tryz.func65,Tryz.ntmps65
 go_upto_region 1 with fail
 refine ym (fun W=>zO w W/\Bx W w.heap.size 25 [.slice aq ms.length cq]/\Bx W (w.heap.size+1) 34 [.int .i64 m.cells,.slice ap m.zd.length cp,.slice ao m.order.length co,.int .i64 m.now,.slice at' m.ze.length ct,.int .i64 m.born,.slice as' m.zm.length cs,.int .i64 m.code]) ⟨(zR _ _).alloc (by simp) _,(Bx.new w _ _).alloc _,Bx.newAt _ _ _ (by simp)⟩ ?_
 rintro W ⟨hb,hx,hm⟩
 have x0:=hx.cell 0 rfl
 obtain⟨⟨m0,m1,m2,m3,m4,m5,m6,m7⟩,_⟩:=uk hm
 obtain⟨bp,op,vf,hap,xE⟩:=hcp i hi
 subst hap
 rw[HP.out] at xE
 obtain⟨af,cf,Q9,hlf,hcf⟩:=id xE.f
 have g0:=zc hb xE.c0
 have g1:=zc hb xE.c1
 rw[Q9] at g1
 have hnb:P.zh.length<=1099511627776:=by have:=HSM.out i hi;rw[HP.out] at this;exact this
 have hiz:(i:Int)<(m.zd.length:Int):=by omega
 have zb:=hb.size
 have HFR:Hid (∀k,(hk:k<P.zh.length)->∃hk':k<m.zd[i].zh.length,m.zd[i].zh[k]=P.zh[k]):=fun k hk=>by
  have e:=HP.out
  subst e
  exact⟨hk,rfl⟩
 have hMW:=h.below hb
 have hQW:=hq.below hb
 have HG:Hid (zdi w bp (op+i * 2) vf P):=xE
 clear xE hcp
 go_wp2_with fail
 go_loopg [7,8,9,17] P.zh.length (fun d c _ _ v wr=>∃k:Nat,k<=P.zh.length/\d=P.zh.length - k/\v=zI (k:Int)/\c=zI (jJ P.zh k:Int)/\zO W wr/\∀q,(hq:q<P.zh.length)->q<k->jH ms m i q P.zh[q]=true)
 case atStart=>exact⟨0,Nat.zero_le _,rfl,rfl,rfl,zS,fun q _ h=>absurd h yB⟩
 case round =>
  obtain⟨k,hk,rfl,rfl,rfl,hbr,hall⟩:=hrel
  have HALL:Hid (∀q,(hq:q<P.zh.length)->q<k->jH ms m i q P.zh[q]=true):=hall
  clear hall
  have hxr:=hx.below hbr
  have hmr:=hm.below hbr
  have zr:=hbr.size
  have HBR:Hid (zO W wr):=hbr
  by_cases yz:k<P.zh.length
  ·obtain⟨bf,of,vt1,vs1,haf,hfr⟩:=hcf k yz
   subst haf
   obtain⟨d0,d1,d2,d3,d4,dt,ds⟩:=(hfr.below hb).below hbr
   obtain⟨a1,k1,e1⟩:=dt.shape
   obtain⟨a2,k2,e2⟩:=ds.shape
   rw[e1] at d3
   rw[e2] at d4
   have uW:(k:Int)<(P.zh.length:Int):=by omega
   have hcs:=QZ yz
   have hcl:=J4 HTL.out (k+1) yz
   have htk:=HTL.out k yz
   have hcb:jJ P.zh (k+1)<=1152932500506378240:=Nat.le_trans hcl (by omega)
   obtain⟨F,hF⟩:∃F,P.zh[k]=F:=⟨_,rfl⟩
   rw[hF] at d0 d1 d2 d3 d4 hcs htk
   obtain⟨C,hC⟩:∃C,jJ P.zh k=C:=⟨_,rfl⟩
   rw[hC] at hcs
   have HCS:Hid (jJ P.zh (k+1)=C+(10+F.zg.length)):=hcs
   have hcb2:C+(10+F.zg.length)<=1152932500506378240:=by omega
   rw[hC]
   obtain⟨hk',hFe⟩:=HFR.out k yz
   have HFE:Hid (m.zd[i].zh[k]=F):=hFe.trans hF
   have HFF:Hid (P.zh[k]=F):=hF
   clear hcs hcl hcb hC hF hFe e1 e2 dt ds hfr hcf
   go_upto_region 5 with fail
   refine ym (fun W'=>zO wr W'/\Bx W' wr.heap.size 75 [.int .i64 F.m,.int .i64 F.pc,.int .i64 F.twin,.slice a1 F.zg.length k1,.slice a2 F.zf.length k2]) ⟨zR _ _,Bx.new _ _ _⟩ ?_
   rintro W2 ⟨t2,y2⟩
   have yL:zO W W2:=HBR.out.trans (t2.mono zr)
   have QP:=hmr.below t2
   have wk:=hxr.below t2
   have z2:=yL.size
   clear t2 hmr hxr d0 d1 d2 d3 d4 m0 m1 m2 m3 m4 m5 m6 m7 x0 g0 g1
   obtain⟨⟨m0,m1,m2,m3,m4,m5,m6,m7⟩,_⟩:=uk QP
   have x0:=wk.cell 0 rfl
   obtain⟨f,hf⟩:∃f,jH ms m i k F=f:=⟨_,rfl⟩
   have HFO:=Wv _ ms _ _ _ _ m i k W2 (hQW.below yL) (hMW.below yL) HOPS.out hi hk' F HFE.out
   rw[hf] at HFO
   unfold zE at HFO
   go_wp2_with fail
   refine HFO.mono ?_
   rintro e W3 ⟨rfl,t3⟩
   have xn:zO W W3:=yL.trans (t3.mono z2)
   have y3:=y2.below t3
   clear HFO t3 QP wk y2 yL z2 m0 m1 m2 m3 m4 m5 m6 m7 x0
   cases f
   ·have HE:Hid (jV ms m i P=false):=zel yz (by rw[HFF.out];exact hf)
    have hbe:=hb.trans (xn.mono zb)
    go_wp2
    go_ret
    exact⟨zo HE.out.symm,hbe⟩
   have HN:Hid (∀q,(hq:q<P.zh.length)->q<k+1->jH ms m i q P.zh[q]=true):=fun q hq hqk=>by
    by_cases e:q=k
    ·subst e;rw[HFF.out];exact hf
    ·exact HALL.out q hq (by omega)
   have c3:=y3.cell 3 rfl
   clear hf HALL
   go_wp2_with fail
   refine(Wk _ F.zg.length _ _ (by omega)).mono ?_
   rintro e W4 ⟨rfl,hw⟩
   obtain rfl:=hw.symm
   clear hw
   go_wp2
   go_roundg (P.zh.length - (k+1))
   case measure=>omega
   case rel=>exact⟨k+1,by omega,rfl,by go_num,by rw[HCS.out];simp,xn,HN.out⟩
  ·obtain rfl:k=P.zh.length:=by omega
   have HE0:Hid (jV ms m i P=(decide ((jJ P.zh P.zh.length:Int)<=m.cells) && vY m P)):=zc0 fun q hq=>HALL.out q hq hq
   have uW:¬((P.zh.length:Int)<(P.zh.length:Int)):=by omega
   go_upto_region 9 with fail
   obtain⟨⟨m0,m1,m2,m3,m4,m5,m6,m7⟩,_⟩:=uk hmr
   have G0:=Gr.cell (zc hbr g0)
   have G1:=Gr.cell (zc hbr g1)
   have L0:=Gr.cell m0
   have L1:=Gr.cell m1
   have L2:=Gr.cell m2
   have L3:=Gr.cell m3
   have L4:=Gr.cell m4
   have L5:=Gr.cell m5
   have L6:=Gr.cell m6
   have L7:=Gr.cell m7
   have HBO:=jq (W:=wr) fun W' (hW:zO wr W')=>zaK _ _ _ _ m P af cf W' ((hMW.below hbr).below hW) HSM.out
   unfold zE at HBO
   have hbw:=hb.trans (hbr.mono zb)
   have zw:=hbw.size
   obtain⟨C,hC⟩:∃C,jJ P.zh P.zh.length=C:=⟨_,rfl⟩
   rw[hC] at HE0 ⊢
   clear hC
   by_cases hcc:(C:Int)<=m.cells
   ·have HE:Hid (jV ms m i P=vY m P):=by show _=_;rw[HE0.out];simp[hcc]
    obtain⟨fb,UA⟩:∃fb,vY m P=fb:=⟨_,rfl⟩
    rw[UA] at HBO HE
    clear HE0 UA m0 m1 m2 m3 m4 m5 m6 m7 x0
    refine WQ.region (by kernel_rfl) (by kernel_rfl) ?_
    iterate 14 (refine WQ.step (fun K hK=>?_);go_simp;first
     | (with_reducible refine hK _ ?_;clear hK K)
     | (with_reducible refine qu ?_;refine hK _ ?_;clear hK K)
     | (simp(contextual:=true) only [L0,L1,L2,L3,L4,L5,L6,L7,G0,G1,Result.andThen_ok,true_and];with_reducible refine qu ?_;refine hK _ ?_;clear hK K)
     | (with_reducible refine yE HBO ?_;refine hK _ ?_;clear hK K))
    refine WQ.nil ?_
    intro W3 hG3
    have xn:=hbw.trans (hG3.to.mono zw)
    clear hG3 HBO L0 L1 L2 L3 L4 L5 L6 L7 G0 G1
    go_wp2
    go_ret
    exact⟨zo HE.out.symm,xn⟩
   ·have HE:Hid (jV ms m i P=false):=by show _=_;rw[HE0.out];simp[hcc]
    have hcc2:m.cells<(C:Int):=by omega
    clear HE0 m0 m1 m2 m3 m4 m5 m6 m7 x0
    refine WQ.region (by kernel_rfl) (by kernel_rfl) ?_
    iterate 14 (refine WQ.step (fun K hK=>?_);go_simp;first
     | (with_reducible refine hK _ ?_;clear hK K)
     | (with_reducible refine qu ?_;refine hK _ ?_;clear hK K)
     | (simp(contextual:=true) only [L0,Result.andThen_ok,true_and];with_reducible refine qu ?_;refine hK _ ?_;clear hK K)
     | (with_reducible refine yE HBO ?_;refine hK _ ?_;clear hK K))
    refine WQ.nil ?_
    intro W3 hG3
    have xn:=hbw.trans (hG3.to.mono zw)
    clear hG3 HBO L0 L1 L2 L3 L4 L5 L6 L7 G0 G1
    go_wp2
    go_ret
    exact⟨zo HE.out.symm,xn⟩
structure Pl (w:World) (vp vo vt vs vl:Value) (m:Mc):Prop where
 mach:ql w vp vo vt vs m
 low:vU w vl (xV m.zd)
 fn:yd m.zd<=1099511627776
 tn:m.ze.length<=1099511627776
theorem Pl.below {w w':World} {vp vo vt vs vl:Value} {m:Mc} (h:Pl w vp vo vt vs vl m) (hb:zO w w'):Pl w' vp vo vt vs vl m:=⟨h.mach.below hb,h.low.below hb,h.fn,h.tn⟩
def XJ (m:Mc) (i k:Int):Int:=(yS m.zd i.toNat:Int)+k
def ue (m:Mc) (j:Int):Int:=if(uR m j).page=-1 then(yd m.zd:Int)+j else XJ m (uR m j).page (uR m j).place
def xg (m:Mc) (j:Int):Bool:=qC j 0 ((m.ze.length:Int) - 1) && ((uR m j).page == -1 || frB m (uR m j).page (uR m j).place)
def jQ (m:Mc) (j:Int):Int:=if j=-1 then -1 else ue m j
theorem zcA {m:Mc} {i k:Int} (h:frB m i k=true):∃a:Nat,i=(a:Int)/\a<m.zd.length/\0<=k/\(yS m.zd a:Int)+k<(yd m.zd:Int):=by
 obtain⟨a,b,ha,rfl,rfl,hb⟩:=ze4 h
 refine⟨a,rfl,ha,by omega,?_⟩
 have h1:=xy ha
 have h2:=kQ m.zd (k:=a+1) ha
 omega
theorem Yz (vp vo vt vs vl:Value) (m:Mc) (i:Nat) (k:Int) (w:World) (h:Pl w vp vo vt vs vl m) (hi:i<m.zd.length) (U9:-1<=k) (hk1:k<=1099511627776) :
 Calls Tryz.prog 131 #[.agg (zE vp vo vt vs m ++ [vl,zI (yd m.zd:Int)]).toArray,zI (i:Int),zI k] w fun e w'=>e=.returned (zI (XJ m (i:Int) k))/\zO w w':=by
 obtain⟨hM,hL,hN,hTn⟩:=h
 obtain⟨ap,cp,qI,hlp,hcp⟩:=id hM.p
 obtain⟨ao,co,j5⟩:=hM.o.shape
 obtain⟨at',ct,jz,hlt',hct⟩:=id hM.t
 obtain⟨as',cs,km⟩:=hM.s.shape
 obtain⟨al,cl,XB,hll,hcl⟩:=id hL
 subst qI j5 jz km XB
 unfold zE
 simp only[List.cons_append,List.nil_append]
 go_enter Tryz.func131,Tryz.ntmps131
 go_upto_region 1 with fail
 refine ym (fun W=>zO w W/\Bx W w.heap.size 152 [.int .i64 m.cells,.slice ap m.zd.length cp,.slice ao m.order.length co,.int .i64 m.now,.slice at' m.ze.length ct,.int .i64 m.born,.slice as' m.zm.length cs,.int .i64 m.code,.slice al (xV m.zd).length cl,.int .i64 (yd m.zd:Int)]) ⟨zR _ _,Bx.new w _ _⟩ ?_
 rintro W ⟨hb,hx⟩
 obtain⟨⟨x0,x1,x2,x3,x4,x5,x6,x7,x8,x9⟩,_⟩:=Yf hx
 have hil:i<(xV m.zd).length:=by rw[WT];exact hi
 obtain⟨b,o,hal,c0⟩:=hcl i hil
 subst hal
 have d0:=zc hb c0
 rw[zeP] at d0
 have hiz:(i:Int)<((xV m.zd).length:Int):=by omega
 have hfl:=kQ m.zd (k:=i) (by omega)
 have HE:Hid (XJ m (i:Int) k=(yS m.zd i:Int)+k):=by show _=_;unfold XJ;rw[Int.toNat_natCast]
 obtain⟨F,hF⟩:∃F,yS m.zd i=F:=⟨_,rfl⟩
 rw[hF] at d0 HE hfl
 have hFb:F<=1099511627776:=by omega
 clear hF hcl c0
 go_wp2
 go_ret
 exact⟨ug HE.out.symm,hb⟩
theorem Kz (vp vo vt vs vl:Value) (m:Mc) (j:Int) (w:World) (h:Pl w vp vo vt vs vl m) (hj:xg m j=true) :
 Calls Tryz.prog 134 #[.agg (zE vp vo vt vs m ++ [vl,zI (yd m.zd:Int)]).toArray,zI j] w fun e w'=>e=.returned (zI (ue m j))/\zO w w':=by
 unfold xg at hj
 obtain⟨hj1,WD⟩:=Bool.and_eq_true_iff.1 hj
 obtain⟨q,rfl,hq⟩:=zch hj1
 rw[Zl hq] at WD
 have HE0:Hid (ue m (q:Int)=if m.ze[q].page=-1 then(yd m.zd:Int)+(q:Int) else XJ m m.ze[q].page m.ze[q].place):=by show _=_;unfold ue;rw[Zl hq]
 have U8:=h
 clear hj hj1
 obtain⟨hM,hL,hN,hTn⟩:=h
 obtain⟨ap,cp,qI,hlp,hcp⟩:=id hM.p
 obtain⟨ao,co,j5⟩:=hM.o.shape
 obtain⟨at',ct,jz,hlt',hct⟩:=id hM.t
 obtain⟨as',cs,km⟩:=hM.s.shape
 obtain⟨al,cl,XB,hll,hcl⟩:=id hL
 subst qI j5 jz km XB
 unfold zE
 simp only[List.cons_append,List.nil_append]
 go_enter Tryz.func134,Tryz.ntmps134
 go_upto_region 1 with fail
 refine ym (fun W=>zO w W/\Bx W w.heap.size 152 [.int .i64 m.cells,.slice ap m.zd.length cp,.slice ao m.order.length co,.int .i64 m.now,.slice at' m.ze.length ct,.int .i64 m.born,.slice as' m.zm.length cs,.int .i64 m.code,.slice al (xV m.zd).length cl,.int .i64 (yd m.zd:Int)]) ⟨zR _ _,Bx.new w _ _⟩ ?_
 rintro W ⟨hb,hx⟩
 obtain⟨⟨x0,x1,x2,x3,x4,x5,x6,x7,x8,x9⟩,_⟩:=Yf hx
 obtain⟨b,o,U5,vs',hat,YY⟩:=hct q hq
 subst hat
 obtain⟨T,hT⟩:∃T,m.ze[q]=T:=⟨_,rfl⟩
 rw[hT] at YY HE0 WD
 obtain⟨d0,d1,d2,d3,d4,d5,d6,d7,dt,ds⟩:=YY.below hb
 obtain⟨a1,k1,e1⟩:=dt.shape
 obtain⟨a2,k2,e2⟩:=ds.shape
 rw[e1] at d4
 rw[e2] at d5
 have hqz:(q:Int)<(m.ze.length:Int):=by omega
 have zb:=hb.size
 clear hct YY dt ds e1 e2 hT hcl hcp
 go_upto_region 2 with fail
 refine ym (fun W'=>zO W W'/\Bx W' W.heap.size 124 [.int .i64 T.page,.int .i64 T.place,.int .i64 T.left.m,.int .i64 T.left.pc,.slice a1 T.left.zg.length k1,.slice a2 T.left.zf.length k2,.int .i64 T.left.zi,.bool T.left.zv]) ⟨zR _ _,Bx.new _ _ _⟩ ?_
 rintro W2 ⟨t2,y2⟩
 have yL:=hb.trans (t2.mono zb)
 have wk:=hx.below t2
 have z2:=yL.size
 clear hb hx t2 zb d0 d1 d2 d3 d4 d5 d6 d7 x0 x1 x2 x3 x4 x5 x6 x7 x8 x9
 obtain⟨⟨x0,x1,x2,x3,x4,x5,x6,x7,x8,x9⟩,_⟩:=Yf wk
 have y0:=y2.cell 0 rfl
 have y1:=y2.cell 1 rfl
 by_cases hp:T.page=-1
 ·have HE:Hid (ue m (q:Int)=(yd m.zd:Int)+(q:Int)):=by show _=_;rw[HE0.out,if_pos hp]
  rw[hp] at y0
  go_wp2
  go_ret
  exact⟨ug HE.out.symm,yL⟩
 have hpe:(T.page == -1)=false:=by simpa using hp
 rw[hpe,Bool.false_or] at WD
 obtain⟨a,ha,hal,U9,hk1⟩:=zcA WD
 have HE:Hid (ue m (q:Int)=XJ m (a:Int) T.place):=by show _=_;rw[HE0.out,if_neg hp,ha]
 rw[ha] at y0 hpe
 have HC:=Yz _ _ _ _ _ m a T.place W2 (U8.below yL) hal (by omega) (by omega)
 unfold zE at HC
 simp only[List.cons_append,List.nil_append] at HC
 clear HE0 WD hp ha
 go_wp2_with fail
 refine HC.mono ?_
 rintro e W3 ⟨rfl,t3⟩
 have xn:=yL.trans (t3.mono z2)
 go_wp2
 go_ret
 exact⟨ug HE.out.symm,xn⟩
theorem ZU (vp vo vt vs vl:Value) (m:Mc) (j:Int) (w:World) (h:Pl w vp vo vt vs vl m) (hj:(j == -1 || xg m j)=true) :
 Calls Tryz.prog 132 #[.agg (zE vp vo vt vs m ++ [vl,zI (yd m.zd:Int)]).toArray,zI j] w fun e w'=>e=.returned (zI (jQ m j))/\zO w w':=by
 have U8:=h
 obtain⟨hM,hL,hN,hTn⟩:=h
 obtain⟨ap,cp,qI,hlp,hcp⟩:=id hM.p
 obtain⟨ao,co,j5⟩:=hM.o.shape
 obtain⟨at',ct,jz,hlt',hct⟩:=id hM.t
 obtain⟨as',cs,km⟩:=hM.s.shape
 obtain⟨al,cl,XB,hll,hcl⟩:=id hL
 subst qI j5 jz km XB
 unfold zE
 simp only[List.cons_append,List.nil_append]
 go_enter Tryz.func132,Tryz.ntmps132
 go_upto_region 1 with fail
 refine ym (fun W=>zO w W/\Bx W w.heap.size 152 [.int .i64 m.cells,.slice ap m.zd.length cp,.slice ao m.order.length co,.int .i64 m.now,.slice at' m.ze.length ct,.int .i64 m.born,.slice as' m.zm.length cs,.int .i64 m.code,.slice al (xV m.zd).length cl,.int .i64 (yd m.zd:Int)]) ⟨zR _ _,Bx.new w _ _⟩ ?_
 rintro W ⟨hb,hx⟩
 obtain⟨⟨x0,x1,x2,x3,x4,x5,x6,x7,x8,x9⟩,_⟩:=Yf hx
 have zb:=hb.size
 by_cases h1:j=-1
 ·subst h1
  go_wp2
  go_ret
  exact⟨rfl,hb⟩
 have hje:(j == -1)=false:=by simpa using h1
 rw[hje,Bool.false_or] at hj
 have HE:Hid (jQ m j=ue m j):=by show _=_;unfold jQ;rw[if_neg h1]
 have HC:=Kz _ _ _ _ _ m j W (U8.below hb) hj
 unfold zE at HC
 simp only[List.cons_append,List.nil_append] at HC
 clear hj
 go_wp2_with fail
 refine HC.mono ?_
 rintro e W3 ⟨rfl,t3⟩
 have xn:=hb.trans (t3.mono zb)
 go_wp2
 go_ret
 exact⟨ug HE.out.symm,xn⟩
def wQ (m:Mc):Int:=if qC m.now 0 ((m.zd.length:Int) - 1)=true/\(pgAt m m.now).zh.length≠0 then XJ m m.now (((pgAt m m.now).zh.length:Int) - 1) else -1
theorem Vn (vp vo vt vs vl:Value) (m:Mc) (w:World) (h:Pl w vp vo vt vs vl m) :
 Calls Tryz.prog 93 #[.agg (zE vp vo vt vs m ++ [vl,zI (yd m.zd:Int)]).toArray] w fun e w'=>e=.returned (zI (wQ m))/\zO w w':=by
 have U8:=h
 obtain⟨hM,hL,hN,hTn⟩:=h
 obtain⟨ap,cp,qI,hlp,hcp⟩:=id hM.p
 obtain⟨ao,co,j5⟩:=hM.o.shape
 obtain⟨at',ct,jz,hlt',hct⟩:=id hM.t
 obtain⟨as',cs,km⟩:=hM.s.shape
 obtain⟨al,cl,XB,hll,hcl⟩:=id hL
 subst qI j5 jz km XB
 unfold zE
 simp only[List.cons_append,List.nil_append]
 go_enter Tryz.func93,Tryz.ntmps93
 go_upto_region 1 with fail
 refine ym (fun W=>zO w W/\Bx W w.heap.size 152 [.int .i64 m.cells,.slice ap m.zd.length cp,.slice ao m.order.length co,.int .i64 m.now,.slice at' m.ze.length ct,.int .i64 m.born,.slice as' m.zm.length cs,.int .i64 m.code,.slice al (xV m.zd).length cl,.int .i64 (yd m.zd:Int)]) ⟨zR _ _,Bx.new w _ _⟩ ?_
 rintro W ⟨hb,hx⟩
 obtain⟨⟨x0,x1,x2,x3,x4,x5,x6,x7,x8,x9⟩,_⟩:=Yf hx
 have zb:=hb.size
 obtain⟨f,hf⟩:∃f,qC m.now 0 ((m.zd.length:Int) - 1)=f:=⟨_,rfl⟩
 have HP:=yc m.now m.zd.length W
 rw[hf] at HP
 go_wp2_with fail
 refine HP.mono ?_
 rintro e W1 ⟨rfl,hw⟩
 obtain rfl:=hw.symm
 clear hw HP
 cases f
 ·have HE:Hid (wQ m=-1):=by show _=_;unfold wQ;rw[hf];simp
  go_wp2
  go_ret
  exact⟨ug HE.out.symm,hb⟩
 obtain⟨i,hi,hil⟩:=zcb hf
 obtain⟨bp,op,vf,hap,xE⟩:=hcp i hil
 subst hap
 obtain⟨af,cf,Q9⟩:=xE.f.shape
 have g1:=zc hb xE.c1
 rw[Q9] at g1
 have HE0:Hid (wQ m=if m.zd[i].zh.length≠0 then XJ m (i:Int) ((m.zd[i].zh.length:Int) - 1) else -1):=by show _=_;unfold wQ;rw[hf,hi,kX hil];simp
 have hsu:=xy hil
 have hsl:=kQ m.zd (k:=i+1) hil
 have HI:Hid (m.now=(i:Int)):=hi
 rw[hi] at x3 ⊢
 obtain⟨nf,hnf⟩:∃nf,m.zd[i].zh.length=nf:=⟨_,rfl⟩
 rw[hnf] at g1 HE0 hsu
 have hnb:nf<=1099511627776:=by omega
 have hiz:(i:Int)<(m.zd.length:Int):=by omega
 clear hcp xE Q9 hnf hsu hsl hcl hct hi hf
 by_cases h0:nf=0
 ·have HE:Hid (wQ m=-1):=by show _=_;rw[HE0.out,h0];simp
  rw[h0] at g1
  go_wp2
  go_ret
  exact⟨ug HE.out.symm,hb⟩
 have h0z:¬((nf:Int)=0):=by omega
 have hwn:IntKind.i64.wrap ((nf:Int) - 1)=(nf:Int) - 1:=by rw[IntKind.wrap_i64];omega
 have HE:Hid (wQ m=XJ m (i:Int) ((nf:Int) - 1)):=by show _=_;rw[HE0.out,if_pos h0]
 clear HE0
 go_upto_region 4 with fail
 have HC:=jq (W:=W) fun W' (hW:zO W W')=>Yz _ _ _ _ _ m i ((nf:Int) - 1) W' ((U8.below hb).below hW) hil (by omega) (by omega)
 unfold zE at HC
 simp only[List.cons_append,List.nil_append] at HC
 rw[HI.out] at HC
 have L0:=Gr.cell x0
 have L1:=Gr.cell x1
 have L2:=Gr.cell x2
 have L3:=Gr.cell x3
 have L4:=Gr.cell x4
 have L5:=Gr.cell x5
 have L6:=Gr.cell x6
 have L7:=Gr.cell x7
 have L8:=Gr.cell x8
 have L9:=Gr.cell x9
 have G1:=Gr.cell g1
 clear x0 x1 x2 x3 x4 x5 x6 x7 x8 x9 g1
 refine WQ.region (by kernel_rfl) (by kernel_rfl) ?_
 iterate 13 (refine WQ.step (fun K hK=>?_);go_simp;first
  | (with_reducible refine hK _ ?_;clear hK K)
  | (with_reducible refine qu ?_;refine hK _ ?_;clear hK K)
  | (simp(contextual:=true) only [L0,L1,L2,L3,L4,L5,L6,L7,L8,L9,G1,Result.andThen_ok,true_and];with_reducible refine qu ?_;refine hK _ ?_;clear hK K)
  | (with_reducible refine yE HC ?_;refine hK _ ?_;clear hK K))
 refine WQ.nil ?_
 intro W3 hG3
 have xn:=hb.trans (hG3.to.mono zb)
 clear hG3 HC L0 L1 L2 L3 L4 L5 L6 L7 L8 L9 G1
 go_wp2
 go_ret
 exact⟨ug HE.out.symm,xn⟩
theorem uz {ms:zM} (h:yr ms=true):kZ ms=⟨[⟨0,0,List.replicate (yx ms) (0,0),[],-1,false⟩],0,1,[],0⟩:=if_pos h
theorem Ug (n:Int) (k:Nat):yA n (List.replicate k (0,0))=true:=by
 refine KX fun i hi=>?_
 simp[qQ]
theorem zd7 {ms:zM} (h:yr ms=true):xm ms (kZ ms)=true:=by
 obtain⟨hl,h0,h4,ht,_⟩:=Zw h
 have hg:ms.getD 0 (0,0,[])=ms[0]:=by simp[hl]
 rw[uz h]
 have hv:=Ug 1 (yx ms)
 have hz:yA 1 []=true:=rfl
 have kf:yA (ms.length:Int) []=true:=rfl
 have hm:qC 0 0 ((ms.length:Int) - 1)=true:=zF.2 ⟨by omega,by omega⟩
 have hpc:qC 0 0 (ms[0].2.2.length:Int)=true:=zF.2 ⟨by omega,by omega⟩
 have hc:xN ms 1 ⟨0,0,List.replicate (yx ms) (0,0),[],-1,false⟩=true:=by
  have a2:qC (-1) (-1) 0=true:=by decide
  have qA:ms[0]?=some ms[0]:=List.getElem?_eq_getElem hl
  simp[xN,qA,ht,hm,hpc,hv,hz,a2]
 have he:X5 ⟨[⟨0,0,List.replicate (yx ms) (0,0),[],-1,false⟩],0,1,[],0⟩=true:=by
  simp[X5,qs,qz,jO,Jg]
 have hd:vg ms ⟨[⟨0,0,List.replicate (yx ms) (0,0),[],-1,false⟩],0,1,[],0⟩=true:=by
  have a1:qC 0 (-1) (1 - 1)=true:=by decide
  have a2:qC 1 1 30=true:=by decide
  have a3:qC 0 0 3=true:=by decide
  simp[vg,h,kf,a2,a3]
  exact a1
 simp only[xm,hd,he,List.all_cons,List.all_nil,List.length_cons,List.length_nil,Nat.zero_add,hc,Bool.and_self]
end Go.Proofs.YtbjgjjkgfnfejaaGreatDoor

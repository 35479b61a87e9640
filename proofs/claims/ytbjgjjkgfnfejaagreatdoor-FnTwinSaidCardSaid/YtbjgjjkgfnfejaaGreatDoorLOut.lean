/-
  A heap at work that the program hands out: in memory of its own.
-/
import Derived.Test.YtbjgjjkgfnfejaaGreatDoorLLive5
import Derived.Test.YtbjgjjkgfnfejaaGreatDoorLRun1
import Derived.Test.YtbjgjjkgfnfejaaGreatDoorTrim
namespace Go.Proofs.YtbjgjjkgfnfejaaGreatDoor
set_option maxRecDepth 100000
open Go.RowKit
variable {B:Nat} {w w':World} {bl br:Nat} {vp vcs vsd:Value} {C D:Nat->Nat} {T:Nat->Value × Value} {h h':Hp}
theorem LV.lstBlk (q:Nat):(lst T q).ownBlock=(if q % 2=0 then jw.zg (q / 2) else jw.zf (q / 2)).at bl br vcs vsd C D T:=by
 unfold lst
 by_cases e:q % 2=0
 ·rw[if_pos e,if_pos e];rfl
 ·rw[if_neg e,if_neg e];rfl
theorem LV.out (k:LV B w bl br vp vcs vsd C D T h) {v:Value} (hr:qr w.heap.size w' v (Zs h T h.za.length)) (hb:zO w w') (hB:B<=w.heap.size):qZ B w' v vsd h T:=by
 have kb:=k.below hb
 have hok:∀q,q<h.za.length * 2->(if q % 2=0 then jw.zg (q / 2) else jw.zf (q / 2)).ok h.za.length:=fun q hq=>by
  by_cases e:q % 2=0
  ·rw[if_pos e];show q / 2<_;omega
  ·rw[if_neg e];show q / 2<_;omega
 have hlow:∀q,q<h.za.length * 2->∀g,(lst T q).ownBlock=some g->g<w.heap.size:=fun q hq g e=>by
  rw[LV.lstBlk (bl:=bl) (br:=br) (vcs:=vcs) (vsd:=vsd) (C:=C) (D:=D)] at e
  exact(k.lo _ (hok q hq) g e).2
 refine⟨⟨?_,fun i hi=>kb.ts i hi,fun q hq g e=>⟨fun e2=>?_,fun q' hq' qF e2=>?_⟩⟩,kb.sd,fun g e hcb=>?_⟩
 ·rcases hr.2 with⟨h0,h1⟩ | ⟨g,off,cap,hv,hg,hgl,hl,hc,hsp,hx⟩
  ·rw[wN] at h1
   exact .inl ⟨h0,List.eq_nil_of_length_eq_zero h1⟩
  ·rw[wN] at hv hl
   refine .inr ⟨g,off,cap,hv,by omega,hgl,hl,hc,hsp,fun i hi=>?_⟩
   have hi':i<(Zs h T h.za.length).length:=by rw[wN];exact hi
   obtain⟨r0,r1,r2,r3,r4,r5⟩:=zcd (Zs h T h.za.length) i hi'
   have hget:∀(j:Nat) (u:Value),(Zt (Zs h T h.za.length))[j]?=some u->w'.cell? (zH g (off+j))=some u:=fun j u hu=>by
    have hj:j<(Zt (Zs h T h.za.length)).length:=by
     by_cases q:j<(Zt (Zs h T h.za.length)).length
     ·exact q
     ·rw[List.getElem?_eq_none (by omega)] at hu;cases hu
    rw[hx j hj,<-List.getElem?_eq_getElem,hu]
   have ea:=zeU h T hi zD
   rw[ea] at r0 r1 r2 r3 r4 r5
   refine⟨hget _ _ r0,?_,?_,?_,?_,?_⟩
   ·simpa [Nat.add_assoc] using hget _ _ r1
   ·simpa [Nat.add_assoc] using hget _ _ r2
   ·simpa [Nat.add_assoc] using hget _ _ r3
   ·simpa [Nat.add_assoc] using hget _ _ r4
   ·simpa [Nat.add_assoc] using hget _ _ r5
 ·have:=hlow q hq g e
  have:=(hr.lt g e2).1
  omega
 ·have e1:=e
  rw[LV.lstBlk (bl:=bl) (br:=br) (vcs:=vcs) (vsd:=vsd) (C:=C) (D:=D)] at e1 e2
  have:=k.ap _ _ (hok q hq) (hok q' hq') g e1 e2
  by_cases m:q % 2=0
  ·by_cases m':q' % 2=0
   ·rw[if_pos m,if_pos m'] at this;injection this with z;omega
   ·rw[if_pos m,if_neg m'] at this;cases this
  ·by_cases m':q' % 2=0
   ·rw[if_neg m,if_pos m'] at this;cases this
   ·rw[if_neg m,if_neg m'] at this;injection this with z;omega
 ·rcases hcb with e2 | ⟨q,hq,e2⟩
  ·have:=(hr.lt g e2).1
   have:=(k.lo .zm trivial g e).2
   omega
  ·rw[LV.lstBlk (bl:=bl) (br:=br) (vcs:=vcs) (vsd:=vsd) (C:=C) (D:=D)] at e2
   have:=k.ap _ .zm (hok q hq) trivial g e2 e
   by_cases m:q % 2=0
   ·rw[if_pos m] at this;cases this
   ·rw[if_neg m] at this;cases this
theorem YI (n:Int) (w:World):Calls Tryz.prog 44 #[zI n] w fun e w'=>e=.returned (.bool (qC n 0 400))/\w'=w:=by
 by_cases h0:0<=n
 ·by_cases h1:n<=400
  ·rw[zF.2 ⟨h0,h1⟩]
   go_enter Tryz.func44,Tryz.ntmps44
   go_wp2
   go_ret
   exact⟨zo (by first | rfl | simp),rfl⟩
  ·rw[qc.2 (by omega)]
   go_enter Tryz.func44,Tryz.ntmps44
   go_wp2
   go_ret
   exact⟨zo (by first | rfl | simp),rfl⟩
 ·rw[qc.2 (by omega)]
  go_enter Tryz.func44,Tryz.ntmps44
  go_wp2
  go_ret
  exact⟨zo (by first | rfl | simp[h0]),rfl⟩
attribute [local go_sem ↓] Go.wp_at_zero Go.wp_at_succ
set_option maxHeartbeats 8000000 in
theorem JA (vp vc vs:Value) (ms:Ms) (h:Hp) (n:Int) (w:World) (hp:yD w vp ms) (hT:TabAt w) (hh:wu w vc vs h) (hn:h.za.length<=1048576) (hsd:h.zm.length<=1048576) :
 Calls Tryz.prog 20 #[.agg #[vp],.agg (jK vc vs h),zI n] w fun e w'=>(∃vc' vs' V',e=.returned (.tuple #[.agg (jK vc' vs' (Ki ms h n)),.bool (xm ms h && qC n 0 400)])/\qZ w.heap.size w' vc' vs' (Ki ms h n) V')/\zO w w':=by
 obtain⟨ac,kc,hvc⟩:=hh.c.shape
 obtain⟨aD,kD,km⟩:=hh.s.shape
 obtain⟨ap,cp,qI,hlp,_⟩:=id hp
 subst hvc km qI
 unfold jK
 have hA:zO w (((w.alloc (.cells #[.slice ap ms.length cp] 25)).alloc (.cells #[.slice ac h.za.length kc,.int .i64 h.now,.int .i64 h.born,.slice aD h.zm.length kD,.int .i64 h.code] 44)).alloc (.cells #[.slice none 0 0,.int .i64 0,.int .i64 0,.slice none 0 0,.int .i64 0] 44)):=((zR _ _).alloc (by simp) _).alloc (by simp;omega) _
 have bp:=((QX w 25 (.slice ap ms.length cp)).alloc (.cells #[.slice ac h.za.length kc,.int .i64 h.now,.int .i64 h.born,.slice aD h.zm.length kD,.int .i64 h.code] 44)).alloc (.cells #[.slice none 0 0,.int .i64 0,.int .i64 0,.slice none 0 0,.int .i64 0] 44)
 have bh:=(jj (w.alloc (.cells #[.slice ap ms.length cp] 25)) 44 (.slice ac h.za.length kc) (.int .i64 h.now) (.int .i64 h.born) (.slice aD h.zm.length kD) (.int .i64 h.code)).alloc (.cells #[.slice none 0 0,.int .i64 0,.int .i64 0,.slice none 0 0,.int .i64 0] 44)
 have bz:=jj ((w.alloc (.cells #[.slice ap ms.length cp] 25)).alloc (.cells #[.slice ac h.za.length kc,.int .i64 h.now,.int .i64 h.born,.slice aD h.zm.length kD,.int .i64 h.code] 44)) 44 (.slice none 0 0) (.int .i64 0) (.int .i64 0) (.slice none 0 0) (.int .i64 0)
 simp only[World.size_alloc] at bh bz
 go_enter Tryz.func20,Tryz.ntmps20
 go_upto_region 1 with fail
 generalize ((w.alloc (.cells #[.slice ap ms.length cp] 25)).alloc (.cells #[.slice ac h.za.length kc,.int .i64 h.now,.int .i64 h.born,.slice aD h.zm.length kD,.int .i64 h.code] 44)).alloc (.cells #[.slice none 0 0,.int .i64 0,.int .i64 0,.slice none 0 0,.int .i64 0] 44)=W0 at *
 obtain⟨⟨x0,x1,x2,x3,x4⟩,_⟩:=zq bh
 have v0:=bp.cell (i:=0) (by decide)
 have zA:=hA.size
 go_wp2_with fail
 refine(Kr _ _ _ ms h _ (hp.below hA) (hh.below hA) hn).mono ?_
 rintro e w1 ⟨rfl,qa⟩
 have hB1:zO w w1:=hA.trans (qa.mono zA)
 have bp1:=yp qa bp
 have bh1:=yp qa bh
 have bz1:=yp qa bz
 have z1:=qa.size
 have hbz:w.heap.size+1+1<w1.heap.size:=bz1.lt
 clear hA bp bh bz x0 x1 x2 x3 x4 v0
 obtain⟨⟨x0,x1,x2,x3,x4⟩,_⟩:=zq bh1
 obtain⟨⟨t0,t1,t2,t3,t4⟩,j0,j1,j2,j3,j4⟩:=zq bz1
 have v0:=bp1.cell (i:=0) (by decide)
 have kf:w.heap.size<=w.heap.size+1+1:=by omega
 have RF:=(jM (kP (uw (uv (wi bz1 (zQ)) (zI 0)) (zI 0)) (zQ)) (zI 0))
 have BF:=(((((hB1.setCell (p:=zH (w.heap.size+1+1) 0) kf (zQ)).setCell (p:=zH (w.heap.size+1+1) 1) kf (zI 0)).setCell (p:=zH (w.heap.size+1+1) 2) kf (zI 0)).setCell (p:=zH (w.heap.size+1+1) 3) kf (zQ)).setCell (p:=zH (w.heap.size+1+1) 4) kf (zI 0))
 cases h1:xm ms h
 ·have hR:Hid (Ki ms h n=⟨[],0,0,[],0⟩):=by show _=_;simp[Ki,h1]
  have hE:Hid ((xm ms h && qC n 0 400)=false):=by show _=_;simp[h1]
  go_wp2
  generalize (((((w1.setCell (zH (w.heap.size+1+1) 0) (zQ)).setCell (zH (w.heap.size+1+1) 1) (zI 0)).setCell (zH (w.heap.size+1+1) 2) (zI 0)).setCell (zH (w.heap.size+1+1) 3) (zQ)).setCell (zH (w.heap.size+1+1) 4) (zI 0))=WF at *
  obtain⟨⟨q0,q1,q2,q3,q4⟩,_⟩:=zq RF
  exact bodyPost_ret (v:=.tuple #[.agg #[zQ,zI 0,zI 0,zQ,zI 0],.bool false]) (by simp[results,Tryz.results20,go_sem,q0,q1,q2,q3,q4]) rfl ⟨⟨zQ,zQ,_,by rw[hR.out,hE.out],by rw[hR.out];exact qZ.none _ _⟩,BF⟩
 cases h2:qC n 0 400
 ·have hR:Hid (Ki ms h n=⟨[],0,0,[],0⟩):=by show _=_;simp[Ki,h2]
  have hE:Hid ((xm ms h && qC n 0 400)=false):=by show _=_;simp[h2]
  have hso:=YI n w1
  rw[h2] at hso
  go_wp2_with (go_at_call 44;refine hso.mono ?_;rintro e w' ⟨rfl,hw⟩;obtain rfl:=hw.symm)
  generalize (((((w1.setCell (zH (w.heap.size+1+1) 0) (zQ)).setCell (zH (w.heap.size+1+1) 1) (zI 0)).setCell (zH (w.heap.size+1+1) 2) (zI 0)).setCell (zH (w.heap.size+1+1) 3) (zQ)).setCell (zH (w.heap.size+1+1) 4) (zI 0))=WF at *
  obtain⟨⟨q0,q1,q2,q3,q4⟩,_⟩:=zq RF
  exact bodyPost_ret (v:=.tuple #[.agg #[zQ,zI 0,zI 0,zQ,zI 0],.bool false]) (by simp[results,Tryz.results20,go_sem,q0,q1,q2,q3,q4]) rfl ⟨⟨zQ,zQ,_,by rw[hR.out,hE.out],by rw[hR.out];exact qZ.none _ _⟩,BF⟩
 clear RF BF
 have hR:Hid (Ki ms h n=zV ms n.toNat h):=by show _=_;simp[Ki,h1,h2]
 have hE:Hid ((xm ms h && qC n 0 400)=true):=by show _=_;simp[h1,h2]
 have hg:=Q5.1 h1
 have hn':=zF.1 h2
 obtain⟨N,rfl⟩:=Int.eq_ofNat_of_zero_le hn'.1
 have hN:N<=400:=by omega
 have hl:=hg.lens
 have hso:=YI N w1
 rw[h2] at hso
 have hLO:=zbs _ _ h w1 (hh.below hB1) (by omega) (fun i hi=>by have:=hl.2 i hi;omega) hg.head.now (fun i hi=>(hg.cl i hi).sd)
 unfold jK at hLO
 have HENV:Hid (Yn w1.heap.size w1 (.slice ap ms.length cp) ms):=⟨w1,rfl,zS,hp.below hB1,hT.below hB1⟩
 have HG:Hid (Good ms h/\yo w1 (.slice aD h.zm.length kD) h.zm):=⟨hg,(hh.below hB1).s⟩
 clear hp hT hh h1 h2 hn' hg hlp t0 t1 t2 t3 t4 j0 j1 j2 j3 j4
 go_upto_region 4 with(first
  | (go_at_call 44;refine hso.mono ?_;rintro e w' ⟨rfl,hw⟩;obtain rfl:=hw.symm)
  | (go_at_call 52;refine hLO.mono ?_;rintro e w2 ⟨bl,vcs,C,D,T,rfl,kH,yL⟩))
 have hz12:=yL.size
 have bp2:=yp yL bp1
 have bh2:=yp yL bh1
 have bz2:=yp yL bz1
 clear x0 x1 x2 x3 x4 v0 hso hLO bp1 bh1 bz1
 obtain⟨⟨x0,x1,x2,x3,x4⟩,_⟩:=zq bh2
 have v0:=bp2.cell (i:=0) (by decide)
 have HS:∀w':World,zO w2 w'->((w'.cell? (zH w.heap.size 0)=some (.slice ap ms.length cp)/\w'.cell? (zH (w.heap.size+1) 2)=some (zI h.born)/\w'.cell? (zH (w.heap.size+1) 3)=some (.slice aD h.zm.length kD)/\w'.cell? (zH (w.heap.size+1) 4)=some (zI h.code))/\zO w2 w'):=fun w' hb=>⟨⟨zc hb v0,zc hb x2,zc hb x3,zc hb x4⟩,hb⟩
 have HCL:Hid (∀W,zO w2 W->Calls Tryz.prog 46 #[.slice aD h.zm.length kD] W fun e w'=>∃v',e=.returned v'/\zk W.heap.size w' v' h.zm/\zO W w'):=fun W hb=>VD _ _ _ ((HG.out.2.below yL).below hb) (by omega)
 go_region_held3 (fun w'=>(w'.cell? (zH w.heap.size 0)=some (.slice ap ms.length cp)/\w'.cell? (zH (w.heap.size+1) 2)=some (zI h.born)/\w'.cell? (zH (w.heap.size+1) 3)=some (.slice aD h.zm.length kD)/\w'.cell? (zH (w.heap.size+1) 4)=some (zI h.code))/\zO w2 w')
  ((refine HS _ ?_;first
   | (with_reducible exact(‹(_/\_/\_/\_)/\zO w2 _›).2)
   | (with_reducible exact zS.drew)
   | (with_reducible exact Vd)
   | (with_reducible exact(zR _ _).drew)
   | (with_reducible exact Vd.alloc Vd.size _)
   | (with_reducible exact((((Vd.setCell (p:=zH _ 0) (by first | omega | simp) _).setCell (p:=zH _ 1) (by first | omega | simp) _).setCell (p:=zH _ 2) (by first | omega | simp) _).setCell (p:=zH _ 3) (by first | omega | simp) _).setCell (p:=zH _ 4) (by first | omega | simp) _)))
  (first
   | (go_at_call 46;refine(HCL.out _ (‹(_/\_/\_/\_)/\zO w2 _›).2).mono ?_;rintro e wA ⟨vA,rfl,Q7,Kk⟩;have Vd:=Below.trans (‹(_/\_/\_/\_)/\zO w2 _›).2 (Kk.mono ((‹(_/\_/\_/\_)/\zO w2 _›).2).size);have hzA:=Vd.size;obtain⟨aA,kA,hvA,_⟩:=Q7.slice;subst hvA;first | (have rC:=yp Kk (show((w2.alloc (.cells #[.slice none 0 0,.nilIface,.int .i64 0,.slice none 0 0,.int .i64 0] 90)).drew).rowIs _ _ 5 _ from jj w2 90 (.slice none 0 0) .nilIface (.int .i64 0) (.slice none 0 0) (.int .i64 0));obtain⟨⟨n0,n1,n2,n3,n4⟩,l0,l1,l2,l3,l4⟩:=zq rC) | skip))
 all_goals first
  | (have rn:=jj wA 90 (.slice ap ms.length cp) (.iface 98 (.pointer (some ⟨bl,0,none⟩))) (.int .i64 h.born) (.slice aA h.zm.length kA) (.int .i64 h.code);have BW:=(‹(_/\_/\_/\_)/\zO w2 (wA.alloc _)›).2;have zdM:w2.heap.size<=wA.heap.size:=hzA;have sdW:=(Q7.below (zR wA (.cells #[.slice ap ms.length cp,.iface 98 (.pointer (some ⟨bl,0,none⟩)),.int .i64 h.born,.slice aA h.zm.length kA,.int .i64 h.code] 90))).mono (B':=w2.heap.size) (by first | exact Nat.le_refl _ | (simp;done) | omega);have ZP:(Value.slice aA h.zm.length kA).ownBlock≠some wA.heap.size:=fun e=>(by have:=(Q7.lt _ e).2;omega);clear HS HCL Kk Vd hzA Q7;generalize wA.alloc (.cells #[.slice ap ms.length cp,.iface 98 (.pointer (some ⟨bl,0,none⟩)),.int .i64 h.born,.slice aA h.zm.length kA,.int .i64 h.code] 90)=W at *;generalize wA.heap.size=br at *)
  | (have rn:=jM (kP (uw (uv (wi rC (.slice ap ms.length cp)) (.iface 98 (zJ bl 0))) (zI h.born)) (.slice aA h.zm.length kA)) (zI h.code);have BW:=(‹(_/\_/\_/\_)/\zO w2 (World.setCell _ _ _)›).2;have ZP:(Value.slice aA h.zm.length kA).ownBlock≠some w2.heap.size:=fun e=>(by have:=(Q7.lt _ e).1;simp at this;omega);have sdW:=((((((Q7.mono (B':=w2.heap.size) (by simp)).set_other (p:=zH w2.heap.size 0) (.slice ap ms.length cp) ZP).set_other (p:=zH w2.heap.size 1) (.iface 98 (zJ bl 0)) ZP).set_other (p:=zH w2.heap.size 2) (zI h.born) ZP).set_other (p:=zH w2.heap.size 3) (.slice aA h.zm.length kA) ZP).set_other (p:=zH w2.heap.size 4) (zI h.code) ZP);clear HS HCL Kk Vd hzA Q7 rC n0 n1 n2 n3 n4 l0 l1 l2 l3 l4;generalize (((((wA.setCell (zH w2.heap.size 0) (.slice ap ms.length cp)).setCell (zH w2.heap.size 1) (.iface 98 (zJ bl 0))).setCell (zH w2.heap.size 2) (zI h.born)).setCell (zH w2.heap.size 3) (.slice aA h.zm.length kA)).setCell (zH w2.heap.size 4) (zI h.code))=W at *;obtain⟨br,hbr⟩:∃br,br=w2.heap.size:=⟨_,rfl⟩;have zdM:w2.heap.size<=br:=(by omega);rw[<-hbr] at rn ZP;rw[<-hbr];clear hbr)
 all_goals
  have kV:=kH.run (h:=h) (vp:=.slice ap ms.length cp) rn BW zdM hz12 sdW ZP
  have E1:=HENV.out.go (yL.trans (BW.mono hz12))
  have ZQ:=BW.size
  have hBW:w1.heap.size<=W.heap.size:=by omega
  have HST:=Vx kV hBW E1 HG.out.1 N (by omega)
  have bz3:=yp BW bz2
  have HZ:Hid (W.rowIs (w.heap.size+1+1) 44 5 (kq (zQ) (zI 0) (zI 0) (zQ) (zI 0))/\zO w W):=⟨bz3,(hB1.trans (yL.mono hB1.size)).trans (BW.mono (by have:=hB1.size;omega))⟩
  clear kV E1 rn sdW ZP bz3 bz2 bp2 bh2 x0 x1 x2 x3 x4 v0 kH
  go_upto_region 6 with(go_at_call 47;refine HST.mono ?_;rintro e w3 ⟨rfl,xt,YZ,C',D',T',k3,g3⟩)
  have gR:=Good.run N h HG.out.1
  have hlR:=gR.lens
  have K5:=g3.b.size
  obtain⟨aS,kS,hvS,_⟩:=k3.sd.slice
  subst hvS
  obtain⟨⟨p0,p1⟩,_⟩:=zZ k3.hp
  obtain⟨⟨y0,y1,y2,y3,y4⟩,_⟩:=zq k3.rn
  have za7:=k3.lo .heap trivial bl rfl
  have hbrL:=k3.lo .run trivial br rfl
  obtain⟨pn,hpn⟩:∃pn,jd C' (zV ms N h).now=.pointer pn:=by
   unfold jd
   split
   ·exact⟨_,rfl⟩
   ·exact⟨_,rfl⟩
  rw[hpn] at p1
  have HPLa:∀W',zO w3 W'->Calls Tryz.prog 54 #[.pointer pn] W' fun e w'=>e=.returned (zI (zV ms N h).now)/\w'=W':=fun W' hb'=>by
   rw[<-hpn]
   by_cases hs:(zV ms N h).now=-1
   ·rw[hs,vr (by decide)]
    exact ZV _
   ·have hnw:=gR.head.now
    obtain⟨q,hq⟩:=Int.eq_ofNat_of_zero_le (show 0<=(zV ms N h).now by omega)
    have hql:q<(zV ms N h).za.length:=by omega
    rw[hq,u9]
    exact QD (C' q) q _ (xu ((k3.below hb').cl q hql)).1.2.1
  have HPL:Hid (∀W',zO w3 W'->Calls Tryz.prog 54 #[.pointer pn] W' fun e w'=>e=.returned (zI (zV ms N h).now)/\w'=W'):=HPLa
  have HLI:=zd4 (k3.below zS.drew) (by omega) (fun i hi=>(gR.cl i hi).sd)
  have HLIH:Hid (Calls Tryz.prog 53 #[zJ bl 0] w3.drew fun e w'=>∃v,e=.returned v/\qr w3.drew.heap.size w' v (Zs (zV ms N h) T' (zV ms N h).za.length)/\Below w3.drew.heap.size w3.drew w'):=HLI
  have bz4:=HZ.out.1.of_block (g3.b.block _ hbz)
  have B3:zO w w3:=HZ.out.2.trans (g3.b.mono (by have:=hB1.size;omega))
  have HFIN:Hid (∀(w4:World) (aL:Option Addr) (kL:Nat),qr w3.heap.size w4 (.slice aL (zV ms N h).za.length kL) (Zs (zV ms N h) T' (zV ms N h).za.length)->zO w3 w4->(w4.rowIs (w.heap.size+1+1) 44 5 (kq (zQ) (zI 0) (zI 0) (zQ) (zI 0))/\((((((w4.setCell (zH (w.heap.size+1+1) 0) (.slice aL (zV ms N h).za.length kL)).setCell (zH (w.heap.size+1+1) 1) (zI (zV ms N h).now)).setCell (zH (w.heap.size+1+1) 2) (zI (zV ms N h).born)).setCell (zH (w.heap.size+1+1) 3) (.slice aS (zV ms N h).zm.length kS)).setCell (zH (w.heap.size+1+1) 4) (zI (zV ms N h).code))).rowIs (w.heap.size+1+1) 44 5 (kq (.slice aL (zV ms N h).za.length kL) (zI (zV ms N h).now) (zI (zV ms N h).born) (.slice aS (zV ms N h).zm.length kS) (zI (zV ms N h).code))/\qZ w.heap.size ((((((w4.setCell (zH (w.heap.size+1+1) 0) (.slice aL (zV ms N h).za.length kL)).setCell (zH (w.heap.size+1+1) 1) (zI (zV ms N h).now)).setCell (zH (w.heap.size+1+1) 2) (zI (zV ms N h).born)).setCell (zH (w.heap.size+1+1) 3) (.slice aS (zV ms N h).zm.length kS)).setCell (zH (w.heap.size+1+1) 4) (zI (zV ms N h).code))) (.slice aL (zV ms N h).za.length kL) (.slice aS (zV ms N h).zm.length kS) (zV ms N h) T'/\zO w ((((((w4.setCell (zH (w.heap.size+1+1) 0) (.slice aL (zV ms N h).za.length kL)).setCell (zH (w.heap.size+1+1) 1) (zI (zV ms N h).now)).setCell (zH (w.heap.size+1+1) 2) (zI (zV ms N h).born)).setCell (zH (w.heap.size+1+1) 3) (.slice aS (zV ms N h).zm.length kS)).setCell (zH (w.heap.size+1+1) 4) (zI (zV ms N h).code))))):=fun w4 aL kL hr Yg=>by
   have rz:=yp Yg bz4
   have O4:=k3.out hr Yg (by omega)
   have O9:=((((O4.setLow (p:=zH (w.heap.size+1+1) 0) hbz (.slice aL (zV ms N h).za.length kL)).setLow (p:=zH (w.heap.size+1+1) 1) hbz (zI (zV ms N h).now)).setLow (p:=zH (w.heap.size+1+1) 2) hbz (zI (zV ms N h).born)).setLow (p:=zH (w.heap.size+1+1) 3) hbz (.slice aS (zV ms N h).zm.length kS)).setLow (p:=zH (w.heap.size+1+1) 4) hbz (zI (zV ms N h).code)
   have hz:w.heap.size<=w1.heap.size:=hB1.size
   refine⟨rz,jM (kP (uw (uv (wi rz _) _) _) _) _,⟨O9.c.mono hz,O9.s.mono hz,O9.apart⟩,?_⟩
   exact(((((B3.trans (Yg.mono B3.size)).setCell (p:=zH (w.heap.size+1+1) 0) kf _).setCell (p:=zH (w.heap.size+1+1) 1) kf _).setCell (p:=zH (w.heap.size+1+1) 2) kf _).setCell (p:=zH (w.heap.size+1+1) 3) kf _).setCell (p:=zH (w.heap.size+1+1) 4) kf _
  have HSX:∀w':World,w'.heap[bl]?=w3.heap[bl]?->w'.heap[br]?=w3.heap[br]?->(w'.cell? (zH bl 1)=some (.pointer pn)/\w'.cell? (zH br 2)=some (zI (zV ms N h).born)/\w'.cell? (zH br 3)=some (.slice aS (zV ms N h).zm.length kS)/\w'.cell? (zH br 4)=some (zI (zV ms N h).code)):=fun w' e1 e2=>⟨(World.cell?_of_block (a:=⟨bl,1,none⟩) e1).trans p1,(World.cell?_of_block (a:=⟨br,2,none⟩) e2).trans y2,(World.cell?_of_block (a:=⟨br,3,none⟩) e2).trans y3,(World.cell?_of_block (a:=⟨br,4,none⟩) e2).trans y4⟩
  have S0:w3.drew.cell? (zH bl 1)=some (.pointer pn)/\w3.drew.cell? (zH br 2)=some (zI (zV ms N h).born)/\w3.drew.cell? (zH br 3)=some (.slice aS (zV ms N h).zm.length kS)/\w3.drew.cell? (zH br 4)=some (zI (zV ms N h).code):=HSX _ rfl rfl
  have hnl:bl≠w.heap.size+1+1:=by omega
  have hnr:br≠w.heap.size+1+1:=by omega
  have HRS:Hid (Ki ms h N=zV ms N h):=by show _=_;rw[hR.out,Int.toNat_natCast]
  clear k3 g3 HLI HPLa gR hlR p0 y0 y1 bz4 HG hpn HST HZ
  go_region_held3 (fun w'=>w'.cell? (zH bl 1)=some (.pointer pn)/\w'.cell? (zH br 2)=some (zI (zV ms N h).born)/\w'.cell? (zH br 3)=some (.slice aS (zV ms N h).zm.length kS)/\w'.cell? (zH br 4)=some (zI (zV ms N h).code))
   (first | with_reducible exact S0 | with_reducible exact S4 | with_reducible exact S9)
   (first
    | (go_at_call 54;refine(HPL.out _ zS.drew).mono ?_;rintro e w6 ⟨rfl,hw⟩;obtain rfl:=hw.symm)
    | (go_at_call 54;refine(HPL.out _ hB4).mono ?_;rintro e w6 ⟨rfl,hw⟩;obtain rfl:=hw.symm)
    | (go_at_call 53;refine HLIH.out.mono ?_;rintro e w4 ⟨v4,rfl,Ko,Yg⟩;have hB4:zO w3 w4:=zS.drew.trans Yg;obtain⟨aL,kL,hv4,_⟩:=Ko.slice;rw[wN] at hv4;subst hv4;obtain⟨rz4,rF,oF,bF⟩:=HFIN.out w4 aL kL Ko hB4;obtain⟨⟨c0,c1,c2,c3,c4⟩,f0,f1,f2,f3,f4⟩:=zq rz4;have S4:w4.cell? (zH bl 1)=some (.pointer pn)/\w4.cell? (zH br 2)=some (zI (zV ms N h).born)/\w4.cell? (zH br 3)=some (.slice aS (zV ms N h).zm.length kS)/\w4.cell? (zH br 4)=some (zI (zV ms N h).code):=HSX _ (hB4.block _ za7.2) (hB4.block _ hbrL.2);have S9:(((((w4.setCell (zH (w.heap.size+1+1) 0) (.slice aL (zV ms N h).za.length kL)).setCell (zH (w.heap.size+1+1) 1) (zI (zV ms N h).now)).setCell (zH (w.heap.size+1+1) 2) (zI (zV ms N h).born)).setCell (zH (w.heap.size+1+1) 3) (.slice aS (zV ms N h).zm.length kS)).setCell (zH (w.heap.size+1+1) 4) (zI (zV ms N h).code)).cell? (zH bl 1)=some (.pointer pn)/\(((((w4.setCell (zH (w.heap.size+1+1) 0) (.slice aL (zV ms N h).za.length kL)).setCell (zH (w.heap.size+1+1) 1) (zI (zV ms N h).now)).setCell (zH (w.heap.size+1+1) 2) (zI (zV ms N h).born)).setCell (zH (w.heap.size+1+1) 3) (.slice aS (zV ms N h).zm.length kS)).setCell (zH (w.heap.size+1+1) 4) (zI (zV ms N h).code)).cell? (zH br 2)=some (zI (zV ms N h).born)/\(((((w4.setCell (zH (w.heap.size+1+1) 0) (.slice aL (zV ms N h).za.length kL)).setCell (zH (w.heap.size+1+1) 1) (zI (zV ms N h).now)).setCell (zH (w.heap.size+1+1) 2) (zI (zV ms N h).born)).setCell (zH (w.heap.size+1+1) 3) (.slice aS (zV ms N h).zm.length kS)).setCell (zH (w.heap.size+1+1) 4) (zI (zV ms N h).code)).cell? (zH br 3)=some (.slice aS (zV ms N h).zm.length kS)/\(((((w4.setCell (zH (w.heap.size+1+1) 0) (.slice aL (zV ms N h).za.length kL)).setCell (zH (w.heap.size+1+1) 1) (zI (zV ms N h).now)).setCell (zH (w.heap.size+1+1) 2) (zI (zV ms N h).born)).setCell (zH (w.heap.size+1+1) 3) (.slice aS (zV ms N h).zm.length kS)).setCell (zH (w.heap.size+1+1) 4) (zI (zV ms N h).code)).cell? (zH br 4)=some (zI (zV ms N h).code):=HSX _ (by rw[Below.heap_setCell _ _ _ _ hnl,Below.heap_setCell _ _ _ _ hnl,Below.heap_setCell _ _ _ _ hnl,Below.heap_setCell _ _ _ _ hnl,Below.heap_setCell _ _ _ _ hnl];exact hB4.block _ za7.2) (by rw[Below.heap_setCell _ _ _ _ hnr,Below.heap_setCell _ _ _ _ hnr,Below.heap_setCell _ _ _ _ hnr,Below.heap_setCell _ _ _ _ hnr,Below.heap_setCell _ _ _ _ hnr];exact hB4.block _ hbrL.2)))
  all_goals
   generalize (((((w4.setCell (zH (w.heap.size+1+1) 0) (.slice aL (zV ms N h).za.length kL)).setCell (zH (w.heap.size+1+1) 1) (zI (zV ms N h).now)).setCell (zH (w.heap.size+1+1) 2) (zI (zV ms N h).born)).setCell (zH (w.heap.size+1+1) 3) (.slice aS (zV ms N h).zm.length kS)).setCell (zH (w.heap.size+1+1) 4) (zI (zV ms N h).code))=WF at *
   obtain⟨⟨q0,q1,q2,q3,q4⟩,_⟩:=zq rF
   go_wp2
   exact bodyPost_ret (v:=.tuple #[.agg #[.slice aL (zV ms N h).za.length kL,zI (zV ms N h).now,zI (zV ms N h).born,.slice aS (zV ms N h).zm.length kS,zI (zV ms N h).code],.bool true]) (by simp[results,Tryz.results20,go_sem,q0,q1,q2,q3,q4]) rfl ⟨⟨.slice aL (zV ms N h).za.length kL,.slice aS (zV ms N h).zm.length kS,T',by rw[HRS.out,hE.out],by rw[HRS.out];exact oF⟩,bF⟩
end Go.Proofs.YtbjgjjkgfnfejaaGreatDoor

/-
  Where a machine's calls have their places as things of their own: ofFrame, ofTwin, ofCaller, ofRunning. (Written by mkmt1.py.)
-/
import Derived.Test.YtbjgjjkgfnfejaaGreatDoorMLive3
namespace Go.Proofs.YtbjgjjkgfnfejaaGreatDoor
set_option maxHeartbeats 4000000
set_option maxRecDepth 100000
open Go.RowKit
structure Pl (w:World) (vp vo vt vs vl:Value) (m:Mc):Prop where
 mach:yC w vp vo vt vs m
 low:ug w vl (xY m.za)
 fn:yc m.za<=1099511627776
 tn:m.zd.length<=1099511627776
theorem Pl.below {w w':World} {vp vo vt vs vl:Value} {m:Mc} (h:Pl w vp vo vt vs vl m) (hb:zO w w'):Pl w' vp vo vt vs vl m:=⟨h.mach.below hb,h.low.below hb,h.fn,h.tn⟩
def Q4 (m:Mc) (i k:Int):Int:=(qc m.za i.toNat:Int)+k
def vh (m:Mc) (j:Int):Int:=if(uU m j).page=-1 then(yc m.za:Int)+j else Q4 m (uU m j).page (uU m j).place
def qU (m:Mc) (j:Int):Bool:=qy j 0 ((m.zd.length:Int) - 1) && ((uU m j).page == -1 || frB m (uU m j).page (uU m j).place)
def xH (m:Mc) (j:Int):Int:=if j=-1 then -1 else vh m j
theorem zdG {m:Mc} {i k:Int} (h:frB m i k=true):∃a:Nat,i=(a:Int)/\a<m.za.length/\0<=k/\(qc m.za a:Int)+k<(yc m.za:Int):=by
 obtain⟨a,b,ha,rfl,rfl,hb⟩:=zgv h
 refine⟨a,rfl,ha,by omega,?_⟩
 have h1:=xB ha
 have h2:=vw m.za (k:=a+1) ha
 omega
theorem YQ (vp vo vt vs vl:Value) (m:Mc) (i:Nat) (k:Int) (w:World) (h:Pl w vp vo vt vs vl m) (hi:i<m.za.length) (Wt:-1<=k) (hk1:k<=1099511627776) :
 Calls Tryz.prog 131 #[.agg (zu vp vo vt vs m ++ [vl,zI (yc m.za:Int)]).toArray,zI (i:Int),zI k] w fun e w'=>e=.returned (zI (Q4 m (i:Int) k))/\zO w w':=by
 obtain⟨hM,hL,hN,hTn⟩:=h
 obtain⟨ap,cp,qz,hlp,hcp⟩:=id hM.p
 obtain⟨ao,co,jw⟩:=hM.o.shape
 obtain⟨at',ct,jA,hlt',hct⟩:=id hM.t
 obtain⟨as',cs,jG⟩:=hM.s.shape
 obtain⟨al,cl,Ja,hll,hcl⟩:=id hL
 subst qz jw jA jG Ja
 unfold zu
 simp only[List.cons_append,List.nil_append]
 go_enter Tryz.func131,Tryz.ntmps131
 go_upto_region 1 with fail
 refine yg (fun W=>zO w W/\Bx W w.heap.size 152 [.int .i64 m.cells,.slice ap m.za.length cp,.slice ao m.order.length co,.int .i64 m.now,.slice at' m.zd.length ct,.int .i64 m.born,.slice as' m.zm.length cs,.int .i64 m.code,.slice al (xY m.za).length cl,.int .i64 (yc m.za:Int)]) ⟨zR _ _,Bx.new w _ _⟩ ?_
 rintro W ⟨hb,hx⟩
 obtain⟨⟨x0,x1,x2,x3,x4,x5,x6,x7,x8,x9⟩,_⟩:=Ys hx
 have hil:i<(xY m.za).length:=by rw[zaU];exact hi
 obtain⟨b,o,hal,c0⟩:=hcl i hil
 subst hal
 have d0:=zc hb c0
 rw[zgc] at d0
 have hiz:(i:Int)<((xY m.za).length:Int):=by omega
 have hfl:=vw m.za (k:=i) (by omega)
 have HE:Hid (Q4 m (i:Int) k=(qc m.za i:Int)+k):=by show _=_;unfold Q4;rw[Int.toNat_natCast]
 obtain⟨F,hF⟩:∃F,qc m.za i=F:=⟨_,rfl⟩
 rw[hF] at d0 HE hfl
 have hFb:F<=1099511627776:=by omega
 clear hF hcl c0
 go_wp2
 go_ret
 exact⟨ur HE.out.symm,hb⟩
theorem Vk (vp vo vt vs vl:Value) (m:Mc) (j:Int) (w:World) (h:Pl w vp vo vt vs vl m) (hj:qU m j=true) :
 Calls Tryz.prog 134 #[.agg (zu vp vo vt vs m ++ [vl,zI (yc m.za:Int)]).toArray,zI j] w fun e w'=>e=.returned (zI (vh m j))/\zO w w':=by
 unfold qU at hj
 obtain⟨hj1,hj2⟩:=Bool.and_eq_true_iff.1 hj
 obtain⟨q,rfl,hq⟩:=zdi hj1
 rw[ut hq] at hj2
 have HE0:Hid (vh m (q:Int)=if m.zd[q].page=-1 then(yc m.za:Int)+(q:Int) else Q4 m m.zd[q].page m.zd[q].place):=by show _=_;unfold vh;rw[ut hq]
 have hPl:=h
 clear hj hj1
 obtain⟨hM,hL,hN,hTn⟩:=h
 obtain⟨ap,cp,qz,hlp,hcp⟩:=id hM.p
 obtain⟨ao,co,jw⟩:=hM.o.shape
 obtain⟨at',ct,jA,hlt',hct⟩:=id hM.t
 obtain⟨as',cs,jG⟩:=hM.s.shape
 obtain⟨al,cl,Ja,hll,hcl⟩:=id hL
 subst qz jw jA jG Ja
 unfold zu
 simp only[List.cons_append,List.nil_append]
 go_enter Tryz.func134,Tryz.ntmps134
 go_upto_region 1 with fail
 refine yg (fun W=>zO w W/\Bx W w.heap.size 152 [.int .i64 m.cells,.slice ap m.za.length cp,.slice ao m.order.length co,.int .i64 m.now,.slice at' m.zd.length ct,.int .i64 m.born,.slice as' m.zm.length cs,.int .i64 m.code,.slice al (xY m.za).length cl,.int .i64 (yc m.za:Int)]) ⟨zR _ _,Bx.new w _ _⟩ ?_
 rintro W ⟨hb,hx⟩
 obtain⟨⟨x0,x1,x2,x3,x4,x5,x6,x7,x8,x9⟩,_⟩:=Ys hx
 obtain⟨b,o,U4,vs',hat,ZT⟩:=hct q hq
 subst hat
 obtain⟨T,hT⟩:∃T,m.zd[q]=T:=⟨_,rfl⟩
 rw[hT] at ZT HE0 hj2
 obtain⟨d0,d1,d2,d3,d4,d5,d6,d7,dt,ds⟩:=ZT.below hb
 obtain⟨a1,k1,e1⟩:=dt.shape
 obtain⟨a2,k2,e2⟩:=ds.shape
 rw[e1] at d4
 rw[e2] at d5
 have hqz:(q:Int)<(m.zd.length:Int):=by omega
 have zb:=hb.size
 clear hct ZT dt ds e1 e2 hT hcl hcp
 go_upto_region 2 with fail
 refine yg (fun W'=>zO W W'/\Bx W' W.heap.size 124 [.int .i64 T.page,.int .i64 T.place,.int .i64 T.left.m,.int .i64 T.left.pc,.slice a1 T.left.zh.length k1,.slice a2 T.left.zf.length k2,.int .i64 T.left.zi,.bool T.left.zy]) ⟨zR _ _,Bx.new _ _ _⟩ ?_
 rintro W2 ⟨t2,y2⟩
 have yE:=hb.trans (t2.mono zb)
 have uW:=hx.below t2
 have z2:=yE.size
 clear hb hx t2 zb d0 d1 d2 d3 d4 d5 d6 d7 x0 x1 x2 x3 x4 x5 x6 x7 x8 x9
 obtain⟨⟨x0,x1,x2,x3,x4,x5,x6,x7,x8,x9⟩,_⟩:=Ys uW
 have y0:=y2.cell 0 rfl
 have y1:=y2.cell 1 rfl
 by_cases hp:T.page=-1
 ·have HE:Hid (vh m (q:Int)=(yc m.za:Int)+(q:Int)):=by show _=_;rw[HE0.out,if_pos hp]
  rw[hp] at y0
  go_wp2
  go_ret
  exact⟨ur HE.out.symm,yE⟩
 have hpe:(T.page == -1)=false:=by simpa using hp
 rw[hpe,Bool.false_or] at hj2
 obtain⟨a,ha,hal,Wt,hk1⟩:=zdG hj2
 have HE:Hid (vh m (q:Int)=Q4 m (a:Int) T.place):=by show _=_;rw[HE0.out,if_neg hp,ha]
 rw[ha] at y0 hpe
 have HC:=YQ _ _ _ _ _ m a T.place W2 (hPl.below yE) hal (by omega) (by omega)
 unfold zu at HC
 simp only[List.cons_append,List.nil_append] at HC
 clear HE0 hj2 hp ha
 go_wp2_with fail
 refine HC.mono ?_
 rintro e W3 ⟨rfl,t3⟩
 have qR:=yE.trans (t3.mono z2)
 go_wp2
 go_ret
 exact⟨ur HE.out.symm,qR⟩
theorem Z4 (vp vo vt vs vl:Value) (m:Mc) (j:Int) (w:World) (h:Pl w vp vo vt vs vl m) (hj:(j == -1 || qU m j)=true) :
 Calls Tryz.prog 132 #[.agg (zu vp vo vt vs m ++ [vl,zI (yc m.za:Int)]).toArray,zI j] w fun e w'=>e=.returned (zI (xH m j))/\zO w w':=by
 have hPl:=h
 obtain⟨hM,hL,hN,hTn⟩:=h
 obtain⟨ap,cp,qz,hlp,hcp⟩:=id hM.p
 obtain⟨ao,co,jw⟩:=hM.o.shape
 obtain⟨at',ct,jA,hlt',hct⟩:=id hM.t
 obtain⟨as',cs,jG⟩:=hM.s.shape
 obtain⟨al,cl,Ja,hll,hcl⟩:=id hL
 subst qz jw jA jG Ja
 unfold zu
 simp only[List.cons_append,List.nil_append]
 go_enter Tryz.func132,Tryz.ntmps132
 go_upto_region 1 with fail
 refine yg (fun W=>zO w W/\Bx W w.heap.size 152 [.int .i64 m.cells,.slice ap m.za.length cp,.slice ao m.order.length co,.int .i64 m.now,.slice at' m.zd.length ct,.int .i64 m.born,.slice as' m.zm.length cs,.int .i64 m.code,.slice al (xY m.za).length cl,.int .i64 (yc m.za:Int)]) ⟨zR _ _,Bx.new w _ _⟩ ?_
 rintro W ⟨hb,hx⟩
 obtain⟨⟨x0,x1,x2,x3,x4,x5,x6,x7,x8,x9⟩,_⟩:=Ys hx
 have zb:=hb.size
 by_cases h1:j=-1
 ·subst h1
  go_wp2
  go_ret
  exact⟨rfl,hb⟩
 have hje:(j == -1)=false:=by simpa using h1
 rw[hje,Bool.false_or] at hj
 have HE:Hid (xH m j=vh m j):=by show _=_;unfold xH;rw[if_neg h1]
 have HC:=Vk _ _ _ _ _ m j W (hPl.below hb) hj
 unfold zu at HC
 simp only[List.cons_append,List.nil_append] at HC
 clear hj
 go_wp2_with fail
 refine HC.mono ?_
 rintro e W3 ⟨rfl,t3⟩
 have qR:=hb.trans (t3.mono zb)
 go_wp2
 go_ret
 exact⟨ur HE.out.symm,qR⟩
def kF (m:Mc):Int:=if qy m.now 0 ((m.za.length:Int) - 1)=true/\(pgAt m m.now).zg.length≠0 then Q4 m m.now (((pgAt m m.now).zg.length:Int) - 1) else -1
theorem Ug (vp vo vt vs vl:Value) (m:Mc) (w:World) (h:Pl w vp vo vt vs vl m) :
 Calls Tryz.prog 93 #[.agg (zu vp vo vt vs m ++ [vl,zI (yc m.za:Int)]).toArray] w fun e w'=>e=.returned (zI (kF m))/\zO w w':=by
 have hPl:=h
 obtain⟨hM,hL,hN,hTn⟩:=h
 obtain⟨ap,cp,qz,hlp,hcp⟩:=id hM.p
 obtain⟨ao,co,jw⟩:=hM.o.shape
 obtain⟨at',ct,jA,hlt',hct⟩:=id hM.t
 obtain⟨as',cs,jG⟩:=hM.s.shape
 obtain⟨al,cl,Ja,hll,hcl⟩:=id hL
 subst qz jw jA jG Ja
 unfold zu
 simp only[List.cons_append,List.nil_append]
 go_enter Tryz.func93,Tryz.ntmps93
 go_upto_region 1 with fail
 refine yg (fun W=>zO w W/\Bx W w.heap.size 152 [.int .i64 m.cells,.slice ap m.za.length cp,.slice ao m.order.length co,.int .i64 m.now,.slice at' m.zd.length ct,.int .i64 m.born,.slice as' m.zm.length cs,.int .i64 m.code,.slice al (xY m.za).length cl,.int .i64 (yc m.za:Int)]) ⟨zR _ _,Bx.new w _ _⟩ ?_
 rintro W ⟨hb,hx⟩
 obtain⟨⟨x0,x1,x2,x3,x4,x5,x6,x7,x8,x9⟩,_⟩:=Ys hx
 have zb:=hb.size
 obtain⟨f,hf⟩:∃f,qy m.now 0 ((m.za.length:Int) - 1)=f:=⟨_,rfl⟩
 have HP:=zZ m.now m.za.length W
 rw[hf] at HP
 go_wp2_with fail
 refine HP.mono ?_
 rintro e W1 ⟨rfl,hw⟩
 obtain rfl:=hw.symm
 clear hw HP
 cases f
 ·have HE:Hid (kF m=-1):=by show _=_;unfold kF;rw[hf];simp
  go_wp2
  go_ret
  exact⟨ur HE.out.symm,hb⟩
 obtain⟨i,hi,hil⟩:=zdc hf
 obtain⟨bp,op,vf,hap,xt⟩:=hcp i hil
 subst hap
 obtain⟨af,cf,QW⟩:=xt.f.shape
 have g1:=zc hb xt.c1
 rw[QW] at g1
 have HE0:Hid (kF m=if m.za[i].zg.length≠0 then Q4 m (i:Int) ((m.za[i].zg.length:Int) - 1) else -1):=by show _=_;unfold kF;rw[hf,hi,kE hil];simp
 have hsu:=xB hil
 have hsl:=vw m.za (k:=i+1) hil
 have HI:Hid (m.now=(i:Int)):=hi
 rw[hi] at x3 ⊢
 obtain⟨nf,hnf⟩:∃nf,m.za[i].zg.length=nf:=⟨_,rfl⟩
 rw[hnf] at g1 HE0 hsu
 have hnb:nf<=1099511627776:=by omega
 have hiz:(i:Int)<(m.za.length:Int):=by omega
 clear hcp xt QW hnf hsu hsl hcl hct hi hf
 by_cases h0:nf=0
 ·have HE:Hid (kF m=-1):=by show _=_;rw[HE0.out,h0];simp
  rw[h0] at g1
  go_wp2
  go_ret
  exact⟨ur HE.out.symm,hb⟩
 have h0z:¬((nf:Int)=0):=by omega
 have hwn:IntKind.i64.wrap ((nf:Int) - 1)=(nf:Int) - 1:=by rw[IntKind.wrap_i64];omega
 have HE:Hid (kF m=Q4 m (i:Int) ((nf:Int) - 1)):=by show _=_;rw[HE0.out,if_pos h0]
 clear HE0
 go_upto_region 4 with fail
 have HC:=jp (W:=W) fun W' (hW:zO W W')=>YQ _ _ _ _ _ m i ((nf:Int) - 1) W' ((hPl.below hb).below hW) hil (by omega) (by omega)
 unfold zu at HC
 simp only[List.cons_append,List.nil_append] at HC
 rw[HI.out] at HC
 have L0:=Gr.cell x0
 have L1:=Gr.cell x1
 have L2:=Gr.cell x2
 have L3:=Gr.cell x3
 have L4:=Gr.cell x4
 have L5:=Gr.cell x5
 have L6:=Gr.cell x6
 have L7:=Gr.cell x7
 have L8:=Gr.cell x8
 have L9:=Gr.cell x9
 have G1:=Gr.cell g1
 clear x0 x1 x2 x3 x4 x5 x6 x7 x8 x9 g1
 refine WQ.region (by kernel_rfl) (by kernel_rfl) ?_
 iterate 13 (refine WQ.step (fun K hK=>?_);go_simp;first
  | (with_reducible refine hK _ ?_;clear hK K)
  | (with_reducible refine qC ?_;refine hK _ ?_;clear hK K)
  | (simp(contextual:=true) only [L0,L1,L2,L3,L4,L5,L6,L7,L8,L9,G1,Result.andThen_ok,true_and];with_reducible refine qC ?_;refine hK _ ?_;clear hK K)
  | (with_reducible refine yF HC ?_;refine hK _ ?_;clear hK K))
 refine WQ.nil ?_
 intro W3 hG3
 have qR:=hb.trans (hG3.to.mono zb)
 clear hG3 HC L0 L1 L2 L3 L4 L5 L6 L7 L8 L9 G1
 go_wp2
 go_ret
 exact⟨ur HE.out.symm,qR⟩
def jx (f:Int->Int) (v:Int × Int):Int × Int:=if v.1=2 then(v.1,f v.2) else v
theorem Vy (vp vo vt vs vl:Value) (m:Mc) (vv:Value) (vals:yH) (w:World) (h:Pl w vp vo vt vs vl m) (hl:yi w vv vals) (hvn:vals.length<=1000) (hok:∀i,(hi:i<vals.length)->vals[i].1=2->qU m vals[i].2=true) :
 Calls Tryz.prog 133 #[vv,.func (.func 134) #[.agg (zu vp vo vt vs m ++ [vl,zI (yc m.za:Int)]).toArray] #[]] w fun e w'=>∃v,e=.returned v/\zl w.heap.size w' v (vals.map (jx (vh m)))/\zO w w':=by
 have hPl:=h
 obtain⟨hM,hL,hN,hTn⟩:=h
 obtain⟨ap,cp,qz,hlp,hcp⟩:=id hM.p
 obtain⟨ao,co,jw⟩:=hM.o.shape
 obtain⟨at',ct,jA,hlt',hct⟩:=id hM.t
 obtain⟨as',cs,jG⟩:=hM.s.shape
 obtain⟨al,cl,Ja,hll,hcl⟩:=id hL
 subst qz jw jA jG Ja
 unfold zu
 simp only[List.cons_append,List.nil_append]
 obtain⟨av,cv,hvv,_,_⟩:=id hl
 subst hvv
 have HOK:Hid (∀i,(hi:i<vals.length)->vals[i].1=2->qU m vals[i].2=true):=hok
 clear hok hcl hct hcp
 have HCA:Hid (∀(x:Int) (W:World),zO w W->qU m x=true->Calls Tryz.prog 134 #[.agg #[zI m.cells,.slice ap m.za.length cp,.slice ao m.order.length co,zI m.now,.slice at' m.zd.length ct,zI m.born,.slice as' m.zm.length cs,zI m.code,.slice al (xY m.za).length cl,zI (yc m.za:Int)],zI x] W fun e w'=>e=.returned (zI (vh m x))/\zO W w'):=fun x W hW hx=>by
  have:=Vk _ _ _ _ _ m x W (hPl.below hW) hx
  unfold zu at this
  simpa only [List.cons_append,List.nil_append] using this
 go_enter Tryz.func133,Tryz.ntmps133
 go_wp2_with fail
 refine(wv _ vals _ hl hvn).mono ?_
 rintro e w1 ⟨v1,rfl,X8,qk⟩
 obtain⟨a1,c1,hv1,_⟩:=X8.slice
 subst hv1
 have xP:=qk.size
 go_wp2
 go_loopg [6,7,12] vals.length (fun g _ _ i wr=>∃(k:Nat) (ys:yH),k<=vals.length/\g=vals.length - k/\i=zI k/\ys.length=vals.length/\zl w.heap.size wr (.slice a1 vals.length c1) ys/\(∀q,(hq:q<ys.length)->(hq':q<vals.length)->(q<k->ys[q]=jx (vh m) vals[q])/\(k<=q->ys[q]=vals[q]))/\zO w wr)
 case atStart=>exact⟨0,vals,Nat.zero_le _,rfl,rfl,rfl,X8,fun q _ _=>⟨fun hq=>absurd hq yB,fun _=>rfl⟩,qk⟩
 case round =>
  obtain⟨k,ys,hk,rfl,rfl,hyl,hr,hys,hb⟩:=hrel
  have HY:Hid (∀q,(hq:q<ys.length)->(hq':q<vals.length)->(q<k->ys[q]=jx (vh m) vals[q])/\(k<=q->ys[q]=vals[q])):=hys
  clear hys
  have zb:=hb.size
  by_cases yt:k<vals.length
  ·obtain⟨g1,o1,c2,e1,hgB,hgl⟩:=hr.form (by omega)
   obtain rfl:a1=some ⟨g1,o1,none⟩:=by injection e1
   clear e1
   have hky:k<ys.length:=by omega
   have HYK:Hid (ys[k]=vals[k]):=(HY.out k hky yt).2 zD
   obtain⟨⟨d0,d1⟩,f0,f1⟩:=hr.cell hky
   rw[HYK.out] at d0 d1
   have v7:(k:Int)<(vals.length:Int):=by omega
   have HOV:=HOK.out k yt
   have HV:Hid (jx (vh m) vals[k]=if vals[k].1=2 then(vals[k].1,vh m vals[k].2) else vals[k]):=rfl
   obtain⟨va,hva⟩:∃va,vals[k].1=va:=⟨_,rfl⟩
   obtain⟨vb,hvb⟩:∃vb,vals[k].2=vb:=⟨_,rfl⟩
   have HVA:Hid (vals[k]=(va,vb)):=by show _=_;rw[<-hva,<-hvb]
   rw[hva] at d0 HV HOV
   rw[hvb] at d1 HV HOV
   clear hva hvb
   by_cases hkd:va=2
   ·subst hkd
    have ze7:=HOV rfl
    rw[if_pos rfl] at HV
    clear HOV
    go_upto_region 6 with fail
    refine yg (fun W'=>zO wr W'/\Bx W' wr.heap.size 86 [.int .i64 2,.int .i64 vb]) ⟨zR _ _,Bx.new _ _ _⟩ ?_
    rintro W2 ⟨t2,y2⟩
    have yE:=hb.trans (t2.mono zb)
    have Qo:=hr.below t2
    have z2:=yE.size
    have y1:=y2.cell 1 rfl
    have HC:=HCA.out vb W2 yE ze7
    clear t2 hb hr d0 d1 f0 f1 y2 ze7
    go_wp2_with fail
    refine HC.mono ?_
    rintro e W3 ⟨rfl,t3⟩
    have qR:=yE.trans (t3.mono z2)
    have XL:=Qo.below t3
    clear HC t3 yE Qo y1
    obtain⟨⟨d0,d1⟩,f0,f1⟩:=XL.cell hky
    have hset:=XL.set1 k hky (vh m vb)
    rw[HYK.out,HVA.out] at hset
    have hbS:=qR.setCell (p:=zH g1 (o1+k * 2+1)) hgB (zI (vh m vb))
    clear qR XL
    go_wp2
    go_roundg (vals.length - (k+1))
    case measure=>omega
    case rel=>exact⟨k+1,_,by omega,rfl,by go_num,by rw[List.length_set];exact hyl,hset,fun q h1 h2=>by
     rw[List.length_set] at h1
     refine⟨fun hq=>?_,fun hq=>?_⟩
     ·by_cases e:q=k
      ·subst e;rw[List.getElem_set_self,HV.out]
      ·rw[List.getElem_set_ne (fun x=>e x.symm)];exact(HY.out q h1 h2).1 (by omega)
     ·rw[List.getElem_set_ne (by omega)];exact(HY.out q h1 h2).2 (by omega),hbS⟩
   ·rw[if_neg hkd] at HV
    have hke:(va == 2)=false:=by simpa using hkd
    have Uz:∀o,zO w (wr.alloc o):=fun o=>hb.alloc zb _
    have KY:∀o,zl w.heap.size (wr.alloc o) (zK g1 o1 vals.length c1) ys:=fun o=>hr.below (zR _ _)
    have HBA:Hid _:=Uz
    have HRA:Hid _:=KY
    clear HOV Uz KY hb hr
    go_wp2
    go_roundg (vals.length - (k+1))
    case measure=>omega
    case rel=>exact⟨k+1,ys,by omega,rfl,by go_num,hyl,HRA.out _,fun q h1 h2=>by
     refine⟨fun hq=>?_,fun hq=>(HY.out q h1 h2).2 (by omega)⟩
     by_cases e:q=k
     ·subst e;rw[HYK.out,HV.out]
     ·exact(HY.out q h1 h2).1 (by omega),HBA.out _⟩
  ·obtain rfl:k=vals.length:=by omega
   have hE:ys=vals.map (jx (vh m)):=List.ext_getElem (by simpa using hyl) fun q h1 h2=>by rw[(HY.out q h1 (by simpa using h2)).1 (by simpa using h2)];simp
   subst hE
   go_wp2
   go_ret
   exact⟨_,rfl,hr,hb⟩
theorem Vx (vp vo vt vs vl:Value) (m:Mc) (vv:Value) (vals:yH) (w:World) (h:Pl w vp vo vt vs vl m) (hl:yi w vv vals) (hvn:vals.length<=1000) (hok:∀i,(hi:i<vals.length)->vals[i].1=2->(vals[i].2 == -1 || qU m vals[i].2)=true) :
 Calls Tryz.prog 133 #[vv,.func (.func 132) #[.agg (zu vp vo vt vs m ++ [vl,zI (yc m.za:Int)]).toArray] #[]] w fun e w'=>∃v,e=.returned v/\zl w.heap.size w' v (vals.map (jx (xH m)))/\zO w w':=by
 have hPl:=h
 obtain⟨hM,hL,hN,hTn⟩:=h
 obtain⟨ap,cp,qz,hlp,hcp⟩:=id hM.p
 obtain⟨ao,co,jw⟩:=hM.o.shape
 obtain⟨at',ct,jA,hlt',hct⟩:=id hM.t
 obtain⟨as',cs,jG⟩:=hM.s.shape
 obtain⟨al,cl,Ja,hll,hcl⟩:=id hL
 subst qz jw jA jG Ja
 unfold zu
 simp only[List.cons_append,List.nil_append]
 obtain⟨av,cv,hvv,_,_⟩:=id hl
 subst hvv
 have HOK:Hid (∀i,(hi:i<vals.length)->vals[i].1=2->(vals[i].2 == -1 || qU m vals[i].2)=true):=hok
 clear hok hcl hct hcp
 have HCA:Hid (∀(x:Int) (W:World),zO w W->(x == -1 || qU m x)=true->Calls Tryz.prog 132 #[.agg #[zI m.cells,.slice ap m.za.length cp,.slice ao m.order.length co,zI m.now,.slice at' m.zd.length ct,zI m.born,.slice as' m.zm.length cs,zI m.code,.slice al (xY m.za).length cl,zI (yc m.za:Int)],zI x] W fun e w'=>e=.returned (zI (xH m x))/\zO W w'):=fun x W hW hx=>by
  have:=Z4 _ _ _ _ _ m x W (hPl.below hW) hx
  unfold zu at this
  simpa only [List.cons_append,List.nil_append] using this
 go_enter Tryz.func133,Tryz.ntmps133
 go_wp2_with fail
 refine(wv _ vals _ hl hvn).mono ?_
 rintro e w1 ⟨v1,rfl,X8,qk⟩
 obtain⟨a1,c1,hv1,_⟩:=X8.slice
 subst hv1
 have xP:=qk.size
 go_wp2
 go_loopg [6,7,12] vals.length (fun g _ _ i wr=>∃(k:Nat) (ys:yH),k<=vals.length/\g=vals.length - k/\i=zI k/\ys.length=vals.length/\zl w.heap.size wr (.slice a1 vals.length c1) ys/\(∀q,(hq:q<ys.length)->(hq':q<vals.length)->(q<k->ys[q]=jx (xH m) vals[q])/\(k<=q->ys[q]=vals[q]))/\zO w wr)
 case atStart=>exact⟨0,vals,Nat.zero_le _,rfl,rfl,rfl,X8,fun q _ _=>⟨fun hq=>absurd hq yB,fun _=>rfl⟩,qk⟩
 case round =>
  obtain⟨k,ys,hk,rfl,rfl,hyl,hr,hys,hb⟩:=hrel
  have HY:Hid (∀q,(hq:q<ys.length)->(hq':q<vals.length)->(q<k->ys[q]=jx (xH m) vals[q])/\(k<=q->ys[q]=vals[q])):=hys
  clear hys
  have zb:=hb.size
  by_cases yt:k<vals.length
  ·obtain⟨g1,o1,c2,e1,hgB,hgl⟩:=hr.form (by omega)
   obtain rfl:a1=some ⟨g1,o1,none⟩:=by injection e1
   clear e1
   have hky:k<ys.length:=by omega
   have HYK:Hid (ys[k]=vals[k]):=(HY.out k hky yt).2 zD
   obtain⟨⟨d0,d1⟩,f0,f1⟩:=hr.cell hky
   rw[HYK.out] at d0 d1
   have v7:(k:Int)<(vals.length:Int):=by omega
   have HOV:=HOK.out k yt
   have HV:Hid (jx (xH m) vals[k]=if vals[k].1=2 then(vals[k].1,xH m vals[k].2) else vals[k]):=rfl
   obtain⟨va,hva⟩:∃va,vals[k].1=va:=⟨_,rfl⟩
   obtain⟨vb,hvb⟩:∃vb,vals[k].2=vb:=⟨_,rfl⟩
   have HVA:Hid (vals[k]=(va,vb)):=by show _=_;rw[<-hva,<-hvb]
   rw[hva] at d0 HV HOV
   rw[hvb] at d1 HV HOV
   clear hva hvb
   by_cases hkd:va=2
   ·subst hkd
    have ze7:=HOV rfl
    rw[if_pos rfl] at HV
    clear HOV
    go_upto_region 6 with fail
    refine yg (fun W'=>zO wr W'/\Bx W' wr.heap.size 86 [.int .i64 2,.int .i64 vb]) ⟨zR _ _,Bx.new _ _ _⟩ ?_
    rintro W2 ⟨t2,y2⟩
    have yE:=hb.trans (t2.mono zb)
    have Qo:=hr.below t2
    have z2:=yE.size
    have y1:=y2.cell 1 rfl
    have HC:=HCA.out vb W2 yE ze7
    clear t2 hb hr d0 d1 f0 f1 y2 ze7
    go_wp2_with fail
    refine HC.mono ?_
    rintro e W3 ⟨rfl,t3⟩
    have qR:=yE.trans (t3.mono z2)
    have XL:=Qo.below t3
    clear HC t3 yE Qo y1
    obtain⟨⟨d0,d1⟩,f0,f1⟩:=XL.cell hky
    have hset:=XL.set1 k hky (xH m vb)
    rw[HYK.out,HVA.out] at hset
    have hbS:=qR.setCell (p:=zH g1 (o1+k * 2+1)) hgB (zI (xH m vb))
    clear qR XL
    go_wp2
    go_roundg (vals.length - (k+1))
    case measure=>omega
    case rel=>exact⟨k+1,_,by omega,rfl,by go_num,by rw[List.length_set];exact hyl,hset,fun q h1 h2=>by
     rw[List.length_set] at h1
     refine⟨fun hq=>?_,fun hq=>?_⟩
     ·by_cases e:q=k
      ·subst e;rw[List.getElem_set_self,HV.out]
      ·rw[List.getElem_set_ne (fun x=>e x.symm)];exact(HY.out q h1 h2).1 (by omega)
     ·rw[List.getElem_set_ne (by omega)];exact(HY.out q h1 h2).2 (by omega),hbS⟩
   ·rw[if_neg hkd] at HV
    have hke:(va == 2)=false:=by simpa using hkd
    have Uz:∀o,zO w (wr.alloc o):=fun o=>hb.alloc zb _
    have KY:∀o,zl w.heap.size (wr.alloc o) (zK g1 o1 vals.length c1) ys:=fun o=>hr.below (zR _ _)
    have HBA:Hid _:=Uz
    have HRA:Hid _:=KY
    clear HOV Uz KY hb hr
    go_wp2
    go_roundg (vals.length - (k+1))
    case measure=>omega
    case rel=>exact⟨k+1,ys,by omega,rfl,by go_num,hyl,HRA.out _,fun q h1 h2=>by
     refine⟨fun hq=>?_,fun hq=>(HY.out q h1 h2).2 (by omega)⟩
     by_cases e:q=k
     ·subst e;rw[HYK.out,HV.out]
     ·exact(HY.out q h1 h2).1 (by omega),HBA.out _⟩
  ·obtain rfl:k=vals.length:=by omega
   have hE:ys=vals.map (jx (xH m)):=List.ext_getElem (by simpa using hyl) fun q h1 h2=>by rw[(HY.out q h1 (by simpa using h2)).1 (by simpa using h2)];simp
   subst hE
   go_wp2
   go_ret
   exact⟨_,rfl,hr,hb⟩
def zc5 (m:Mc) (c:Cl):Cl:=⟨c.m,c.pc,c.zh.map (jx (xH m)),c.zf.map (jx (xH m)),xH m c.zi,c.zy⟩
theorem Kj (vp vo vt vs vl:Value) (m:Mc) (c:Cl) (w1 w2:Value) (w:World) (h:Pl w vp vo vt vs vl m) (ht:yi w w1 c.zh) (hs:yi w w2 c.zf) (hl:c.zh.length<=1000/\c.zf.length<=1000) (hsd:(c.zi == -1 || qU m c.zi)=true)
 (ho1:∀i,(hi:i<c.zh.length)->c.zh[i].1=2->(c.zh[i].2 == -1 || qU m c.zh[i].2)=true) (ho2:∀i,(hi:i<c.zf.length)->c.zf[i].1=2->(c.zf[i].2 == -1 || qU m c.zf[i].2)=true) :
 Calls Tryz.prog 102 #[.agg #[zI c.m,zI c.pc,w1,w2,zI c.zi,.bool c.zy],.func (.func 132) #[.agg (zu vp vo vt vs m ++ [vl,zI (yc m.za:Int)]).toArray] #[]] w fun e w'=>∃u1 u2,e=.returned (.agg #[zI c.m,zI c.pc,u1,u2,zI (xH m c.zi),.bool c.zy]) /\
  zl w.heap.size w' u1 (c.zh.map (jx (xH m)))/\zl w.heap.size w' u2 (c.zf.map (jx (xH m)))/\(∀g,u1.ownBlock=some g->u2.ownBlock≠some g)/\zO w w':=by
 have hPl:=h
 have HOS:Hid ((∀i,(hi:i<c.zh.length)->c.zh[i].1=2->(c.zh[i].2 == -1 || qU m c.zh[i].2)=true)/\(∀i,(hi:i<c.zf.length)->c.zf[i].1=2->(c.zf[i].2 == -1 || qU m c.zf[i].2)=true)):=⟨ho1,ho2⟩
 have HSD:Hid ((c.zi == -1 || qU m c.zi)=true):=hsd
 clear ho1 ho2 hsd
 obtain⟨hM,hL,hN,hTn⟩:=h
 obtain⟨ap,cp,qz,hlp,hcp⟩:=id hM.p
 obtain⟨ao,co,jw⟩:=hM.o.shape
 obtain⟨at',ct,jA,hlt',hct⟩:=id hM.t
 obtain⟨as',cs,jG⟩:=hM.s.shape
 obtain⟨al,cl,Ja,hll,hcl⟩:=id hL
 subst qz jw jA jG Ja
 unfold zu
 simp only[List.cons_append,List.nil_append]
 obtain⟨a1,k1,e1⟩:=ht.shape
 obtain⟨a2,k2,e2⟩:=hs.shape
 subst e1 e2
 clear hcl hct hcp
 have HCA:Hid (∀(W:World),zO w W->Calls Tryz.prog 132 #[.agg #[zI m.cells,.slice ap m.za.length cp,.slice ao m.order.length co,zI m.now,.slice at' m.zd.length ct,zI m.born,.slice as' m.zm.length cs,zI m.code,.slice al (xY m.za).length cl,zI (yc m.za:Int)],zI c.zi] W fun e w'=>e=.returned (zI (xH m c.zi))/\zO W w'):=fun W hW=>by
  have:=Z4 _ _ _ _ _ m c.zi W (hPl.below hW) HSD.out
  unfold zu at this
  simpa only [List.cons_append,List.nil_append] using this
 have HRV:Hid (∀(W:World) (v:Value) (l:yH),zO w W->yi W v l->l.length<=1000->(∀i,(hi:i<l.length)->l[i].1=2->(l[i].2 == -1 || qU m l[i].2)=true)->Calls Tryz.prog 133 #[v,.func (.func 132) #[.agg #[zI m.cells,.slice ap m.za.length cp,.slice ao m.order.length co,zI m.now,.slice at' m.zd.length ct,zI m.born,.slice as' m.zm.length cs,zI m.code,.slice al (xY m.za).length cl,zI (yc m.za:Int)]] #[]] W fun e w'=>∃v',e=.returned v'/\zl W.heap.size w' v' (l.map (jx (xH m)))/\zO W w'):=fun W v l hW hv hl ho=>by
  have:=Vx _ _ _ _ _ m v l W (hPl.below hW) hv hl ho
  unfold zu at this
  simpa only [List.cons_append,List.nil_append] using this
 go_enter Tryz.func102,Tryz.ntmps102
 go_upto_region 1 with fail
 refine yg (fun W=>zO w W/\Bx W w.heap.size 96 [.int .i64 c.m,.int .i64 c.pc,.slice a1 c.zh.length k1,.slice a2 c.zf.length k2,.int .i64 c.zi,.bool c.zy]/\Bx W (w.heap.size+1) 96 [.int .i64 0,.int .i64 0,.slice none 0 0,.slice none 0 0,.int .i64 0,.bool false]) ⟨(zR _ _).alloc (by simp) _,(Bx.new w _ _).alloc _,Bx.newAt _ _ _ (by simp)⟩ ?_
 rintro W0 ⟨B0,x0,y0⟩
 have z0:=B0.size
 have p4:=x0.cell 4 rfl
 go_wp2_with fail
 refine(HCA.out _ B0).mono ?_
 rintro e V1 ⟨rfl,t1⟩
 have bx1:=x0.below t1
 have by1:=y0.below t1
 have BB1:=B0.trans (t1.mono z0)
 clear t1 x0 y0 B0 z0 p4
 have p4:=bx1.cell 4 rfl
 have f4:=bx1.frozen 4
 go_upto_region 2 with fail
 refine yg (fun W=>zO w W/\Bx W w.heap.size 96 [zI c.m,zI c.pc,.slice a1 c.zh.length k1,.slice a2 c.zf.length k2,zI (xH m c.zi),.bool c.zy]/\Bx W (w.heap.size+1) 96 [zI 0,zI 0,zQ,zQ,zI 0,.bool false]) ?_ ?_
 ·have HW:=(Wr.refl1 w.heap.size V1).set1 (o:=4) (zI (xH m c.zi))
  exact⟨HW.below1 BB1 zD zD,bx1.set 4 _,HW.bx by1 (by omega)⟩
 clear bx1 by1 BB1 p4 f4
 rintro W1 ⟨B1,x1,y1⟩
 have z1:=B1.size
 have p2:=x1.cell 2 rfl
 go_wp2_with fail
 refine(HRV.out _ _ c.zh B1 (ht.below B1) hl.1 HOS.out.1).mono ?_
 rintro e V2 ⟨u1,rfl,r1,t2⟩
 obtain⟨a3,k3,e3,_⟩:=r1.slice
 rw[List.length_map] at e3
 subst e3
 have bx2:=x1.below t2
 have by2:=y1.below t2
 have BB2:=B1.trans (t2.mono z1)
 have hl1:w.heap.size+1<W1.heap.size:=y1.lt
 clear t2 x1 y1 B1 p2
 have p2:=bx2.cell 2 rfl
 have f2:=bx2.frozen 2
 go_upto_region 3 with fail
 refine yg (fun W=>zO w W/\Bx W w.heap.size 96 [zI c.m,zI c.pc,.slice a3 c.zh.length k3,.slice a2 c.zf.length k2,zI (xH m c.zi),.bool c.zy]/\Bx W (w.heap.size+1) 96 [zI 0,zI 0,zQ,zQ,zI 0,.bool false]/\zl W1.heap.size W (.slice a3 c.zh.length k3) (c.zh.map (jx (xH m)))) ?_ ?_
 ·have HW:=(Wr.refl1 w.heap.size V2).set1 (o:=2) (.slice a3 c.zh.length k3)
  exact⟨HW.below1 BB2 zD zD,bx2.set 2 _,HW.bx by2 (by omega),HW.pair r1 (fun g e e2=>by have:=(r1.lt g e).1;omega)⟩
 clear bx2 by2 BB2 p2 f2 r1
 rintro W2 ⟨B2,x2,y2,r2⟩
 have z2:=B2.size
 have p3:=x2.cell 3 rfl
 go_wp2_with fail
 refine(HRV.out _ _ c.zf B2 (hs.below B2) hl.2 HOS.out.2).mono ?_
 rintro e V3 ⟨u2,rfl,r3,t3⟩
 obtain⟨a4,k4,e4,_⟩:=r3.slice
 rw[List.length_map] at e4
 subst e4
 have bx3:=x2.below t3
 have by3:=y2.below t3
 have br3:=r2.below t3
 have BB3:=B2.trans (t3.mono z2)
 have hl2:w.heap.size+1<W2.heap.size:=y2.lt
 have HAP:Hid (∀g,(Value.slice a3 c.zh.length k3).ownBlock=some g->(Value.slice a4 c.zf.length k4).ownBlock≠some g):=fun g e e2=>by have h1:=(r2.lt g e).2;have h2:=(r3.lt g e2).1;omega
 clear t3 x2 y2 B2 p3 r2
 have p3:=bx3.cell 3 rfl
 have f3:=bx3.frozen 3
 go_upto_region 4 with fail
 refine yg (fun W=>zO w W/\Bx W w.heap.size 96 [zI c.m,zI c.pc,.slice a3 c.zh.length k3,.slice a4 c.zf.length k4,zI (xH m c.zi),.bool c.zy]/\Bx W (w.heap.size+1) 96 [zI 0,zI 0,zQ,zQ,zI 0,.bool false]/\zl W1.heap.size W (.slice a3 c.zh.length k3) (c.zh.map (jx (xH m)))/\zl W2.heap.size W (.slice a4 c.zf.length k4) (c.zf.map (jx (xH m)))) ?_ ?_
 ·have HW:=(Wr.refl1 w.heap.size V3).set1 (o:=3) (.slice a4 c.zf.length k4)
  exact⟨HW.below1 BB3 zD zD,bx3.set 3 _,HW.bx by3 (by omega),HW.pair br3 (fun g e e2=>by have:=(br3.lt g e).1;omega),HW.pair r3 (fun g e e2=>by have:=(r3.lt g e).1;omega)⟩
 clear bx3 by3 BB3 p3 f3 br3 r3
 rintro W3 ⟨B3,x3,y3,r3,s3⟩
 have p0:=x3.cell 0 rfl
 have pf0:=x3.frozen 0
 have p1:=x3.cell 1 rfl
 have pf1:=x3.frozen 1
 have p2:=x3.cell 2 rfl
 have pf2:=x3.frozen 2
 have p3:=x3.cell 3 rfl
 have pf3:=x3.frozen 3
 have p4:=x3.cell 4 rfl
 have pf4:=x3.frozen 4
 have p5:=x3.cell 5 rfl
 have pf5:=x3.frozen 5
 have q0:=y3.cell 0 rfl
 have qf0:=y3.frozen 0
 have q1:=y3.cell 1 rfl
 have qf1:=y3.frozen 1
 have q2:=y3.cell 2 rfl
 have qf2:=y3.frozen 2
 have q3:=y3.cell 3 rfl
 have qf3:=y3.frozen 3
 have q4:=y3.cell 4 rfl
 have qf4:=y3.frozen 4
 have q5:=y3.cell 5 rfl
 have qf5:=y3.frozen 5
 go_wp2
 refine xW (fun W=>zO w W/\Bx W (w.heap.size+1) 96 [zI c.m,zI c.pc,.slice a3 c.zh.length k3,.slice a4 c.zf.length k4,zI (xH m c.zi),.bool c.zy]/\zl w.heap.size W (.slice a3 c.zh.length k3) (c.zh.map (jx (xH m)))/\zl w.heap.size W (.slice a4 c.zf.length k4) (c.zf.map (jx (xH m)))) ?_ ?_
 ·have HW:=((((((Wr.refl1 (w.heap.size+1) W3).set1 (o:=0) (zI c.m)).set1 (o:=1) (zI c.pc)).set1 (o:=2) (.slice a3 c.zh.length k3)).set1 (o:=3) (.slice a4 c.zf.length k4)).set1 (o:=4) (zI (xH m c.zi))).set1 (o:=5) (.bool c.zy)
  exact⟨HW.below1 B3 zD (Nat.le_succ _),(((((y3.set 0 _).set 1 _).set 2 _).set 3 _).set 4 _).set 5 _,(HW.pair r3 (fun g e e2=>by have:=(r3.lt g e).1;omega)).mono (by omega),(HW.pair s3 (fun g e e2=>by have:=(s3.lt g e).1;omega)).mono (by omega)⟩
 rintro W9 ⟨B9,x9,r9,s9⟩
 have i0:=x9.cell 0 rfl
 have i1:=x9.cell 1 rfl
 have i2:=x9.cell 2 rfl
 have i3:=x9.cell 3 rfl
 have i4:=x9.cell 4 rfl
 have i5:=x9.cell 5 rfl
 exact bodyPost_ret (v:=.agg #[zI c.m,zI c.pc,.slice a3 c.zh.length k3,.slice a4 c.zf.length k4,zI (xH m c.zi),.bool c.zy]) (by simp[results,Tryz.results102,go_sem,i0,i1,i2,i3,i4,i5]) rfl ⟨_,_,rfl,r9,s9,HAP.out,B9⟩
def xl (m:Mc) (t:Tw):Cl:=if t.page=-1 then zc5 m t.left else⟨0,0,[],[],-1,true⟩
theorem Ko (vp vo vt vs vl:Value) (m:Mc) (T:Tw) (w1 w2:Value) (w:World) (h:Pl w vp vo vt vs vl m) (ht:yi w w1 T.left.zh) (hs:yi w w2 T.left.zf) (hl:T.left.zh.length<=1000/\T.left.zf.length<=1000)
 (hok:T.page=-1->(T.left.zi == -1 || qU m T.left.zi)=true/\(∀i,(hi:i<T.left.zh.length)->T.left.zh[i].1=2->(T.left.zh[i].2 == -1 || qU m T.left.zh[i].2)=true)/\(∀i,(hi:i<T.left.zf.length)->T.left.zf[i].1=2->(T.left.zf[i].2 == -1 || qU m T.left.zf[i].2)=true)) :
 Calls Tryz.prog 95 #[.agg (zu vp vo vt vs m ++ [vl,zI (yc m.za:Int)]).toArray,.agg #[zI T.page,zI T.place,zI T.left.m,zI T.left.pc,w1,w2,zI T.left.zi,.bool T.left.zy]] w fun e w'=>∃u1 u2,e=.returned (.agg #[zI (xl m T).m,zI (xl m T).pc,u1,u2,zI (xl m T).zi,.bool (xl m T).zy]) /\
  zl w.heap.size w' u1 (xl m T).zh/\zl w.heap.size w' u2 (xl m T).zf/\(∀g,u1.ownBlock=some g->u2.ownBlock≠some g)/\zO w w':=by
 have hPl:=h
 have HOK:Hid (T.page=-1->(T.left.zi == -1 || qU m T.left.zi)=true/\(∀i,(hi:i<T.left.zh.length)->T.left.zh[i].1=2->(T.left.zh[i].2 == -1 || qU m T.left.zh[i].2)=true)/\(∀i,(hi:i<T.left.zf.length)->T.left.zf[i].1=2->(T.left.zf[i].2 == -1 || qU m T.left.zf[i].2)=true)):=hok
 clear hok
 obtain⟨Th,hTh⟩:∃Th,xl m T=Th:=⟨_,rfl⟩
 have HTH:Hid (xl m T=Th):=hTh
 rw[hTh]
 clear hTh
 obtain⟨hM,hL,hN,hTn⟩:=h
 obtain⟨ap,cp,qz,hlp,hcp⟩:=id hM.p
 obtain⟨ao,co,jw⟩:=hM.o.shape
 obtain⟨at',ct,jA,hlt',hct⟩:=id hM.t
 obtain⟨as',cs,jG⟩:=hM.s.shape
 obtain⟨al,cl,Ja,hll,hcl⟩:=id hL
 subst qz jw jA jG Ja
 unfold zu
 simp only[List.cons_append,List.nil_append]
 obtain⟨a1,k1,e1⟩:=ht.shape
 obtain⟨a2,k2,e2⟩:=hs.shape
 subst e1 e2
 clear hcl hct hcp
 go_enter Tryz.func95,Tryz.ntmps95
 go_upto_region 1 with fail
 refine yg (fun W=>zO w W/\Bx W w.heap.size 152 [.int .i64 m.cells,.slice ap m.za.length cp,.slice ao m.order.length co,.int .i64 m.now,.slice at' m.zd.length ct,.int .i64 m.born,.slice as' m.zm.length cs,.int .i64 m.code,.slice al (xY m.za).length cl,.int .i64 (yc m.za:Int)]/\Bx W (w.heap.size+1) 124 [.int .i64 T.page,.int .i64 T.place,.int .i64 T.left.m,.int .i64 T.left.pc,.slice a1 T.left.zh.length k1,.slice a2 T.left.zf.length k2,.int .i64 T.left.zi,.bool T.left.zy]/\Bx W (w.heap.size+1+1) 96 [.int .i64 0,.int .i64 0,.slice none 0 0,.slice none 0 0,.int .i64 0,.bool false]) ⟨((zR _ _).alloc (by simp) _).alloc (by simp;omega) _,((Bx.new w _ _).alloc _).alloc _,(Bx.newAt _ _ _ (by simp)).alloc _,Bx.newAt _ _ _ (by simp)⟩ ?_
 rintro W0 ⟨B0,x0,t0,y0⟩
 have z0:=B0.size
 have XM:w.heap.size+1+1<W0.heap.size:=y0.lt
 obtain⟨⟨c0,c1,c2,c3,c4,c5,c6,c7⟩,_⟩:=jW t0
 by_cases hp:T.page=-1
 case neg =>
  have hpe:¬(T.page=-1):=hp
  have e:Th=⟨0,0,[],[],-1,true⟩:=by rw[<-HTH.out];unfold xl;rw[if_neg hp]
  subst e
  have q0:=y0.cell 0 rfl
  have qf0:=y0.frozen 0
  have q1:=y0.cell 1 rfl
  have qf1:=y0.frozen 1
  have q2:=y0.cell 2 rfl
  have qf2:=y0.frozen 2
  have q3:=y0.cell 3 rfl
  have qf3:=y0.frozen 3
  have q4:=y0.cell 4 rfl
  have qf4:=y0.frozen 4
  have q5:=y0.cell 5 rfl
  have qf5:=y0.frozen 5
  go_wp2
  refine xW (fun W=>zO w W/\Bx W (w.heap.size+1+1) 96 [zI 0,zI 0,zQ,zQ,zI (-1),.bool true]) ?_ ?_
  ·have HW:=((((((Wr.refl1 (w.heap.size+1+1) W0).set1 (o:=0) (zI 0)).set1 (o:=1) (zI 0)).set1 (o:=2) (zQ)).set1 (o:=3) (zQ)).set1 (o:=4) (zI (-1))).set1 (o:=5) (.bool true)
   exact⟨HW.below1 B0 zD (Nat.le_trans (Nat.le_succ _) (Nat.le_succ _)),(((((y0.set 0 _).set 1 _).set 2 _).set 3 _).set 4 _).set 5 _⟩
  rintro W9 ⟨B9,x9⟩
  have i0:=x9.cell 0 rfl
  have i1:=x9.cell 1 rfl
  have i2:=x9.cell 2 rfl
  have i3:=x9.cell 3 rfl
  have i4:=x9.cell 4 rfl
  have i5:=x9.cell 5 rfl
  exact bodyPost_ret (v:=.agg #[zI 0,zI 0,zQ,zQ,zI (-1),.bool true]) (by simp[results,Tryz.results95,go_sem,i0,i1,i2,i3,i4,i5]) rfl ⟨_,_,rfl,zl.nil _ _,zl.nil _ _,fun g e=>by simp[Value.ownBlock] at e,B9⟩
 have e:Th=zc5 m T.left:=by rw[<-HTH.out];unfold xl;rw[if_pos hp]
 subst e
 rw[hp] at c0
 obtain⟨ok1,ok2,ok3⟩:=HOK.out hp
 have HC:=Kj _ _ _ _ _ m T.left _ _ W0 (hPl.below B0) (ht.below B0) (hs.below B0) hl ok1 ok2 ok3
 unfold zu at HC
 simp only[List.cons_append,List.nil_append] at HC
 obtain⟨⟨p0,p1,p2,p3,p4,p5,p6,p7,p8,p9⟩,_⟩:=Ys x0
 clear ok1 ok2 ok3 HOK
 go_wp2_with fail
 refine HC.mono ?_
 rintro e W1 ⟨u1,u2,rfl,r1,s1,hap,t1⟩
 obtain⟨a3,k3,e3,_⟩:=r1.slice
 obtain⟨a4,k4,e4,_⟩:=s1.slice
 subst e3 e4
 have B1:=B0.trans (t1.mono z0)
 have y1:=y0.below t1
 have HAP:Hid _:=hap
 clear HC t1 B0 x0 t0 y0 hap c0 c1 c2 c3 c4 c5 c6 c7 p0 p1 p2 p3 p4 p5 p6 p7 p8 p9
 have q0:=y1.cell 0 rfl
 have qf0:=y1.frozen 0
 have q1:=y1.cell 1 rfl
 have qf1:=y1.frozen 1
 have q2:=y1.cell 2 rfl
 have qf2:=y1.frozen 2
 have q3:=y1.cell 3 rfl
 have qf3:=y1.frozen 3
 have q4:=y1.cell 4 rfl
 have qf4:=y1.frozen 4
 have q5:=y1.cell 5 rfl
 have qf5:=y1.frozen 5
 obtain⟨pl,hpl⟩:∃pl,xH m T.left.zi=pl:=⟨_,rfl⟩
 rw[hpl]
 obtain⟨n3,hn3⟩:∃n,(T.left.zh.map (jx (xH m))).length=n:=⟨_,rfl⟩
 obtain⟨n4,hn4⟩:∃n,(T.left.zf.map (jx (xH m))).length=n:=⟨_,rfl⟩
 rw[hn3] at r1 HAP ⊢
 rw[hn4] at s1 HAP ⊢
 clear hn3 hn4
 have HPL:Hid (xH m T.left.zi=pl):=hpl
 clear hpl
 go_wp2
 refine xW (fun W=>zO w W/\Bx W (w.heap.size+1+1) 96 [zI T.left.m,zI T.left.pc,.slice a3 n3 k3,.slice a4 n4 k4,zI pl,.bool T.left.zy]/\zl w.heap.size W (.slice a3 n3 k3) (T.left.zh.map (jx (xH m)))/\zl w.heap.size W (.slice a4 n4 k4) (T.left.zf.map (jx (xH m)))) ?_ ?_
 ·have HW:=((((((Wr.refl1 (w.heap.size+1+1) W1).set1 (o:=0) (zI T.left.m)).set1 (o:=1) (zI T.left.pc)).set1 (o:=2) (.slice a3 n3 k3)).set1 (o:=3) (.slice a4 n4 k4)).set1 (o:=4) (zI pl)).set1 (o:=5) (.bool T.left.zy)
  exact⟨HW.below1 B1 zD (Nat.le_trans (Nat.le_succ _) (Nat.le_succ _)),(((((y1.set 0 _).set 1 _).set 2 _).set 3 _).set 4 _).set 5 _,(HW.pair r1 (fun g e e2=>by have:=(r1.lt g e).1;omega)).mono z0,(HW.pair s1 (fun g e e2=>by have:=(s1.lt g e).1;omega)).mono z0⟩
 rintro W9 ⟨B9,x9,r9,s9⟩
 have i0:=x9.cell 0 rfl
 have i1:=x9.cell 1 rfl
 have i2:=x9.cell 2 rfl
 have i3:=x9.cell 3 rfl
 have i4:=x9.cell 4 rfl
 have i5:=x9.cell 5 rfl
 exact bodyPost_ret (v:=.agg #[zI T.left.m,zI T.left.pc,.slice a3 n3 k3,.slice a4 n4 k4,zI pl,.bool T.left.zy]) (by simp[results,Tryz.results95,go_sem,i0,i1,i2,i3,i4,i5]) rfl ⟨_,_,by rw[<-HPL.out];rfl,r9,s9,HAP.out,B9⟩
def VE (m:Mc) (i k:Nat):Int:=if 0<k then Q4 m (i:Int) ((k:Int) - 1) else xH m (pgAt m (i:Int)).base
def j8 (m:Mc) (i k:Nat) (f:Fr):Cl:=⟨f.m,f.pc,f.zh.map (jx (vh m)),f.zf.map (jx (vh m)),VE m i k,false⟩
theorem Jr (vp vo vt vs vl:Value) (m:Mc) (i k:Nat) (F:Fr) (wS:World) (h:Pl wS vp vo vt vs vl m) (hi:i<m.za.length) (hk:k<m.za[i].zg.length) (hF:m.za[i].zg[k]=F)
 (hbs:(m.za[i].base == -1 || qU m m.za[i].base)=true) (hl:F.zh.length<=1000/\F.zf.length<=1000) (hos:(∀q,(hq:q<F.zh.length)->F.zh[q].1=2->qU m F.zh[q].2=true)/\(∀q,(hq:q<F.zf.length)->F.zf[q].1=2->qU m F.zf[q].2=true)) :
 Calls Tryz.prog 94 #[.agg (zu vp vo vt vs m ++ [vl,zI (yc m.za:Int)]).toArray,zI (i:Int),zI (k:Int)] wS fun e w'=>∃u1 u2,e=.returned (.agg #[zI F.m,zI F.pc,u1,u2,zI (VE m i k),.bool false]) /\
  zl wS.heap.size w' u1 (F.zh.map (jx (vh m)))/\zl wS.heap.size w' u2 (F.zf.map (jx (vh m)))/\(∀g,u1.ownBlock=some g->u2.ownBlock≠some g)/\zO wS w':=by
 have hPl:=h
 have HOS:Hid ((∀q,(hq:q<F.zh.length)->F.zh[q].1=2->qU m F.zh[q].2=true)/\(∀q,(hq:q<F.zf.length)->F.zf[q].1=2->qU m F.zf[q].2=true)):=hos
 clear hos
 obtain⟨hM,hL,hN,hTn⟩:=h
 obtain⟨ap,cp,qz,hlp,hcp⟩:=id hM.p
 obtain⟨ao,co,jw⟩:=hM.o.shape
 obtain⟨at',ct,jA,hlt',hct⟩:=id hM.t
 obtain⟨as',cs,jG⟩:=hM.s.shape
 obtain⟨al,cl,Ja,hll,hcl⟩:=id hL
 subst qz jw jA jG Ja
 unfold zu
 simp only[List.cons_append,List.nil_append]
 obtain⟨bp,op,vf,hap,xt⟩:=hcp i hi
 subst hap
 obtain⟨af,cf,QW,hlf,hcf⟩:=id xt.f
 subst QW
 obtain⟨bf,of',v1,v2,haf,hfr⟩:=hcf k hk
 subst haf
 rw[hF] at hfr
 have g0:=xt.c0
 have g1:=xt.c1
 obtain⟨d0,d1,d2,d3,d4,dt,ds⟩:=hfr
 obtain⟨a1,k1,e1⟩:=dt.shape
 obtain⟨a2,k2,e2⟩:=ds.shape
 subst e1 e2
 have hsu:=xB hi
 have hsl:=vw m.za (k:=i+1) hi
 have HS0:Hid (VE m i k=if 0<k then Q4 m (i:Int) ((k:Int) - 1) else xH m m.za[i].base):=by show _=_;unfold VE;rw[kE hi]
 obtain⟨nf,hnf⟩:∃nf,m.za[i].zg.length=nf:=⟨_,rfl⟩
 rw[hnf] at g1 hsu hk
 obtain⟨bs,hbe⟩:∃bs,m.za[i].base=bs:=⟨_,rfl⟩
 rw[hbe] at g0 HS0 hbs
 have HBS:Hid ((bs == -1 || qU m bs)=true):=hbs
 have hnb:nf<=1099511627776:=by omega
 have hiz:(i:Int)<(m.za.length:Int):=by omega
 have v7:(k:Int)<(nf:Int):=by omega
 clear hcl hct hcp hcf xt hF hnf hsu hsl hbe hbs hlf
 have HRV:Hid (∀(W:World) (v:Value) (l:yH),zO wS W->yi W v l->l.length<=1000->(∀q,(hq:q<l.length)->l[q].1=2->qU m l[q].2=true)->Calls Tryz.prog 133 #[v,.func (.func 134) #[.agg #[zI m.cells,zK bp op m.za.length cp,.slice ao m.order.length co,zI m.now,.slice at' m.zd.length ct,zI m.born,.slice as' m.zm.length cs,zI m.code,.slice al (xY m.za).length cl,zI (yc m.za:Int)]] #[]] W fun e w'=>∃v',e=.returned v'/\zl W.heap.size w' v' (l.map (jx (vh m)))/\zO W w'):=fun W v l hW hv hl ho=>by
  have:=Vy _ _ _ _ _ m v l W (hPl.below hW) hv hl ho
  unfold zu at this
  simpa only [List.cons_append,List.nil_append] using this
 go_enter Tryz.func94,Tryz.ntmps94
 go_upto_region 1 with fail
 refine yg (fun W=>zO wS W/\Bx W wS.heap.size 152 [.int .i64 m.cells,.slice (some ⟨bp,op,none⟩) m.za.length cp,.slice ao m.order.length co,.int .i64 m.now,.slice at' m.zd.length ct,.int .i64 m.born,.slice as' m.zm.length cs,.int .i64 m.code,.slice al (xY m.za).length cl,.int .i64 (yc m.za:Int)]/\Bx W (wS.heap.size+1) 96 [.int .i64 0,.int .i64 0,.slice none 0 0,.slice none 0 0,.int .i64 0,.bool false]) ⟨(zR _ _).alloc (by simp) _,(Bx.new wS _ _).alloc _,Bx.newAt _ _ _ (by simp)⟩ ?_
 rintro W1 ⟨B1,x1',y1'⟩
 have z1:=B1.size
 obtain⟨⟨x0,x1,x2,x3,x4,x5,x6,x7,x8,x9⟩,_⟩:=Ys x1'
 replace g0:=zc B1 g0
 replace g1:=zc B1 g1
 replace d0:=zc B1 d0
 replace d1:=zc B1 d1
 replace d2:=zc B1 d2
 replace d3:=zc B1 d3
 replace d4:=zc B1 d4
 go_upto_region 2 with fail
 refine yg (fun W=>zO W1 W/\Bx W W1.heap.size 75 [.int .i64 F.m,.int .i64 F.pc,.int .i64 F.twin,.slice a1 F.zh.length k1,.slice a2 F.zf.length k2]) ⟨zR _ _,Bx.new _ _ _⟩ ?_
 rintro W2 ⟨t2,f2⟩
 have B2:=B1.trans (t2.mono z1)
 have x2':=x1'.below t2
 have y2':=y1'.below t2
 replace g0:=zc t2 g0
 replace g1:=zc t2 g1
 have hyl:=y1'.lt
 have z2:=B2.size
 clear t2 x1' y1' B1 d0 d1 d2 d3 d4 x0 x1 x2 x3 x4 x5 x6 x7 x8 x9
 obtain⟨⟨x0,x1,x2,x3,x4,x5,x6,x7,x8,x9⟩,_⟩:=Ys x2'
 have HC:=jp (W:=W2) fun W' (hW:zO W2 W')=>Z4 _ _ _ _ _ m bs W' ((hPl.below B2).below hW) HBS.out
 unfold zu at HC
 simp only[List.cons_append,List.nil_append] at HC
 obtain⟨cb,hcb⟩:∃cb,xH m bs=cb:=⟨_,rfl⟩
 rw[hcb] at HC HS0
 clear hcb
 have L0:=Gr.cell x0
 have L1:=Gr.cell x1
 have L2:=Gr.cell x2
 have L3:=Gr.cell x3
 have L4:=Gr.cell x4
 have L5:=Gr.cell x5
 have L6:=Gr.cell x6
 have L7:=Gr.cell x7
 have L8:=Gr.cell x8
 have L9:=Gr.cell x9
 have G0:=Gr.cell g0
 have G1:=Gr.cell g1
 clear x0 x1 x2 x3 x4 x5 x6 x7 x8 x9 g0 g1
 refine WQ.region (by kernel_rfl) (by kernel_rfl) ?_
 iterate 10 (refine WQ.step (fun K hK=>?_);go_simp;first
  | (with_reducible refine hK _ ?_;clear hK K)
  | (with_reducible refine qC ?_;refine hK _ ?_;clear hK K)
  | (simp(contextual:=true) only [L0,L1,L2,L3,L4,L5,L6,L7,L8,L9,G0,Result.andThen_ok,true_and];with_reducible refine qC ?_;refine hK _ ?_;clear hK K)
  | (with_reducible refine yF HC ?_;refine hK _ ?_;clear hK K))
 refine WQ.nil ?_
 intro W3 hG3
 have B3:=B2.trans (hG3.to.mono z2)
 have x3':=x2'.below hG3.to
 have y3':=y2'.below hG3.to
 have f3:=f2.below hG3.to
 have z3:=B3.size
 clear hG3 HC L0 L1 L2 L3 L4 L5 L6 L7 L8 L9 G0 G1 x2' y2' f2 B2 z2
 by_cases h0:0<k
 case neg =>
  have hkzero:k=0:=by omega
  have HSD:Hid (VE m i k=cb):=by show _=_;rw[HS0.out,if_neg h0]
  clear HS0
  subst hkzero
  have B4:=B3
  have x4':=x3'
  have y4:=y3'
  have f4:=f3
  clear B3 x3' y3' f3
  obtain⟨⟨x0,x1,x2,x3,x4,x5,x6,x7,x8,x9⟩,_⟩:=Ys x4'
  have q0:=f4.cell 0 rfl
  have q1:=f4.cell 1 rfl
  have q3:=f4.cell 3 rfl
  have q4:=f4.cell 4 rfl
  go_upto_region 5 with fail
  refine Yc [[],[0],[],[2],[],[4],[],[6],[4,5,6,7],[],[9],[],[11],[4,5,6,7,8,9,10,11,12],[],[0,1,2,3,4,5,6,7,8,9,10,11,12,13,14],[0,1,2,3,4,5,6,7,8,9,10,11,12,13,14,15]] [[0],[1],[2],[3],[4],[5],[6],[7],[8],[9],[10],[11],[12],[8,13],[14],[8,13,15],[]] [[],[],[],[],[],[],[],[],[],[],[],[],[],[],[],[],[]] [jy (zJ W1.heap.size 0),jy (zI F.m),jy (zJ W1.heap.size 1),jy (zI F.pc),jy (zJ W1.heap.size 3),jy (.slice a1 F.zh.length k1),jy (.agg #[zI m.cells,zK bp op m.za.length cp,.slice ao m.order.length co,zI m.now,.slice at' m.zd.length ct,zI m.born,.slice as' m.zm.length cs,zI m.code,.slice al (xY m.za).length cl,zI (yc m.za:Int)]),jy (.func (.func 134) #[.agg #[zI m.cells,zK bp op m.za.length cp,.slice ao m.order.length co,zI m.now,.slice at' m.zd.length ct,zI m.born,.slice as' m.zm.length cs,zI m.code,.slice al (xY m.za).length cl,zI (yc m.za:Int)]] #[]),fGh 8 (fun(x:Value) l=>l=[x]) (fun x w1=>(∃a c,x=.slice a F.zh.length c)/\zl W3.heap.size w1 x (F.zh.map (jx (vh m)))),jy (zJ W1.heap.size 4),jy (.slice a2 F.zf.length k2),jy (.agg #[zI m.cells,zK bp op m.za.length cp,.slice ao m.order.length co,zI m.now,.slice at' m.zd.length ct,zI m.born,.slice as' m.zm.length cs,zI m.code,.slice al (xY m.za).length cl,zI (yc m.za:Int)]),jy (.func (.func 134) #[.agg #[zI m.cells,zK bp op m.za.length cp,.slice ao m.order.length co,zI m.now,.slice at' m.zd.length ct,zI m.born,.slice as' m.zm.length cs,zI m.code,.slice al (xY m.za).length cl,zI (yc m.za:Int)]] #[]),fGh 13 (fun(x:Value × Value) l=>l=[x.1,x.2]) (fun x w1=>(∃a c,x.2=.slice a F.zf.length c)/\(∀g,x.1.ownBlock=some g->x.2.ownBlock≠some g)/\zl W3.heap.size w1 x.2 (F.zf.map (jx (vh m)))),jy (zI cb),JD fun l=>∃u1 u2:Value,l=[u1,u2,.agg #[zI F.m,zI F.pc,u1,u2,zI cb,.bool false]],JD fun _=>True] 16 rfl (by kernel_rfl) (by kernel_rfl) (by kernel_rfl) ?_ ?_
  ·refine zk (zk (zk (zk (zk (zk (zk (zk (zk (zk (zk (zk (zk (zk (zk (zk (jE) ?_) ?_) ?_) ?_) ?_) ?_) ?_) ?_) ?_) ?_) ?_) ?_) ?_) ?_) ?_) ?_
   ·intro a w val own hB hf zE hk
    have s7:=hf.at (d:=7) (v:=zJ W1.heap.size 0) (by kernel_rfl) rfl
    exact zF (v:=zJ W1.heap.size 0) hB
   ·intro a w val own hB hf zE hk
    have s35:=zU hk 0 35
    have cq:=zc hB q0
    exact zF (v:=zI F.m) hB
   ·intro a w val own hB hf zE hk
    have s7:=hf.at (d:=7) (v:=zJ W1.heap.size 0) (by kernel_rfl) rfl
    exact zF (v:=zJ W1.heap.size 1) hB
   ·intro a w val own hB hf zE hk
    have s37:=zU hk 2 37
    have cq:=zc hB q1
    exact zF (v:=zI F.pc) hB
   ·intro a w val own hB hf zE hk
    have s7:=hf.at (d:=7) (v:=zJ W1.heap.size 0) (by kernel_rfl) rfl
    exact zF (v:=zJ W1.heap.size 3) hB
   ·intro a w val own hB hf zE hk
    have s39:=zU hk 4 39
    have cq:=zc hB q3
    exact zF (v:=.slice a1 F.zh.length k1) hB
   ·intro a w val own hB hf zE hk
    have s3:=hf.at (d:=3) (v:=zJ wS.heap.size 0) (by kernel_rfl) rfl
    have cx0:=zc hB x0
    have cx1:=zc hB x1
    have cx2:=zc hB x2
    have cx3:=zc hB x3
    have cx4:=zc hB x4
    have cx5:=zc hB x5
    have cx6:=zc hB x6
    have cx7:=zc hB x7
    have cx8:=zc hB x8
    have cx9:=zc hB x9
    exact zF (v:=.agg #[zI m.cells,zK bp op m.za.length cp,.slice ao m.order.length co,zI m.now,.slice at' m.zd.length ct,zI m.born,.slice as' m.zm.length cs,zI m.code,.slice al (xY m.za).length cl,zI (yc m.za:Int)]) hB
   ·intro a w val own hB hf zE hk
    have s41:=zU hk 6 41
    exact zF (v:=.func (.func 134) #[.agg #[zI m.cells,zK bp op m.za.length cp,.slice ao m.order.length co,zI m.now,.slice at' m.zd.length ct,zI m.born,.slice as' m.zm.length cs,zI m.code,.slice al (xY m.za).length cl,zI (yc m.za:Int)]] #[]) hB
   ·intro a w val own hB hf zE hk
    have s40:=zU hk 5 40
    have s42:=zU hk 7 42
    have hB':=B4.trans (hB.mono B4.size)
    have VU:=hB.size
    refine uK hB rfl rfl (by unfold execOp;go_simp) ((HRV.out w _ F.zh hB' (dt.below hB') hl.1 HOS.out.1).mono ?_)
    rintro e w' ⟨v',rfl,r1,hb'⟩
    refine⟨_,rfl,hb',v',rfl,Made.new fun w1 hs _ hr=>⟨?_,?_⟩⟩
    ·obtain⟨a0,c0,e0,_⟩:=r1.slice
     exact⟨a0,c0,by simpa using e0⟩
    ·exact(r1.kept hs fun g e=>hr g (r1.lt g e).1 (r1.lt g e).2).mono VU
   ·intro a w val own hB hf zE hk
    have s7:=hf.at (d:=7) (v:=zJ W1.heap.size 0) (by kernel_rfl) rfl
    exact zF (v:=zJ W1.heap.size 4) hB
   ·intro a w val own hB hf zE hk
    have s44:=zU hk 9 44
    have cq:=zc hB q4
    exact zF (v:=.slice a2 F.zf.length k2) hB
   ·intro a w val own hB hf zE hk
    have s3:=hf.at (d:=3) (v:=zJ wS.heap.size 0) (by kernel_rfl) rfl
    have cx0:=zc hB x0
    have cx1:=zc hB x1
    have cx2:=zc hB x2
    have cx3:=zc hB x3
    have cx4:=zc hB x4
    have cx5:=zc hB x5
    have cx6:=zc hB x6
    have cx7:=zc hB x7
    have cx8:=zc hB x8
    have cx9:=zc hB x9
    exact zF (v:=.agg #[zI m.cells,zK bp op m.za.length cp,.slice ao m.order.length co,zI m.now,.slice at' m.zd.length ct,zI m.born,.slice as' m.zm.length cs,zI m.code,.slice al (xY m.za).length cl,zI (yc m.za:Int)]) hB
   ·intro a w val own hB hf zE hk
    have s46:=zU hk 11 46
    exact zF (v:=.func (.func 134) #[.agg #[zI m.cells,zK bp op m.za.length cp,.slice ao m.order.length co,zI m.now,.slice at' m.zd.length ct,zI m.born,.slice as' m.zm.length cs,zI m.code,.slice al (xY m.za).length cl,zI (yc m.za:Int)]] #[]) hB
   ·intro a w val own hB hf zE hk
    have s45:=zU hk 10 45
    have s47:=zU hk 12 47
    obtain⟨k8,x8,e8,m8⟩:=hk 8 (show 8∈[4,5,6,7,8,9,10,11,12] by decide)
    have v8:=qI e8
    obtain⟨_,r8⟩:=m8.here hB
    clear k8 e8
    have hB':=B4.trans (hB.mono B4.size)
    have VU:=hB.size
    refine uK hB rfl rfl (by unfold execOp;go_simp) ((HRV.out w _ F.zf hB' (ds.below hB') hl.2 HOS.out.2).mono ?_)
    rintro e w' ⟨v',rfl,r1,hb'⟩
    refine⟨_,rfl,hb',(x8,v'),?_,Made.new fun w1 hs _ hr=>⟨?_,fun g e e2=>?_,?_⟩⟩
    ·show [val 8,_]=_
     rw[v8]
     rfl
    ·obtain⟨a0,c0,e0,_⟩:=r1.slice
     exact⟨a0,c0,by simpa using e0⟩
    ·have l1:=(r8.lt g e).2
     have l2:=(r1.lt g e2).1
     omega
    ·exact(r1.kept hs fun g e=>hr g (r1.lt g e).1 (r1.lt g e).2).mono VU
   ·intro a w val own hB hf zE hk
    have s8:=hf.at (d:=8) (v:=zI cb) (by kernel_rfl) rfl
    exact zF (v:=zI cb) hB
   ·intro a w val own hB hf zE hk
    have s36:=zU hk 1 36
    have s38:=zU hk 3 38
    obtain⟨k8,x8,e8,m8⟩:=hk 8 (show 8∈[0,1,2,3,4,5,6,7,8,9,10,11,12,13,14] by decide)
    have v8:=qI e8
    have s43:=k8 43 rfl
    rw[v8] at s43
    obtain⟨⟨a8,c8,q8⟩,r8⟩:=m8.here hB
    clear k8 e8
    obtain⟨k13,x13,e13,m13⟩:=hk 13 (show 13∈[0,1,2,3,4,5,6,7,8,9,10,11,12,13,14] by decide)
    have zbU:[val 8,val 13]=_:=e13
    injection zbU with Wf KJ
    have v13:=qI KJ
    have s48:=k13 48 rfl
    rw[v13] at s48
    obtain⟨⟨a13,c13,q13⟩,zbL,r13⟩:=m13.here hB
    clear k13 e13 KJ
    have s49:=zU hk 14 49
    obtain⟨y1,y2⟩:=x13
    dsimp only at q13
    subst q8 q13
    refine zF (v:=.agg #[zI F.m,zI F.pc,.slice a8 F.zh.length c8,.slice a13 F.zf.length c13,zI cb,.bool false]) hB rfl rfl (by unfold execOp;go_simp) ⟨.slice a8 F.zh.length c8,.slice a13 F.zf.length c13,?_⟩
    show [val 8,val 13,_]=_
    rw[v8,v13]
    rfl
  intro aE vI val own hB hf zE hk
  obtain⟨k8,x8,e8,m8⟩:=hk 8 (by decide)
  have v8:=qI e8
  have s43:=k8 43 rfl
  rw[v8] at s43
  obtain⟨⟨a8,c8,q8⟩,r8⟩:=m8.here hB
  clear k8 e8
  obtain⟨k13,x13,e13,m13⟩:=hk 13 (by decide)
  have zbU:[val 8,val 13]=_:=e13
  injection zbU with Wf KJ
  have v13:=qI KJ
  have s48:=k13 48 rfl
  rw[v13] at s48
  obtain⟨⟨a13,c13,q13⟩,zbL,r13⟩:=m13.here hB
  clear k13 e13 KJ
  obtain⟨y1,y2⟩:=x13
  dsimp only at q13 zbL r13 Wf v13
  have hxy:y1=x8:=by rw[<-Wf,v8]
  subst hxy
  obtain⟨k15,u1,u2,e15⟩:=hk 15 (by decide)
  have e15':[val 8,val 13,val 15]=_:=e15
  injection e15' with ea eb
  injection eb with eb ec
  have v15:=qI ec
  have s50:=k15 50 rfl
  rw[v8] at ea
  rw[v13] at eb
  subst ea eb
  rw[v15] at s50
  subst q8 q13
  clear k15 e15 ec v15 v8 v13 Wf
  have s6:=hf.at (d:=6) (v:=zJ (wS.heap.size+1) 0) (by kernel_rfl) rfl
  have Jv:=y4.below hB
  have p0:=Jv.cell 0 rfl
  have pf0:=Jv.frozen 0
  have p1:=Jv.cell 1 rfl
  have pf1:=Jv.frozen 1
  have p2:=Jv.cell 2 rfl
  have pf2:=Jv.frozen 2
  have p3:=Jv.cell 3 rfl
  have pf3:=Jv.frozen 3
  have p4:=Jv.cell 4 rfl
  have pf4:=Jv.frozen 4
  have p5:=Jv.cell 5 rfl
  have pf5:=Jv.frozen 5
  refine uc (w':=Q8 vI (wS.heap.size+1) 0 [zI F.m,zI F.pc,.slice a8 F.zh.length c8,.slice a13 F.zf.length c13,zI cb,.bool false]) rfl rfl (by unfold execOp;simp only[Q8];go_simp) ?_
  simp only[Act.put,Q8]
  obtain⟨u,QV,hv⟩:=X0 aE.tmps (n:=51) hf.size
  have hu:aE.tmps=(u 0 :: u 1 :: u 2 :: u 3 :: u 4 :: u 5 :: u 6 :: u 7 :: u 8 :: u 9 :: u 10 :: u 11 :: u 12 :: u 13 :: u 14 :: u 15 :: u 16 :: u 17 :: u 18 :: u 19 :: u 20 :: u 21 :: u 22 :: u 23 :: u 24 :: u 25 :: u 26 :: u 27 :: u 28 :: u 29 :: u 30 :: u 31 :: u 32 :: u 33 :: u 34 :: u 35 :: u 36 :: u 37 :: u 38 :: u 39 :: u 40 :: u 41 :: u 42 :: u 43 :: u 44 :: u 45 :: u 46 :: u 47 :: u 48 :: u 49 :: u 50 :: []).toArray:=QV
  rw[(hv 6).trans s6] at hu
  obtain rfl:=ZW hu (show aE.defers=[] from hf.defers)
  clear hu QV hv hk zE hf s6 s50 s43 s48
  have zB:=hB.size
  have hy4:wS.heap.size+1<W3.heap.size:=y4.lt
  refine wG (fun W=>zO wS W/\Bx W (wS.heap.size+1) 96 [zI F.m,zI F.pc,.slice a8 F.zh.length c8,.slice a13 F.zf.length c13,zI cb,.bool false]/\zl W3.heap.size W (.slice a8 F.zh.length c8) (F.zh.map (jx (vh m)))/\zl W3.heap.size W (.slice a13 F.zf.length c13) (F.zf.map (jx (vh m)))) ?_ ?_
  ·have HW:=((((((Wr.refl1 (wS.heap.size+1) vI).set1 (o:=0) (zI F.m)).set1 (o:=1) (zI F.pc)).set1 (o:=2) (.slice a8 F.zh.length c8)).set1 (o:=3) (.slice a13 F.zf.length c13)).set1 (o:=4) (zI cb)).set1 (o:=5) (.bool false)
   exact⟨HW.below1 (B4.trans (hB.mono B4.size)) zD (Nat.le_succ _),(((((Jv.set 0 _).set 1 _).set 2 _).set 3 _).set 4 _).set 5 _,HW.pair r8 (fun g e e2=>by have:=(r8.lt g e).1;omega),HW.pair r13 (fun g e e2=>by have:=(r13.lt g e).1;omega)⟩
  rintro W9 ⟨B9,x9,r9,s9⟩
  try go_wp2
  have i0:=x9.cell 0 rfl
  have i1:=x9.cell 1 rfl
  have i2:=x9.cell 2 rfl
  have i3:=x9.cell 3 rfl
  have i4:=x9.cell 4 rfl
  have i5:=x9.cell 5 rfl
  exact bodyPost_ret (v:=.agg #[zI F.m,zI F.pc,.slice a8 F.zh.length c8,.slice a13 F.zf.length c13,zI cb,.bool false]) (by simp[results,Tryz.results94,go_sem,i0,i1,i2,i3,i4,i5]) rfl ⟨_,_,by rw[HSD.out],r9.mono B4.size,s9.mono B4.size,zbL,B9⟩
 have h0z:(0:Int)<(k:Int):=by omega
 have hwn:IntKind.i64.wrap ((k:Int) - 1)=(k:Int) - 1:=by rw[IntKind.wrap_i64];omega
 have HC:=YQ _ _ _ _ _ m i ((k:Int) - 1) W3 (hPl.below B3) hi (by omega) (by omega)
 unfold zu at HC
 simp only[List.cons_append,List.nil_append] at HC
 obtain⟨sd,hsd⟩:∃sd,Q4 m (i:Int) ((k:Int) - 1)=sd:=⟨_,rfl⟩
 rw[hsd] at HC HS0
 have HSD:Hid (VE m i k=sd):=by show _=_;rw[HS0.out,if_pos h0]
 clear HS0 hsd
 obtain⟨⟨x0,x1,x2,x3,x4,x5,x6,x7,x8,x9⟩,_⟩:=Ys x3'
 go_wp2_with fail
 refine HC.mono ?_
 rintro e W4 ⟨rfl,t4⟩
 have B4:=B3.trans (t4.mono z3)
 have x4':=x3'.below t4
 have y4:=y3'.below t4
 have f4:=f3.below t4
 clear HC t4 x3' y3' f3 B3 z3 x0 x1 x2 x3 x4 x5 x6 x7 x8 x9
 obtain⟨⟨x0,x1,x2,x3,x4,x5,x6,x7,x8,x9⟩,_⟩:=Ys x4'
 have q0:=f4.cell 0 rfl
 have q1:=f4.cell 1 rfl
 have q3:=f4.cell 3 rfl
 have q4:=f4.cell 4 rfl
 go_upto_region 5 with fail
 refine Yc [[],[0],[],[2],[],[4],[],[6],[4,5,6,7],[],[9],[],[11],[4,5,6,7,8,9,10,11,12],[],[0,1,2,3,4,5,6,7,8,9,10,11,12,13,14],[0,1,2,3,4,5,6,7,8,9,10,11,12,13,14,15]] [[0],[1],[2],[3],[4],[5],[6],[7],[8],[9],[10],[11],[12],[8,13],[14],[8,13,15],[]] [[],[],[],[],[],[],[],[],[],[],[],[],[],[],[],[],[]] [jy (zJ W1.heap.size 0),jy (zI F.m),jy (zJ W1.heap.size 1),jy (zI F.pc),jy (zJ W1.heap.size 3),jy (.slice a1 F.zh.length k1),jy (.agg #[zI m.cells,zK bp op m.za.length cp,.slice ao m.order.length co,zI m.now,.slice at' m.zd.length ct,zI m.born,.slice as' m.zm.length cs,zI m.code,.slice al (xY m.za).length cl,zI (yc m.za:Int)]),jy (.func (.func 134) #[.agg #[zI m.cells,zK bp op m.za.length cp,.slice ao m.order.length co,zI m.now,.slice at' m.zd.length ct,zI m.born,.slice as' m.zm.length cs,zI m.code,.slice al (xY m.za).length cl,zI (yc m.za:Int)]] #[]),fGh 8 (fun(x:Value) l=>l=[x]) (fun x w1=>(∃a c,x=.slice a F.zh.length c)/\zl W4.heap.size w1 x (F.zh.map (jx (vh m)))),jy (zJ W1.heap.size 4),jy (.slice a2 F.zf.length k2),jy (.agg #[zI m.cells,zK bp op m.za.length cp,.slice ao m.order.length co,zI m.now,.slice at' m.zd.length ct,zI m.born,.slice as' m.zm.length cs,zI m.code,.slice al (xY m.za).length cl,zI (yc m.za:Int)]),jy (.func (.func 134) #[.agg #[zI m.cells,zK bp op m.za.length cp,.slice ao m.order.length co,zI m.now,.slice at' m.zd.length ct,zI m.born,.slice as' m.zm.length cs,zI m.code,.slice al (xY m.za).length cl,zI (yc m.za:Int)]] #[]),fGh 13 (fun(x:Value × Value) l=>l=[x.1,x.2]) (fun x w1=>(∃a c,x.2=.slice a F.zf.length c)/\(∀g,x.1.ownBlock=some g->x.2.ownBlock≠some g)/\zl W4.heap.size w1 x.2 (F.zf.map (jx (vh m)))),jy (zI sd),JD fun l=>∃u1 u2:Value,l=[u1,u2,.agg #[zI F.m,zI F.pc,u1,u2,zI sd,.bool false]],JD fun _=>True] 16 rfl (by kernel_rfl) (by kernel_rfl) (by kernel_rfl) ?_ ?_
 ·refine zk (zk (zk (zk (zk (zk (zk (zk (zk (zk (zk (zk (zk (zk (zk (zk (jE) ?_) ?_) ?_) ?_) ?_) ?_) ?_) ?_) ?_) ?_) ?_) ?_) ?_) ?_) ?_) ?_
  ·intro a w val own hB hf zE hk
   have s7:=hf.at (d:=7) (v:=zJ W1.heap.size 0) (by kernel_rfl) rfl
   exact zF (v:=zJ W1.heap.size 0) hB
  ·intro a w val own hB hf zE hk
   have s35:=zU hk 0 35
   have cq:=zc hB q0
   exact zF (v:=zI F.m) hB
  ·intro a w val own hB hf zE hk
   have s7:=hf.at (d:=7) (v:=zJ W1.heap.size 0) (by kernel_rfl) rfl
   exact zF (v:=zJ W1.heap.size 1) hB
  ·intro a w val own hB hf zE hk
   have s37:=zU hk 2 37
   have cq:=zc hB q1
   exact zF (v:=zI F.pc) hB
  ·intro a w val own hB hf zE hk
   have s7:=hf.at (d:=7) (v:=zJ W1.heap.size 0) (by kernel_rfl) rfl
   exact zF (v:=zJ W1.heap.size 3) hB
  ·intro a w val own hB hf zE hk
   have s39:=zU hk 4 39
   have cq:=zc hB q3
   exact zF (v:=.slice a1 F.zh.length k1) hB
  ·intro a w val own hB hf zE hk
   have s3:=hf.at (d:=3) (v:=zJ wS.heap.size 0) (by kernel_rfl) rfl
   have cx0:=zc hB x0
   have cx1:=zc hB x1
   have cx2:=zc hB x2
   have cx3:=zc hB x3
   have cx4:=zc hB x4
   have cx5:=zc hB x5
   have cx6:=zc hB x6
   have cx7:=zc hB x7
   have cx8:=zc hB x8
   have cx9:=zc hB x9
   exact zF (v:=.agg #[zI m.cells,zK bp op m.za.length cp,.slice ao m.order.length co,zI m.now,.slice at' m.zd.length ct,zI m.born,.slice as' m.zm.length cs,zI m.code,.slice al (xY m.za).length cl,zI (yc m.za:Int)]) hB
  ·intro a w val own hB hf zE hk
   have s41:=zU hk 6 41
   exact zF (v:=.func (.func 134) #[.agg #[zI m.cells,zK bp op m.za.length cp,.slice ao m.order.length co,zI m.now,.slice at' m.zd.length ct,zI m.born,.slice as' m.zm.length cs,zI m.code,.slice al (xY m.za).length cl,zI (yc m.za:Int)]] #[]) hB
  ·intro a w val own hB hf zE hk
   have s40:=zU hk 5 40
   have s42:=zU hk 7 42
   have hB':=B4.trans (hB.mono B4.size)
   have VU:=hB.size
   refine uK hB rfl rfl (by unfold execOp;go_simp) ((HRV.out w _ F.zh hB' (dt.below hB') hl.1 HOS.out.1).mono ?_)
   rintro e w' ⟨v',rfl,r1,hb'⟩
   refine⟨_,rfl,hb',v',rfl,Made.new fun w1 hs _ hr=>⟨?_,?_⟩⟩
   ·obtain⟨a0,c0,e0,_⟩:=r1.slice
    exact⟨a0,c0,by simpa using e0⟩
   ·exact(r1.kept hs fun g e=>hr g (r1.lt g e).1 (r1.lt g e).2).mono VU
  ·intro a w val own hB hf zE hk
   have s7:=hf.at (d:=7) (v:=zJ W1.heap.size 0) (by kernel_rfl) rfl
   exact zF (v:=zJ W1.heap.size 4) hB
  ·intro a w val own hB hf zE hk
   have s44:=zU hk 9 44
   have cq:=zc hB q4
   exact zF (v:=.slice a2 F.zf.length k2) hB
  ·intro a w val own hB hf zE hk
   have s3:=hf.at (d:=3) (v:=zJ wS.heap.size 0) (by kernel_rfl) rfl
   have cx0:=zc hB x0
   have cx1:=zc hB x1
   have cx2:=zc hB x2
   have cx3:=zc hB x3
   have cx4:=zc hB x4
   have cx5:=zc hB x5
   have cx6:=zc hB x6
   have cx7:=zc hB x7
   have cx8:=zc hB x8
   have cx9:=zc hB x9
   exact zF (v:=.agg #[zI m.cells,zK bp op m.za.length cp,.slice ao m.order.length co,zI m.now,.slice at' m.zd.length ct,zI m.born,.slice as' m.zm.length cs,zI m.code,.slice al (xY m.za).length cl,zI (yc m.za:Int)]) hB
  ·intro a w val own hB hf zE hk
   have s46:=zU hk 11 46
   exact zF (v:=.func (.func 134) #[.agg #[zI m.cells,zK bp op m.za.length cp,.slice ao m.order.length co,zI m.now,.slice at' m.zd.length ct,zI m.born,.slice as' m.zm.length cs,zI m.code,.slice al (xY m.za).length cl,zI (yc m.za:Int)]] #[]) hB
  ·intro a w val own hB hf zE hk
   have s45:=zU hk 10 45
   have s47:=zU hk 12 47
   obtain⟨k8,x8,e8,m8⟩:=hk 8 (show 8∈[4,5,6,7,8,9,10,11,12] by decide)
   have v8:=qI e8
   obtain⟨_,r8⟩:=m8.here hB
   clear k8 e8
   have hB':=B4.trans (hB.mono B4.size)
   have VU:=hB.size
   refine uK hB rfl rfl (by unfold execOp;go_simp) ((HRV.out w _ F.zf hB' (ds.below hB') hl.2 HOS.out.2).mono ?_)
   rintro e w' ⟨v',rfl,r1,hb'⟩
   refine⟨_,rfl,hb',(x8,v'),?_,Made.new fun w1 hs _ hr=>⟨?_,fun g e e2=>?_,?_⟩⟩
   ·show [val 8,_]=_
    rw[v8]
    rfl
   ·obtain⟨a0,c0,e0,_⟩:=r1.slice
    exact⟨a0,c0,by simpa using e0⟩
   ·have l1:=(r8.lt g e).2
    have l2:=(r1.lt g e2).1
    omega
   ·exact(r1.kept hs fun g e=>hr g (r1.lt g e).1 (r1.lt g e).2).mono VU
  ·intro a w val own hB hf zE hk
   have s8:=hf.at (d:=8) (v:=zI sd) (by kernel_rfl) rfl
   exact zF (v:=zI sd) hB
  ·intro a w val own hB hf zE hk
   have s36:=zU hk 1 36
   have s38:=zU hk 3 38
   obtain⟨k8,x8,e8,m8⟩:=hk 8 (show 8∈[0,1,2,3,4,5,6,7,8,9,10,11,12,13,14] by decide)
   have v8:=qI e8
   have s43:=k8 43 rfl
   rw[v8] at s43
   obtain⟨⟨a8,c8,q8⟩,r8⟩:=m8.here hB
   clear k8 e8
   obtain⟨k13,x13,e13,m13⟩:=hk 13 (show 13∈[0,1,2,3,4,5,6,7,8,9,10,11,12,13,14] by decide)
   have zbU:[val 8,val 13]=_:=e13
   injection zbU with Wf KJ
   have v13:=qI KJ
   have s48:=k13 48 rfl
   rw[v13] at s48
   obtain⟨⟨a13,c13,q13⟩,zbL,r13⟩:=m13.here hB
   clear k13 e13 KJ
   have s49:=zU hk 14 49
   obtain⟨y1,y2⟩:=x13
   dsimp only at q13
   subst q8 q13
   refine zF (v:=.agg #[zI F.m,zI F.pc,.slice a8 F.zh.length c8,.slice a13 F.zf.length c13,zI sd,.bool false]) hB rfl rfl (by unfold execOp;go_simp) ⟨.slice a8 F.zh.length c8,.slice a13 F.zf.length c13,?_⟩
   show [val 8,val 13,_]=_
   rw[v8,v13]
   rfl
 intro aE vI val own hB hf zE hk
 obtain⟨k8,x8,e8,m8⟩:=hk 8 (by decide)
 have v8:=qI e8
 have s43:=k8 43 rfl
 rw[v8] at s43
 obtain⟨⟨a8,c8,q8⟩,r8⟩:=m8.here hB
 clear k8 e8
 obtain⟨k13,x13,e13,m13⟩:=hk 13 (by decide)
 have zbU:[val 8,val 13]=_:=e13
 injection zbU with Wf KJ
 have v13:=qI KJ
 have s48:=k13 48 rfl
 rw[v13] at s48
 obtain⟨⟨a13,c13,q13⟩,zbL,r13⟩:=m13.here hB
 clear k13 e13 KJ
 obtain⟨y1,y2⟩:=x13
 dsimp only at q13 zbL r13 Wf v13
 have hxy:y1=x8:=by rw[<-Wf,v8]
 subst hxy
 obtain⟨k15,u1,u2,e15⟩:=hk 15 (by decide)
 have e15':[val 8,val 13,val 15]=_:=e15
 injection e15' with ea eb
 injection eb with eb ec
 have v15:=qI ec
 have s50:=k15 50 rfl
 rw[v8] at ea
 rw[v13] at eb
 subst ea eb
 rw[v15] at s50
 subst q8 q13
 clear k15 e15 ec v15 v8 v13 Wf
 have s6:=hf.at (d:=6) (v:=zJ (wS.heap.size+1) 0) (by kernel_rfl) rfl
 have Jv:=y4.below hB
 have p0:=Jv.cell 0 rfl
 have pf0:=Jv.frozen 0
 have p1:=Jv.cell 1 rfl
 have pf1:=Jv.frozen 1
 have p2:=Jv.cell 2 rfl
 have pf2:=Jv.frozen 2
 have p3:=Jv.cell 3 rfl
 have pf3:=Jv.frozen 3
 have p4:=Jv.cell 4 rfl
 have pf4:=Jv.frozen 4
 have p5:=Jv.cell 5 rfl
 have pf5:=Jv.frozen 5
 refine uc (w':=Q8 vI (wS.heap.size+1) 0 [zI F.m,zI F.pc,.slice a8 F.zh.length c8,.slice a13 F.zf.length c13,zI sd,.bool false]) rfl rfl (by unfold execOp;simp only[Q8];go_simp) ?_
 simp only[Act.put,Q8]
 obtain⟨u,QV,hv⟩:=X0 aE.tmps (n:=51) hf.size
 have hu:aE.tmps=(u 0 :: u 1 :: u 2 :: u 3 :: u 4 :: u 5 :: u 6 :: u 7 :: u 8 :: u 9 :: u 10 :: u 11 :: u 12 :: u 13 :: u 14 :: u 15 :: u 16 :: u 17 :: u 18 :: u 19 :: u 20 :: u 21 :: u 22 :: u 23 :: u 24 :: u 25 :: u 26 :: u 27 :: u 28 :: u 29 :: u 30 :: u 31 :: u 32 :: u 33 :: u 34 :: u 35 :: u 36 :: u 37 :: u 38 :: u 39 :: u 40 :: u 41 :: u 42 :: u 43 :: u 44 :: u 45 :: u 46 :: u 47 :: u 48 :: u 49 :: u 50 :: []).toArray:=QV
 rw[(hv 6).trans s6] at hu
 obtain rfl:=ZW hu (show aE.defers=[] from hf.defers)
 clear hu QV hv hk zE hf s6 s50 s43 s48
 have zB:=hB.size
 have hy4:wS.heap.size+1<W4.heap.size:=y4.lt
 refine wG (fun W=>zO wS W/\Bx W (wS.heap.size+1) 96 [zI F.m,zI F.pc,.slice a8 F.zh.length c8,.slice a13 F.zf.length c13,zI sd,.bool false]/\zl W4.heap.size W (.slice a8 F.zh.length c8) (F.zh.map (jx (vh m)))/\zl W4.heap.size W (.slice a13 F.zf.length c13) (F.zf.map (jx (vh m)))) ?_ ?_
 ·have HW:=((((((Wr.refl1 (wS.heap.size+1) vI).set1 (o:=0) (zI F.m)).set1 (o:=1) (zI F.pc)).set1 (o:=2) (.slice a8 F.zh.length c8)).set1 (o:=3) (.slice a13 F.zf.length c13)).set1 (o:=4) (zI sd)).set1 (o:=5) (.bool false)
  exact⟨HW.below1 (B4.trans (hB.mono B4.size)) zD (Nat.le_succ _),(((((Jv.set 0 _).set 1 _).set 2 _).set 3 _).set 4 _).set 5 _,HW.pair r8 (fun g e e2=>by have:=(r8.lt g e).1;omega),HW.pair r13 (fun g e e2=>by have:=(r13.lt g e).1;omega)⟩
 rintro W9 ⟨B9,x9,r9,s9⟩
 try go_wp2
 have i0:=x9.cell 0 rfl
 have i1:=x9.cell 1 rfl
 have i2:=x9.cell 2 rfl
 have i3:=x9.cell 3 rfl
 have i4:=x9.cell 4 rfl
 have i5:=x9.cell 5 rfl
 exact bodyPost_ret (v:=.agg #[zI F.m,zI F.pc,.slice a8 F.zh.length c8,.slice a13 F.zf.length c13,zI sd,.bool false]) (by simp[results,Tryz.results94,go_sem,i0,i1,i2,i3,i4,i5]) rfl ⟨_,_,by rw[HSD.out],r9.mono B4.size,s9.mono B4.size,zbL,B9⟩
end Go.Proofs.YtbjgjjkgfnfejaaGreatDoor

/-
  Calls that get other numbers, by where things have their places: renumberedVals and renumbered with ofTwin and ofCaller. (Written by mkmt2.py.)
-/
import Derived.Test.YtjbgpcileapogaaGreatMOk5
namespace Go.Proofs.YtjbgpcileapogaaGreat
open Go.RowKit
def jm (f:Int->Int) (v:Int × Int):Int × Int:=if v.1=2 then(v.1,f v.2) else v
set_option maxRecDepth 100000 in
set_option maxHeartbeats 4000000 in
theorem JR (vp vo vt vs vl:Value) (m:Mc) (vv:Value) (vals:zL) (w:World) (h:Pl w vp vo vt vs vl m) (hl:zR w vv vals) (XG:vals.length<=1000) (hok:∀i,(hi:i<vals.length)->vals[i].1=2->qy m vals[i].2=true) :
 Calls Tryz.prog 144 #[vv,.func (.func 165) #[.agg (zI vp vo vt vs m ++ [vl,.int .i64 (zY m.zd:Int)]).toArray] #[]] w fun e w'=>∃v,e=.returned v/\zj w.heap.size w' v (vals.map (jm (jY m)))/\Below w.heap.size w w':=by
 have VV:=h
 obtain⟨hM,hL,hN,hTn⟩:=h
 obtain⟨ap,cp,hvp,hlp,hcp⟩:=id hM.p
 obtain⟨ao,co,xz⟩:=hM.o.shape
 obtain⟨at',ct,xZ,hlt',hct⟩:=id hM.t
 obtain⟨as',cs,hvs⟩:=hM.s.shape
 obtain⟨al,cl,hvl,hll,hcl⟩:=id hL
 subst hvp xz xZ hvs hvl
 unfold zI
 simp only[List.cons_append,List.nil_append]
 obtain⟨av,cv,hvv,_,_⟩:=id hl
 subst hvv
 have HOK:Hid (∀i,(hi:i<vals.length)->vals[i].1=2->qy m vals[i].2=true):=hok
 clear hok hcl hct hcp
 have HCA:Hid (∀(x:Int) (W:World),Below w.heap.size w W->qy m x=true->Calls Tryz.prog 165 #[.agg #[.int .i64 m.cells,.slice ap m.zd.length cp,.slice ao m.order.length co,.int .i64 m.now,.slice at' m.zh.length ct,.int .i64 m.born,.slice as' m.zl.length cs,.int .i64 m.code,.slice al (xl m.zd).length cl,.int .i64 (zY m.zd:Int)],.int .i64 x] W fun e w'=>e=.returned (.int .i64 (jY m x))/\Below W.heap.size W w'):=fun x W hW hx=>by
  have:=JJ _ _ _ _ _ m x W (VV.below hW) hx
  unfold zI at this
  simpa only [List.cons_append,List.nil_append] using this
 go_enter Tryz.func144,Tryz.ntmps144
 go_wp2_with fail
 refine(wu _ vals _ hl XG).mono ?_
 rintro e w1 ⟨v1,rfl,hr1,hb1⟩
 obtain⟨a1,c1,hv1,_⟩:=hr1.slice
 subst hv1
 have hz1:=hb1.size
 go_wp2
 go_loopg [6,7,12] vals.length (fun g _ _ i wr=>∃(k:Nat) (ys:zL),k<=vals.length/\g=vals.length - k/\i=.int .i64 k/\ys.length=vals.length/\zj w.heap.size wr (.slice a1 vals.length c1) ys/\(∀q,(hq:q<ys.length)->(hq':q<vals.length)->(q<k->ys[q]=jm (jY m) vals[q])/\(k<=q->ys[q]=vals[q]))/\Below w.heap.size w wr)
 case atStart=>exact⟨0,vals,Nat.zero_le _,rfl,rfl,rfl,hr1,fun q _ _=>⟨fun hq=>absurd hq zF,fun _=>rfl⟩,hb1⟩
 case round =>
  obtain⟨k,ys,hk,rfl,rfl,hyl,hr,hys,hb⟩:=hrel
  have HY:Hid (∀q,(hq:q<ys.length)->(hq':q<vals.length)->(q<k->ys[q]=jm (jY m) vals[q])/\(k<=q->ys[q]=vals[q])):=hys
  clear hys
  have zb:=hb.size
  by_cases hlt:k<vals.length
  ·obtain⟨g1,o1,c2,e1,hgB,hgl⟩:=hr.form (by omega)
   obtain rfl:a1=some ⟨g1,o1,none⟩:=by injection e1
   clear e1
   have hky:k<ys.length:=by omega
   have HYK:Hid (ys[k]=vals[k]):=(HY.out k hky hlt).2 zD
   obtain⟨⟨d0,d1⟩,f0,f1⟩:=hr.cell hky
   rw[HYK.out] at d0 d1
   have hkz:(k:Int)<(vals.length:Int):=by omega
   have HOV:=HOK.out k hlt
   have HV:Hid (jm (jY m) vals[k]=if vals[k].1=2 then(vals[k].1,jY m vals[k].2) else vals[k]):=rfl
   obtain⟨va,hva⟩:∃va,vals[k].1=va:=⟨_,rfl⟩
   obtain⟨vb,hvb⟩:∃vb,vals[k].2=vb:=⟨_,rfl⟩
   have HVA:Hid (vals[k]=(va,vb)):=by show _=_;rw[<-hva,<-hvb]
   rw[hva] at d0 HV HOV
   rw[hvb] at d1 HV HOV
   clear hva hvb
   by_cases hkd:va=2
   ·subst hkd
    have zbY:=HOV rfl
    rw[if_pos rfl] at HV
    clear HOV
    go_upto_region 6 with fail
    refine ye (fun W'=>Below wr.heap.size wr W'/\Bx W' wr.heap.size 98 [.int .i64 2,.int .i64 vb]) ⟨zB _ _,Bx.new _ _ _⟩ ?_
    rintro W2 ⟨t2,y2⟩
    have hb2:=hb.trans (t2.mono zb)
    have hr2:=hr.below t2
    have z2:=hb2.size
    have y1:=y2.cell 1 rfl
    have HC:=HCA.out vb W2 hb2 zbY
    clear t2 hb hr d0 d1 f0 f1 y2 zbY
    go_wp2_with fail
    refine HC.mono ?_
    rintro e W3 ⟨rfl,t3⟩
    have hb3:=hb2.trans (t3.mono z2)
    have hr3:=hr2.below t3
    clear HC t3 hb2 hr2 y1
    obtain⟨⟨d0,d1⟩,f0,f1⟩:=hr3.cell hky
    have hset:=hr3.set1 k hky (jY m vb)
    rw[HYK.out,HVA.out] at hset
    have hbS:=hb3.setCell (p:=⟨g1,o1+k * 2+1,none⟩) hgB (.int .i64 (jY m vb))
    clear hb3 hr3
    go_wp2
    go_roundg (vals.length - (k+1))
    case measure=>omega
    case rel=>exact⟨k+1,_,by omega,rfl,by go_num,by rw[List.length_set];exact hyl,hset,fun q h1 h2=>by
     rw[List.length_set] at h1
     refine⟨fun hq=>?_,fun hq=>?_⟩
     ·by_cases e:q=k
      ·subst e;rw[List.getElem_set_self,HV.out]
      ·rw[List.getElem_set_ne (fun x=>e x.symm)];exact(HY.out q h1 h2).1 (by omega)
     ·rw[List.getElem_set_ne (by omega)];exact(HY.out q h1 h2).2 (by omega),hbS⟩
   ·rw[if_neg hkd] at HV
    have hke:(va == 2)=false:=by simpa using hkd
    have Wy:∀o,Below w.heap.size w (wr.alloc o):=fun o=>hb.alloc zb _
    have VW:∀o,zj w.heap.size (wr.alloc o) (.slice (some ⟨g1,o1,none⟩) vals.length c1) ys:=fun o=>hr.below (zB _ _)
    have HBA:Hid _:=Wy
    have HRA:Hid _:=VW
    clear HOV Wy VW hb hr
    go_wp2
    go_roundg (vals.length - (k+1))
    case measure=>omega
    case rel=>exact⟨k+1,ys,by omega,rfl,by go_num,hyl,HRA.out _,fun q h1 h2=>by
     refine⟨fun hq=>?_,fun hq=>(HY.out q h1 h2).2 (by omega)⟩
     by_cases e:q=k
     ·subst e;rw[HYK.out,HV.out]
     ·exact(HY.out q h1 h2).1 (by omega),HBA.out _⟩
  ·obtain rfl:k=vals.length:=by omega
   have hE:ys=vals.map (jm (jY m)):=List.ext_getElem (by simpa using hyl) fun q h1 h2=>by rw[(HY.out q h1 (by simpa using h2)).1 (by simpa using h2)];simp
   subst hE
   go_wp2
   go_ret
   exact⟨_,rfl,hr,hb⟩
set_option maxRecDepth 100000 in
set_option maxHeartbeats 4000000 in
theorem JQ (vp vo vt vs vl:Value) (m:Mc) (vv:Value) (vals:zL) (w:World) (h:Pl w vp vo vt vs vl m) (hl:zR w vv vals) (XG:vals.length<=1000) (hok:∀i,(hi:i<vals.length)->vals[i].1=2->(vals[i].2 == -1 || qy m vals[i].2)=true) :
 Calls Tryz.prog 144 #[vv,.func (.func 164) #[.agg (zI vp vo vt vs m ++ [vl,.int .i64 (zY m.zd:Int)]).toArray] #[]] w fun e w'=>∃v,e=.returned v/\zj w.heap.size w' v (vals.map (jm (xw m)))/\Below w.heap.size w w':=by
 have VV:=h
 obtain⟨hM,hL,hN,hTn⟩:=h
 obtain⟨ap,cp,hvp,hlp,hcp⟩:=id hM.p
 obtain⟨ao,co,xz⟩:=hM.o.shape
 obtain⟨at',ct,xZ,hlt',hct⟩:=id hM.t
 obtain⟨as',cs,hvs⟩:=hM.s.shape
 obtain⟨al,cl,hvl,hll,hcl⟩:=id hL
 subst hvp xz xZ hvs hvl
 unfold zI
 simp only[List.cons_append,List.nil_append]
 obtain⟨av,cv,hvv,_,_⟩:=id hl
 subst hvv
 have HOK:Hid (∀i,(hi:i<vals.length)->vals[i].1=2->(vals[i].2 == -1 || qy m vals[i].2)=true):=hok
 clear hok hcl hct hcp
 have HCA:Hid (∀(x:Int) (W:World),Below w.heap.size w W->(x == -1 || qy m x)=true->Calls Tryz.prog 164 #[.agg #[.int .i64 m.cells,.slice ap m.zd.length cp,.slice ao m.order.length co,.int .i64 m.now,.slice at' m.zh.length ct,.int .i64 m.born,.slice as' m.zl.length cs,.int .i64 m.code,.slice al (xl m.zd).length cl,.int .i64 (zY m.zd:Int)],.int .i64 x] W fun e w'=>e=.returned (.int .i64 (xw m x))/\Below W.heap.size W w'):=fun x W hW hx=>by
  have:=wG _ _ _ _ _ m x W (VV.below hW) hx
  unfold zI at this
  simpa only [List.cons_append,List.nil_append] using this
 go_enter Tryz.func144,Tryz.ntmps144
 go_wp2_with fail
 refine(wu _ vals _ hl XG).mono ?_
 rintro e w1 ⟨v1,rfl,hr1,hb1⟩
 obtain⟨a1,c1,hv1,_⟩:=hr1.slice
 subst hv1
 have hz1:=hb1.size
 go_wp2
 go_loopg [6,7,12] vals.length (fun g _ _ i wr=>∃(k:Nat) (ys:zL),k<=vals.length/\g=vals.length - k/\i=.int .i64 k/\ys.length=vals.length/\zj w.heap.size wr (.slice a1 vals.length c1) ys/\(∀q,(hq:q<ys.length)->(hq':q<vals.length)->(q<k->ys[q]=jm (xw m) vals[q])/\(k<=q->ys[q]=vals[q]))/\Below w.heap.size w wr)
 case atStart=>exact⟨0,vals,Nat.zero_le _,rfl,rfl,rfl,hr1,fun q _ _=>⟨fun hq=>absurd hq zF,fun _=>rfl⟩,hb1⟩
 case round =>
  obtain⟨k,ys,hk,rfl,rfl,hyl,hr,hys,hb⟩:=hrel
  have HY:Hid (∀q,(hq:q<ys.length)->(hq':q<vals.length)->(q<k->ys[q]=jm (xw m) vals[q])/\(k<=q->ys[q]=vals[q])):=hys
  clear hys
  have zb:=hb.size
  by_cases hlt:k<vals.length
  ·obtain⟨g1,o1,c2,e1,hgB,hgl⟩:=hr.form (by omega)
   obtain rfl:a1=some ⟨g1,o1,none⟩:=by injection e1
   clear e1
   have hky:k<ys.length:=by omega
   have HYK:Hid (ys[k]=vals[k]):=(HY.out k hky hlt).2 zD
   obtain⟨⟨d0,d1⟩,f0,f1⟩:=hr.cell hky
   rw[HYK.out] at d0 d1
   have hkz:(k:Int)<(vals.length:Int):=by omega
   have HOV:=HOK.out k hlt
   have HV:Hid (jm (xw m) vals[k]=if vals[k].1=2 then(vals[k].1,xw m vals[k].2) else vals[k]):=rfl
   obtain⟨va,hva⟩:∃va,vals[k].1=va:=⟨_,rfl⟩
   obtain⟨vb,hvb⟩:∃vb,vals[k].2=vb:=⟨_,rfl⟩
   have HVA:Hid (vals[k]=(va,vb)):=by show _=_;rw[<-hva,<-hvb]
   rw[hva] at d0 HV HOV
   rw[hvb] at d1 HV HOV
   clear hva hvb
   by_cases hkd:va=2
   ·subst hkd
    have zbY:=HOV rfl
    rw[if_pos rfl] at HV
    clear HOV
    go_upto_region 6 with fail
    refine ye (fun W'=>Below wr.heap.size wr W'/\Bx W' wr.heap.size 98 [.int .i64 2,.int .i64 vb]) ⟨zB _ _,Bx.new _ _ _⟩ ?_
    rintro W2 ⟨t2,y2⟩
    have hb2:=hb.trans (t2.mono zb)
    have hr2:=hr.below t2
    have z2:=hb2.size
    have y1:=y2.cell 1 rfl
    have HC:=HCA.out vb W2 hb2 zbY
    clear t2 hb hr d0 d1 f0 f1 y2 zbY
    go_wp2_with fail
    refine HC.mono ?_
    rintro e W3 ⟨rfl,t3⟩
    have hb3:=hb2.trans (t3.mono z2)
    have hr3:=hr2.below t3
    clear HC t3 hb2 hr2 y1
    obtain⟨⟨d0,d1⟩,f0,f1⟩:=hr3.cell hky
    have hset:=hr3.set1 k hky (xw m vb)
    rw[HYK.out,HVA.out] at hset
    have hbS:=hb3.setCell (p:=⟨g1,o1+k * 2+1,none⟩) hgB (.int .i64 (xw m vb))
    clear hb3 hr3
    go_wp2
    go_roundg (vals.length - (k+1))
    case measure=>omega
    case rel=>exact⟨k+1,_,by omega,rfl,by go_num,by rw[List.length_set];exact hyl,hset,fun q h1 h2=>by
     rw[List.length_set] at h1
     refine⟨fun hq=>?_,fun hq=>?_⟩
     ·by_cases e:q=k
      ·subst e;rw[List.getElem_set_self,HV.out]
      ·rw[List.getElem_set_ne (fun x=>e x.symm)];exact(HY.out q h1 h2).1 (by omega)
     ·rw[List.getElem_set_ne (by omega)];exact(HY.out q h1 h2).2 (by omega),hbS⟩
   ·rw[if_neg hkd] at HV
    have hke:(va == 2)=false:=by simpa using hkd
    have Wy:∀o,Below w.heap.size w (wr.alloc o):=fun o=>hb.alloc zb _
    have VW:∀o,zj w.heap.size (wr.alloc o) (.slice (some ⟨g1,o1,none⟩) vals.length c1) ys:=fun o=>hr.below (zB _ _)
    have HBA:Hid _:=Wy
    have HRA:Hid _:=VW
    clear HOV Wy VW hb hr
    go_wp2
    go_roundg (vals.length - (k+1))
    case measure=>omega
    case rel=>exact⟨k+1,ys,by omega,rfl,by go_num,hyl,HRA.out _,fun q h1 h2=>by
     refine⟨fun hq=>?_,fun hq=>(HY.out q h1 h2).2 (by omega)⟩
     by_cases e:q=k
     ·subst e;rw[HYK.out,HV.out]
     ·exact(HY.out q h1 h2).1 (by omega),HBA.out _⟩
  ·obtain rfl:k=vals.length:=by omega
   have hE:ys=vals.map (jm (xw m)):=List.ext_getElem (by simpa using hyl) fun q h1 h2=>by rw[(HY.out q h1 (by simpa using h2)).1 (by simpa using h2)];simp
   subst hE
   go_wp2
   go_ret
   exact⟨_,rfl,hr,hb⟩
def KK (m:Mc) (c:Cl):Cl:=⟨c.m,c.pc,c.zg.map (jm (xw m)),c.ze.map (jm (xw m)),xw m c.zf,c.zv⟩
set_option maxRecDepth 100000 in
set_option maxHeartbeats 4000000 in
theorem XO (vp vo vt vs vl:Value) (m:Mc) (c:Cl) (w1 w2:Value) (w:World) (h:Pl w vp vo vt vs vl m) (ht:zR w w1 c.zg) (hs:zR w w2 c.ze) (hl:c.zg.length<=1000/\c.ze.length<=1000) (hsd:(c.zf == -1 || qy m c.zf)=true)
 (ho1:∀i,(hi:i<c.zg.length)->c.zg[i].1=2->(c.zg[i].2 == -1 || qy m c.zg[i].2)=true) (ho2:∀i,(hi:i<c.ze.length)->c.ze[i].1=2->(c.ze[i].2 == -1 || qy m c.ze[i].2)=true) :
 Calls Tryz.prog 85 #[.agg #[.int .i64 c.m,.int .i64 c.pc,w1,w2,.int .i64 c.zf,.bool c.zv],.func (.func 164) #[.agg (zI vp vo vt vs m ++ [vl,.int .i64 (zY m.zd:Int)]).toArray] #[]] w fun e w'=>∃u1 u2,e=.returned (.agg #[.int .i64 c.m,.int .i64 c.pc,u1,u2,.int .i64 (xw m c.zf),.bool c.zv]) /\
  zj w.heap.size w' u1 (c.zg.map (jm (xw m)))/\zj w.heap.size w' u2 (c.ze.map (jm (xw m)))/\(∀g,u1.ownBlock=some g->u2.ownBlock≠some g)/\Below w.heap.size w w':=by
 have VV:=h
 have HOS:Hid ((∀i,(hi:i<c.zg.length)->c.zg[i].1=2->(c.zg[i].2 == -1 || qy m c.zg[i].2)=true)/\(∀i,(hi:i<c.ze.length)->c.ze[i].1=2->(c.ze[i].2 == -1 || qy m c.ze[i].2)=true)):=⟨ho1,ho2⟩
 have HSD:Hid ((c.zf == -1 || qy m c.zf)=true):=hsd
 clear ho1 ho2 hsd
 obtain⟨hM,hL,hN,hTn⟩:=h
 obtain⟨ap,cp,hvp,hlp,hcp⟩:=id hM.p
 obtain⟨ao,co,xz⟩:=hM.o.shape
 obtain⟨at',ct,xZ,hlt',hct⟩:=id hM.t
 obtain⟨as',cs,hvs⟩:=hM.s.shape
 obtain⟨al,cl,hvl,hll,hcl⟩:=id hL
 subst hvp xz xZ hvs hvl
 unfold zI
 simp only[List.cons_append,List.nil_append]
 obtain⟨a1,k1,e1⟩:=ht.shape
 obtain⟨a2,k2,e2⟩:=hs.shape
 subst e1 e2
 clear hcl hct hcp
 have HCA:Hid (∀(W:World),Below w.heap.size w W->Calls Tryz.prog 164 #[.agg #[.int .i64 m.cells,.slice ap m.zd.length cp,.slice ao m.order.length co,.int .i64 m.now,.slice at' m.zh.length ct,.int .i64 m.born,.slice as' m.zl.length cs,.int .i64 m.code,.slice al (xl m.zd).length cl,.int .i64 (zY m.zd:Int)],.int .i64 c.zf] W fun e w'=>e=.returned (.int .i64 (xw m c.zf))/\Below W.heap.size W w'):=fun W hW=>by
  have:=wG _ _ _ _ _ m c.zf W (VV.below hW) HSD.out
  unfold zI at this
  simpa only [List.cons_append,List.nil_append] using this
 have HRV:Hid (∀(W:World) (v:Value) (l:zL),Below w.heap.size w W->zR W v l->l.length<=1000->(∀i,(hi:i<l.length)->l[i].1=2->(l[i].2 == -1 || qy m l[i].2)=true)->Calls Tryz.prog 144 #[v,.func (.func 164) #[.agg #[.int .i64 m.cells,.slice ap m.zd.length cp,.slice ao m.order.length co,.int .i64 m.now,.slice at' m.zh.length ct,.int .i64 m.born,.slice as' m.zl.length cs,.int .i64 m.code,.slice al (xl m.zd).length cl,.int .i64 (zY m.zd:Int)]] #[]] W fun e w'=>∃v',e=.returned v'/\zj W.heap.size w' v' (l.map (jm (xw m)))/\Below W.heap.size W w'):=fun W v l hW hv hl ho=>by
  have:=JQ _ _ _ _ _ m v l W (VV.below hW) hv hl ho
  unfold zI at this
  simpa only [List.cons_append,List.nil_append] using this
 go_enter Tryz.func85,Tryz.ntmps85
 go_upto_region 1 with fail
 refine ye (fun W=>Below w.heap.size w W/\Bx W w.heap.size 37 [.int .i64 c.m,.int .i64 c.pc,.slice a1 c.zg.length k1,.slice a2 c.ze.length k2,.int .i64 c.zf,.bool c.zv]/\Bx W (w.heap.size+1) 37 [.int .i64 0,.int .i64 0,.slice none 0 0,.slice none 0 0,.int .i64 0,.bool false]) ⟨(zB _ _).alloc (by simp) _,(Bx.new w _ _).alloc _,Bx.newAt _ _ _ (by simp)⟩ ?_
 rintro W0 ⟨B0,x0,y0⟩
 have z0:=B0.size
 have p4:=x0.cell 4 rfl
 go_wp2_with fail
 refine(HCA.out _ B0).mono ?_
 rintro e V1 ⟨rfl,t1⟩
 have bx1:=x0.below t1
 have by1:=y0.below t1
 have BB1:=B0.trans (t1.mono z0)
 clear t1 x0 y0 B0 z0 p4
 have p4:=bx1.cell 4 rfl
 have f4:=bx1.frozen 4
 go_upto_region 2 with fail
 refine ye (fun W=>Below w.heap.size w W/\Bx W w.heap.size 37 [.int .i64 c.m,.int .i64 c.pc,.slice a1 c.zg.length k1,.slice a2 c.ze.length k2,.int .i64 (xw m c.zf),.bool c.zv]/\Bx W (w.heap.size+1) 37 [.int .i64 0,.int .i64 0,.slice none 0 0,.slice none 0 0,.int .i64 0,.bool false]) ?_ ?_
 ·have HW:=(Wr.refl1 w.heap.size V1).set1 (o:=4) (.int .i64 (xw m c.zf))
  exact⟨HW.below1 BB1 zD zD,bx1.set 4 _,HW.bx by1 (by omega)⟩
 clear bx1 by1 BB1 p4 f4
 rintro W1 ⟨B1,x1,y1⟩
 have z1:=B1.size
 have p2:=x1.cell 2 rfl
 go_wp2_with fail
 refine(HRV.out _ _ c.zg B1 (ht.below B1) hl.1 HOS.out.1).mono ?_
 rintro e V2 ⟨u1,rfl,r1,t2⟩
 obtain⟨a3,k3,e3,_⟩:=r1.slice
 rw[List.length_map] at e3
 subst e3
 have bx2:=x1.below t2
 have by2:=y1.below t2
 have BB2:=B1.trans (t2.mono z1)
 have hl1:w.heap.size+1<W1.heap.size:=y1.lt
 clear t2 x1 y1 B1 p2
 have p2:=bx2.cell 2 rfl
 have f2:=bx2.frozen 2
 go_upto_region 3 with fail
 refine ye (fun W=>Below w.heap.size w W/\Bx W w.heap.size 37 [.int .i64 c.m,.int .i64 c.pc,.slice a3 c.zg.length k3,.slice a2 c.ze.length k2,.int .i64 (xw m c.zf),.bool c.zv]/\Bx W (w.heap.size+1) 37 [.int .i64 0,.int .i64 0,.slice none 0 0,.slice none 0 0,.int .i64 0,.bool false]/\zj W1.heap.size W (.slice a3 c.zg.length k3) (c.zg.map (jm (xw m)))) ?_ ?_
 ·have HW:=(Wr.refl1 w.heap.size V2).set1 (o:=2) (.slice a3 c.zg.length k3)
  exact⟨HW.below1 BB2 zD zD,bx2.set 2 _,HW.bx by2 (by omega),HW.pair r1 (fun g e e2=>by have:=(r1.lt g e).1;omega)⟩
 clear bx2 by2 BB2 p2 f2 r1
 rintro W2 ⟨B2,x2,y2,r2⟩
 have z2:=B2.size
 have p3:=x2.cell 3 rfl
 go_wp2_with fail
 refine(HRV.out _ _ c.ze B2 (hs.below B2) hl.2 HOS.out.2).mono ?_
 rintro e V3 ⟨u2,rfl,r3,t3⟩
 obtain⟨a4,k4,e4,_⟩:=r3.slice
 rw[List.length_map] at e4
 subst e4
 have bx3:=x2.below t3
 have by3:=y2.below t3
 have br3:=r2.below t3
 have BB3:=B2.trans (t3.mono z2)
 have hl2:w.heap.size+1<W2.heap.size:=y2.lt
 have HAP:Hid (∀g,(Value.slice a3 c.zg.length k3).ownBlock=some g->(Value.slice a4 c.ze.length k4).ownBlock≠some g):=fun g e e2=>by have h1:=(r2.lt g e).2;have h2:=(r3.lt g e2).1;omega
 clear t3 x2 y2 B2 p3 r2
 have p3:=bx3.cell 3 rfl
 have f3:=bx3.frozen 3
 go_upto_region 4 with fail
 refine ye (fun W=>Below w.heap.size w W/\Bx W w.heap.size 37 [.int .i64 c.m,.int .i64 c.pc,.slice a3 c.zg.length k3,.slice a4 c.ze.length k4,.int .i64 (xw m c.zf),.bool c.zv]/\Bx W (w.heap.size+1) 37 [.int .i64 0,.int .i64 0,.slice none 0 0,.slice none 0 0,.int .i64 0,.bool false]/\zj W1.heap.size W (.slice a3 c.zg.length k3) (c.zg.map (jm (xw m)))/\zj W2.heap.size W (.slice a4 c.ze.length k4) (c.ze.map (jm (xw m)))) ?_ ?_
 ·have HW:=(Wr.refl1 w.heap.size V3).set1 (o:=3) (.slice a4 c.ze.length k4)
  exact⟨HW.below1 BB3 zD zD,bx3.set 3 _,HW.bx by3 (by omega),HW.pair br3 (fun g e e2=>by have:=(br3.lt g e).1;omega),HW.pair r3 (fun g e e2=>by have:=(r3.lt g e).1;omega)⟩
 clear bx3 by3 BB3 p3 f3 br3 r3
 rintro W3 ⟨B3,x3,y3,r3,s3⟩
 have p0:=x3.cell 0 rfl
 have pf0:=x3.frozen 0
 have p1:=x3.cell 1 rfl
 have pf1:=x3.frozen 1
 have p2:=x3.cell 2 rfl
 have pf2:=x3.frozen 2
 have p3:=x3.cell 3 rfl
 have pf3:=x3.frozen 3
 have p4:=x3.cell 4 rfl
 have pf4:=x3.frozen 4
 have p5:=x3.cell 5 rfl
 have pf5:=x3.frozen 5
 have q0:=y3.cell 0 rfl
 have qf0:=y3.frozen 0
 have q1:=y3.cell 1 rfl
 have qf1:=y3.frozen 1
 have q2:=y3.cell 2 rfl
 have qf2:=y3.frozen 2
 have q3:=y3.cell 3 rfl
 have qf3:=y3.frozen 3
 have q4:=y3.cell 4 rfl
 have qf4:=y3.frozen 4
 have q5:=y3.cell 5 rfl
 have qf5:=y3.frozen 5
 go_wp2
 refine jh (fun W=>Below w.heap.size w W/\Bx W (w.heap.size+1) 37 [.int .i64 c.m,.int .i64 c.pc,.slice a3 c.zg.length k3,.slice a4 c.ze.length k4,.int .i64 (xw m c.zf),.bool c.zv]/\zj w.heap.size W (.slice a3 c.zg.length k3) (c.zg.map (jm (xw m)))/\zj w.heap.size W (.slice a4 c.ze.length k4) (c.ze.map (jm (xw m)))) ?_ ?_
 ·have HW:=((((((Wr.refl1 (w.heap.size+1) W3).set1 (o:=0) (.int .i64 c.m)).set1 (o:=1) (.int .i64 c.pc)).set1 (o:=2) (.slice a3 c.zg.length k3)).set1 (o:=3) (.slice a4 c.ze.length k4)).set1 (o:=4) (.int .i64 (xw m c.zf))).set1 (o:=5) (.bool c.zv)
  exact⟨HW.below1 B3 zD (Nat.le_succ _),(((((y3.set 0 _).set 1 _).set 2 _).set 3 _).set 4 _).set 5 _,(HW.pair r3 (fun g e e2=>by have:=(r3.lt g e).1;omega)).mono (by omega),(HW.pair s3 (fun g e e2=>by have:=(s3.lt g e).1;omega)).mono (by omega)⟩
 rintro W9 ⟨B9,x9,r9,s9⟩
 have i0:=x9.cell 0 rfl
 have i1:=x9.cell 1 rfl
 have i2:=x9.cell 2 rfl
 have i3:=x9.cell 3 rfl
 have i4:=x9.cell 4 rfl
 have i5:=x9.cell 5 rfl
 exact bodyPost_ret (v:=.agg #[.int .i64 c.m,.int .i64 c.pc,.slice a3 c.zg.length k3,.slice a4 c.ze.length k4,.int .i64 (xw m c.zf),.bool c.zv]) (by simp[results,Tryz.results85,go_sem,i0,i1,i2,i3,i4,i5]) rfl ⟨_,_,rfl,r9,s9,HAP.out,B9⟩
def qE (m:Mc) (t:Tw):Cl:=if t.page=-1 then KK m t.left else⟨0,0,[],[],-1,true⟩
set_option maxRecDepth 100000 in
set_option maxHeartbeats 4000000 in
theorem XV (vp vo vt vs vl:Value) (m:Mc) (T:Tw) (w1 w2:Value) (w:World) (h:Pl w vp vo vt vs vl m) (ht:zR w w1 T.left.zg) (hs:zR w w2 T.left.ze) (hl:T.left.zg.length<=1000/\T.left.ze.length<=1000)
 (hok:T.page=-1->(T.left.zf == -1 || qy m T.left.zf)=true/\(∀i,(hi:i<T.left.zg.length)->T.left.zg[i].1=2->(T.left.zg[i].2 == -1 || qy m T.left.zg[i].2)=true)/\(∀i,(hi:i<T.left.ze.length)->T.left.ze[i].1=2->(T.left.ze[i].2 == -1 || qy m T.left.ze[i].2)=true)) :
 Calls Tryz.prog 126 #[.agg (zI vp vo vt vs m ++ [vl,.int .i64 (zY m.zd:Int)]).toArray,.agg #[.int .i64 T.page,.int .i64 T.place,.int .i64 T.left.m,.int .i64 T.left.pc,w1,w2,.int .i64 T.left.zf,.bool T.left.zv]] w fun e w'=>∃u1 u2,e=.returned (.agg #[.int .i64 (qE m T).m,.int .i64 (qE m T).pc,u1,u2,.int .i64 (qE m T).zf,.bool (qE m T).zv]) /\
  zj w.heap.size w' u1 (qE m T).zg/\zj w.heap.size w' u2 (qE m T).ze/\(∀g,u1.ownBlock=some g->u2.ownBlock≠some g)/\Below w.heap.size w w':=by
 have VV:=h
 have HOK:Hid (T.page=-1->(T.left.zf == -1 || qy m T.left.zf)=true/\(∀i,(hi:i<T.left.zg.length)->T.left.zg[i].1=2->(T.left.zg[i].2 == -1 || qy m T.left.zg[i].2)=true)/\(∀i,(hi:i<T.left.ze.length)->T.left.ze[i].1=2->(T.left.ze[i].2 == -1 || qy m T.left.ze[i].2)=true)):=hok
 clear hok
 obtain⟨Th,hTh⟩:∃Th,qE m T=Th:=⟨_,rfl⟩
 have HTH:Hid (qE m T=Th):=hTh
 rw[hTh]
 clear hTh
 obtain⟨hM,hL,hN,hTn⟩:=h
 obtain⟨ap,cp,hvp,hlp,hcp⟩:=id hM.p
 obtain⟨ao,co,xz⟩:=hM.o.shape
 obtain⟨at',ct,xZ,hlt',hct⟩:=id hM.t
 obtain⟨as',cs,hvs⟩:=hM.s.shape
 obtain⟨al,cl,hvl,hll,hcl⟩:=id hL
 subst hvp xz xZ hvs hvl
 unfold zI
 simp only[List.cons_append,List.nil_append]
 obtain⟨a1,k1,e1⟩:=ht.shape
 obtain⟨a2,k2,e2⟩:=hs.shape
 subst e1 e2
 clear hcl hct hcp
 go_enter Tryz.func126,Tryz.ntmps126
 go_upto_region 1 with fail
 refine ye (fun W=>Below w.heap.size w W/\Bx W w.heap.size 128 [.int .i64 m.cells,.slice ap m.zd.length cp,.slice ao m.order.length co,.int .i64 m.now,.slice at' m.zh.length ct,.int .i64 m.born,.slice as' m.zl.length cs,.int .i64 m.code,.slice al (xl m.zd).length cl,.int .i64 (zY m.zd:Int)]/\Bx W (w.heap.size+1) 90 [.int .i64 T.page,.int .i64 T.place,.int .i64 T.left.m,.int .i64 T.left.pc,.slice a1 T.left.zg.length k1,.slice a2 T.left.ze.length k2,.int .i64 T.left.zf,.bool T.left.zv]/\Bx W (w.heap.size+1+1) 37 [.int .i64 0,.int .i64 0,.slice none 0 0,.slice none 0 0,.int .i64 0,.bool false]) ⟨((zB _ _).alloc (by simp) _).alloc (by simp;omega) _,((Bx.new w _ _).alloc _).alloc _,(Bx.newAt _ _ _ (by simp)).alloc _,Bx.newAt _ _ _ (by simp)⟩ ?_
 rintro W0 ⟨B0,x0,t0,y0⟩
 have z0:=B0.size
 have hy0:w.heap.size+1+1<W0.heap.size:=y0.lt
 obtain⟨⟨c0,c1,c2,c3,c4,c5,c6,c7⟩,_⟩:=xy t0
 by_cases hp:T.page=-1
 case neg =>
  have hpe:¬(T.page=-1):=hp
  have e:Th=⟨0,0,[],[],-1,true⟩:=by rw[<-HTH.out];unfold qE;rw[if_neg hp]
  subst e
  have q0:=y0.cell 0 rfl
  have qf0:=y0.frozen 0
  have q1:=y0.cell 1 rfl
  have qf1:=y0.frozen 1
  have q2:=y0.cell 2 rfl
  have qf2:=y0.frozen 2
  have q3:=y0.cell 3 rfl
  have qf3:=y0.frozen 3
  have q4:=y0.cell 4 rfl
  have qf4:=y0.frozen 4
  have q5:=y0.cell 5 rfl
  have qf5:=y0.frozen 5
  go_wp2
  refine jh (fun W=>Below w.heap.size w W/\Bx W (w.heap.size+1+1) 37 [.int .i64 0,.int .i64 0,.slice none 0 0,.slice none 0 0,.int .i64 (-1),.bool true]) ?_ ?_
  ·have HW:=((((((Wr.refl1 (w.heap.size+1+1) W0).set1 (o:=0) (.int .i64 0)).set1 (o:=1) (.int .i64 0)).set1 (o:=2) (.slice none 0 0)).set1 (o:=3) (.slice none 0 0)).set1 (o:=4) (.int .i64 (-1))).set1 (o:=5) (.bool true)
   exact⟨HW.below1 B0 zD (Nat.le_trans (Nat.le_succ _) (Nat.le_succ _)),(((((y0.set 0 _).set 1 _).set 2 _).set 3 _).set 4 _).set 5 _⟩
  rintro W9 ⟨B9,x9⟩
  have i0:=x9.cell 0 rfl
  have i1:=x9.cell 1 rfl
  have i2:=x9.cell 2 rfl
  have i3:=x9.cell 3 rfl
  have i4:=x9.cell 4 rfl
  have i5:=x9.cell 5 rfl
  exact bodyPost_ret (v:=.agg #[.int .i64 0,.int .i64 0,.slice none 0 0,.slice none 0 0,.int .i64 (-1),.bool true]) (by simp[results,Tryz.results126,go_sem,i0,i1,i2,i3,i4,i5]) rfl ⟨_,_,rfl,zj.nil _ _,zj.nil _ _,fun g e=>by simp[Value.ownBlock] at e,B9⟩
 have e:Th=KK m T.left:=by rw[<-HTH.out];unfold qE;rw[if_pos hp]
 subst e
 rw[hp] at c0
 obtain⟨ok1,ok2,ok3⟩:=HOK.out hp
 have HC:=XO _ _ _ _ _ m T.left _ _ W0 (VV.below B0) (ht.below B0) (hs.below B0) hl ok1 ok2 ok3
 unfold zI at HC
 simp only[List.cons_append,List.nil_append] at HC
 obtain⟨⟨p0,p1,p2,p3,p4,p5,p6,p7,p8,p9⟩,_⟩:=Zc x0
 clear ok1 ok2 ok3 HOK
 go_wp2_with fail
 refine HC.mono ?_
 rintro e W1 ⟨u1,u2,rfl,r1,s1,hap,t1⟩
 obtain⟨a3,k3,e3,_⟩:=r1.slice
 obtain⟨a4,k4,e4,_⟩:=s1.slice
 subst e3 e4
 have B1:=B0.trans (t1.mono z0)
 have y1:=y0.below t1
 have HAP:Hid _:=hap
 clear HC t1 B0 x0 t0 y0 hap c0 c1 c2 c3 c4 c5 c6 c7 p0 p1 p2 p3 p4 p5 p6 p7 p8 p9
 have q0:=y1.cell 0 rfl
 have qf0:=y1.frozen 0
 have q1:=y1.cell 1 rfl
 have qf1:=y1.frozen 1
 have q2:=y1.cell 2 rfl
 have qf2:=y1.frozen 2
 have q3:=y1.cell 3 rfl
 have qf3:=y1.frozen 3
 have q4:=y1.cell 4 rfl
 have qf4:=y1.frozen 4
 have q5:=y1.cell 5 rfl
 have qf5:=y1.frozen 5
 obtain⟨pl,hpl⟩:∃pl,xw m T.left.zf=pl:=⟨_,rfl⟩
 rw[hpl]
 obtain⟨n3,hn3⟩:∃n,(T.left.zg.map (jm (xw m))).length=n:=⟨_,rfl⟩
 obtain⟨n4,hn4⟩:∃n,(T.left.ze.map (jm (xw m))).length=n:=⟨_,rfl⟩
 rw[hn3] at r1 HAP ⊢
 rw[hn4] at s1 HAP ⊢
 clear hn3 hn4
 have HPL:Hid (xw m T.left.zf=pl):=hpl
 clear hpl
 go_wp2
 refine jh (fun W=>Below w.heap.size w W/\Bx W (w.heap.size+1+1) 37 [.int .i64 T.left.m,.int .i64 T.left.pc,.slice a3 n3 k3,.slice a4 n4 k4,.int .i64 pl,.bool T.left.zv]/\zj w.heap.size W (.slice a3 n3 k3) (T.left.zg.map (jm (xw m)))/\zj w.heap.size W (.slice a4 n4 k4) (T.left.ze.map (jm (xw m)))) ?_ ?_
 ·have HW:=((((((Wr.refl1 (w.heap.size+1+1) W1).set1 (o:=0) (.int .i64 T.left.m)).set1 (o:=1) (.int .i64 T.left.pc)).set1 (o:=2) (.slice a3 n3 k3)).set1 (o:=3) (.slice a4 n4 k4)).set1 (o:=4) (.int .i64 pl)).set1 (o:=5) (.bool T.left.zv)
  exact⟨HW.below1 B1 zD (Nat.le_trans (Nat.le_succ _) (Nat.le_succ _)),(((((y1.set 0 _).set 1 _).set 2 _).set 3 _).set 4 _).set 5 _,(HW.pair r1 (fun g e e2=>by have:=(r1.lt g e).1;omega)).mono z0,(HW.pair s1 (fun g e e2=>by have:=(s1.lt g e).1;omega)).mono z0⟩
 rintro W9 ⟨B9,x9,r9,s9⟩
 have i0:=x9.cell 0 rfl
 have i1:=x9.cell 1 rfl
 have i2:=x9.cell 2 rfl
 have i3:=x9.cell 3 rfl
 have i4:=x9.cell 4 rfl
 have i5:=x9.cell 5 rfl
 exact bodyPost_ret (v:=.agg #[.int .i64 T.left.m,.int .i64 T.left.pc,.slice a3 n3 k3,.slice a4 n4 k4,.int .i64 pl,.bool T.left.zv]) (by simp[results,Tryz.results126,go_sem,i0,i1,i2,i3,i4,i5]) rfl ⟨_,_,by rw[<-HPL.out];rfl,r9,s9,HAP.out,B9⟩
end Go.Proofs.YtjbgpcileapogaaGreat

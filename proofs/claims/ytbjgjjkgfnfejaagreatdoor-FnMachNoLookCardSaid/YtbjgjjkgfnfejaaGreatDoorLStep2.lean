/-
  What is seen of a heap, by the program: renumbered.
-/
import Derived.Test.YtbjgjjkgfnfejaaGreatDoorVImpl
namespace Go.Proofs.YtbjgjjkgfnfejaaGreatDoor
set_option maxHeartbeats 4000000
set_option maxRecDepth 100000
open Go.RowKit
theorem Vz (A:Nat->Prop) (B bo n:Nat) (ps:List Nat) (vp vn vt vs:Value) (c:Cl) (w:World) (h:XR A B bo n ps vp vn w) (hps:xV n ps) (hn:n<=1000) (ht:yi w vt c.zh) (hs:yi w vs c.zf) (hb:c.zh.length<=1000/\c.zf.length<=1000) :
 Calls Tryz.prog 102 #[.agg (kC vt vs c),.func (.func 103) #[zJ bo 0] #[]] w fun e w'=>∃U4 vs',e=.returned (.agg (kC U4 vs' (j1 ps c)))/\zl w.heap.size w' U4 (c.zh.map (XN ps))/\zl w.heap.size w' vs' (c.zf.map (XN ps))/\(∀g,U4.ownBlock=some g->vs'.ownBlock≠some g)/\zO w w':=by
 obtain⟨at',ct',jA⟩:=ht.shape
 obtain⟨as',cs',jG⟩:=hs.shape
 subst jA jG
 unfold kC j1
 obtain⟨qk,yE⟩:=hb
 have hA:zO w ((w.alloc (.cells #[.int .i64 c.m,.int .i64 c.pc,.slice at' c.zh.length ct',.slice as' c.zf.length cs',.int .i64 c.zi,.bool c.zy] 96)).alloc (.cells #[.int .i64 0,.int .i64 0,.slice none 0 0,.slice none 0 0,.int .i64 0,.bool false] 96)):=(zR _ _).alloc (by simp) _
 have bc:=(Z7 w 96 (.int .i64 c.m) (.int .i64 c.pc) (.slice at' c.zh.length ct') (.slice as' c.zf.length cs') (.int .i64 c.zi) (.bool c.zy)).alloc (.cells #[.int .i64 0,.int .i64 0,.slice none 0 0,.slice none 0 0,.int .i64 0,.bool false] 96)
 have bz:=Z7 (w.alloc (.cells #[.int .i64 c.m,.int .i64 c.pc,.slice at' c.zh.length ct',.slice as' c.zf.length cs',.int .i64 c.zi,.bool c.zy] 96)) 96 (.int .i64 0) (.int .i64 0) (.slice none 0 0) (.slice none 0 0) (.int .i64 0) (.bool false)
 simp only[World.size_alloc] at bz
 have HLT:Hid (bo<w.heap.size/\(∀g,vp.ownBlock=some g->g<w.heap.size)/\(∀g,vn.ownBlock=some g->g<w.heap.size)):=⟨h.box.lt,fun g e=>(h.p.lt g e).2,fun g e=>(h.n.lt g e).2⟩
 go_enter Tryz.func102,Tryz.ntmps102
 go_upto_region 1 with fail
 generalize (w.alloc (.cells #[.int .i64 c.m,.int .i64 c.pc,.slice at' c.zh.length ct',.slice as' c.zf.length cs',.int .i64 c.zi,.bool c.zy] 96)).alloc (.cells #[.int .i64 0,.int .i64 0,.slice none 0 0,.slice none 0 0,.int .i64 0,.bool false] 96)=W1 at *
 have zA:=hA.size
 have yA:=bz.lt
 have hO1:=h.below hA
 obtain⟨⟨x0,x1,x2,x3,x4,x5⟩,f0,f1,f2,f3,f4,f5⟩:=xu bc
 have nb:bo≠w.heap.size/\vp.ownBlock≠some w.heap.size/\vn.ownBlock≠some w.heap.size:=⟨by have:=HLT.out.1;omega,fun e=>by have:=HLT.out.2.1 _ e;omega,fun e=>by have:=HLT.out.2.2 _ e;omega⟩
 go_upto_region 2 with(go_at_call 103;refine(Xv A B bo n ps vp vn _ _ hO1 hps hn).mono ?_;rintro e w' ⟨rfl,hw⟩;obtain rfl:=hw.symm)
 have bc2:=VD bc (zI (yK ps c.zi))
 have bz2:=WZ (k:=w.heap.size) (o:=4) bz (by omega) (zI (yK ps c.zi))
 have hO2:=hO1.set (p:=zH w.heap.size 4) (zI (yK ps c.zi)) nb.1 nb.2.1 nb.2.2
 have B2:=hA.setCell (p:=zH w.heap.size 4) zD (zI (yK ps c.zi))
 have z2:(W1.setCell (zH w.heap.size 4) (zI (yK ps c.zi))).heap.size≥W1.heap.size:=by simp[World.setCell]
 generalize W1.setCell (zH w.heap.size 4) (zI (yK ps c.zi))=w2 at *
 clear bc bz hO1 hA x0 x1 x2 x3 x4 x5 f0 f1 f2 f3 f4 f5
 obtain⟨⟨x0,x1,x2,x3,x4,x5⟩,f0,f1,f2,f3,f4,f5⟩:=xu bc2
 have ht2:=ht.below B2
 have y2:=bz2.lt
 go_upto_region 3 with(go_at_call 133;refine(wQ A B bo n ps vp vn _ c.zh _ hO2 hps hn ht2 qk).mono ?_;rintro e w3 ⟨v3,rfl,XL,qR⟩;obtain⟨a3,c3,hv3,_⟩:=XL.slice;rw[List.length_map] at hv3;subst hv3;have bc3:=yU qR bc2;obtain⟨⟨y0,y1,y2,y3,y4,y5⟩,k0,k1,k2,k3,k4,k5⟩:=xu bc3)
 have bz3:=yU qR bz2
 have hO3:=hO2.below qR
 have B3:=B2.trans (qR.mono B2.size)
 have z3:=qR.size
 clear bc2 bz2 hO2 B2 qR x0 x1 x2 x3 x4 x5 f0 f1 f2 f3 f4 f5 y0 y1 y2 y3 y4 y5 k0 k1 k2 k3 k4 k5 ht2
 have nt3:(Value.slice a3 c.zh.length c3).ownBlock≠some w.heap.size:=fun e=>by have:=(XL.lt _ e).1;omega
 have bc4:=VB bc3 (.slice a3 c.zh.length c3)
 have bz4:=WZ (k:=w.heap.size) (o:=2) bz3 (by omega) (.slice a3 c.zh.length c3)
 have hO4:=hO3.set (p:=zH w.heap.size 2) (.slice a3 c.zh.length c3) nb.1 nb.2.1 nb.2.2
 have P4:=XL.set_other (p:=zH w.heap.size 2) (.slice a3 c.zh.length c3) nt3
 have B4:=B3.setCell (p:=zH w.heap.size 2) zD (.slice a3 c.zh.length c3)
 have z4:(w3.setCell (zH w.heap.size 2) (.slice a3 c.zh.length c3)).heap.size≥w3.heap.size:=by simp[World.setCell]
 generalize w3.setCell (zH w.heap.size 2) (.slice a3 c.zh.length c3)=w4 at *
 clear bc3 bz3 hO3 XL B3
 obtain⟨⟨x0,x1,x2,x3,x4,x5⟩,f0,f1,f2,f3,f4,f5⟩:=xu bc4
 have hs4:=hs.below B4
 go_upto_region 4 with(go_at_call 133;refine(wQ A B bo n ps vp vn _ c.zf _ hO4 hps hn hs4 yE).mono ?_;rintro e w5 ⟨v5,rfl,hr5,XK⟩;obtain⟨a5,c5,hv5,_⟩:=hr5.slice;rw[List.length_map] at hv5;subst hv5;have bc5:=yU XK bc4;obtain⟨⟨y0,y1,y2,y3,y4,y5⟩,k0,k1,k2,k3,k4,k5⟩:=xu bc5)
 have bz5:=yU XK bz4
 have P5:=P4.below XK
 have B5:=B4.trans (XK.mono B4.size)
 have z5:=XK.size
 have hap:∀q,(Value.slice a3 c.zh.length c3).ownBlock=some q->(Value.slice a5 c.zf.length c5).ownBlock≠some q:=fun q e e2=>by have h1:=(P4.lt q e).2;have h2:=(hr5.lt q e2).1;omega
 clear bc4 bz4 hO4 B4 XK x0 x1 x2 x3 x4 x5 f0 f1 f2 f3 f4 f5 y0 y1 y2 y3 y4 y5 k0 k1 k2 k3 k4 k5 hs4 P4
 have ns5:(Value.slice a5 c.zf.length c5).ownBlock≠some w.heap.size:=fun e=>by have:=(hr5.lt _ e).1;omega
 have bc6:=VC bc5 (.slice a5 c.zf.length c5)
 have bz6:=WZ (k:=w.heap.size) (o:=3) bz5 (by omega) (.slice a5 c.zf.length c5)
 have P6:=P5.set_other (p:=zH w.heap.size 3) (.slice a5 c.zf.length c5) nt3
 have Q6:=hr5.set_other (p:=zH w.heap.size 3) (.slice a5 c.zf.length c5) ns5
 have B6:=B5.setCell (p:=zH w.heap.size 3) zD (.slice a5 c.zf.length c5)
 generalize w5.setCell (zH w.heap.size 3) (.slice a5 c.zf.length c5)=w6 at *
 clear bc5 bz5 P5 hr5 B5
 have nt1:(Value.slice a3 c.zh.length c3).ownBlock≠some (w.heap.size+1):=fun e=>by have:=(P6.lt _ e).1;omega
 have ns1:(Value.slice a5 c.zf.length c5).ownBlock≠some (w.heap.size+1):=fun e=>by have:=(Q6.lt _ e).1;omega
 obtain⟨⟨x0,x1,x2,x3,x4,x5⟩,xf⟩:=xu bc6
 obtain⟨⟨y0,y1,y2,y3,y4,y5⟩,k0,k1,k2,k3,k4,k5⟩:=xu bz6
 clear xf
 have R9:=zbo (VD (VC (VB (zbn (zbm bz6 (zI c.m)) (zI c.pc)) (.slice a3 c.zh.length c3)) (.slice a5 c.zf.length c5)) (zI (yK ps c.zi))) (.bool c.zy)
 have P9:=(((((P6.set_other (p:=zH (w.heap.size+1) 0) (zI c.m) nt1).set_other (p:=zH (w.heap.size+1) 1) (zI c.pc) nt1).set_other (p:=zH (w.heap.size+1) 2) (.slice a3 c.zh.length c3) nt1).set_other (p:=zH (w.heap.size+1) 3) (.slice a5 c.zf.length c5) nt1).set_other (p:=zH (w.heap.size+1) 4) (zI (yK ps c.zi)) nt1).set_other (p:=zH (w.heap.size+1) 5) (.bool c.zy) nt1
 have Q9:=(((((Q6.set_other (p:=zH (w.heap.size+1) 0) (zI c.m) ns1).set_other (p:=zH (w.heap.size+1) 1) (zI c.pc) ns1).set_other (p:=zH (w.heap.size+1) 2) (.slice a3 c.zh.length c3) ns1).set_other (p:=zH (w.heap.size+1) 3) (.slice a5 c.zf.length c5) ns1).set_other (p:=zH (w.heap.size+1) 4) (zI (yK ps c.zi)) ns1).set_other (p:=zH (w.heap.size+1) 5) (.bool c.zy) ns1
 have B9:=(((((B6.setCell (p:=zH (w.heap.size+1) 0) (Nat.le_succ _) (zI c.m)).setCell (p:=zH (w.heap.size+1) 1) (Nat.le_succ _) (zI c.pc)).setCell (p:=zH (w.heap.size+1) 2) (Nat.le_succ _) (.slice a3 c.zh.length c3)).setCell (p:=zH (w.heap.size+1) 3) (Nat.le_succ _) (.slice a5 c.zf.length c5)).setCell (p:=zH (w.heap.size+1) 4) (Nat.le_succ _) (zI (yK ps c.zi))).setCell (p:=zH (w.heap.size+1) 5) (Nat.le_succ _) (.bool c.zy)
 go_wp2
 generalize (((((w6.setCell (zH (w.heap.size+1) 0) (zI c.m)).setCell (zH (w.heap.size+1) 1) (zI c.pc)).setCell (zH (w.heap.size+1) 2) (.slice a3 c.zh.length c3)).setCell (zH (w.heap.size+1) 3) (.slice a5 c.zf.length c5)).setCell (zH (w.heap.size+1) 4) (zI (yK ps c.zi))).setCell (zH (w.heap.size+1) 5) (.bool c.zy)=W9 at *
 obtain⟨⟨q0,q1,q2,q3,q4,q5⟩,_⟩:=xu R9
 exact bodyPost_ret (v:=.agg #[zI c.m,zI c.pc,.slice a3 c.zh.length c3,.slice a5 c.zf.length c5,zI (yK ps c.zi),.bool c.zy]) (by simp[results,Tryz.results102,go_sem,q0,q1,q2,q3,q4,q5]) rfl ⟨_,_,rfl,P9.mono (by omega),Q9.mono (by omega),hap,B9⟩
def trio (x0 x1 x2:Value):Nat->Value:=fun i=>if i=0 then x0 else if i=1 then x1 else x2
def Ki (C:Nat->Nat) (a:Int):Value:=if a<0 then .pointer none else zJ (C a.toNat) 0
theorem zgl (C:Nat->Nat) (i:Nat):Ki C (i:Int)=zJ (C i) 0:=by
 unfold Ki
 rw[if_neg (by omega),Int.toNat_natCast]
inductive wZ where
 | heap | run | row | zm
 | call (i:Nat) | body (i:Nat) | zh (i:Nat) | zf (i:Nat)
def wZ.ok (n:Nat):wZ->Prop
 | .call i | .body i | .zh i | .zf i=>i<n
 | _=>True
def wZ.at (bl br:Nat) (j9 qa:Value) (C D:Nat->Nat) (T:Nat->Value × Value):wZ->Option Nat
 | .heap=>some bl
 | .run=>some br
 | .row=>j9.ownBlock
 | .zm=>qa.ownBlock
 | .call i=>some (C i)
 | .body i=>some (D i)
 | .zh i=>(T i).1.ownBlock
 | .zf i=>(T i).2.ownBlock
def zfG (C:Nat->Nat) (n:Nat):List Value:=(List.range n).map fun i=>zJ (C i) 0
structure LV (B:Nat) (w:World) (bl br:Nat) (vp j9 qa:Value) (C D:Nat->Nat) (T:Nat->Value × Value) (h:Hp):Prop where
 hp:w.rowIs bl 105 2 (UZ j9 (Ki C h.now))
 rn:w.rowIs br 90 5 (ZI vp (.iface 98 (zJ bl 0)) (zI h.born) qa (zI h.code))
 row:ym B 1 w j9 h.ze.length (zfG C h.ze.length)
 cl:∀i,(hi:i<h.ze.length)->w.rowIs (C i) 159 3 (trio (zJ (D i) 0) (zI i) (Ki C h.ze[i].zi))
 bd:∀i,(hi:i<h.ze.length)->w.rowIs (D i) 186 5 (ZI (zI h.ze[i].m) (zI h.ze[i].pc) (T i).1 (T i).2 (.bool h.ze[i].zy))
 ts:∀i,(hi:i<h.ze.length)->zl B w (T i).1 h.ze[i].zh/\zl B w (T i).2 h.ze[i].zf
 sd:zl B w qa h.zm
 lo:∀x:wZ,x.ok h.ze.length->∀g,x.at bl br j9 qa C D T=some g->B<=g/\g<w.heap.size
 ap:∀x y:wZ,x.ok h.ze.length->y.ok h.ze.length->∀g,x.at bl br j9 qa C D T=some g->y.at bl br j9 qa C D T=some g->x=y
variable {B:Nat} {w w':World} {bl br:Nat} {vp j9 qa:Value} {C D:Nat->Nat} {T:Nat->Value × Value} {h h':Hp}
theorem LV.kept (k:LV B w bl br vp j9 qa C D T h) (un:w.heap.size<=w'.heap.size) (hb:∀x:wZ,x.ok h.ze.length->∀g,x.at bl br j9 qa C D T=some g->w'.heap[g]?=w.heap[g]?):LV B w' bl br vp j9 qa C D T h :=
 ⟨k.hp.of_block (hb .heap trivial _ rfl),k.rn.of_block (hb .run trivial _ rfl),k.row.kept un (hb .row trivial),fun i hi=>(k.cl i hi).of_block (hb (.call i) hi _ rfl),fun i hi=>(k.bd i hi).of_block (hb (.body i) hi _ rfl),fun i hi=>⟨(k.ts i hi).1.kept un (hb (.zh i) hi),(k.ts i hi).2.kept un (hb (.zf i) hi)⟩,k.sd.kept un (hb .zm trivial),fun x hx g hg=>⟨(k.lo x hx g hg).1,Nat.lt_of_lt_of_le (k.lo x hx g hg).2 un⟩,k.ap⟩
theorem LV.below (k:LV B w bl br vp j9 qa C D T h) (hb:zO w w'):LV B w' bl br vp j9 qa C D T h :=
 k.kept hb.size fun x hx g hg=>hb.block g (k.lo x hx g hg).2
theorem LV.other (k:LV B w bl br vp j9 qa C D T h) {x y:wZ} (hx:x.ok h.ze.length) (hy:y.ok h.ze.length) (xp:x≠y) {g g':Nat} (e:x.at bl br j9 qa C D T=some g) (e':y.at bl br j9 qa C D T=some g'):g≠g':=fun q=>xp (k.ap x y hx hy g e (by rw[q];exact e'))
theorem LV.turn (k:LV B w bl br vp j9 qa C D T h) {j:Nat} (hj:j<h.ze.length) {c:Cl} {vt vs:Value} (hc:c.zi=h.ze[j].zi) (un:w.heap.size<=w'.heap.size)
 (hbl:∀g,g<w.heap.size->g≠D j->(T j).1.ownBlock≠some g->(T j).2.ownBlock≠some g->w'.heap[g]?=w.heap[g]?)
 (hbd:w'.rowIs (D j) 186 5 (ZI (zI c.m) (zI c.pc) vt vs (.bool c.zy))) (ht:zl B w' vt c.zh) (hs:zl B w' vs c.zf)
 (nt:∀q,vt.ownBlock=some q->(T j).1.ownBlock=some q\/(T j).2.ownBlock=some q\/w.heap.size<=q) (ns:∀q,vs.ownBlock=some q->(T j).1.ownBlock=some q\/(T j).2.ownBlock=some q\/w.heap.size<=q)
 (nn:∀q,vt.ownBlock=some q->vs.ownBlock≠some q):LV B w' bl br vp j9 qa C D (wi T j (vt,vs)) {h with ze:=h.ze.set j c}:=by
 have hl:(h.ze.set j c).length=h.ze.length:=List.length_set
 have hsame:∀y:wZ,y≠.zh j->y≠.zf j->y.at bl br j9 qa C D (wi T j (vt,vs))=y.at bl br j9 qa C D T:=fun y h1 h2=>by
  cases y with
  | zh i=>simp only[wZ.at];rw[jL _ _ (fun e=>h1 (by rw[e]))]
  | zf i=>simp only[wZ.at];rw[jL _ _ (fun e=>h2 (by rw[e]))]
  | _=>rfl
 have hT1:(wZ.zh j).at bl br j9 qa C D (wi T j (vt,vs))=vt.ownBlock:=by simp only[wZ.at,ks]
 have hT2:(wZ.zf j).at bl br j9 qa C D (wi T j (vt,vs))=vs.ownBlock:=by simp only[wZ.at,ks]
 have hold:∀y:wZ,y.ok h.ze.length->y≠.zh j->y≠.zf j->∀g,y.at bl br j9 qa C D T=some g->(T j).1.ownBlock≠some g/\(T j).2.ownBlock≠some g/\g<w.heap.size:=fun y hy h1 h2 g hg =>
  ⟨fun e=>h1 (k.ap y (.zh j) hy hj g hg e),fun e=>h2 (k.ap y (.zf j) hy hj g hg e),(k.lo y hy g hg).2⟩
 have hkeep:∀y:wZ,y.ok h.ze.length->y≠.zh j->y≠.zf j->y≠.body j->∀g,y.at bl br j9 qa C D T=some g->w'.heap[g]?=w.heap[g]?:=fun y hy h1 h2 h3 g hg=>by
  obtain⟨a1,a2,a3⟩:=hold y hy h1 h2 g hg
  exact hbl g a3 (fun e=>h3 (k.ap y (.body j) hy hj g hg (by rw[e];rfl))) a1 a2
 have hnew:∀g,vt.ownBlock=some g\/vs.ownBlock=some g->∀y:wZ,y.ok h.ze.length->y≠.zh j->y≠.zf j->y.at bl br j9 qa C D T≠some g:=fun g hg y hy h1 h2 e=>by
  obtain⟨a1,a2,a3⟩:=hold y hy h1 h2 g e
  rcases hg with hg | hg
  ·rcases nt g hg with x | x | x
   ·exact a1 x
   ·exact a2 x
   ·omega
  ·rcases ns g hg with x | x | x
   ·exact a1 x
   ·exact a2 x
   ·omega
 have hlo:∀y:wZ,y.ok h.ze.length->∀g,y.at bl br j9 qa C D (wi T j (vt,vs))=some g->B<=g/\g<w'.heap.size:=fun y hy g hg=>by
  by_cases e1:y=.zh j
  ·subst e1;rw[hT1] at hg;exact ht.lt g hg
  by_cases e2:y=.zf j
  ·subst e2;rw[hT2] at hg;exact hs.lt g hg
  rw[hsame y e1 e2] at hg
  have:=k.lo y hy g hg
  omega
 have hap:∀x y:wZ,x.ok h.ze.length->y.ok h.ze.length->∀g,x.at bl br j9 qa C D (wi T j (vt,vs))=some g->y.at bl br j9 qa C D (wi T j (vt,vs))=some g->x=y:=fun x y hx hy g hgx wh=>by
  by_cases x1:x=.zh j
  ·subst x1
   rw[hT1] at hgx
   by_cases y1:y=.zh j
   ·exact y1.symm
   by_cases y2:y=.zf j
   ·subst y2;rw[hT2] at wh;exact absurd wh (nn g hgx)
   rw[hsame y y1 y2] at wh
   exact absurd wh (hnew g (.inl hgx) y hy y1 y2)
  by_cases x2:x=.zf j
  ·subst x2
   rw[hT2] at hgx
   by_cases y1:y=.zh j
   ·subst y1;rw[hT1] at wh;exact absurd hgx (nn g wh)
   by_cases y2:y=.zf j
   ·exact y2.symm
   rw[hsame y y1 y2] at wh
   exact absurd wh (hnew g (.inr hgx) y hy y1 y2)
  rw[hsame x x1 x2] at hgx
  by_cases y1:y=.zh j
  ·subst y1;rw[hT1] at wh;exact absurd hgx (hnew g (.inl wh) x hx x1 x2)
  by_cases y2:y=.zf j
  ·subst y2;rw[hT2] at wh;exact absurd hgx (hnew g (.inr wh) x hx x1 x2)
  rw[hsame y y1 y2] at wh
  exact k.ap x y hx hy g hgx wh
 refine⟨k.hp.of_block (hkeep .heap trivial (by simp) (by simp) (by simp) _ rfl),k.rn.of_block (hkeep .run trivial (by simp) (by simp) (by simp) _ rfl),?_,fun i hi=>?_,fun i hi=>?_,fun i hi=>?_,k.sd.kept un (hkeep .zm trivial (by simp) (by simp) (by simp)),?_,?_⟩
 ·simp only[hl]
  exact k.row.kept un (hkeep .row trivial (by simp) (by simp) (by simp))
 ·simp only[hl] at hi
  have h0:=(k.cl i hi).of_block (hkeep (.call i) hi (by simp) (by simp) (by simp) _ rfl)
  by_cases e:j=i
  ·subst e;simp only[List.getElem_set_self];rw[hc];exact h0
  ·simp only[List.getElem_set_ne e];exact h0
 ·simp only[hl] at hi
  by_cases e:j=i
  ·subst e;simp only[List.getElem_set_self,ks];exact hbd
  ·simp only[List.getElem_set_ne e,jL T (vt,vs) (Ne.symm e)]
   exact(k.bd i hi).of_block (hkeep (.body i) hi (by simp) (by simp) (fun q=>e (by injection q with q;exact q.symm)) _ rfl)
 ·simp only[hl] at hi
  by_cases e:j=i
  ·subst e;simp only[List.getElem_set_self,ks];exact⟨ht,hs⟩
  ·simp only[List.getElem_set_ne e,jL T (vt,vs) (Ne.symm e)]
   exact⟨(k.ts i hi).1.kept un (hkeep (.zh i) hi (fun q=>e (by injection q with q;exact q.symm)) (by simp) (by simp)),(k.ts i hi).2.kept un (hkeep (.zf i) hi (by simp) (fun q=>e (by injection q with q;exact q.symm)) (by simp))⟩
 ·simp only[hl];exact hlo
 ·simp only[hl];exact hap
theorem LV.now (k:LV B w bl br vp j9 qa C D T h) (a:Int) (v:Value) (hv:v=Ki C a):LV B (w.setCell (zH bl 1) v) bl br vp j9 qa C D T {h with now:=a}:=by
 subst hv
 have hz:w.heap.size<=(w.setCell (zH bl 1) (Ki C a)).heap.size:=by simp[World.setCell]
 have hbl:∀y:wZ,y.ok h.ze.length->y≠.heap->∀g,y.at bl br j9 qa C D T=some g->(w.setCell (zH bl 1) (Ki C a)).heap[g]?=w.heap[g]?:=fun y hy xp g hg=>Below.heap_setCell _ _ _ _ (fun q=>k.other (x:=y) (y:=.heap) hy trivial xp hg rfl q)
 exact⟨(k.hp.set 1 (Ki C a)).congr fun i hi=>by match i,hi with | 0,_=>rfl | 1,_=>rfl,k.rn.of_block (hbl .run trivial (by simp) _ rfl),k.row.kept hz (hbl .row trivial (by simp)),fun i hi=>(k.cl i hi).of_block (hbl (.call i) hi (by simp) _ rfl),fun i hi=>(k.bd i hi).of_block (hbl (.body i) hi (by simp) _ rfl),fun i hi=>⟨(k.ts i hi).1.kept hz (hbl (.zh i) hi (by simp)),(k.ts i hi).2.kept hz (hbl (.zf i) hi (by simp))⟩,k.sd.kept hz (hbl .zm trivial (by simp)),fun y hy g hg=>⟨(k.lo y hy g hg).1,Nat.lt_of_lt_of_le (k.lo y hy g hg).2 hz⟩,k.ap⟩
def wn (C:Nat->Nat) (n c:Nat):Nat->Nat:=fun i=>if i=n then c else C i
theorem uC (C:Nat->Nat) (n c:Nat):wn C n c n=c:=if_pos rfl
theorem vQ (C:Nat->Nat) {n c i:Nat} (h:i≠n):wn C n c i=C i:=if_neg h
theorem zeb (C:Nat->Nat) (n c:Nat):zfG (wn C n c) (n+1)=zfG C n ++ [zJ c 0]:=by
 unfold zfG
 rw[List.range_succ,List.map_append,List.map_singleton,uC]
 congr 1
 exact List.map_congr_left fun i hi=>by rw[vQ _ (by simp at hi;omega)]
theorem UU {C:Nat->Nat} {n c:Nat} {a:Int} (h:a<(n:Int)):Ki (wn C n c) a=Ki C a:=by
 unfold Ki
 by_cases e:a<0
 ·rw[if_pos e,if_pos e]
 ·rw[if_neg e,if_neg e,vQ _ (by omega)]
theorem LV.enter (k:LV B w bl br vp j9 qa C D T h) {c d:Nat} {vt Yw:Value} {cl:Cl} (hst:cl.zf=[]) (hsn:cl.zi=h.now) (YK:h.now<(h.ze.length:Int)) (hsd:∀i,(hi:i<h.ze.length)->h.ze[i].zi<(h.ze.length:Int))
 (hB:B<=w.heap.size) (hc:w.heap.size<=c) (hd:w.heap.size<=d) (hcd:c≠d) (un:w.heap.size<=w'.heap.size) (hbl:∀g,g<w.heap.size->g≠bl->j9.ownBlock≠some g->w'.heap[g]?=w.heap[g]?)
 (hhp:w'.rowIs bl 105 2 (UZ Yw (zJ c 0))) (yd:ym B 1 w' Yw (h.ze.length+1) (zfG C h.ze.length ++ [zJ c 0]))
 (hcl:w'.rowIs c 159 3 (trio (zJ d 0) (zI h.ze.length) (Ki C h.now)))
 (hbd:w'.rowIs d 186 5 (ZI (zI cl.m) (zI cl.pc) vt (zQ) (.bool cl.zy))) (ht:zl B w' vt cl.zh)
 (nv:∀q,Yw.ownBlock=some q->j9.ownBlock=some q\/(w.heap.size<=q/\q≠c/\q≠d)) (nt:∀q,vt.ownBlock=some q->w.heap.size<=q/\q≠c/\q≠d/\Yw.ownBlock≠some q) :
 LV B w' bl br vp Yw qa (wn C h.ze.length c) (wn D h.ze.length d) (wi T h.ze.length (vt,zQ)) {h with ze:=h.ze ++ [cl],now:=(h.ze.length:Int)}:=by
 obtain⟨cs,now,born,zm,code⟩:=h
 simp only at *
 have hl:(cs ++ [cl]).length=cs.length+1:=by simp
 have hold:∀y:wZ,y.ok cs.length->y≠.row->y.at bl br Yw qa (wn C cs.length c) (wn D cs.length d) (wi T cs.length (vt,zQ))=y.at bl br j9 qa C D T:=fun y hy h1=>by
  cases y with
  | row=>exact absurd rfl h1
  | call i=>simp only[wZ.at];rw[vQ _ (by have:i<cs.length:=hy;omega)]
  | body i=>simp only[wZ.at];rw[vQ _ (by have:i<cs.length:=hy;omega)]
  | zh i=>simp only[wZ.at];rw[jL _ _ (by have:i<cs.length:=hy;omega)]
  | zf i=>simp only[wZ.at];rw[jL _ _ (by have:i<cs.length:=hy;omega)]
  | _=>rfl
 have hnok:∀y:wZ,y.ok (cs.length+1)->¬y.ok cs.length->y=.call cs.length\/y=.body cs.length\/y=.zh cs.length\/y=.zf cs.length:=fun y h1 h2=>by
  cases y with
  | call i=>left;have q1:i<cs.length+1:=h1;have q2:¬i<cs.length:=h2;congr 1;omega
  | body i=>right;left;have q1:i<cs.length+1:=h1;have q2:¬i<cs.length:=h2;congr 1;omega
  | zh i=>right;right;left;have q1:i<cs.length+1:=h1;have q2:¬i<cs.length:=h2;congr 1;omega
  | zf i=>right;right;right;have q1:i<cs.length+1:=h1;have q2:¬i<cs.length:=h2;congr 1;omega
  | _=>exact absurd trivial h2
 have aC:(wZ.call cs.length).at bl br Yw qa (wn C cs.length c) (wn D cs.length d) (wi T cs.length (vt,zQ))=some c:=by simp only[wZ.at,uC]
 have aD:(wZ.body cs.length).at bl br Yw qa (wn C cs.length c) (wn D cs.length d) (wi T cs.length (vt,zQ))=some d:=by simp only[wZ.at,uC]
 have aT:(wZ.zh cs.length).at bl br Yw qa (wn C cs.length c) (wn D cs.length d) (wi T cs.length (vt,zQ))=vt.ownBlock:=by simp only[wZ.at,ks]
 have aS:(wZ.zf cs.length).at bl br Yw qa (wn C cs.length c) (wn D cs.length d) (wi T cs.length (vt,zQ))=none:=by simp only[wZ.at,ks];rfl
 have hkeep:∀y:wZ,y.ok cs.length->y≠.row->y≠.heap->∀g,y.at bl br j9 qa C D T=some g->w'.heap[g]?=w.heap[g]?:=fun y hy h1 h2 g hg =>
  hbl g (k.lo y hy g hg).2 (fun e=>h2 (k.ap y .heap hy trivial g hg (by rw[e];rfl))) (fun e=>h1 (k.ap y .row hy trivial g hg e))
 -- where the row lies
 have hrw:∀y:wZ,y.ok cs.length->y≠.row->∀g,y.at bl br j9 qa C D T=some g->Yw.ownBlock≠some g:=fun y hy h1 g hg e=>by
  rcases nv g e with x | x
  ·exact h1 (k.ap y .row hy trivial g hg x)
  ·have:=(k.lo y hy g hg).2;omega
 have hlow:∀y:wZ,y.ok cs.length->y≠.row->∀g,y.at bl br j9 qa C D T=some g->g≠c/\g≠d/\vt.ownBlock≠some g:=fun y hy h1 g hg=>by
  have h2:=(k.lo y hy g hg).2
  exact⟨by omega,by omega,fun e=>by have:=(nt g e).1;omega⟩
 have hrn:Yw.ownBlock≠some c/\Yw.ownBlock≠some d:=by
  refine⟨fun e=>?_,fun e=>?_⟩
  ·rcases nv c e with x | x
   ·have:=(k.lo .row trivial c x).2;omega
   ·exact x.2.1 rfl
  ·rcases nv d e with x | x
   ·have:=(k.lo .row trivial d x).2;omega
   ·exact x.2.2 rfl
 have hap1:∀x y:wZ,x.ok cs.length->y.ok (cs.length+1)->¬y.ok cs.length->∀g,x.at bl br Yw qa (wn C cs.length c) (wn D cs.length d) (wi T cs.length (vt,zQ))=some g->y.at bl br Yw qa (wn C cs.length c) (wn D cs.length d) (wi T cs.length (vt,zQ))=some g->False:=fun x y hx hy hny g hgx wh=>by
  have QX:g≠c/\g≠d/\vt.ownBlock≠some g:=by
   by_cases x1:x=.row
   ·subst x1
    have e:Yw.ownBlock=some g:=hgx
    exact⟨fun q=>hrn.1 (by rw[<-q];exact e),fun q=>hrn.2 (by rw[<-q];exact e),fun q=>(nt g q).2.2.2 e⟩
   ·rw[hold x hx x1] at hgx
    exact hlow x hx x1 g hgx
  rcases hnok y hy hny with rfl | rfl | rfl | rfl
  ·rw[aC] at wh;injection wh with q;exact QX.1 q.symm
  ·rw[aD] at wh;injection wh with q;exact QX.2.1 q.symm
  ·rw[aT] at wh;exact QX.2.2 wh
  ·rw[aS] at wh;cases wh
 have hap:∀x y:wZ,x.ok (cs.length+1)->y.ok (cs.length+1)->∀g,x.at bl br Yw qa (wn C cs.length c) (wn D cs.length d) (wi T cs.length (vt,zQ))=some g->y.at bl br Yw qa (wn C cs.length c) (wn D cs.length d) (wi T cs.length (vt,zQ))=some g->x=y:=fun x y hx hy g hgx wh=>by
  by_cases x1:x.ok cs.length
  ·by_cases y1:y.ok cs.length
   ·by_cases x2:x=.row
    ·subst x2
     by_cases y2:y=.row
     ·exact y2.symm
     ·rw[hold y y1 y2] at wh;exact absurd hgx (hrw y y1 y2 g wh)
    ·rw[hold x x1 x2] at hgx
     by_cases y2:y=.row
     ·subst y2;exact absurd wh (hrw x x1 x2 g hgx)
     ·rw[hold y y1 y2] at wh;exact k.ap x y x1 y1 g hgx wh
   ·exact(hap1 x y x1 hy y1 g hgx wh).elim
  ·by_cases y1:y.ok cs.length
   ·exact(hap1 y x y1 hx x1 g wh hgx).elim
   ·rcases hnok x hx x1 with rfl | rfl | rfl | rfl <;> rcases hnok y hy y1 with rfl | rfl | rfl | rfl
    ·rfl
    ·rw[aC] at hgx;rw[aD] at wh;injection hgx with q;injection wh with q';omega
    ·rw[aC] at hgx;rw[aT] at wh;injection hgx with q;exact absurd q.symm (nt g wh).2.1
    ·rw[aS] at wh;cases wh
    ·rw[aD] at hgx;rw[aC] at wh;injection hgx with q;injection wh with q';omega
    ·rfl
    ·rw[aD] at hgx;rw[aT] at wh;injection hgx with q;exact absurd q.symm (nt g wh).2.2.1
    ·rw[aS] at wh;cases wh
    ·rw[aC] at wh;rw[aT] at hgx;injection wh with q;exact absurd q.symm (nt g hgx).2.1
    ·rw[aD] at wh;rw[aT] at hgx;injection wh with q;exact absurd q.symm (nt g hgx).2.2.1
    ·rfl
    ·rw[aS] at wh;cases wh
    ·rw[aS] at hgx;cases hgx
    ·rw[aS] at hgx;cases hgx
    ·rw[aS] at hgx;cases hgx
    ·rfl
 refine⟨?_,k.rn.of_block (hkeep .run trivial (by simp) (by simp) _ rfl),?_,fun i hi=>?_,fun i hi=>?_,fun i hi=>?_,k.sd.kept un (hkeep .zm trivial (by simp) (by simp)),?_,?_⟩
 ·rw[zgl,uC];exact hhp
 ·simp only[hl];rw[zeb];exact yd
 ·simp only[hl] at hi
  by_cases e:i<cs.length
  ·have e':i<cs.length:=by omega
   simp only[List.getElem_append_left e']
   rw[vQ _ (by omega),vQ _ (by omega),UU (hsd i e')]
   exact(k.cl i e').of_block (hkeep (.call i) e (by simp) (by simp) _ rfl)
  ·have e2:i=cs.length:=by omega
   subst e2
   have e3:(cs ++ [cl])[cs.length]'(by rw[hl];omega)=cl:=by rw[List.getElem_append_right (by omega)];simp
   simp only[e3]
   rw[uC,uC,hsn,UU YK]
   exact hcl
 ·simp only[hl] at hi
  by_cases e:i<cs.length
  ·have e':i<cs.length:=by omega
   simp only[List.getElem_append_left e']
   rw[vQ _ (by omega),jL _ _ (by omega)]
   exact(k.bd i e').of_block (hkeep (.body i) e (by simp) (by simp) _ rfl)
  ·have e2:i=cs.length:=by omega
   subst e2
   have e3:(cs ++ [cl])[cs.length]'(by rw[hl];omega)=cl:=by rw[List.getElem_append_right (by omega)];simp
   simp only[e3]
   rw[uC,ks]
   exact hbd
 ·simp only[hl] at hi
  by_cases e:i<cs.length
  ·have e':i<cs.length:=by omega
   simp only[List.getElem_append_left e']
   rw[jL _ _ (by omega)]
   exact⟨(k.ts i e').1.kept un (hkeep (.zh i) e (by simp) (by simp)),(k.ts i e').2.kept un (hkeep (.zf i) e (by simp) (by simp))⟩
  ·have e2:i=cs.length:=by omega
   subst e2
   have e3:(cs ++ [cl])[cs.length]'(by rw[hl];omega)=cl:=by rw[List.getElem_append_right (by omega)];simp
   simp only[e3]
   rw[ks,hst]
   exact⟨ht,zl.nil _ _⟩
 ·simp only[hl]
  intro x hx g hg
  by_cases x1:x.ok cs.length
  ·by_cases x2:x=.row
   ·subst x2
    exact yd.lt g hg
   ·rw[hold x x1 x2] at hg
    have:=k.lo x x1 g hg
    omega
  ·rcases hnok x hx x1 with rfl | rfl | rfl | rfl
   ·rw[aC] at hg;injection hg with q;subst q;exact⟨by omega,hcl.lt⟩
   ·rw[aD] at hg;injection hg with q;subst q;exact⟨by omega,hbd.lt⟩
   ·rw[aT] at hg;exact ht.lt g hg
   ·rw[aS] at hg;cases hg
 ·simp only[hl];exact hap
theorem zfy (vp:Value) (ms:Ms) (m pc:Nat) (w:World) (hM:yD w vp ms) (hm:m<ms.length) :
 Calls Tryz.prog 127 #[.agg #[vp],zI m,zI pc] w fun e w'=>e=.returned (.tuple #[.agg #[zI (ms[m].2.2.getD pc (0,0)).1,zI (ms[m].2.2.getD pc (0,0)).2],.bool (decide (pc<ms[m].2.2.length))])/\zO w w':=by
 have hA:zO w ((w.alloc (.cells #[vp] 25)).alloc (.cells #[.int .i64 0,.int .i64 0] 70)):=(zR _ _).alloc (by simp) _
 have hMA:=hM.below hA
 obtain⟨ap,cp,qz,hlp,hms⟩:=id hMA
 obtain⟨pb,po,vo,hap,p0,p1,p2,p3⟩:=hms m hm
 obtain⟨oa,oc,jw,hol,hops⟩:=id p3
 subst qz hap jw
 have r1:=kH (w.alloc (.cells #[.slice (some ⟨pb,po,none⟩) ms.length cp] 25)) 70 (.int .i64 0) (.int .i64 0)
 simp only[World.size_alloc] at r1
 have hmz:(m:Int)<(ms.length:Int):=by omega
 clear hms hM hMA
 by_cases hpl:pc<ms[m].2.2.length
 ·rw[decide_eq_true hpl,xo hpl]
  obtain⟨ob,oo,hob,q0,q1⟩:=hops pc hpl
  subst hob
  have hpz:(pc:Int)<(ms[m].2.2.length:Int):=by omega
  have hp0:(0:Int)<=(pc:Int):=by omega
  clear hops p3
  generalize ms[m].2.2[pc]=op at *
  obtain⟨kk,a⟩:=op
  generalize ms[m].2.2.length=no at *
  have r0:=(Ks w 25 (.slice (some ⟨pb,po,none⟩) ms.length cp)).alloc (.cells #[.int .i64 0,.int .i64 0] 70)
  go_enter Tryz.func127,Tryz.ntmps127
  go_upto_region 1 with fail
  generalize (w.alloc (.cells #[.slice (some ⟨pb,po,none⟩) ms.length cp] 25)).alloc (.cells #[.int .i64 0,.int .i64 0] 70)=W at *
  obtain⟨⟨u0,u1⟩,uf0,uf1⟩:=yz r1
  have v0:=r0.cell (i:=0) (by decide)
  go_wp2_with (go_at_call 58;refine(zZ _ _ _).mono ?_;rintro e w' ⟨rfl,hw⟩;obtain rfl:=hw.symm;rw[zx.2 ⟨hp0,by omega⟩])
  have R9:((W.setCell (zH (w.heap.size+1) 0) (zI kk)).setCell (zH (w.heap.size+1) 1) (zI a)).rowIs (w.heap.size+1) 70 2 (UZ (zI kk) (zI a)):=((ZO r1 (zI kk)).set 1 (zI a)).congr fun i hi=>by match i,hi with | 0,_=>rfl | 1,_=>rfl
  have B9:zO w ((W.setCell (zH (w.heap.size+1) 0) (zI kk)).setCell (zH (w.heap.size+1) 1) (zI a)):=(hA.setCell (p:=zH (w.heap.size+1) 0) (Nat.le_succ _) _).setCell (p:=zH (w.heap.size+1) 1) (Nat.le_succ _) _
  obtain⟨⟨s0,s1⟩,_⟩:=yz R9
  generalize (W.setCell (zH (w.heap.size+1) 0) (zI kk)).setCell (zH (w.heap.size+1) 1) (zI a)=W9 at *
  exact bodyPost_ret (v:=.tuple #[.agg #[zI kk,zI a],.bool true]) (by simp[results,Tryz.results127,go_sem,s0,s1]) rfl ⟨rfl,B9⟩
 ·rw[decide_eq_false hpl,List.getD_eq_getElem?_getD,List.getElem?_eq_none (by omega)]
  clear hops
  generalize ms[m].2.2.length=no at *
  have r0:=(Ks w 25 (.slice (some ⟨pb,po,none⟩) ms.length cp)).alloc (.cells #[.int .i64 0,.int .i64 0] 70)
  go_enter Tryz.func127,Tryz.ntmps127
  go_upto_region 1 with fail
  generalize (w.alloc (.cells #[.slice (some ⟨pb,po,none⟩) ms.length cp] 25)).alloc (.cells #[.int .i64 0,.int .i64 0] 70)=W at *
  obtain⟨⟨u0,u1⟩,uf0,uf1⟩:=yz r1
  have v0:=r0.cell (i:=0) (by decide)
  go_wp2_with (go_at_call 58;refine(zZ _ _ _).mono ?_;rintro e w' ⟨rfl,hw⟩;obtain rfl:=hw.symm;rw[qw.2 (by omega)])
  have R9:((W.setCell (zH (w.heap.size+1) 0) (zI 0)).setCell (zH (w.heap.size+1) 1) (zI 0)).rowIs (w.heap.size+1) 70 2 (UZ (zI 0) (zI 0)):=((ZO r1 (zI 0)).set 1 (zI 0)).congr fun i hi=>by match i,hi with | 0,_=>rfl | 1,_=>rfl
  have B9:zO w ((W.setCell (zH (w.heap.size+1) 0) (zI 0)).setCell (zH (w.heap.size+1) 1) (zI 0)):=(hA.setCell (p:=zH (w.heap.size+1) 0) (Nat.le_succ _) _).setCell (p:=zH (w.heap.size+1) 1) (Nat.le_succ _) _
  obtain⟨⟨s0,s1⟩,_⟩:=yz R9
  generalize (W.setCell (zH (w.heap.size+1) 0) (zI 0)).setCell (zH (w.heap.size+1) 1) (zI 0)=W9 at *
  exact bodyPost_ret (v:=.tuple #[.agg #[zI 0,zI 0],.bool false]) (by simp[results,Tryz.results127,go_sem,s0,s1]) rfl ⟨rfl,B9⟩
theorem Xs (k a:Int) (va:Value) (args:yH) (w:World) (hM:yi w va args) (h5:k=5->args.length=2) (h1:k=12\/k=13\/k=14\/k=15\/k=17\/k=18->1<=args.length) :
 Calls Tryz.prog 145 #[.agg #[zI k,zI a],va] w fun e w'=>e=.returned (.bool (qZ k args))/\zO w w':=by
 obtain⟨aa,ca,rfl,hal,hc⟩:=hM
 have hA:zO w (w.alloc (.cells #[.int .i64 k,.int .i64 a] 70)):=zR _ _
 have ro:=kH w 70 (.int .i64 k) (.int .i64 a)
 by_cases e5:k=5
 ·subst e5
  have hl:=h5 rfl
  obtain⟨b,o,rfl,p0,p1⟩:=hc 0 (by omega)
  obtain⟨b',o',Kv,q0,q1⟩:=hc 1 (by omega)
  obtain⟨rfl,rfl⟩:b=b'/\o=o':=by injection Kv with e;injection e with e1 e2;exact⟨e1,e2⟩
  have jM:(0:Int)<(args.length:Int):=by omega
  have xP:(1:Int)<(args.length:Int):=by omega
  have HK:Hid (qZ 5 args=((args[0]'(by omega)).1 == 1 && (args[1]'(by omega)).1 == 1)):=by
   show _=_
   unfold qZ
   rw[if_pos rfl,xo (by omega),xo (by omega)]
  have p0A:=zc hA p0
  have q0A:=zc hA q0
  simp only[Nat.zero_mul,Nat.add_zero,Nat.one_mul] at p0A q0A
  go_enter Tryz.func145,Tryz.ntmps145
  go_upto_region 1 with fail
  generalize w.alloc (.cells #[.int .i64 5,.int .i64 a] 70)=W at *
  obtain⟨⟨o0,o1⟩,_⟩:=yz ro
  generalize hx:args[0].1=X at *
  generalize hy:args[1].1=Y at *
  by_cases ex:X=1
  ·subst ex
   go_wp2
   go_ret
   exact⟨by rw[HK.out];simp,hA⟩
  ·have ex':(X == 1)=false:=zG.2 ex
   go_wp2
   go_ret
   exact⟨by rw[HK.out,ex'];simp,hA⟩
 have e5':(k == 5)=false:=zG.2 e5
 by_cases ek:k=12\/k=13\/k=14\/k=15\/k=17\/k=18
 ·have hl:=h1 ek
  obtain⟨b,o,rfl,p0,p1⟩:=hc 0 (by omega)
  have jM:(0:Int)<(args.length:Int):=by omega
  have HK:Hid (qZ k args=((args[0]'(by omega)).1 == 2)):=by
   show _=_
   unfold qZ
   rw[if_neg e5,if_pos ek,xo (by omega)]
  have p0A:=zc hA p0
  simp only[Nat.zero_mul,Nat.add_zero] at p0A
  generalize args[0].1=X at *
  rcases ek with e | e | e | e | e | e
  all_goals
   subst e
   go_enter Tryz.func145,Tryz.ntmps145
   go_upto_region 1 with fail
   generalize w.alloc _=W at *
   obtain⟨⟨o0,o1⟩,_⟩:=yz ro
   go_wp2
   go_ret
   exact⟨by rw[HK.out];rfl,hA⟩
 ·have HK:Hid (qZ k args=true):=by
   show _=_
   unfold qZ
   rw[if_neg e5,if_neg ek]
  have n12:(k == 12)=false:=zG.2 (by omega)
  have n13:(k == 13)=false:=zG.2 (by omega)
  have n14:(k == 14)=false:=zG.2 (by omega)
  have n15:(k == 15)=false:=zG.2 (by omega)
  have n17:(k == 17)=false:=zG.2 (by omega)
  have n18:(k == 18)=false:=zG.2 (by omega)
  clear e5 ek
  go_enter Tryz.func145,Tryz.ntmps145
  go_upto_region 1 with fail
  generalize w.alloc _=W at *
  obtain⟨⟨o0,o1⟩,_⟩:=yz ro
  go_wp2
  go_ret
  exact⟨by rw[HK.out];rfl,hA⟩
theorem Zp {ms:Ms} {kk a t l:Int} (e:yx ms kk a=(t,l)) {DR:yH} (hd:(DR.length:Int)=t):(kk=5->DR.length=2)/\(kk=12\/kk=13\/kk=14\/kk=15\/kk=17\/kk=18->1<=DR.length):=by
 refine⟨fun q=>?_,fun q=>?_⟩
 ·subst q
  rw[jC (by decide)] at e
  injection e with e1 e2
  have:tk 5=2:=rfl
  omega
 ·rw[jC (by omega)] at e
  injection e with e1 e2
  have:1<=tk kk:=by
   rcases q with q | q | q | q | q | q <;> subst q <;> decide
  omega
end Go.Proofs.YtbjgjjkgfnfejaaGreatDoor

/-
  What is seen of a heap, by the model: l11Found answers the calls that can be come to.
-/
import Derived.Test.YtbjgjjkgfnfejaaGreatDoorLStep2
namespace Go.Proofs.YtbjgjjkgfnfejaaGreatDoor
set_option maxHeartbeats 4000000
set_option maxRecDepth 100000
open Go.RowKit
def Hp.short (h:Hp):Prop:=h.ze.length<=1000/\∀i,(hi:i<h.ze.length)->h.ze[i].zh.length<=1000/\h.ze[i].zf.length<=1000
theorem xV.nil (n:Nat):xV n []:=⟨by simp,fun p hp=>by cases hp⟩
theorem xz.cl {w:World} {a:Option Addr} {n c:Nat} {cs:List Cl} (h:xz w (.slice a n c) cs) {p:Nat} (hp:p<cs.length):∃b o vt vs,a=some ⟨b,o,none⟩/\zeu w b (o+p * 6) vt vs cs[p]:=by
 obtain⟨a',c',e,_,hc⟩:=h
 obtain⟨b,o,vt,vs,rfl,hx⟩:=hc p hp
 injection e with e1 e2 e3
 exact⟨b,o,vt,vs,e1,hx⟩
def zbJ (bl br:Nat) (j9 qa:Value) (C D:Nat->Nat) (T:Nat->Value × Value) (n:Nat) (g:Nat):Prop:=∃x:wZ,x.ok n/\x.at bl br j9 qa C D T=some g
structure LGo (B:Nat) (P P':Nat->Prop) (w w':World):Prop where
 b:Below B w w'
 keep:∀g,g<w.heap.size->¬P g->w'.heap[g]?=w.heap[g]?
 own:∀g,P' g->P g\/w.heap.size<=g
theorem LGo.refl (B:Nat) (P:Nat->Prop) (w:World):LGo B P P w w:=⟨zS,fun _ _ _=>rfl,fun _ h=>.inl h⟩
theorem LGo.trans {B:Nat} {P P' P'':Nat->Prop} {a b c:World} (h:LGo B P P' a b) (k:LGo B P' P'' b c):LGo B P P'' a c :=
 ⟨h.b.trans k.b,fun g hg hn=>(k.keep g (Nat.lt_of_lt_of_le hg h.b.size) (fun e=>by rcases h.own g e with x | x;exact hn x;omega)).trans (h.keep g hg hn),fun g e=>by
  rcases k.own g e with x | x
  ·exact h.own g x
  ·have:=h.b.size;exact .inr (by omega)⟩
theorem LGo.set {B:Nat} {P:Nat->Prop} {w:World} {p:Addr} (hp:P p.block) (hB:B<=p.block) (u:Value):LGo B P P w (w.setCell p u) :=
 ⟨zS.setCell hB u,fun _ _ hn=>Below.heap_setCell _ _ _ _ (fun e=>hn (by rw[e];exact hp)),fun _ h=>.inl h⟩
variable {B:Nat} {w w':World} {bl br:Nat} {vp j9 qa:Value} {C D:Nat->Nat} {T:Nat->Value × Value} {h h':Hp}
theorem LV.new (k:LV B w bl br vp j9 qa C D T h) {g:Nat} (hg:w.heap.size<=g):¬zbJ bl br j9 qa C D T h.ze.length g:=fun⟨x,hx,e⟩=>by have:=(k.lo x hx g e).2;omega
theorem LV.turn_go {j:Nat} (hj:j<h.ze.length) {vt vs:Value} (hb:Below B w w')
 (hbl:∀g,g<w.heap.size->g≠D j->(T j).1.ownBlock≠some g->(T j).2.ownBlock≠some g->w'.heap[g]?=w.heap[g]?)
 (nt:∀q,vt.ownBlock=some q->(T j).1.ownBlock=some q\/(T j).2.ownBlock=some q\/w.heap.size<=q) (ns:∀q,vs.ownBlock=some q->(T j).1.ownBlock=some q\/(T j).2.ownBlock=some q\/w.heap.size<=q) :
 LGo B (zbJ bl br j9 qa C D T h.ze.length) (zbJ bl br j9 qa C D (wi T j (vt,vs)) h.ze.length) w w':=by
 refine⟨hb,fun g hg hn=>hbl g hg (fun e=>hn ⟨.body j,hj,by rw[e];rfl⟩) (fun e=>hn ⟨.zh j,hj,e⟩) (fun e=>hn ⟨.zf j,hj,e⟩),fun g ⟨x,hx,e⟩=>?_⟩
 by_cases x1:x=.zh j
 ·subst x1
  simp only[wZ.at,ks] at e
  rcases nt g e with q | q | q
  ·exact .inl ⟨.zh j,hj,q⟩
  ·exact .inl ⟨.zf j,hj,q⟩
  ·exact .inr q
 by_cases x2:x=.zf j
 ·subst x2
  simp only[wZ.at,ks] at e
  rcases ns g e with q | q | q
  ·exact .inl ⟨.zh j,hj,q⟩
  ·exact .inl ⟨.zf j,hj,q⟩
  ·exact .inr q
 refine .inl ⟨x,hx,?_⟩
 rw[<-e]
 cases x with
 | zh i=>simp only[wZ.at];rw[jL _ _ (fun q=>x1 (by rw[q]))]
 | zf i=>simp only[wZ.at];rw[jL _ _ (fun q=>x2 (by rw[q]))]
 | _=>rfl
variable {B:Nat} {w w':World} {bl br:Nat} {vp j9 qa:Value} {C D:Nat->Nat} {T:Nat->Value × Value} {h h':Hp}
theorem zbQ (j:Nat) (w:World) :
 Calls Tryz.prog 214 #[zI j] w fun e w'=>e=.returned (.agg #[zI 2,zI j])/\zO w w':=by
 have xp:((j:Int) == -1)=false:=zG.2 (by omega)
 go_enter Tryz.func214,Tryz.ntmps214
 go_wp2
 exact bodyPost_ret (v:=.agg #[zI 2,zI j]) (by simp[results,Tryz.results214,go_sem]) rfl ⟨rfl,zR _ _⟩
theorem Wd (w:World) :
 Calls Tryz.prog 214 #[zI (-1)] w fun e w'=>e=.returned (.agg #[zI 0,zI 0])/\zO w w':=by
 go_enter Tryz.func214,Tryz.ntmps214
 go_wp2
 exact bodyPost_ret (v:=.agg #[zI 0,zI 0]) (by simp[results,Tryz.results214,go_sem]) rfl ⟨rfl,zR _ _⟩
theorem zcK {B:Nat} (vp:Value) (ms:Ms) (hp:yn ms=true) (kk a t l:Int) (ht:yx ms kk a=(t,l)) (sa:Option Addr) (sc:Nat) (st:yH) (w:World) (hM:yD w vp ms) (hT:TabAt w) (hs:zl B w (.slice sa st.length sc) st) (hl:st.length<=6)
 (hbad:((st.length:Int) - t<0\/6<(st.length:Int) - t+l)\/qZ kk (st.drop ((st.length:Int) - t).toNat)=false) :
 Calls Tryz.prog 128 #[.agg #[vp],.agg #[zI kk,zI a],.slice sa st.length sc] w fun e w'=>e=.returned (.tuple #[zQ,.bool false])/\zO w w':=by
 have hA:zO w ((w.alloc (.cells #[vp] 25)).alloc (.cells #[.int .i64 kk,.int .i64 a] 70)):=(zR _ _).alloc (by simp) _
 have hTB:=Qb hp kk a
 rw[ht] at hTB
 simp only[] at hTB
 obtain⟨ap,cp,qz,_⟩:=id hM
 subst qz
 have r0:=(Ks w 25 (.slice ap ms.length cp)).alloc (.cells #[.int .i64 kk,.int .i64 a] 70)
 have r1:=kH (w.alloc (.cells #[.slice ap ms.length cp] 25)) 70 (.int .i64 kk) (.int .i64 a)
 simp only[World.size_alloc] at r1
 have HT:=QB (.slice ap ms.length cp) ms kk a _ (hM.below hA) (hT.below hA)
 rw[ht] at HT
 simp only[] at HT
 have hsA:=hs.below hA
 have HTK:Hid (yx ms kk a=(t,l)):=ht
 have hwl:IntKind.i64.wrap ((st.length:Int) - t)=(st.length:Int) - t:=by rw[IntKind.wrap_i64];omega
 have hwl2:IntKind.i64.wrap ((st.length:Int) - t+l)=(st.length:Int) - t+l:=by rw[IntKind.wrap_i64];omega
 clear hM hT hs ht
 go_enter Tryz.func128,Tryz.ntmps128
 go_upto_region 1 with fail
 generalize (w.alloc (.cells #[.slice ap ms.length cp] 25)).alloc (.cells #[.int .i64 kk,.int .i64 a] 70)=W at *
 obtain⟨⟨u0,u1⟩,_⟩:=yz r1
 have v0:=r0.cell (i:=0) (by decide)
 go_upto_region 2 with(go_at_call 144;refine HT.mono ?_;rintro e w2 ⟨rfl,yE⟩)
 have s2:=hsA.below yE
 obtain⟨⟨x0,x1⟩,_⟩:=yz (yU yE r1)
 have B2:zO w w2:=hA.trans (yE.mono hA.size)
 clear u0 u1 v0 r0 r1 HT hsA hA
 by_cases hneg:(st.length:Int) - t<0
 ·have hn':decide ((st.length:Int) - t<0)=true:=decide_eq_true hneg
  go_wp2_with fail
  go_region
  go_wp2
  go_ret2
  exact⟨rfl,B2.drew⟩
 by_cases hbig:6<(st.length:Int) - t+l
 ·have hn':decide ((st.length:Int) - t<0)=false:=decide_eq_false hneg
  have hg':decide (6<(st.length:Int) - t+l)=true:=decide_eq_true hbig
  go_wp2_with fail
  go_region
  go_wp2
  go_ret2
  exact⟨rfl,B2.drew⟩
 obtain⟨L,hL⟩:∃L:Nat,(st.length:Int) - t=(L:Int):=⟨((st.length:Int) - t).toNat,by omega⟩
 have hLn:L<=st.length:=by omega
 have hkb:qZ kk (st.drop L)=false:=by
  rcases hbad with h | h
  ·omega
  ·rw[hL,Int.toNat_natCast] at h;exact h
 rw[hL] at hwl hwl2 hneg hbig
 have hLz:(L:Int)<=(st.length:Int):=by omega
 have hL0:(0:Int)<=(L:Int):=by omega
 obtain⟨hpF,_⟩:=s2.piece (l:=L) (k:=st.length) hLn zD
 rw[List.take_length] at hpF
 have hfrom:∀W,(Instr.slice 32 (.slice sa st.length sc) (some (zI (L:Int))) none none).run Tryz.prog W=.ok (sliced sa L st.length sc 2) W:=fun W=>zbA W sa _ sc L hLn
 generalize sliced sa L st.length sc 2=VF at *
 have hK:=Xs kk a VF (st.drop L) _ (hpF.below (Below.refl w2.heap.size w2).drew) (Zp HTK.out (by simp;omega)).1 (Zp HTK.out (by simp;omega)).2
 rw[hkb] at hK
 clear hbad hpF s2 hkb
 have hn':decide ((L:Int)<0)=false:=decide_eq_false hneg
 have hg':decide (6<(L:Int)+l)=false:=decide_eq_false hbig
 go_wp2_with fail
 go_region_held3 (fun w'=>w'.cell? (zH (w.heap.size+1) 0)=some (zI kk)/\w'.cell? (zH (w.heap.size+1) 1)=some (zI a))
  (first | with_reducible exact⟨x0,x1⟩ | exact⟨zc qR (show w2.drew.cell? _=_ from x0),zc qR (show w2.drew.cell? _=_ from x1)⟩ | go_keep)
  (first | (go_at_call 145;refine hK.mono ?_;rintro e w3 ⟨rfl,qR⟩))
 all_goals
  go_wp2
  go_ret2
  exact⟨rfl,B2.drew.trans (qR.mono B2.size)⟩
theorem JT {B:Nat} (vp:Value) (ms:Ms) (hp:yn ms=true) (kk a t l:Int) (ht:yx ms kk a=(t,l)) (sa:Option Addr) (sc:Nat) (st:yH) (w:World) (hM:yD w vp ms) (hT:TabAt w) (hs:zl B w (.slice sa st.length sc) st) (hl:st.length<=6)
 {L:Nat} (hL:(st.length:Int) - t=(L:Int)) (hbig:(L:Int)+l<=6) (hkb:qZ kk (st.drop L)=true) :
 Calls Tryz.prog 128 #[.agg #[vp],.agg #[zI kk,zI a],.slice sa st.length sc] w fun e w'=>∃v',e=.returned (.tuple #[v',.bool true])/\zl w.heap.size w' v' (st.drop L)/\zO w w':=by
 have hA:zO w ((w.alloc (.cells #[vp] 25)).alloc (.cells #[.int .i64 kk,.int .i64 a] 70)):=(zR _ _).alloc (by simp) _
 have hTB:=Qb hp kk a
 rw[ht] at hTB
 simp only[] at hTB
 obtain⟨ap,cp,qz,_⟩:=id hM
 subst qz
 have r0:=(Ks w 25 (.slice ap ms.length cp)).alloc (.cells #[.int .i64 kk,.int .i64 a] 70)
 have r1:=kH (w.alloc (.cells #[.slice ap ms.length cp] 25)) 70 (.int .i64 kk) (.int .i64 a)
 simp only[World.size_alloc] at r1
 have HT:=QB (.slice ap ms.length cp) ms kk a _ (hM.below hA) (hT.below hA)
 rw[ht] at HT
 simp only[] at HT
 have hsA:=hs.below hA
 have HTK:Hid (yx ms kk a=(t,l)):=ht
 have hwl:IntKind.i64.wrap ((st.length:Int) - t)=(st.length:Int) - t:=by rw[IntKind.wrap_i64];omega
 have hwl2:IntKind.i64.wrap ((st.length:Int) - t+l)=(st.length:Int) - t+l:=by rw[IntKind.wrap_i64];omega
 clear hM hT hs ht
 go_enter Tryz.func128,Tryz.ntmps128
 go_upto_region 1 with fail
 generalize (w.alloc (.cells #[.slice ap ms.length cp] 25)).alloc (.cells #[.int .i64 kk,.int .i64 a] 70)=W at *
 obtain⟨⟨u0,u1⟩,_⟩:=yz r1
 have v0:=r0.cell (i:=0) (by decide)
 go_upto_region 2 with(go_at_call 144;refine HT.mono ?_;rintro e w2 ⟨rfl,yE⟩)
 have s2:=hsA.below yE
 obtain⟨⟨x0,x1⟩,_⟩:=yz (yU yE r1)
 have B2:zO w w2:=hA.trans (yE.mono hA.size)
 clear u0 u1 v0 r0 r1 HT hsA hA
 have hLn:L<=st.length:=by omega
 rw[hL] at hwl hwl2
 have hLz:(L:Int)<=(st.length:Int):=by omega
 have hL0:(0:Int)<=(L:Int):=by omega
 obtain⟨hpF,_⟩:=s2.piece (l:=L) (k:=st.length) hLn zD
 rw[List.take_length] at hpF
 have hfrom:∀W,(Instr.slice 32 (.slice sa st.length sc) (some (zI (L:Int))) none none).run Tryz.prog W=.ok (sliced sa L st.length sc 2) W:=fun W=>zbA W sa _ sc L hLn
 generalize sliced sa L st.length sc 2=VF at *
 have hK:=Xs kk a VF (st.drop L) _ (hpF.below (Below.refl w2.heap.size w2).drew) (Zp HTK.out (by simp;omega)).1 (Zp HTK.out (by simp;omega)).2
 rw[hkb] at hK
 clear s2 hkb
 have hn':decide ((L:Int)<0)=false:=decide_eq_false (by omega)
 have hg':decide (6<(L:Int)+l)=false:=decide_eq_false (by omega)
 go_wp2_with fail
 go_region_held3 (fun w'=>w'.cell? (zH (w.heap.size+1) 0)=some (zI kk)/\w'.cell? (zH (w.heap.size+1) 1)=some (zI a))
  (first | with_reducible exact⟨x0,x1⟩ | exact⟨zc qR (show w2.drew.cell? _=_ from x0),zc qR (show w2.drew.cell? _=_ from x1)⟩ | go_keep)
  (first | (go_at_call 145;refine hK.mono ?_;rintro e w3 ⟨rfl,qR⟩))
 all_goals
  have hpF3:=(hpF.below (Below.refl w2.heap.size w2).drew).below qR
  have B3:zO w w3:=B2.drew.trans (qR.mono B2.size)
  go_wp2_with (go_at_call 46;refine(wv _ _ _ hpF3 (by simp;omega)).mono ?_;rintro e w4 ⟨v4,rfl,Wy,Za⟩)
  go_ret2
  exact⟨_,rfl,Wy.mono B3.size,B3.trans (Za.mono B3.size)⟩
variable {B:Nat} {w w':World} {bl br:Nat} {vp j9 qa:Value} {C D:Nat->Nat} {T:Nat->Value × Value} {cs:List Cl} {now:Int}
def uw (B:Nat) (w:World) (d:Nat) (vt vs:Value) (c:Cl):Prop :=
 w.rowIs d 186 5 (ZI (zI c.m) (zI c.pc) vt vs (.bool c.zy))/\zl B w vt c.zh/\zl B w vs c.zf/\B<=d /\
 (∀g,vt.ownBlock=some g->g≠d/\vs.ownBlock≠some g)/\(∀g,vs.ownBlock=some g->g≠d)
theorem WJ (c:Cl) (vt vs:Value) (w:World) (ht:yi w vt c.zh) (hs:yi w vs c.zf) (hl:c.zh.length<=1000/\c.zf.length<=1000) :
 Calls Tryz.prog 86 #[.agg #[zI c.m,zI c.pc,vt,vs,zI c.zi,.bool c.zy]] w fun e w'=>∃(d:Nat) (U4 vs':Value),e=.returned (zJ d 0)/\uw w.heap.size w' d U4 vs' c/\zO w w':=by
 obtain⟨at_,ct,jA⟩:=ht.shape
 obtain⟨as_,cs,jG⟩:=hs.shape
 subst jA jG
 have hA:zO w (w.alloc (.cells #[.int .i64 c.m,.int .i64 c.pc,.slice at_ c.zh.length ct,.slice as_ c.zf.length cs,.int .i64 c.zi,.bool c.zy] 96)):=zR _ _
 have r1:=Z7 w 96 (.int .i64 c.m) (.int .i64 c.pc) (.slice at_ c.zh.length ct) (.slice as_ c.zf.length cs) (.int .i64 c.zi) (.bool c.zy)
 have HT:Hid (yi w (.slice at_ c.zh.length ct) c.zh/\yi w (.slice as_ c.zf.length cs) c.zf):=⟨ht,hs⟩
 have hzA:w.heap.size<(w.alloc (.cells #[.int .i64 c.m,.int .i64 c.pc,.slice at_ c.zh.length ct,.slice as_ c.zf.length cs,.int .i64 c.zi,.bool c.zy] 96)).heap.size:=by simp
 clear ht hs
 go_enter Tryz.func86,Tryz.ntmps86
 go_upto_region 1 with fail
 generalize w.alloc (.cells #[.int .i64 c.m,.int .i64 c.pc,.slice at_ c.zh.length ct,.slice as_ c.zf.length cs,.int .i64 c.zi,.bool c.zy] 96)=W at *
 obtain⟨⟨x0,x1,x2,x3,x4,x5⟩,_⟩:=xu r1
 have HS:∀w':World,zO W w'->((w'.cell? (zH w.heap.size 0)=some (zI c.m)/\w'.cell? (zH w.heap.size 1)=some (zI c.pc)/\w'.cell? (zH w.heap.size 2)=some (.slice at_ c.zh.length ct)/\w'.cell? (zH w.heap.size 3)=some (.slice as_ c.zf.length cs)/\w'.cell? (zH w.heap.size 5)=some (.bool c.zy))/\zO W w'):=fun w' hb=>⟨⟨zc hb x0,zc hb x1,zc hb x2,zc hb x3,zc hb x5⟩,hb⟩
 have HCT:Hid (∀W',zO W W'->Calls Tryz.prog 46 #[.slice at_ c.zh.length ct] W' fun e w'=>∃v',e=.returned v'/\zl W'.heap.size w' v' c.zh/\zO W' w'):=fun W' hb=>wv _ _ _ (HT.out.1.below (hA.trans (hb.mono hA.size))) hl.1
 have HCS:Hid (∀W',zO W W'->Calls Tryz.prog 46 #[.slice as_ c.zf.length cs] W' fun e w'=>∃v',e=.returned v'/\zl W'.heap.size w' v' c.zf/\zO W' w'):=fun W' hb=>wv _ _ _ (HT.out.2.below (hA.trans (hb.mono hA.size))) hl.2
 clear x0 x1 x2 x3 x4 x5 r1
 go_region_held3 (fun w'=>(w'.cell? (zH w.heap.size 0)=some (zI c.m)/\w'.cell? (zH w.heap.size 1)=some (zI c.pc)/\w'.cell? (zH w.heap.size 2)=some (.slice at_ c.zh.length ct)/\w'.cell? (zH w.heap.size 3)=some (.slice as_ c.zf.length cs)/\w'.cell? (zH w.heap.size 5)=some (.bool c.zy))/\zO W w')
  ((refine HS _ ?_;first
   | (with_reducible exact(‹(_/\_/\_/\_/\_)/\zO W _›).2)
   | (with_reducible exact zS.drew)
   | (with_reducible exact V5)
   | (with_reducible exact hBS)
   | (with_reducible exact V5.alloc V5.size _)
   | (with_reducible exact hBS.alloc hBS.size _)))
  (first
   | (go_at_call 46;refine(HCT.out _ (‹(_/\_/\_/\_/\_)/\zO W _›).2).mono ?_;rintro e wT ⟨vT,rfl,hrT,hbT⟩;have V5:=Below.trans (‹(_/\_/\_/\_/\_)/\zO W _›).2 (hbT.mono ((‹(_/\_/\_/\_/\_)/\zO W _›).2).size);obtain⟨aT,kT,hvT,_⟩:=hrT.slice;subst hvT)
   | (go_at_call 46;refine(HCS.out _ (‹(_/\_/\_/\_/\_)/\zO W _›).2).mono ?_;rintro e wS ⟨vS,rfl,hrS,hbS⟩;have hBS:=Below.trans (‹(_/\_/\_/\_/\_)/\zO W _›).2 (hbS.mono ((‹(_/\_/\_/\_/\_)/\zO W _›).2).size);obtain⟨aS,kS,hvS,_⟩:=hrS.slice;subst hvS))
 all_goals first
  | (have hbXY:zO wT wS:=hbS;have hzX:w.heap.size<=W.heap.size:=hA.size;have J7:W.heap.size<=wT.heap.size:=V5.size;have hzY:=hbS.size;have N9:=zR wS (.cells #[.int .i64 c.m,.int .i64 c.pc,.slice aT c.zh.length kT,.slice aS c.zf.length kS,.bool c.zy] 186);have r9:=uP wS 186 (.int .i64 c.m) (.int .i64 c.pc) (.slice aT c.zh.length kT) (.slice aS c.zf.length kS) (.bool c.zy);have pX:=(hrT.below hbXY).below N9;have pY:=hrS.below N9;have B9:=(hA.trans (hBS.mono hA.size)).trans (N9.mono (Nat.le_trans hzX (Nat.le_trans J7 hzY)));have HFIN:Hid (uw w.heap.size (wS.alloc (.cells #[.int .i64 c.m,.int .i64 c.pc,.slice aT c.zh.length kT,.slice aS c.zf.length kS,.bool c.zy] 186)) wS.heap.size (.slice aT c.zh.length kT) (.slice aS c.zf.length kS) c):=⟨r9,pX.mono (by first | exact hzX | exact Nat.le_trans hzX J7),pY.mono (by first | exact hzX | exact Nat.le_trans hzX J7),by omega,fun g e=>⟨by have:=(hrT.lt g e).2;omega,fun e2=>by have q1:=hrT.lt g e;have q2:=hrS.lt g e2;omega⟩,fun g e=>by have:=(hrS.lt g e).2;omega⟩;clear HS HCT HCS;go_wp2;go_ret;exact⟨_,_,_,rfl,HFIN.out,B9⟩)
  | (have hbXY:zO wS wT:=hbT;have hzX:w.heap.size<=W.heap.size:=hA.size;have J7:W.heap.size<=wS.heap.size:=hBS.size;have hzY:=hbT.size;have N9:=zR wT (.cells #[.int .i64 c.m,.int .i64 c.pc,.slice aT c.zh.length kT,.slice aS c.zf.length kS,.bool c.zy] 186);have r9:=uP wT 186 (.int .i64 c.m) (.int .i64 c.pc) (.slice aT c.zh.length kT) (.slice aS c.zf.length kS) (.bool c.zy);have pX:=(hrS.below hbXY).below N9;have pY:=hrT.below N9;have B9:=(hA.trans (V5.mono hA.size)).trans (N9.mono (Nat.le_trans hzX (Nat.le_trans J7 hzY)));have HFIN:Hid (uw w.heap.size (wT.alloc (.cells #[.int .i64 c.m,.int .i64 c.pc,.slice aT c.zh.length kT,.slice aS c.zf.length kS,.bool c.zy] 186)) wT.heap.size (.slice aT c.zh.length kT) (.slice aS c.zf.length kS) c):=⟨r9,pY.mono (by first | exact hzX | exact Nat.le_trans hzX J7),pX.mono (by first | exact hzX | exact Nat.le_trans hzX J7),by omega,fun g e=>⟨by have:=(hrT.lt g e).2;omega,fun e2=>by have q1:=hrT.lt g e;have q2:=hrS.lt g e2;omega⟩,fun g e=>by have:=(hrS.lt g e).2;omega⟩;clear HS HCT HCS;go_wp2;go_ret;exact⟨_,_,_,rfl,HFIN.out,B9⟩)
theorem uw.kept {B:Nat} {w w1:World} {d:Nat} {vt vs:Value} {c:Cl} (h:uw B w d vt vs c) (hs:w.heap.size<=w1.heap.size) (hr:∀r,B<=r->r<w.heap.size->w1.heap[r]?=w.heap[r]?):uw B w1 d vt vs c:=by
 obtain⟨r,ht,hs',hd,Ww,hn2⟩:=h
 exact⟨World.rowIs.of_block r (hr d hd (World.rowIs.lt r)),ht.kept hs fun g e=>hr g (ht.lt g e).1 (ht.lt g e).2,hs'.kept hs fun g e=>hr g (hs'.lt g e).1 (hs'.lt g e).2,hd,Ww,hn2⟩
theorem uw.mono {B B':Nat} {w:World} {d:Nat} {vt vs:Value} {c:Cl} (h:uw B w d vt vs c) (hB:B'<=B):uw B' w d vt vs c:=by
 obtain⟨r,ht,hs',hd,Ww,hn2⟩:=h
 exact⟨r,ht.mono hB,hs'.mono hB,Nat.le_trans hB hd,Ww,hn2⟩
def zey (c:Cl):jg:=⟨c.m,c.pc,c.zh,c.zf,c.zy⟩
def zax (f:Fr):Cl:=⟨f.m,f.pc,f.zh,f.zf,-1,false⟩
def jJ (ms:zM) (m:Mc) (i k:Nat) (f:Fr):Bool :=
 kf ms m.zd.length (zax f) && (f.twin == -1 || (qy f.twin 0 ((m.zd.length:Int) - 1) && ((uU m f.twin).page == (i:Int) && (uU m f.twin).place == (k:Int))))
theorem zay (vq:Value) (ms:zM) (vp vo vt vs:Value) (m:Mc) (i k:Nat) (w:World) (hq:yD w vq ms) (h:yC w vp vo vt vs m) (hops:∀i,(h:i<ms.length)->ms[i].2.2.length<=1000000) (hi:i<m.za.length) (hk:k<m.za[i].zg.length) (F:Fr) (hF0:m.za[i].zg[k]=F) :
 Calls Tryz.prog 107 #[.agg #[vq],.agg (zu vp vo vt vs m).toArray,zI (i:Int),zI (k:Int)] w fun e w'=>e=.returned (.bool (jJ ms m i k F))/\zO w w':=by
 have HF:Hid (m.za[i].zg[k]=F):=hF0
 clear hF0
 have HOPS:Hid (∀i,(h:i<ms.length)->ms[i].2.2.length<=1000000):=hops
 clear hops
 have htm:m.zd.length<=maxLen:=by obtain⟨_,_,_,hl,_⟩:=id h.t;exact hl
 obtain⟨aq,cq,hvq,hlq,hcq⟩:=id hq
 subst hvq
 obtain⟨ap,cp,qz,hlp,hcp⟩:=id h.p
 obtain⟨ao,co,jw,hlo,hco⟩:=id h.o
 obtain⟨at',ct,jA,hlt',hct⟩:=id h.t
 obtain⟨as',cs,jG⟩:=h.s.shape
 subst qz jw jA jG
 unfold zu
 go_enter Tryz.func107,Tryz.ntmps107
 go_upto_region 1 with fail
 refine yg (fun W=>zO w W/\Bx W w.heap.size 25 [.slice aq ms.length cq]/\Bx W (w.heap.size+1) 34 [.int .i64 m.cells,.slice ap m.za.length cp,.slice ao m.order.length co,.int .i64 m.now,.slice at' m.zd.length ct,.int .i64 m.born,.slice as' m.zm.length cs,.int .i64 m.code]) ⟨(zR _ _).alloc (by simp) _,(Bx.new w _ _).alloc _,Bx.newAt _ _ _ (by simp)⟩ ?_
 rintro W ⟨hb,hx,hm⟩
 have x0:=hx.cell 0 rfl
 obtain⟨⟨m0,m1,m2,m3,m4,m5,m6,m7⟩,_⟩:=jW hm
 obtain⟨bp,op,vf,hap,xt⟩:=hcp i hi
 subst hap
 obtain⟨af,cf,QW,_,hcf⟩:=id xt.f
 obtain⟨bf,of,vt1,vs1,haf,hfr⟩:=hcf k hk
 subst haf
 have g1:=zc hb xt.c1
 rw[QW] at g1
 obtain⟨nf,hnf⟩:∃nf,m.za[i].zg.length=nf:=⟨_,rfl⟩
 rw[HF.out] at hfr
 rw[hnf] at g1
 obtain⟨d0,d1,d2,d3,d4,dt,ds⟩:=hfr.below hb
 obtain⟨a1,k1,e1⟩:=dt.shape
 obtain⟨a2,k2,e2⟩:=ds.shape
 rw[e1] at d3 dt
 rw[e2] at d4 ds
 have hiz:(i:Int)<(m.za.length:Int):=by omega
 have v7:(k:Int)<(nf:Int):=by omega
 have hkn:k<nf:=by omega
 have zb:=hb.size
 clear hcp xt QW hcf hfr HF e1 e2
 have HK0:Hid (m.za[i].zg.length=nf):=hnf
 clear hnf hk
 go_upto_region 2 with fail
 refine yg (fun W'=>zO W W'/\Bx W' W.heap.size 75 [.int .i64 F.m,.int .i64 F.pc,.int .i64 F.twin,.slice a1 F.zh.length k1,.slice a2 F.zf.length k2]) ⟨zR _ _,Bx.new _ _ _⟩ ?_
 rintro W2 ⟨t2,y2⟩
 have yE:=hb.trans (t2.mono zb)
 have ww:=hm.below t2
 have uW:=hx.below t2
 have z2:=yE.size
 have dt2:=dt.below t2
 have ds2:=ds.below t2
 clear hb hm hx t2 zb d0 d1 d2 d3 d4 dt ds m0 m1 m2 m3 m4 m5 m6 m7 x0 g1
 obtain⟨⟨m0,m1,m2,m3,m4,m5,m6,m7⟩,_⟩:=jW ww
 have x0:=uW.cell 0 rfl
 have y0:=y2.cell 0 rfl
 have y1:=y2.cell 1 rfl
 have y2':=y2.cell 2 rfl
 have y3:=y2.cell 3 rfl
 have y4:=y2.cell 4 rfl
 obtain⟨f,hf⟩:∃f,kf ms m.zd.length (zax F)=f:=⟨_,rfl⟩
 have HC:=YL _ _ _ ms (zax F) m.zd.length W2 (hq.below yE) (show yi W2 (.slice a1 F.zh.length k1) (zax F).zh from dt2) (show yi W2 (.slice a2 F.zf.length k2) (zax F).zf from ds2) htm HOPS.out
 rw[hf] at HC
 unfold kC zax at HC
 go_wp2_with fail
 refine HC.mono ?_
 rintro e W3 ⟨rfl,t3⟩
 have qR:=yE.trans (t3.mono z2)
 have Kw:=ww.below t3
 have y3r:=y2.below t3
 clear HC t3 ww uW y2 yE z2 dt2 ds2 m0 m1 m2 m3 m4 m5 m6 m7 x0 y0 y1 y2' y3 y4
 cases f
 ·have HE:Hid (jJ ms m i k F=false):=by show _=_;unfold jJ;rw[hf];rfl
  go_wp2
  go_ret
  exact⟨zp HE.out.symm,qR⟩
 have HE0:Hid (jJ ms m i k F=(F.twin == -1 || (qy F.twin 0 ((m.zd.length:Int) - 1) && ((uU m F.twin).page == (i:Int) && (uU m F.twin).place == (k:Int))))):=by show _=_;unfold jJ;rw[hf];rfl
 clear hf
 have y2':=y3r.cell 2 rfl
 obtain⟨⟨m0,m1,m2,m3,m4,m5,m6,m7⟩,_⟩:=jW Kw
 by_cases htw1:F.twin=-1
 ·have HE:Hid (jJ ms m i k F=true):=by rw[HE0.out,htw1];rfl
  rw[htw1] at y2'
  go_wp2
  go_ret
  exact⟨zp HE.out.symm,qR⟩
 have hte:(F.twin == -1)=false:=by simpa using htw1
 obtain⟨f,hf⟩:∃f,qy F.twin 0 ((m.zd.length:Int) - 1)=f:=⟨_,rfl⟩
 have HP:=zZ F.twin m.zd.length W3
 rw[hf] at HP
 go_wp2_with fail
 refine HP.mono ?_
 rintro e W4 ⟨rfl,hw⟩
 obtain rfl:=hw.symm
 clear hw HP
 cases f
 ·have HE:Hid (jJ ms m i k F=false):=by rw[HE0.out,hte,hf];rfl
  go_wp2
  go_ret
  exact⟨zp HE.out.symm,qR⟩
 obtain⟨j,hj,hjl⟩:=zdi hf
 rw[hte,hf,hj,ut hjl] at HE0
 rw[hj] at y2' hte
 obtain⟨b,o,vt,vs,hat,ZT⟩:=hct j hjl
 subst hat
 obtain⟨c0,c1,_,_,_,_,_,_,_,_⟩:=ZT.below qR
 have hjz:(j:Int)<(m.zd.length:Int):=by omega
 have HE1:Hid (jJ ms m i k F=(m.zd[j].page == (i:Int) && m.zd[j].place == (k:Int))):=by rw[HE0.out];rfl
 clear HE0 hf hct ZT hj htw1
 obtain⟨pgv,hpgv⟩:∃x,m.zd[j].page=x:=⟨_,rfl⟩
 obtain⟨plv,hplv⟩:∃x,m.zd[j].place=x:=⟨_,rfl⟩
 rw[hpgv] at c0 HE1
 rw[hplv] at c1 HE1
 clear hpgv hplv
 by_cases hpp:pgv=(i:Int)
 ·rw[hpp] at c0
  have HE:Hid (jJ ms m i k F=(plv == (k:Int))):=by show _=_;rw[HE1.out,hpp];simp
  go_wp2
  go_ret
  exact⟨zp HE.out.symm,qR⟩
 ·have hpf:(pgv == (i:Int))=false:=by simpa using hpp
  have HE:Hid (jJ ms m i k F=false):=by rw[HE1.out,hpf];rfl
  go_wp2
  go_ret
  exact⟨zp HE.out.symm,qR⟩
def Fr.none:Fr:=⟨0,0,-1,[],[]⟩
def frAt (m:Mc) (i k:Int):Fr:=(pgAt m i).zg.getD k.toNat Fr.none
theorem zc1 {m:Mc} {i k:Nat} (hi:i<m.za.length) (hk:k<m.za[i].zg.length):frAt m (i:Int) (k:Int)=m.za[i].zg[k]:=by unfold frAt;rw[kE hi];simp[hk]
theorem zgv {m:Mc} {i k:Int} (h:frB m i k=true):∃(a b:Nat) (ha:a<m.za.length),i=(a:Int)/\k=(b:Int)/\b<m.za[a].zg.length:=by
 unfold frB at h
 obtain⟨h1,h2⟩:=Bool.and_eq_true_iff.1 h
 obtain⟨a,rfl,ha⟩:=zdc h1
 rw[kE ha] at h2
 have h3:=zx.1 h2
 obtain⟨b,rfl⟩:=Int.eq_ofNat_of_zero_le h3.1
 exact⟨a,b,ha,rfl,rfl,by omega⟩
def kj (ms:zM) (m:Mc) (j:Nat) (t:Tw):Bool :=
 if t.page=-1 then t.place == 0 && kf ms m.zd.length t.left else frB m t.page t.place && ((frAt m t.page t.place).twin == (j:Int) && kO t.left)
theorem zcN (vq:Value) (ms:zM) (vp vo vt vs:Value) (m:Mc) (j:Nat) (w:World) (hq:yD w vq ms) (h:yC w vp vo vt vs m) (hops:∀i,(h:i<ms.length)->ms[i].2.2.length<=1000000) (hj:j<m.zd.length) (T:Tw) (hT0:m.zd[j]=T) :
 Calls Tryz.prog 66 #[.agg #[vq],.agg (zu vp vo vt vs m).toArray,zI (j:Int)] w fun e w'=>e=.returned (.bool (kj ms m j T))/\zO w w':=by
 have HT:Hid (m.zd[j]=T):=hT0
 clear hT0
 have HOPS:Hid (∀i,(h:i<ms.length)->ms[i].2.2.length<=1000000):=hops
 clear hops
 have htm:m.zd.length<=maxLen:=by obtain⟨_,_,_,hl,_⟩:=id h.t;exact hl
 obtain⟨aq,cq,hvq,hlq,hcq⟩:=id hq
 subst hvq
 obtain⟨ap,cp,qz,hlp,hcp⟩:=id h.p
 obtain⟨ao,co,jw,hlo,hco⟩:=id h.o
 obtain⟨at',ct,jA,hlt',hct⟩:=id h.t
 obtain⟨as',cs,jG⟩:=h.s.shape
 subst qz jw jA jG
 unfold zu
 go_enter Tryz.func66,Tryz.ntmps66
 go_upto_region 1 with fail
 refine yg (fun W=>zO w W/\Bx W w.heap.size 25 [.slice aq ms.length cq]/\Bx W (w.heap.size+1) 34 [.int .i64 m.cells,.slice ap m.za.length cp,.slice ao m.order.length co,.int .i64 m.now,.slice at' m.zd.length ct,.int .i64 m.born,.slice as' m.zm.length cs,.int .i64 m.code]) ⟨(zR _ _).alloc (by simp) _,(Bx.new w _ _).alloc _,Bx.newAt _ _ _ (by simp)⟩ ?_
 rintro W ⟨hb,hx,hm⟩
 have x0:=hx.cell 0 rfl
 obtain⟨⟨m0,m1,m2,m3,m4,m5,m6,m7⟩,_⟩:=jW hm
 obtain⟨b,o,vt,vs,hat,ZT⟩:=hct j hj
 subst hat
 rw[HT.out] at ZT
 obtain⟨d0,d1,d2,d3,d4,d5,d6,d7,dt,ds⟩:=ZT.below hb
 obtain⟨a1,k1,e1⟩:=dt.shape
 obtain⟨a2,k2,e2⟩:=ds.shape
 rw[e1] at d4 dt
 rw[e2] at d5 ds
 have hjz:(j:Int)<(m.zd.length:Int):=by omega
 have zb:=hb.size
 clear hct ZT e1 e2 HT
 go_upto_region 2 with fail
 refine yg (fun W'=>zO W W'/\Bx W' W.heap.size 124 [.int .i64 T.page,.int .i64 T.place,.int .i64 T.left.m,.int .i64 T.left.pc,.slice a1 T.left.zh.length k1,.slice a2 T.left.zf.length k2,.int .i64 T.left.zi,.bool T.left.zy]) ⟨zR _ _,Bx.new _ _ _⟩ ?_
 rintro W2 ⟨t2,y2⟩
 have yE:=hb.trans (t2.mono zb)
 have ww:=hm.below t2
 have uW:=hx.below t2
 have z2:=yE.size
 have dt2:=dt.below t2
 have ds2:=ds.below t2
 clear hb hm hx t2 zb d0 d1 d2 d3 d4 d5 d6 d7 dt ds m0 m1 m2 m3 m4 m5 m6 m7 x0
 obtain⟨⟨m0,m1,m2,m3,m4,m5,m6,m7⟩,_⟩:=jW ww
 obtain⟨⟨y0,y1,y2',y3,y4,y5,y6,y7⟩,_⟩:=jW y2
 have x0:=uW.cell 0 rfl
 by_cases hp:T.page=-1
 ·have HE0:Hid (kj ms m j T=(T.place == 0 && kf ms m.zd.length T.left)):=by show _=_;unfold kj;rw[if_pos hp]
  rw[hp] at y0
  by_cases hz:T.place=0
  ·have HE:Hid (kj ms m j T=kf ms m.zd.length T.left):=by rw[HE0.out,hz];rfl
   rw[hz] at y1
   have HC:=YL _ _ _ ms T.left m.zd.length W2 (hq.below yE) dt2 ds2 htm HOPS.out
   unfold kC at HC
   go_wp2_with fail
   refine HC.mono ?_
   rintro e W3 ⟨rfl,t3⟩
   have qR:=yE.trans (t3.mono z2)
   go_wp2
   go_ret
   exact⟨zp HE.out.symm,qR⟩
  ·have hze:(T.place == 0)=false:=by simpa using hz
   have HE:Hid (kj ms m j T=false):=by rw[HE0.out,hze];rfl
   go_wp2
   go_ret
   exact⟨zp HE.out.symm,yE⟩
 have hpe:(T.page == -1)=false:=by simpa using hp
 have HE0:Hid (kj ms m j T=(frB m T.page T.place && ((frAt m T.page T.place).twin == (j:Int) && kO T.left))):=by show _=_;unfold kj;rw[if_neg hp]
 go_upto_region 4 with fail
 have L0:=Gr.cell m0
 have L1:=Gr.cell m1
 have L2:=Gr.cell m2
 have L3:=Gr.cell m3
 have L4:=Gr.cell m4
 have L5:=Gr.cell m5
 have L6:=Gr.cell m6
 have L7:=Gr.cell m7
 have Y0:=Gr.cell y0
 have Y1:=Gr.cell y1
 have Y2:=Gr.cell y2'
 have Y3:=Gr.cell y3
 have Y4:=Gr.cell y4
 have Y5:=Gr.cell y5
 have Y6:=Gr.cell y6
 have Y7:=Gr.cell y7
 obtain⟨f,hf⟩:∃f,frB m T.page T.place=f:=⟨_,rfl⟩
 have HI:=jp (W:=W2) fun W' (hW:zO W2 W')=>JK _ _ _ _ m T.page T.place W' ((h.below yE).below hW)
 rw[hf] at HI
 unfold zu at HI
 cases f
 ·have HE:Hid (kj ms m j T=false):=by rw[HE0.out,hf];rfl
  clear HE0 hf
  refine WQ.region (by kernel_rfl) (by kernel_rfl) ?_
  iterate 28 (refine WQ.step (fun K hK=>?_);go_simp;first
   | (with_reducible refine hK _ ?_;clear hK K)
   | (with_reducible refine qC ?_;refine hK _ ?_;clear hK K)
   | (simp(contextual:=true) only [L0,L1,L2,L3,L4,L5,L6,L7,Y0,Y1,Result.andThen_ok,true_and];with_reducible refine qC ?_;refine hK _ ?_;clear hK K)
   | (with_reducible refine yF HI ?_;refine hK _ ?_;clear hK K))
  refine WQ.nil ?_
  intro W3 hG3
  have qR:=yE.trans (hG3.to.mono z2)
  clear hG3 HI L0 L1 L2 L3 L4 L5 L6 L7 Y0 Y1 Y2 Y3 Y4 Y5 Y6 Y7
  go_wp2
  go_ret
  exact⟨zp HE.out.symm,qR⟩
 obtain⟨i,k,hi,hie,hke,hk⟩:=zgv hf
 obtain⟨bp,op,vf,hap,xt⟩:=hcp i hi
 subst hap
 obtain⟨af,cf,QW,_,hcf⟩:=id xt.f
 obtain⟨bf,of,vt1,vs1,haf,hfr⟩:=hcf k hk
 subst haf
 have g1:=Gr.cell (zc yE xt.c1)
 rw[QW] at g1
 have q2:=Gr.cell (zc yE hfr.c2)
 rw[hie,hke,zc1 hi hk] at HE0
 rw[hie,hke] at hf HI
 rw[hie] at Y0 hpe
 rw[hke] at Y1
 have hiz:(i:Int)<(m.za.length:Int):=by omega
 have v7:(k:Int)<(m.za[i].zg.length:Int):=by omega
 obtain⟨nf,hnf⟩:∃nf,m.za[i].zg.length=nf:=⟨_,rfl⟩
 rw[hnf] at g1 v7
 have hkn:k<nf:=by omega
 obtain⟨tv,htv⟩:∃tv,m.za[i].zg[k].twin=tv:=⟨_,rfl⟩
 rw[htv] at q2 HE0
 clear hcp xt QW hcf hfr hnf hie hke htv hk y0 y1 y2' y3 y4 y5 y6 y7 m0 m1 m2 m3 m4 m5 m6 m7
 by_cases htj:tv=(j:Int)
 ·have HE:Hid (kj ms m j T=kO T.left):=by show _=_;rw[HE0.out,hf,htj];simp
  rw[htj] at q2
  have HM:=jp (W:=W2) fun W' (hW:zO W2 W')=>Ka T.left _ _ W' (dt2.below hW) (ds2.below hW)
  clear HE0 hf
  refine WQ.region (by kernel_rfl) (by kernel_rfl) ?_
  iterate 28 (refine WQ.step (fun K hK=>?_);go_simp;first
   | (with_reducible refine hK _ ?_;clear hK K)
   | (with_reducible refine qC ?_;refine hK _ ?_;clear hK K)
   | (simp(contextual:=true) only [L0,L1,L2,L3,L4,L5,L6,L7,Y0,Y1,Y2,Y3,Y4,Y5,Y6,Y7,g1,q2,Result.andThen_ok,true_and];with_reducible refine qC ?_;refine hK _ ?_;clear hK K)
   | (with_reducible refine yF HI ?_;refine hK _ ?_;clear hK K)
   | (with_reducible refine yF HM ?_;refine hK _ ?_;clear hK K))
  refine WQ.nil ?_
  intro W3 hG3
  have qR:=yE.trans (hG3.to.mono z2)
  clear hG3 HI HM L0 L1 L2 L3 L4 L5 L6 L7 Y0 Y1 Y2 Y3 Y4 Y5 Y6 Y7 g1 q2
  go_wp2
  go_ret
  exact⟨zp HE.out.symm,qR⟩
 ·have hte:(tv == (j:Int))=false:=by simpa using htj
  have HE:Hid (kj ms m j T=false):=by show _=_;rw[HE0.out,hte];simp
  clear HE0 hf
  refine WQ.region (by kernel_rfl) (by kernel_rfl) ?_
  iterate 28 (refine WQ.step (fun K hK=>?_);go_simp;first
   | (with_reducible refine hK _ ?_;clear hK K)
   | (with_reducible refine qC ?_;refine hK _ ?_;clear hK K)
   | (simp(contextual:=true) only [L0,L1,L2,L3,L4,L5,L6,L7,Y0,Y1,g1,q2,Result.andThen_ok,true_and];with_reducible refine qC ?_;refine hK _ ?_;clear hK K)
   | (with_reducible refine yF HI ?_;refine hK _ ?_;clear hK K))
  refine WQ.nil ?_
  intro W3 hG3
  have qR:=yE.trans (hG3.to.mono z2)
  clear hG3 HI L0 L1 L2 L3 L4 L5 L6 L7 Y0 Y1 Y2 Y3 Y4 Y5 Y6 Y7 g1 q2
  go_wp2
  go_ret
  exact⟨zp HE.out.symm,qR⟩
def jQ (fs:List Fr) (k:Nat):Nat:=((fs.take k).map fun f=>10+f.zh.length).sum
theorem Xi {fs:List Fr} {k:Nat} (h:k<fs.length):jQ fs (k+1)=jQ fs k+(10+fs[k].zh.length):=by
 unfold jQ
 rw[List.take_add_one,List.getElem?_eq_getElem h,List.map_append,List.sum_append]
 simp
theorem KD {fs:List Fr} (ht:∀i,(hi:i<fs.length)->fs[i].zh.length<=1048576):∀k,k<=fs.length->jQ fs k<=k * 1048586
 | 0,_=>Nat.zero_le _
 | k+1,h=>by
  rw[Xi (show k<fs.length from h)]
  have:=KD ht k (by omega)
  have:=ht k h
  omega
def jY (ms:zM) (m:Mc) (i:Nat) (p:Pg):Bool :=
 (List.range p.zg.length).all (fun k=>jJ ms m i k (p.zg.getD k Fr.none)) && (decide ((jQ p.zg p.zg.length:Int)<=m.cells) && uk m p)
theorem zfD {ms:zM} {m:Mc} {i:Nat} {p:Pg} {k:Nat} (hk:k<p.zg.length) (h:jJ ms m i k p.zg[k]=false):jY ms m i p=false:=by
 unfold jY
 rw[Bool.and_eq_false_iff]
 left
 rw[List.all_eq_false]
 exact⟨k,List.mem_range.2 hk,by simp[hk,h]⟩
theorem zea {ms:zM} {m:Mc} {i:Nat} {p:Pg} (h:∀k,(hk:k<p.zg.length)->jJ ms m i k p.zg[k]=true):jY ms m i p=(decide ((jQ p.zg p.zg.length:Int)<=m.cells) && uk m p):=by
 unfold jY
 have:(List.range p.zg.length).all (fun k=>jJ ms m i k (p.zg.getD k Fr.none))=true:=List.all_eq_true.2 fun k hk=>by
  have hk':=List.mem_range.1 hk
  simp[hk',h k hk']
 rw[this,Bool.true_and]
theorem zcz (vq:Value) (ms:zM) (vp vo vt vs:Value) (m:Mc) (i:Nat) (w:World) (hq:yD w vq ms) (h:yC w vp vo vt vs m) (hops:∀i,(h:i<ms.length)->ms[i].2.2.length<=1000000) (hi:i<m.za.length) (P:Pg) (hP0:m.za[i]=P) (hsm:∀i,(hi:i<m.za.length)->m.za[i].zg.length<=1099511627776) (htl:∀k,(hk:k<P.zg.length)->P.zg[k].zh.length<=1048576) :
 Calls Tryz.prog 65 #[.agg #[vq],.agg (zu vp vo vt vs m).toArray,zI (i:Int)] w fun e w'=>e=.returned (.bool (jY ms m i P))/\zO w w':=by
 have HP:Hid (m.za[i]=P):=hP0
 clear hP0
 have HOPS:Hid (∀i,(h:i<ms.length)->ms[i].2.2.length<=1000000):=hops
 have HSM:Hid (∀i,(hi:i<m.za.length)->m.za[i].zg.length<=1099511627776):=hsm
 have HTL:Hid (∀k,(hk:k<P.zg.length)->P.zg[k].zh.length<=1048576):=htl
 clear hops hsm htl
 obtain⟨aq,cq,hvq,hlq,hcq⟩:=id hq
 subst hvq
 obtain⟨ap,cp,qz,hlp,hcp⟩:=id h.p
 obtain⟨ao,co,jw,hlo,hco⟩:=id h.o
 obtain⟨at',ct,jA,hlt',hct⟩:=id h.t
 obtain⟨as',cs,jG⟩:=h.s.shape
 subst qz jw jA jG
 unfold zu
 go_enter Tryz.func65,Tryz.ntmps65
 go_upto_region 1 with fail
 refine yg (fun W=>zO w W/\Bx W w.heap.size 25 [.slice aq ms.length cq]/\Bx W (w.heap.size+1) 34 [.int .i64 m.cells,.slice ap m.za.length cp,.slice ao m.order.length co,.int .i64 m.now,.slice at' m.zd.length ct,.int .i64 m.born,.slice as' m.zm.length cs,.int .i64 m.code]) ⟨(zR _ _).alloc (by simp) _,(Bx.new w _ _).alloc _,Bx.newAt _ _ _ (by simp)⟩ ?_
 rintro W ⟨hb,hx,hm⟩
 have x0:=hx.cell 0 rfl
 obtain⟨⟨m0,m1,m2,m3,m4,m5,m6,m7⟩,_⟩:=jW hm
 obtain⟨bp,op,vf,hap,xt⟩:=hcp i hi
 subst hap
 rw[HP.out] at xt
 obtain⟨af,cf,QW,hlf,hcf⟩:=id xt.f
 have g0:=zc hb xt.c0
 have g1:=zc hb xt.c1
 rw[QW] at g1
 have hnb:P.zg.length<=1099511627776:=by have:=HSM.out i hi;rw[HP.out] at this;exact this
 have hiz:(i:Int)<(m.za.length:Int):=by omega
 have zb:=hb.size
 have HFR:Hid (∀k,(hk:k<P.zg.length)->∃hk':k<m.za[i].zg.length,m.za[i].zg[k]=P.zg[k]):=fun k hk=>by
  have e:=HP.out
  subst e
  exact⟨hk,rfl⟩
 have hMW:=h.below hb
 have hQW:=hq.below hb
 have HG:Hid (zev w bp (op+i * 2) vf P):=xt
 clear xt hcp
 go_wp2_with fail
 go_loopg [7,8,9,17] P.zg.length (fun d c _ _ v wr=>∃k:Nat,k<=P.zg.length/\d=P.zg.length - k/\v=zI (k:Int)/\c=zI (jQ P.zg k:Int)/\zO W wr/\∀q,(hq:q<P.zg.length)->q<k->jJ ms m i q P.zg[q]=true)
 case atStart=>exact⟨0,Nat.zero_le _,rfl,rfl,rfl,zS,fun q _ h=>absurd h yB⟩
 case round =>
  obtain⟨k,hk,rfl,rfl,rfl,hbr,hall⟩:=hrel
  have HALL:Hid (∀q,(hq:q<P.zg.length)->q<k->jJ ms m i q P.zg[q]=true):=hall
  clear hall
  have hxr:=hx.below hbr
  have hmr:=hm.below hbr
  have zr:=hbr.size
  have HBR:Hid (zO W wr):=hbr
  by_cases yt:k<P.zg.length
  ·obtain⟨bf,of,vt1,vs1,haf,hfr⟩:=hcf k yt
   subst haf
   obtain⟨d0,d1,d2,d3,d4,dt,ds⟩:=(hfr.below hb).below hbr
   obtain⟨a1,k1,e1⟩:=dt.shape
   obtain⟨a2,k2,e2⟩:=ds.shape
   rw[e1] at d3
   rw[e2] at d4
   have v7:(k:Int)<(P.zg.length:Int):=by omega
   have hcs:=Xi yt
   have hcl:=KD HTL.out (k+1) yt
   have htk:=HTL.out k yt
   have hcb:jQ P.zg (k+1)<=1152932500506378240:=Nat.le_trans hcl (by omega)
   obtain⟨F,hF⟩:∃F,P.zg[k]=F:=⟨_,rfl⟩
   rw[hF] at d0 d1 d2 d3 d4 hcs htk
   obtain⟨C,hC⟩:∃C,jQ P.zg k=C:=⟨_,rfl⟩
   rw[hC] at hcs
   have HCS:Hid (jQ P.zg (k+1)=C+(10+F.zh.length)):=hcs
   have hcb2:C+(10+F.zh.length)<=1152932500506378240:=by omega
   rw[hC]
   obtain⟨hk',hFe⟩:=HFR.out k yt
   have HFE:Hid (m.za[i].zg[k]=F):=hFe.trans hF
   have HFF:Hid (P.zg[k]=F):=hF
   clear hcs hcl hcb hC hF hFe e1 e2 dt ds hfr hcf
   go_upto_region 5 with fail
   refine yg (fun W'=>zO wr W'/\Bx W' wr.heap.size 75 [.int .i64 F.m,.int .i64 F.pc,.int .i64 F.twin,.slice a1 F.zh.length k1,.slice a2 F.zf.length k2]) ⟨zR _ _,Bx.new _ _ _⟩ ?_
   rintro W2 ⟨t2,y2⟩
   have yE:zO W W2:=HBR.out.trans (t2.mono zr)
   have ww:=hmr.below t2
   have uW:=hxr.below t2
   have z2:=yE.size
   clear t2 hmr hxr d0 d1 d2 d3 d4 m0 m1 m2 m3 m4 m5 m6 m7 x0 g0 g1
   obtain⟨⟨m0,m1,m2,m3,m4,m5,m6,m7⟩,_⟩:=jW ww
   have x0:=uW.cell 0 rfl
   obtain⟨f,hf⟩:∃f,jJ ms m i k F=f:=⟨_,rfl⟩
   have HFO:=zay _ ms _ _ _ _ m i k W2 (hQW.below yE) (hMW.below yE) HOPS.out hi hk' F HFE.out
   rw[hf] at HFO
   unfold zu at HFO
   go_wp2_with fail
   refine HFO.mono ?_
   rintro e W3 ⟨rfl,t3⟩
   have qR:zO W W3:=yE.trans (t3.mono z2)
   have y3:=y2.below t3
   clear HFO t3 ww uW y2 yE z2 m0 m1 m2 m3 m4 m5 m6 m7 x0
   cases f
   ·have HE:Hid (jY ms m i P=false):=zfD yt (by rw[HFF.out];exact hf)
    have hbe:=hb.trans (qR.mono zb)
    go_wp2
    go_ret
    exact⟨zp HE.out.symm,hbe⟩
   have HN:Hid (∀q,(hq:q<P.zg.length)->q<k+1->jJ ms m i q P.zg[q]=true):=fun q hq hqk=>by
    by_cases e:q=k
    ·subst e;rw[HFF.out];exact hf
    ·exact HALL.out q hq (by omega)
   have c3:=y3.cell 3 rfl
   clear hf HALL
   go_wp2_with fail
   refine(zan _ F.zh.length _ _ (by omega)).mono ?_
   rintro e W4 ⟨rfl,hw⟩
   obtain rfl:=hw.symm
   clear hw
   go_wp2
   go_roundg (P.zg.length - (k+1))
   case measure=>omega
   case rel=>exact⟨k+1,by omega,rfl,by go_num,by rw[HCS.out];simp,qR,HN.out⟩
  ·obtain rfl:k=P.zg.length:=by omega
   have HE0:Hid (jY ms m i P=(decide ((jQ P.zg P.zg.length:Int)<=m.cells) && uk m P)):=zea fun q hq=>HALL.out q hq hq
   have v7:¬((P.zg.length:Int)<(P.zg.length:Int)):=by omega
   go_upto_region 9 with fail
   obtain⟨⟨m0,m1,m2,m3,m4,m5,m6,m7⟩,_⟩:=jW hmr
   have G0:=Gr.cell (zc hbr g0)
   have G1:=Gr.cell (zc hbr g1)
   have L0:=Gr.cell m0
   have L1:=Gr.cell m1
   have L2:=Gr.cell m2
   have L3:=Gr.cell m3
   have L4:=Gr.cell m4
   have L5:=Gr.cell m5
   have L6:=Gr.cell m6
   have L7:=Gr.cell m7
   have HBO:=jp (W:=wr) fun W' (hW:zO wr W')=>zbP _ _ _ _ m P af cf W' ((hMW.below hbr).below hW) HSM.out
   unfold zu at HBO
   have hbw:=hb.trans (hbr.mono zb)
   have zw:=hbw.size
   obtain⟨C,hC⟩:∃C,jQ P.zg P.zg.length=C:=⟨_,rfl⟩
   rw[hC] at HE0 ⊢
   clear hC
   by_cases hcc:(C:Int)<=m.cells
   ·have HE:Hid (jY ms m i P=uk m P):=by show _=_;rw[HE0.out];simp[hcc]
    obtain⟨fb,Wq⟩:∃fb,uk m P=fb:=⟨_,rfl⟩
    rw[Wq] at HBO HE
    clear HE0 Wq m0 m1 m2 m3 m4 m5 m6 m7 x0
    refine WQ.region (by kernel_rfl) (by kernel_rfl) ?_
    iterate 14 (refine WQ.step (fun K hK=>?_);go_simp;first
     | (with_reducible refine hK _ ?_;clear hK K)
     | (with_reducible refine qC ?_;refine hK _ ?_;clear hK K)
     | (simp(contextual:=true) only [L0,L1,L2,L3,L4,L5,L6,L7,G0,G1,Result.andThen_ok,true_and];with_reducible refine qC ?_;refine hK _ ?_;clear hK K)
     | (with_reducible refine yF HBO ?_;refine hK _ ?_;clear hK K))
    refine WQ.nil ?_
    intro W3 hG3
    have qR:=hbw.trans (hG3.to.mono zw)
    clear hG3 HBO L0 L1 L2 L3 L4 L5 L6 L7 G0 G1
    go_wp2
    go_ret
    exact⟨zp HE.out.symm,qR⟩
   ·have HE:Hid (jY ms m i P=false):=by show _=_;rw[HE0.out];simp[hcc]
    have hcc2:m.cells<(C:Int):=by omega
    clear HE0 m0 m1 m2 m3 m4 m5 m6 m7 x0
    refine WQ.region (by kernel_rfl) (by kernel_rfl) ?_
    iterate 14 (refine WQ.step (fun K hK=>?_);go_simp;first
     | (with_reducible refine hK _ ?_;clear hK K)
     | (with_reducible refine qC ?_;refine hK _ ?_;clear hK K)
     | (simp(contextual:=true) only [L0,Result.andThen_ok,true_and];with_reducible refine qC ?_;refine hK _ ?_;clear hK K)
     | (with_reducible refine yF HBO ?_;refine hK _ ?_;clear hK K))
    refine WQ.nil ?_
    intro W3 hG3
    have qR:=hbw.trans (hG3.to.mono zw)
    clear hG3 HBO L0 L1 L2 L3 L4 L5 L6 L7 G0 G1
    go_wp2
    go_ret
    exact⟨zp HE.out.symm,qR⟩
theorem ua {ms:zM} (h:yn ms=true):kh ms=⟨[⟨0,0,List.replicate (yr ms) (0,0),[],-1,false⟩],0,1,[],0⟩:=if_pos h
theorem U2 (n:Int) (k:Nat):yI n (List.replicate k (0,0))=true:=by
 refine VN fun i hi=>?_
 simp[qW]
theorem zaY {ms:zM} (h:yn ms=true):KX ms (kh ms)=true:=by
 obtain⟨hl,h0,h4,ht,_⟩:=YD h
 have hg:ms.getD 0 (0,0,[])=ms[0]:=by simp[hl]
 rw[ua h]
 have hv:=U2 1 (yr ms)
 have hz:yI 1 []=true:=rfl
 have vJ:yI (ms.length:Int) []=true:=rfl
 have hm:qy 0 0 ((ms.length:Int) - 1)=true:=zx.2 ⟨by omega,by omega⟩
 have hpc:qy 0 0 (ms[0].2.2.length:Int)=true:=zx.2 ⟨by omega,by omega⟩
 have hc:kf ms 1 ⟨0,0,List.replicate (yr ms) (0,0),[],-1,false⟩=true:=by
  have a2:qy (-1) (-1) 0=true:=by decide
  have qF:ms[0]?=some ms[0]:=List.getElem?_eq_getElem hl
  simp[kf,qF,ht,hm,hpc,hv,hz,a2]
 have he:zat ⟨[⟨0,0,List.replicate (yr ms) (0,0),[],-1,false⟩],0,1,[],0⟩=true:=by
  simp[zat,xL,qh,jX,zde]
 have hd:KV ms ⟨[⟨0,0,List.replicate (yr ms) (0,0),[],-1,false⟩],0,1,[],0⟩=true:=by
  have a1:qy 0 (-1) (1 - 1)=true:=by decide
  have a2:qy 1 1 30=true:=by decide
  have a3:qy 0 0 3=true:=by decide
  simp[KV,h,vJ,a2,a3]
  exact a1
 simp only[KX,hd,he,List.all_cons,List.all_nil,List.length_cons,List.length_nil,Nat.zero_add,hc,Bool.and_self]
end Go.Proofs.YtbjgjjkgfnfejaaGreatDoor

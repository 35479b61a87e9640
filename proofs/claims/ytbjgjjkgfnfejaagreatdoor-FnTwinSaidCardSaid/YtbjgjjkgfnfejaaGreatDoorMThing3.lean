/-
  The program's step, its parts: what is taken.
-/
import Derived.Test.YtbjgjjkgfnfejaaGreatDoorMLive3
namespace Go.Proofs.YtbjgjjkgfnfejaaGreatDoor
set_option maxHeartbeats 4000000
set_option maxRecDepth 100000
open Go.RowKit
theorem KQ {B:Nat} (vp:Value) (ms:Ms) (hp:yr ms=true) (kk a t l:Int) (ht:yv ms kk a=(t,l)) (sa:Option Addr) (sc:Nat) (st:yH) (w:World) (hM:yD w vp ms) (hT:TabAt w) (hs:zk B w (.slice sa st.length sc) st) (hl:st.length<=6)
 (hbad:((st.length:Int) - t<0\/6<(st.length:Int) - t+l)\/qK kk (st.drop ((st.length:Int) - t).toNat)=false) :
 Calls Tryz.prog 128 #[.agg #[vp],.agg #[zI kk,zI a],.slice sa st.length sc] w fun e w'=>e=.returned (.tuple #[zQ,.bool false])/\zO w w':=by
 have hA:zO w ((w.alloc (.cells #[vp] 25)).alloc (.cells #[.int .i64 kk,.int .i64 a] 70)):=(zR _ _).alloc (by simp) _
 have hTB:=Zi hp kk a
 rw[ht] at hTB
 simp only[] at hTB
 obtain⟨ap,cp,qI,_⟩:=id hM
 subst qI
 have r0:=(QX w 25 (.slice ap ms.length cp)).alloc (.cells #[.int .i64 kk,.int .i64 a] 70)
 have r1:=xJ (w.alloc (.cells #[.slice ap ms.length cp] 25)) 70 (.int .i64 kk) (.int .i64 a)
 simp only[World.size_alloc] at r1
 have HT:=Qj (.slice ap ms.length cp) ms kk a _ (hM.below hA) (hT.below hA)
 rw[ht] at HT
 simp only[] at HT
 have hsA:=hs.below hA
 have HTK:Hid (yv ms kk a=(t,l)):=ht
 have hwl:IntKind.i64.wrap ((st.length:Int) - t)=(st.length:Int) - t:=by rw[IntKind.wrap_i64];omega
 have hwl2:IntKind.i64.wrap ((st.length:Int) - t+l)=(st.length:Int) - t+l:=by rw[IntKind.wrap_i64];omega
 clear hM hT hs ht
 go_enter Tryz.func128,Tryz.ntmps128
 go_upto_region 1 with fail
 generalize (w.alloc (.cells #[.slice ap ms.length cp] 25)).alloc (.cells #[.int .i64 kk,.int .i64 a] 70)=W at *
 obtain⟨⟨u0,u1⟩,_⟩:=zZ r1
 have v0:=r0.cell (i:=0) (by decide)
 go_upto_region 2 with(go_at_call 144;refine HT.mono ?_;rintro e w2 ⟨rfl,yL⟩)
 have s2:=hsA.below yL
 obtain⟨⟨x0,x1⟩,_⟩:=zZ (yp yL r1)
 have B2:zO w w2:=hA.trans (yL.mono hA.size)
 clear u0 u1 v0 r0 r1 HT hsA hA
 by_cases hneg:(st.length:Int) - t<0
 ·have hn':decide ((st.length:Int) - t<0)=true:=decide_eq_true hneg
  go_wp2_with fail
  go_region
  go_wp2
  go_ret2
  exact⟨rfl,B2.drew⟩
 by_cases hbig:6<(st.length:Int) - t+l
 ·have hn':decide ((st.length:Int) - t<0)=false:=decide_eq_false hneg
  have hg':decide (6<(st.length:Int) - t+l)=true:=decide_eq_true hbig
  go_wp2_with fail
  go_region
  go_wp2
  go_ret2
  exact⟨rfl,B2.drew⟩
 obtain⟨L,hL⟩:∃L:Nat,(st.length:Int) - t=(L:Int):=⟨((st.length:Int) - t).toNat,by omega⟩
 have hLn:L<=st.length:=by omega
 have hkb:qK kk (st.drop L)=false:=by
  rcases hbad with h | h
  ·omega
  ·rw[hL,Int.toNat_natCast] at h;exact h
 rw[hL] at hwl hwl2 hneg hbig
 have hLz:(L:Int)<=(st.length:Int):=by omega
 have hL0:(0:Int)<=(L:Int):=by omega
 obtain⟨hpF,_⟩:=s2.piece (l:=L) (k:=st.length) hLn zD
 rw[List.take_length] at hpF
 have hfrom:∀W,(Instr.slice 32 (.slice sa st.length sc) (some (zI (L:Int))) none none).run Tryz.prog W=.ok (sliced sa L st.length sc 2) W:=fun W=>zaz W sa _ sc L hLn
 generalize sliced sa L st.length sc 2=VF at *
 have hK:=Xb kk a VF (st.drop L) _ (hpF.below (Below.refl w2.heap.size w2).drew) (Zj HTK.out (by simp;omega)).1 (Zj HTK.out (by simp;omega)).2
 rw[hkb] at hK
 clear hbad hpF s2 hkb
 have hn':decide ((L:Int)<0)=false:=decide_eq_false hneg
 have hg':decide (6<(L:Int)+l)=false:=decide_eq_false hbig
 go_wp2_with fail
 go_region_held3 (fun w'=>w'.cell? (zH (w.heap.size+1) 0)=some (zI kk)/\w'.cell? (zH (w.heap.size+1) 1)=some (zI a))
  (first | with_reducible exact⟨x0,x1⟩ | exact⟨zc xn (show w2.drew.cell? _=_ from x0),zc xn (show w2.drew.cell? _=_ from x1)⟩ | go_keep)
  (first | (go_at_call 145;refine hK.mono ?_;rintro e w3 ⟨rfl,xn⟩))
 all_goals
  go_wp2
  go_ret2
  exact⟨rfl,B2.drew.trans (xn.mono B2.size)⟩
theorem Zh {B:Nat} (vp:Value) (ms:Ms) (hp:yr ms=true) (kk a t l:Int) (ht:yv ms kk a=(t,l)) (sa:Option Addr) (sc:Nat) (st:yH) (w:World) (hM:yD w vp ms) (hT:TabAt w) (hs:zk B w (.slice sa st.length sc) st) (hl:st.length<=6)
 {L:Nat} (hL:(st.length:Int) - t=(L:Int)) (hbig:(L:Int)+l<=6) (hkb:qK kk (st.drop L)=true) :
 Calls Tryz.prog 128 #[.agg #[vp],.agg #[zI kk,zI a],.slice sa st.length sc] w fun e w'=>∃v',e=.returned (.tuple #[v',.bool true])/\zk w.heap.size w' v' (st.drop L)/\zO w w':=by
 have hA:zO w ((w.alloc (.cells #[vp] 25)).alloc (.cells #[.int .i64 kk,.int .i64 a] 70)):=(zR _ _).alloc (by simp) _
 have hTB:=Zi hp kk a
 rw[ht] at hTB
 simp only[] at hTB
 obtain⟨ap,cp,qI,_⟩:=id hM
 subst qI
 have r0:=(QX w 25 (.slice ap ms.length cp)).alloc (.cells #[.int .i64 kk,.int .i64 a] 70)
 have r1:=xJ (w.alloc (.cells #[.slice ap ms.length cp] 25)) 70 (.int .i64 kk) (.int .i64 a)
 simp only[World.size_alloc] at r1
 have HT:=Qj (.slice ap ms.length cp) ms kk a _ (hM.below hA) (hT.below hA)
 rw[ht] at HT
 simp only[] at HT
 have hsA:=hs.below hA
 have HTK:Hid (yv ms kk a=(t,l)):=ht
 have hwl:IntKind.i64.wrap ((st.length:Int) - t)=(st.length:Int) - t:=by rw[IntKind.wrap_i64];omega
 have hwl2:IntKind.i64.wrap ((st.length:Int) - t+l)=(st.length:Int) - t+l:=by rw[IntKind.wrap_i64];omega
 clear hM hT hs ht
 go_enter Tryz.func128,Tryz.ntmps128
 go_upto_region 1 with fail
 generalize (w.alloc (.cells #[.slice ap ms.length cp] 25)).alloc (.cells #[.int .i64 kk,.int .i64 a] 70)=W at *
 obtain⟨⟨u0,u1⟩,_⟩:=zZ r1
 have v0:=r0.cell (i:=0) (by decide)
 go_upto_region 2 with(go_at_call 144;refine HT.mono ?_;rintro e w2 ⟨rfl,yL⟩)
 have s2:=hsA.below yL
 obtain⟨⟨x0,x1⟩,_⟩:=zZ (yp yL r1)
 have B2:zO w w2:=hA.trans (yL.mono hA.size)
 clear u0 u1 v0 r0 r1 HT hsA hA
 have hLn:L<=st.length:=by omega
 rw[hL] at hwl hwl2
 have hLz:(L:Int)<=(st.length:Int):=by omega
 have hL0:(0:Int)<=(L:Int):=by omega
 obtain⟨hpF,_⟩:=s2.piece (l:=L) (k:=st.length) hLn zD
 rw[List.take_length] at hpF
 have hfrom:∀W,(Instr.slice 32 (.slice sa st.length sc) (some (zI (L:Int))) none none).run Tryz.prog W=.ok (sliced sa L st.length sc 2) W:=fun W=>zaz W sa _ sc L hLn
 generalize sliced sa L st.length sc 2=VF at *
 have hK:=Xb kk a VF (st.drop L) _ (hpF.below (Below.refl w2.heap.size w2).drew) (Zj HTK.out (by simp;omega)).1 (Zj HTK.out (by simp;omega)).2
 rw[hkb] at hK
 clear s2 hkb
 have hn':decide ((L:Int)<0)=false:=decide_eq_false (by omega)
 have hg':decide (6<(L:Int)+l)=false:=decide_eq_false (by omega)
 go_wp2_with fail
 go_region_held3 (fun w'=>w'.cell? (zH (w.heap.size+1) 0)=some (zI kk)/\w'.cell? (zH (w.heap.size+1) 1)=some (zI a))
  (first | with_reducible exact⟨x0,x1⟩ | exact⟨zc xn (show w2.drew.cell? _=_ from x0),zc xn (show w2.drew.cell? _=_ from x1)⟩ | go_keep)
  (first | (go_at_call 145;refine hK.mono ?_;rintro e w3 ⟨rfl,xn⟩))
 all_goals
  have hpF3:=(hpF.below (Below.refl w2.heap.size w2).drew).below xn
  have B3:zO w w3:=B2.drew.trans (xn.mono B2.size)
  go_wp2_with (go_at_call 46;refine(uu _ _ _ hpF3 (by simp;omega)).mono ?_;rintro e w4 ⟨v4,rfl,Ko,Yg⟩)
  go_ret2
  exact⟨_,rfl,Ko.mono B3.size,B3.trans (Yg.mono B3.size)⟩
def YM (B:Nat) (w:World) (d:Nat) (vt vs:Value) (c:Cl):Prop :=
 w.rowIs d 186 5 (kq (zI c.m) (zI c.pc) vt vs (.bool c.zv))/\zk B w vt c.zg/\zk B w vs c.zf/\B<=d /\
 (∀g,vt.ownBlock=some g->g≠d/\vs.ownBlock≠some g)/\(∀g,vs.ownBlock=some g->g≠d)
theorem zaL (c:Cl) (vt vs:Value) (w:World) (ht:yo w vt c.zg) (hs:yo w vs c.zf) (hl:c.zg.length<=1000/\c.zf.length<=1000) :
 Calls Tryz.prog 86 #[.agg #[zI c.m,zI c.pc,vt,vs,zI c.zi,.bool c.zv]] w fun e w'=>∃(d:Nat) (U5 vs':Value),e=.returned (zJ d 0)/\YM w.heap.size w' d U5 vs' c/\zO w w':=by
 obtain⟨at_,ct,jz⟩:=ht.shape
 obtain⟨uS,cs,km⟩:=hs.shape
 subst jz km
 have hA:zO w (w.alloc (.cells #[.int .i64 c.m,.int .i64 c.pc,.slice at_ c.zg.length ct,.slice uS c.zf.length cs,.int .i64 c.zi,.bool c.zv] 96)):=zR _ _
 have r1:=wb w 96 (.int .i64 c.m) (.int .i64 c.pc) (.slice at_ c.zg.length ct) (.slice uS c.zf.length cs) (.int .i64 c.zi) (.bool c.zv)
 have HT:Hid (yo w (.slice at_ c.zg.length ct) c.zg/\yo w (.slice uS c.zf.length cs) c.zf):=⟨ht,hs⟩
 have hzA:w.heap.size<(w.alloc (.cells #[.int .i64 c.m,.int .i64 c.pc,.slice at_ c.zg.length ct,.slice uS c.zf.length cs,.int .i64 c.zi,.bool c.zv] 96)).heap.size:=by simp
 clear ht hs
 go_enter Tryz.func86,Tryz.ntmps86
 go_upto_region 1 with fail
 generalize w.alloc (.cells #[.int .i64 c.m,.int .i64 c.pc,.slice at_ c.zg.length ct,.slice uS c.zf.length cs,.int .i64 c.zi,.bool c.zv] 96)=W at *
 obtain⟨⟨x0,x1,x2,x3,x4,x5⟩,_⟩:=jS r1
 have HS:∀w':World,zO W w'->((w'.cell? (zH w.heap.size 0)=some (zI c.m)/\w'.cell? (zH w.heap.size 1)=some (zI c.pc)/\w'.cell? (zH w.heap.size 2)=some (.slice at_ c.zg.length ct)/\w'.cell? (zH w.heap.size 3)=some (.slice uS c.zf.length cs)/\w'.cell? (zH w.heap.size 5)=some (.bool c.zv))/\zO W w'):=fun w' hb=>⟨⟨zc hb x0,zc hb x1,zc hb x2,zc hb x3,zc hb x5⟩,hb⟩
 have HCT:Hid (∀W',zO W W'->Calls Tryz.prog 46 #[.slice at_ c.zg.length ct] W' fun e w'=>∃v',e=.returned v'/\zk W'.heap.size w' v' c.zg/\zO W' w'):=fun W' hb=>uu _ _ _ (HT.out.1.below (hA.trans (hb.mono hA.size))) hl.1
 have HCS:Hid (∀W',zO W W'->Calls Tryz.prog 46 #[.slice uS c.zf.length cs] W' fun e w'=>∃v',e=.returned v'/\zk W'.heap.size w' v' c.zf/\zO W' w'):=fun W' hb=>uu _ _ _ (HT.out.2.below (hA.trans (hb.mono hA.size))) hl.2
 clear x0 x1 x2 x3 x4 x5 r1
 go_region_held3 (fun w'=>(w'.cell? (zH w.heap.size 0)=some (zI c.m)/\w'.cell? (zH w.heap.size 1)=some (zI c.pc)/\w'.cell? (zH w.heap.size 2)=some (.slice at_ c.zg.length ct)/\w'.cell? (zH w.heap.size 3)=some (.slice uS c.zf.length cs)/\w'.cell? (zH w.heap.size 5)=some (.bool c.zv))/\zO W w')
  ((refine HS _ ?_;first
   | (with_reducible exact(‹(_/\_/\_/\_/\_)/\zO W _›).2)
   | (with_reducible exact zS.drew)
   | (with_reducible exact QN)
   | (with_reducible exact hBS)
   | (with_reducible exact QN.alloc QN.size _)
   | (with_reducible exact hBS.alloc hBS.size _)))
  (first
   | (go_at_call 46;refine(HCT.out _ (‹(_/\_/\_/\_/\_)/\zO W _›).2).mono ?_;rintro e wT ⟨vT,rfl,Vh,hbT⟩;have QN:=Below.trans (‹(_/\_/\_/\_/\_)/\zO W _›).2 (hbT.mono ((‹(_/\_/\_/\_/\_)/\zO W _›).2).size);obtain⟨aT,kT,hvT,_⟩:=Vh.slice;subst hvT)
   | (go_at_call 46;refine(HCS.out _ (‹(_/\_/\_/\_/\_)/\zO W _›).2).mono ?_;rintro e wS ⟨vS,rfl,hrS,hbS⟩;have hBS:=Below.trans (‹(_/\_/\_/\_/\_)/\zO W _›).2 (hbS.mono ((‹(_/\_/\_/\_/\_)/\zO W _›).2).size);obtain⟨aS,kS,hvS,_⟩:=hrS.slice;subst hvS))
 all_goals first
  | (have za6:zO wT wS:=hbS;have JW:w.heap.size<=W.heap.size:=hA.size;have ZQ:W.heap.size<=wT.heap.size:=QN.size;have hzY:=hbS.size;have N9:=zR wS (.cells #[.int .i64 c.m,.int .i64 c.pc,.slice aT c.zg.length kT,.slice aS c.zf.length kS,.bool c.zv] 186);have r9:=jj wS 186 (.int .i64 c.m) (.int .i64 c.pc) (.slice aT c.zg.length kT) (.slice aS c.zf.length kS) (.bool c.zv);have pX:=(Vh.below za6).below N9;have pY:=hrS.below N9;have B9:=(hA.trans (hBS.mono hA.size)).trans (N9.mono (Nat.le_trans JW (Nat.le_trans ZQ hzY)));have HFIN:Hid (YM w.heap.size (wS.alloc (.cells #[.int .i64 c.m,.int .i64 c.pc,.slice aT c.zg.length kT,.slice aS c.zf.length kS,.bool c.zv] 186)) wS.heap.size (.slice aT c.zg.length kT) (.slice aS c.zf.length kS) c):=⟨r9,pX.mono (by first | exact JW | exact Nat.le_trans JW ZQ),pY.mono (by first | exact JW | exact Nat.le_trans JW ZQ),by omega,fun g e=>⟨by have:=(Vh.lt g e).2;omega,fun e2=>by have q1:=Vh.lt g e;have q2:=hrS.lt g e2;omega⟩,fun g e=>by have:=(hrS.lt g e).2;omega⟩;clear HS HCT HCS;go_wp2;go_ret;exact⟨_,_,_,rfl,HFIN.out,B9⟩)
  | (have za6:zO wS wT:=hbT;have JW:w.heap.size<=W.heap.size:=hA.size;have ZQ:W.heap.size<=wS.heap.size:=hBS.size;have hzY:=hbT.size;have N9:=zR wT (.cells #[.int .i64 c.m,.int .i64 c.pc,.slice aT c.zg.length kT,.slice aS c.zf.length kS,.bool c.zv] 186);have r9:=jj wT 186 (.int .i64 c.m) (.int .i64 c.pc) (.slice aT c.zg.length kT) (.slice aS c.zf.length kS) (.bool c.zv);have pX:=(hrS.below za6).below N9;have pY:=Vh.below N9;have B9:=(hA.trans (QN.mono hA.size)).trans (N9.mono (Nat.le_trans JW (Nat.le_trans ZQ hzY)));have HFIN:Hid (YM w.heap.size (wT.alloc (.cells #[.int .i64 c.m,.int .i64 c.pc,.slice aT c.zg.length kT,.slice aS c.zf.length kS,.bool c.zv] 186)) wT.heap.size (.slice aT c.zg.length kT) (.slice aS c.zf.length kS) c):=⟨r9,pY.mono (by first | exact JW | exact Nat.le_trans JW ZQ),pX.mono (by first | exact JW | exact Nat.le_trans JW ZQ),by omega,fun g e=>⟨by have:=(Vh.lt g e).2;omega,fun e2=>by have q1:=Vh.lt g e;have q2:=hrS.lt g e2;omega⟩,fun g e=>by have:=(hrS.lt g e).2;omega⟩;clear HS HCT HCS;go_wp2;go_ret;exact⟨_,_,_,rfl,HFIN.out,B9⟩)
def jw.mine:jw->Prop
 | .run | .zm=>False
 | _=>True
structure LH (B:Nat) (w:World) (bl:Nat) (vcs:Value) (C D:Nat->Nat) (T:Nat->Value × Value) (cs:List Cl) (now:Int):Prop where
 hp:w.rowIs bl 105 2 (Jn vcs (jd C now))
 row:yg B 1 w vcs cs.length (wY C cs.length)
 cl:∀i,(hi:i<cs.length)->w.rowIs (C i) 159 3 (Vy (zJ (D i) 0) (zI i) (jd C cs[i].zi))
 bd:∀i,(hi:i<cs.length)->w.rowIs (D i) 186 5 (kq (zI cs[i].m) (zI cs[i].pc) (T i).1 (T i).2 (.bool cs[i].zv))
 ts:∀i,(hi:i<cs.length)->zk B w (T i).1 cs[i].zg/\zk B w (T i).2 cs[i].zf
 lo:∀x:jw,x.mine->x.ok cs.length->∀g,x.at bl 0 vcs (zQ) C D T=some g->B<=g/\g<w.heap.size
 ap:∀x y:jw,x.mine->y.mine->x.ok cs.length->y.ok cs.length->∀g,x.at bl 0 vcs (zQ) C D T=some g->y.at bl 0 vcs (zQ) C D T=some g->x=y
variable {B:Nat} {w w':World} {bl br:Nat} {vp vcs vsd:Value} {C D:Nat->Nat} {T:Nat->Value × Value} {cs:List Cl} {now:Int}
theorem LH.kept (k:LH B w bl vcs C D T cs now) (vJ:w.heap.size<=w'.heap.size) (hb:∀x:jw,x.mine->x.ok cs.length->∀g,x.at bl 0 vcs (zQ) C D T=some g->w'.heap[g]?=w.heap[g]?):LH B w' bl vcs C D T cs now :=
 ⟨k.hp.of_block (hb .heap trivial trivial _ rfl),k.row.kept vJ (hb .row trivial trivial),fun i hi=>(k.cl i hi).of_block (hb (.call i) trivial hi _ rfl),fun i hi=>(k.bd i hi).of_block (hb (.body i) trivial hi _ rfl),fun i hi=>⟨(k.ts i hi).1.kept vJ (hb (.zg i) trivial hi),(k.ts i hi).2.kept vJ (hb (.zf i) trivial hi)⟩,fun x hm hx g hg=>⟨(k.lo x hm hx g hg).1,Nat.lt_of_lt_of_le (k.lo x hm hx g hg).2 vJ⟩,k.ap⟩
theorem LH.below (k:LH B w bl vcs C D T cs now) (hb:zO w w'):LH B w' bl vcs C D T cs now :=
 k.kept hb.size fun x hm hx g hg=>hb.block g (k.lo x hm hx g hg).2
theorem LH.other (k:LH B w bl vcs C D T cs now) {x y:jw} (mx:x.mine) (my:y.mine) (hx:x.ok cs.length) (hy:y.ok cs.length) (qF:x≠y) {g g':Nat} (e:x.at bl 0 vcs (zQ) C D T=some g) (e':y.at bl 0 vcs (zQ) C D T=some g'):g≠g':=fun q=>qF (k.ap x y mx my hx hy g e (by rw[q];exact e'))
theorem LH.turnNow (k:LH B w bl vcs C D T cs now) (a:Int) (v:Value) (hv:v=jd C a):LH B (w.setCell (zH bl 1) v) bl vcs C D T cs a:=by
 subst hv
 have hz:w.heap.size<=(w.setCell (zH bl 1) (jd C a)).heap.size:=by simp[World.setCell]
 have hbl:∀y:jw,y.mine->y.ok cs.length->y≠.heap->∀g,y.at bl 0 vcs (zQ) C D T=some g->(w.setCell (zH bl 1) (jd C a)).heap[g]?=w.heap[g]?:=fun y my hy qF g hg=>Below.heap_setCell _ _ _ _ (fun q=>k.other (x:=y) (y:=.heap) my trivial hy trivial qF hg rfl q)
 exact⟨(k.hp.set 1 (jd C a)).congr fun i hi=>by match i,hi with | 0,_=>rfl | 1,_=>rfl,k.row.kept hz (hbl .row trivial trivial (by simp)),fun i hi=>(k.cl i hi).of_block (hbl (.call i) trivial hi (by simp) _ rfl),fun i hi=>(k.bd i hi).of_block (hbl (.body i) trivial hi (by simp) _ rfl),fun i hi=>⟨(k.ts i hi).1.kept hz (hbl (.zg i) trivial hi (by simp)),(k.ts i hi).2.kept hz (hbl (.zf i) trivial hi (by simp))⟩,fun y my hy g hg=>⟨(k.lo y my hy g hg).1,Nat.lt_of_lt_of_le (k.lo y my hy g hg).2 hz⟩,k.ap⟩
theorem LH.snd (k:LH B w bl vcs C D T cs now) {j:Nat} (hj:j<cs.length) (a:Int) (v:Value) (hv:v=jd C a):LH B (w.setCell (zH (C j) 2) v) bl vcs C D T (cs.set j {cs[j] with zi:=a}) now:=by
 subst hv
 have hl:(cs.set j {cs[j] with zi:=a}).length=cs.length:=List.length_set
 have hz:w.heap.size<=(w.setCell (zH (C j) 2) (jd C a)).heap.size:=by simp[World.setCell]
 have hbl:∀y:jw,y.mine->y.ok cs.length->y≠.call j->∀g,y.at bl 0 vcs (zQ) C D T=some g->(w.setCell (zH (C j) 2) (jd C a)).heap[g]?=w.heap[g]?:=fun y my hy qF g hg=>Below.heap_setCell _ _ _ _ (fun q=>k.other (x:=y) (y:=.call j) my trivial hy hj qF hg rfl q)
 have hgt:∀i,(hi:i<cs.length)->((cs.set j {cs[j] with zi:=a})[i]'(by rw[hl];exact hi)).m=cs[i].m/\((cs.set j {cs[j] with zi:=a})[i]'(by rw[hl];exact hi)).pc=cs[i].pc/\((cs.set j {cs[j] with zi:=a})[i]'(by rw[hl];exact hi)).zg=cs[i].zg/\((cs.set j {cs[j] with zi:=a})[i]'(by rw[hl];exact hi)).zf=cs[i].zf/\((cs.set j {cs[j] with zi:=a})[i]'(by rw[hl];exact hi)).zv=cs[i].zv:=fun i hi=>by
  by_cases e:j=i
  ·subst e;simp
  ·simp[List.getElem_set_ne e]
 refine⟨k.hp.of_block (hbl .heap trivial trivial (by simp) _ rfl),?_,fun i hi=>?_,fun i hi=>?_,fun i hi=>?_,?_,?_⟩
 ·rw[hl];exact k.row.kept hz (hbl .row trivial trivial (by simp))
 ·rw[hl] at hi
  by_cases e:j=i
  ·subst e;simp only[List.getElem_set_self];exact Uc (k.cl j hi) (jd C a)
  ·simp only[List.getElem_set_ne e]
   exact(k.cl i hi).of_block (hbl (.call i) trivial hi (fun q=>e (by injection q with q;exact q.symm)) _ rfl)
 ·rw[hl] at hi
  obtain⟨g1,g2,g3,g4,g5⟩:=hgt i hi
  rw[g1,g2,g5]
  exact(k.bd i hi).of_block (hbl (.body i) trivial hi (by simp) _ rfl)
 ·rw[hl] at hi
  obtain⟨g1,g2,g3,g4,g5⟩:=hgt i hi
  rw[g3,g4]
  exact⟨(k.ts i hi).1.kept hz (hbl (.zg i) trivial hi (by simp)),(k.ts i hi).2.kept hz (hbl (.zf i) trivial hi (by simp))⟩
 ·rw[hl];exact fun y my hy g hg=>⟨(k.lo y my hy g hg).1,Nat.lt_of_lt_of_le (k.lo y my hy g hg).2 hz⟩
 ·rw[hl];exact k.ap
theorem LH.push (k:LH B w bl vcs C D T cs (-1)) {c d:Nat} {vt vs xt:Value} {cl:Cl} (hsn:cl.zi=-1) (hsd:∀i,(hi:i<cs.length)->cs[i].zi=-1)
 (hB:B<=w.heap.size) (hc:w.heap.size<=c) (hd:w.heap.size<=d) (hcd:c≠d) (vJ:w.heap.size<=w'.heap.size) (hbl:∀g,g<w.heap.size->g≠bl->vcs.ownBlock≠some g->w'.heap[g]?=w.heap[g]?)
 (hhp:w'.rowIs bl 105 2 (Jn xt (.pointer none))) (zT:yg B 1 w' xt (cs.length+1) (wY C cs.length ++ [zJ c 0]))
 (hcl:w'.rowIs c 159 3 (Vy (zJ d 0) (zI cs.length) (.pointer none)))
 (hbd:w'.rowIs d 186 5 (kq (zI cl.m) (zI cl.pc) vt vs (.bool cl.zv))) (ht:zk B w' vt cl.zg) (hs:zk B w' vs cl.zf)
 (nv:∀q,xt.ownBlock=some q->vcs.ownBlock=some q\/(w.heap.size<=q/\q≠c/\q≠d)) (nt:∀q,vt.ownBlock=some q->w.heap.size<=q/\q≠c/\q≠d/\xt.ownBlock≠some q/\vs.ownBlock≠some q) (ns:∀q,vs.ownBlock=some q->w.heap.size<=q/\q≠c/\q≠d/\xt.ownBlock≠some q) :
 LH B w' bl xt (jf C cs.length c) (jf D cs.length d) (xT T cs.length (vt,vs)) (cs ++ [cl]) (-1):=by
 have hl:(cs ++ [cl]).length=cs.length+1:=by simp
 have hold:∀y:jw,y.ok cs.length->y≠.row->y.at bl 0 xt (zQ) (jf C cs.length c) (jf D cs.length d) (xT T cs.length (vt,vs))=y.at bl 0 vcs (zQ) C D T:=fun y hy h1=>by
  cases y with
  | row=>exact absurd rfl h1
  | call i=>simp only[jw.at];rw[xh _ (by have:i<cs.length:=hy;omega)]
  | body i=>simp only[jw.at];rw[xh _ (by have:i<cs.length:=hy;omega)]
  | zg i=>simp only[jw.at];rw[qJ _ _ (by have:i<cs.length:=hy;omega)]
  | zf i=>simp only[jw.at];rw[qJ _ _ (by have:i<cs.length:=hy;omega)]
  | _=>rfl
 have UC:∀y:jw,y.ok (cs.length+1)->¬y.ok cs.length->y=.call cs.length\/y=.body cs.length\/y=.zg cs.length\/y=.zf cs.length:=fun y h1 h2=>by
  cases y with
  | call i=>left;have q1:i<cs.length+1:=h1;have q2:¬i<cs.length:=h2;congr 1;omega
  | body i=>right;left;have q1:i<cs.length+1:=h1;have q2:¬i<cs.length:=h2;congr 1;omega
  | zg i=>right;right;left;have q1:i<cs.length+1:=h1;have q2:¬i<cs.length:=h2;congr 1;omega
  | zf i=>right;right;right;have q1:i<cs.length+1:=h1;have q2:¬i<cs.length:=h2;congr 1;omega
  | _=>exact absurd trivial h2
 have aC:(jw.call cs.length).at bl 0 xt (zQ) (jf C cs.length c) (jf D cs.length d) (xT T cs.length (vt,vs))=some c:=by simp only[jw.at,xK]
 have aD:(jw.body cs.length).at bl 0 xt (zQ) (jf C cs.length c) (jf D cs.length d) (xT T cs.length (vt,vs))=some d:=by simp only[jw.at,xK]
 have aT:(jw.zg cs.length).at bl 0 xt (zQ) (jf C cs.length c) (jf D cs.length d) (xT T cs.length (vt,vs))=vt.ownBlock:=by simp only[jw.at,xk]
 have aS:(jw.zf cs.length).at bl 0 xt (zQ) (jf C cs.length c) (jf D cs.length d) (xT T cs.length (vt,vs))=vs.ownBlock:=by simp only[jw.at,xk]
 have hkeep:∀y:jw,y.mine->y.ok cs.length->y≠.row->y≠.heap->∀g,y.at bl 0 vcs (zQ) C D T=some g->w'.heap[g]?=w.heap[g]?:=fun y my hy h1 h2 g hg =>
  hbl g (k.lo y my hy g hg).2 (fun e=>h2 (k.ap y .heap my trivial hy trivial g hg (by rw[e];rfl))) (fun e=>h1 (k.ap y .row my trivial hy trivial g hg e))
 have hrw:∀y:jw,y.mine->y.ok cs.length->y≠.row->∀g,y.at bl 0 vcs (zQ) C D T=some g->xt.ownBlock≠some g:=fun y my hy h1 g hg e=>by
  rcases nv g e with x | x
  ·exact h1 (k.ap y .row my trivial hy trivial g hg x)
  ·have:=(k.lo y my hy g hg).2;omega
 have hlow:∀y:jw,y.mine->y.ok cs.length->y≠.row->∀g,y.at bl 0 vcs (zQ) C D T=some g->g≠c/\g≠d/\vt.ownBlock≠some g/\vs.ownBlock≠some g:=fun y my hy h1 g hg=>by
  have h2:=(k.lo y my hy g hg).2
  exact⟨by omega,by omega,fun e=>by have:=(nt g e).1;omega,fun e=>by have:=(ns g e).1;omega⟩
 have hrn:xt.ownBlock≠some c/\xt.ownBlock≠some d:=by
  refine⟨fun e=>?_,fun e=>?_⟩
  ·rcases nv c e with x | x
   ·have:=(k.lo .row trivial trivial c x).2;omega
   ·exact x.2.1 rfl
  ·rcases nv d e with x | x
   ·have:=(k.lo .row trivial trivial d x).2;omega
   ·exact x.2.2 rfl
 have zdI:∀x y:jw,x.mine->y.mine->x.ok cs.length->y.ok (cs.length+1)->¬y.ok cs.length->∀g,x.at bl 0 xt (zQ) (jf C cs.length c) (jf D cs.length d) (xT T cs.length (vt,vs))=some g->y.at bl 0 xt (zQ) (jf C cs.length c) (jf D cs.length d) (xT T cs.length (vt,vs))=some g->False:=fun x y mx my hx hy hny g hgx xD=>by
  have YR:g≠c/\g≠d/\vt.ownBlock≠some g/\vs.ownBlock≠some g:=by
   by_cases x1:x=.row
   ·subst x1
    have e:xt.ownBlock=some g:=hgx
    exact⟨fun q=>hrn.1 (by rw[<-q];exact e),fun q=>hrn.2 (by rw[<-q];exact e),fun q=>(nt g q).2.2.2.1 e,fun q=>(ns g q).2.2.2 e⟩
   ·rw[hold x hx x1] at hgx
    exact hlow x mx hx x1 g hgx
  rcases UC y hy hny with rfl | rfl | rfl | rfl
  ·rw[aC] at xD;injection xD with q;exact YR.1 q.symm
  ·rw[aD] at xD;injection xD with q;exact YR.2.1 q.symm
  ·rw[aT] at xD;exact YR.2.2.1 xD
  ·rw[aS] at xD;exact YR.2.2.2 xD
 have hap:∀x y:jw,x.mine->y.mine->x.ok (cs.length+1)->y.ok (cs.length+1)->∀g,x.at bl 0 xt (zQ) (jf C cs.length c) (jf D cs.length d) (xT T cs.length (vt,vs))=some g->y.at bl 0 xt (zQ) (jf C cs.length c) (jf D cs.length d) (xT T cs.length (vt,vs))=some g->x=y:=fun x y mx my hx hy g hgx xD=>by
  by_cases x1:x.ok cs.length
  ·by_cases y1:y.ok cs.length
   ·by_cases x2:x=.row
    ·subst x2
     by_cases y2:y=.row
     ·exact y2.symm
     ·rw[hold y y1 y2] at xD;exact absurd hgx (hrw y my y1 y2 g xD)
    ·rw[hold x x1 x2] at hgx
     by_cases y2:y=.row
     ·subst y2;exact absurd xD (hrw x mx x1 x2 g hgx)
     ·rw[hold y y1 y2] at xD;exact k.ap x y mx my x1 y1 g hgx xD
   ·exact(zdI x y mx my x1 hy y1 g hgx xD).elim
  ·by_cases y1:y.ok cs.length
   ·exact(zdI y x my mx y1 hx x1 g xD hgx).elim
   ·rcases UC x hx x1 with rfl | rfl | rfl | rfl <;> rcases UC y hy y1 with rfl | rfl | rfl | rfl
    ·rfl
    ·rw[aC] at hgx;rw[aD] at xD;injection hgx with q;injection xD with q';omega
    ·rw[aC] at hgx;rw[aT] at xD;injection hgx with q;exact absurd q.symm (nt g xD).2.1
    ·rw[aC] at hgx;rw[aS] at xD;injection hgx with q;exact absurd q.symm (ns g xD).2.1
    ·rw[aD] at hgx;rw[aC] at xD;injection hgx with q;injection xD with q';omega
    ·rfl
    ·rw[aD] at hgx;rw[aT] at xD;injection hgx with q;exact absurd q.symm (nt g xD).2.2.1
    ·rw[aD] at hgx;rw[aS] at xD;injection hgx with q;exact absurd q.symm (ns g xD).2.2.1
    ·rw[aC] at xD;rw[aT] at hgx;injection xD with q;exact absurd q.symm (nt g hgx).2.1
    ·rw[aD] at xD;rw[aT] at hgx;injection xD with q;exact absurd q.symm (nt g hgx).2.2.1
    ·rfl
    ·rw[aT] at hgx;rw[aS] at xD;exact absurd xD (nt g hgx).2.2.2.2
    ·rw[aC] at xD;rw[aS] at hgx;injection xD with q;exact absurd q.symm (ns g hgx).2.1
    ·rw[aD] at xD;rw[aS] at hgx;injection xD with q;exact absurd q.symm (ns g hgx).2.2.1
    ·rw[aT] at xD;rw[aS] at hgx;exact absurd hgx (nt g xD).2.2.2.2
    ·rfl
 have Qh:∀(C':Nat->Nat),jd C' (-1)=.pointer none:=fun C'=>vr (by decide)
 refine⟨?_,?_,fun i hi=>?_,fun i hi=>?_,fun i hi=>?_,?_,?_⟩
 ·rw[Qh];exact hhp
 ·rw[hl,V6];exact zT
 ·rw[hl] at hi
  by_cases e:i<cs.length
  ·simp only[List.getElem_append_left e]
   rw[xh _ (by omega),xh _ (by omega),hsd i e,Qh]
   have:=(k.cl i e).of_block (hkeep (.call i) trivial e (by simp) (by simp) _ rfl)
   rw[hsd i e,Qh] at this
   exact this
  ·have e2:i=cs.length:=by omega
   subst e2
   have e3:(cs ++ [cl])[cs.length]'(by rw[hl];omega)=cl:=by rw[List.getElem_append_right (by omega)];simp
   simp only[e3]
   rw[xK,xK,hsn,Qh]
   exact hcl
 ·rw[hl] at hi
  by_cases e:i<cs.length
  ·simp only[List.getElem_append_left e]
   rw[xh _ (by omega),qJ _ _ (by omega)]
   exact(k.bd i e).of_block (hkeep (.body i) trivial e (by simp) (by simp) _ rfl)
  ·have e2:i=cs.length:=by omega
   subst e2
   have e3:(cs ++ [cl])[cs.length]'(by rw[hl];omega)=cl:=by rw[List.getElem_append_right (by omega)];simp
   simp only[e3]
   rw[xK,xk]
   exact hbd
 ·rw[hl] at hi
  by_cases e:i<cs.length
  ·simp only[List.getElem_append_left e]
   rw[qJ _ _ (by omega)]
   exact⟨(k.ts i e).1.kept vJ (hkeep (.zg i) trivial e (by simp) (by simp)),(k.ts i e).2.kept vJ (hkeep (.zf i) trivial e (by simp) (by simp))⟩
  ·have e2:i=cs.length:=by omega
   subst e2
   have e3:(cs ++ [cl])[cs.length]'(by rw[hl];omega)=cl:=by rw[List.getElem_append_right (by omega)];simp
   simp only[e3]
   rw[xk]
   exact⟨ht,hs⟩
 ·rw[hl]
  intro x mx hx g hg
  by_cases x1:x.ok cs.length
  ·by_cases x2:x=.row
   ·subst x2
    exact zT.lt g hg
   ·rw[hold x x1 x2] at hg
    have:=k.lo x mx x1 g hg
    omega
  ·rcases UC x hx x1 with rfl | rfl | rfl | rfl
   ·rw[aC] at hg;injection hg with q;subst q;exact⟨by omega,hcl.lt⟩
   ·rw[aD] at hg;injection hg with q;subst q;exact⟨by omega,hbd.lt⟩
   ·rw[aT] at hg;exact ht.lt g hg
   ·rw[aS] at hg;exact hs.lt g hg
 ·rw[hl];exact hap
theorem LH.start {bl:Nat} (hb:w.rowIs bl 105 2 (Jn (zQ) (.pointer none))) (hB:B<=bl) (C D:Nat->Nat) (T:Nat->Value × Value):LH B w bl (zQ) C D T [] (-1):=by
 refine⟨by rw[vr (by decide)];exact hb,⟨by simp[wY],.inl ⟨rfl,rfl⟩⟩,fun i hi=>absurd hi yB,fun i hi=>absurd hi yB,fun i hi=>absurd hi yB,fun x mx hx g hg=>?_,fun x y mx my hx hy g hgx xD=>?_⟩
 ·cases x with
  | heap=>injection hg with e;subst e;exact⟨hB,hb.lt⟩
  | run=>exact mx.elim
  | zm=>exact mx.elim
  | row=>simp[jw.at,Value.ownBlock] at hg
  | call i=>exact absurd hx yB
  | body i=>exact absurd hx yB
  | zg i=>exact absurd hx yB
  | zf i=>exact absurd hx yB
 ·have hh:∀z:jw,z.mine->z.ok ([]:List Cl).length->z.at bl 0 (zQ) (zQ) C D T=some g->z=.heap:=fun z mz hz hg=>by
   cases z with
   | heap=>rfl
   | run=>exact mz.elim
   | zm=>exact mz.elim
   | row=>simp[jw.at,Value.ownBlock] at hg
   | call i=>exact absurd hz yB
   | body i=>exact absurd hz yB
   | zg i=>exact absurd hz yB
   | zf i=>exact absurd hz yB
  rw[hh x mx hx hgx,hh y my hy xD]
theorem LH.run {h:Hp} (k:LH B w bl vcs C D T h.za h.now) (rn:w'.rowIs br 90 5 (kq vp (.iface 98 (zJ bl 0)) (zI h.born) vsd (zI h.code))) (hb:zO w w') (hbr:w.heap.size<=br) (hB:B<=w.heap.size) (sd:zk w.heap.size w' vsd h.zm) (qF:vsd.ownBlock≠some br):LV B w' bl br vp vcs vsd C D T h:=by
 have k':=k.below hb
 have zdT:∀x:jw,x.mine->x.at bl br vcs vsd C D T=x.at bl 0 vcs (zQ) C D T:=fun x mx=>by
  cases x with
  | run=>exact mx.elim
  | zm=>exact mx.elim
  | _=>rfl
 have hlow:∀x:jw,x.mine->x.ok h.za.length->∀g,x.at bl br vcs vsd C D T=some g->B<=g/\g<w.heap.size:=fun x mx hx g hg=>by
  rw[zdT x mx] at hg
  exact k.lo x mx hx g hg
 have hz:=hb.size
 refine⟨k'.hp,rn,k'.row,k'.cl,k'.bd,k'.ts,sd.mono hB,fun x hx g hg=>?_,fun x y hx hy g hgx xD=>?_⟩
 ·cases x with
  | run=>injection hg with e;subst e;exact⟨by omega,rn.lt⟩
  | zm=>have:=sd.lt g hg;exact⟨by omega,this.2⟩
  | heap=>have:=hlow .heap trivial hx g hg;omega
  | row=>have:=hlow .row trivial hx g hg;omega
  | call i=>have:=hlow (.call i) trivial hx g hg;omega
  | body i=>have:=hlow (.body i) trivial hx g hg;omega
  | zg i=>have:=hlow (.zg i) trivial hx g hg;omega
  | zf i=>have:=hlow (.zf i) trivial hx g hg;omega
 ·have hcase:∀z:jw,z.mine\/z=.run\/z=.zm:=fun z=>by cases z <;> first | exact .inl trivial | exact .inr (.inl rfl) | exact .inr (.inr rfl)
  have hr:∀z:jw,z.mine->z.ok h.za.length->z.at bl br vcs vsd C D T=some g->br≠g/\vsd.ownBlock≠some g:=fun z mz hz' hg=>by
   have h1:=hlow z mz hz' g hg
   exact⟨by omega,fun e=>by have:=sd.lt g e;omega⟩
  rcases hcase x with mx | rfl | rfl
  ·rcases hcase y with my | rfl | rfl
   ·rw[zdT x mx] at hgx
    rw[zdT y my] at xD
    exact k.ap x y mx my hx hy g hgx xD
   ·injection xD with e;exact absurd e (hr x mx hx hgx).1
   ·exact absurd xD (hr x mx hx hgx).2
  ·rcases hcase y with my | rfl | rfl
   ·injection hgx with e;exact absurd e (hr y my hy xD).1
   ·rfl
   ·injection hgx with e;subst e;exact absurd xD qF
  ·rcases hcase y with my | rfl | rfl
   ·exact absurd hgx (hr y my hy xD).2
   ·injection xD with e;subst e;exact absurd hgx qF
   ·rfl
def j6 (f:Int->Int) (v:Int × Int):Int × Int:=if v.1=2 then(v.1,f v.2) else v
theorem KJ (vp vo vt vs vl:Value) (m:Mc) (vv:Value) (vals:yH) (w:World) (h:Pl w vp vo vt vs vl m) (hl:yo w vv vals) (hvn:vals.length<=1000) (hok:∀i,(hi:i<vals.length)->vals[i].1=2->xg m vals[i].2=true) :
 Calls Tryz.prog 133 #[vv,.func (.func 134) #[.agg (zE vp vo vt vs m ++ [vl,zI (yd m.zd:Int)]).toArray] #[]] w fun e w'=>∃v,e=.returned v/\zk w.heap.size w' v (vals.map (j6 (ue m)))/\zO w w':=by
 have U8:=h
 obtain⟨hM,hL,hN,hTn⟩:=h
 obtain⟨ap,cp,qI,hlp,hcp⟩:=id hM.p
 obtain⟨ao,co,j5⟩:=hM.o.shape
 obtain⟨at',ct,jz,hlt',hct⟩:=id hM.t
 obtain⟨as',cs,km⟩:=hM.s.shape
 obtain⟨al,cl,XB,hll,hcl⟩:=id hL
 subst qI j5 jz km XB
 unfold zE
 simp only[List.cons_append,List.nil_append]
 obtain⟨av,cv,hvv,_,_⟩:=id hl
 subst hvv
 have HOK:Hid (∀i,(hi:i<vals.length)->vals[i].1=2->xg m vals[i].2=true):=hok
 clear hok hcl hct hcp
 have HCA:Hid (∀(x:Int) (W:World),zO w W->xg m x=true->Calls Tryz.prog 134 #[.agg #[zI m.cells,.slice ap m.zd.length cp,.slice ao m.order.length co,zI m.now,.slice at' m.ze.length ct,zI m.born,.slice as' m.zm.length cs,zI m.code,.slice al (xV m.zd).length cl,zI (yd m.zd:Int)],zI x] W fun e w'=>e=.returned (zI (ue m x))/\zO W w'):=fun x W hW hx=>by
  have:=Kz _ _ _ _ _ m x W (U8.below hW) hx
  unfold zE at this
  simpa only [List.cons_append,List.nil_append] using this
 go_enter Tryz.func133,Tryz.ntmps133
 go_wp2_with fail
 refine(uu _ vals _ hl hvn).mono ?_
 rintro e w1 ⟨v1,rfl,Kn,qa⟩
 obtain⟨a1,c1,hv1,_⟩:=Kn.slice
 subst hv1
 have xF:=qa.size
 go_wp2
 go_loopg [6,7,12] vals.length (fun g _ _ i wr=>∃(k:Nat) (ys:yH),k<=vals.length/\g=vals.length - k/\i=zI k/\ys.length=vals.length/\zk w.heap.size wr (.slice a1 vals.length c1) ys/\(∀q,(hq:q<ys.length)->(hq':q<vals.length)->(q<k->ys[q]=j6 (ue m) vals[q])/\(k<=q->ys[q]=vals[q]))/\zO w wr)
 case atStart=>exact⟨0,vals,Nat.zero_le _,rfl,rfl,rfl,Kn,fun q _ _=>⟨fun hq=>absurd hq yB,fun _=>rfl⟩,qa⟩
 case round =>
  obtain⟨k,ys,hk,rfl,rfl,hyl,hr,hys,hb⟩:=hrel
  have HY:Hid (∀q,(hq:q<ys.length)->(hq':q<vals.length)->(q<k->ys[q]=j6 (ue m) vals[q])/\(k<=q->ys[q]=vals[q])):=hys
  clear hys
  have zb:=hb.size
  by_cases yz:k<vals.length
  ·obtain⟨g1,o1,c2,e1,hgB,hgl⟩:=hr.form (by omega)
   obtain rfl:a1=some ⟨g1,o1,none⟩:=by injection e1
   clear e1
   have hky:k<ys.length:=by omega
   have HYK:Hid (ys[k]=vals[k]):=(HY.out k hky yz).2 zD
   obtain⟨⟨d0,d1⟩,f0,f1⟩:=hr.cell hky
   rw[HYK.out] at d0 d1
   have uW:(k:Int)<(vals.length:Int):=by omega
   have HOV:=HOK.out k yz
   have HV:Hid (j6 (ue m) vals[k]=if vals[k].1=2 then(vals[k].1,ue m vals[k].2) else vals[k]):=rfl
   obtain⟨va,hva⟩:∃va,vals[k].1=va:=⟨_,rfl⟩
   obtain⟨vb,hvb⟩:∃vb,vals[k].2=vb:=⟨_,rfl⟩
   have HVA:Hid (vals[k]=(va,vb)):=by show _=_;rw[<-hva,<-hvb]
   rw[hva] at d0 HV HOV
   rw[hvb] at d1 HV HOV
   clear hva hvb
   by_cases hkd:va=2
   ·subst hkd
    have zdU:=HOV rfl
    rw[if_pos rfl] at HV
    clear HOV
    go_upto_region 6 with fail
    refine ym (fun W'=>zO wr W'/\Bx W' wr.heap.size 86 [.int .i64 2,.int .i64 vb]) ⟨zR _ _,Bx.new _ _ _⟩ ?_
    rintro W2 ⟨t2,y2⟩
    have yL:=hb.trans (t2.mono zb)
    have YX:=hr.below t2
    have z2:=yL.size
    have y1:=y2.cell 1 rfl
    have HC:=HCA.out vb W2 yL zdU
    clear t2 hb hr d0 d1 f0 f1 y2 zdU
    go_wp2_with fail
    refine HC.mono ?_
    rintro e W3 ⟨rfl,t3⟩
    have xn:=yL.trans (t3.mono z2)
    have JT:=YX.below t3
    clear HC t3 yL YX y1
    obtain⟨⟨d0,d1⟩,f0,f1⟩:=JT.cell hky
    have hset:=JT.set1 k hky (ue m vb)
    rw[HYK.out,HVA.out] at hset
    have hbS:=xn.setCell (p:=zH g1 (o1+k * 2+1)) hgB (zI (ue m vb))
    clear xn JT
    go_wp2
    go_roundg (vals.length - (k+1))
    case measure=>omega
    case rel=>exact⟨k+1,_,by omega,rfl,by go_num,by rw[List.length_set];exact hyl,hset,fun q h1 h2=>by
     rw[List.length_set] at h1
     refine⟨fun hq=>?_,fun hq=>?_⟩
     ·by_cases e:q=k
      ·subst e;rw[List.getElem_set_self,HV.out]
      ·rw[List.getElem_set_ne (fun x=>e x.symm)];exact(HY.out q h1 h2).1 (by omega)
     ·rw[List.getElem_set_ne (by omega)];exact(HY.out q h1 h2).2 (by omega),hbS⟩
   ·rw[if_neg hkd] at HV
    have hke:(va == 2)=false:=by simpa using hkd
    have Kk:∀o,zO w (wr.alloc o):=fun o=>hb.alloc zb _
    have Q7:∀o,zk w.heap.size (wr.alloc o) (zK g1 o1 vals.length c1) ys:=fun o=>hr.below (zR _ _)
    have HBA:Hid _:=Kk
    have HRA:Hid _:=Q7
    clear HOV Kk Q7 hb hr
    go_wp2
    go_roundg (vals.length - (k+1))
    case measure=>omega
    case rel=>exact⟨k+1,ys,by omega,rfl,by go_num,hyl,HRA.out _,fun q h1 h2=>by
     refine⟨fun hq=>?_,fun hq=>(HY.out q h1 h2).2 (by omega)⟩
     by_cases e:q=k
     ·subst e;rw[HYK.out,HV.out]
     ·exact(HY.out q h1 h2).1 (by omega),HBA.out _⟩
  ·obtain rfl:k=vals.length:=by omega
   have hE:ys=vals.map (j6 (ue m)):=List.ext_getElem (by simpa using hyl) fun q h1 h2=>by rw[(HY.out q h1 (by simpa using h2)).1 (by simpa using h2)];simp
   subst hE
   go_wp2
   go_ret
   exact⟨_,rfl,hr,hb⟩
theorem KI (vp vo vt vs vl:Value) (m:Mc) (vv:Value) (vals:yH) (w:World) (h:Pl w vp vo vt vs vl m) (hl:yo w vv vals) (hvn:vals.length<=1000) (hok:∀i,(hi:i<vals.length)->vals[i].1=2->(vals[i].2 == -1 || xg m vals[i].2)=true) :
 Calls Tryz.prog 133 #[vv,.func (.func 132) #[.agg (zE vp vo vt vs m ++ [vl,zI (yd m.zd:Int)]).toArray] #[]] w fun e w'=>∃v,e=.returned v/\zk w.heap.size w' v (vals.map (j6 (jQ m)))/\zO w w':=by
 have U8:=h
 obtain⟨hM,hL,hN,hTn⟩:=h
 obtain⟨ap,cp,qI,hlp,hcp⟩:=id hM.p
 obtain⟨ao,co,j5⟩:=hM.o.shape
 obtain⟨at',ct,jz,hlt',hct⟩:=id hM.t
 obtain⟨as',cs,km⟩:=hM.s.shape
 obtain⟨al,cl,XB,hll,hcl⟩:=id hL
 subst qI j5 jz km XB
 unfold zE
 simp only[List.cons_append,List.nil_append]
 obtain⟨av,cv,hvv,_,_⟩:=id hl
 subst hvv
 have HOK:Hid (∀i,(hi:i<vals.length)->vals[i].1=2->(vals[i].2 == -1 || xg m vals[i].2)=true):=hok
 clear hok hcl hct hcp
 have HCA:Hid (∀(x:Int) (W:World),zO w W->(x == -1 || xg m x)=true->Calls Tryz.prog 132 #[.agg #[zI m.cells,.slice ap m.zd.length cp,.slice ao m.order.length co,zI m.now,.slice at' m.ze.length ct,zI m.born,.slice as' m.zm.length cs,zI m.code,.slice al (xV m.zd).length cl,zI (yd m.zd:Int)],zI x] W fun e w'=>e=.returned (zI (jQ m x))/\zO W w'):=fun x W hW hx=>by
  have:=ZU _ _ _ _ _ m x W (U8.below hW) hx
  unfold zE at this
  simpa only [List.cons_append,List.nil_append] using this
 go_enter Tryz.func133,Tryz.ntmps133
 go_wp2_with fail
 refine(uu _ vals _ hl hvn).mono ?_
 rintro e w1 ⟨v1,rfl,Kn,qa⟩
 obtain⟨a1,c1,hv1,_⟩:=Kn.slice
 subst hv1
 have xF:=qa.size
 go_wp2
 go_loopg [6,7,12] vals.length (fun g _ _ i wr=>∃(k:Nat) (ys:yH),k<=vals.length/\g=vals.length - k/\i=zI k/\ys.length=vals.length/\zk w.heap.size wr (.slice a1 vals.length c1) ys/\(∀q,(hq:q<ys.length)->(hq':q<vals.length)->(q<k->ys[q]=j6 (jQ m) vals[q])/\(k<=q->ys[q]=vals[q]))/\zO w wr)
 case atStart=>exact⟨0,vals,Nat.zero_le _,rfl,rfl,rfl,Kn,fun q _ _=>⟨fun hq=>absurd hq yB,fun _=>rfl⟩,qa⟩
 case round =>
  obtain⟨k,ys,hk,rfl,rfl,hyl,hr,hys,hb⟩:=hrel
  have HY:Hid (∀q,(hq:q<ys.length)->(hq':q<vals.length)->(q<k->ys[q]=j6 (jQ m) vals[q])/\(k<=q->ys[q]=vals[q])):=hys
  clear hys
  have zb:=hb.size
  by_cases yz:k<vals.length
  ·obtain⟨g1,o1,c2,e1,hgB,hgl⟩:=hr.form (by omega)
   obtain rfl:a1=some ⟨g1,o1,none⟩:=by injection e1
   clear e1
   have hky:k<ys.length:=by omega
   have HYK:Hid (ys[k]=vals[k]):=(HY.out k hky yz).2 zD
   obtain⟨⟨d0,d1⟩,f0,f1⟩:=hr.cell hky
   rw[HYK.out] at d0 d1
   have uW:(k:Int)<(vals.length:Int):=by omega
   have HOV:=HOK.out k yz
   have HV:Hid (j6 (jQ m) vals[k]=if vals[k].1=2 then(vals[k].1,jQ m vals[k].2) else vals[k]):=rfl
   obtain⟨va,hva⟩:∃va,vals[k].1=va:=⟨_,rfl⟩
   obtain⟨vb,hvb⟩:∃vb,vals[k].2=vb:=⟨_,rfl⟩
   have HVA:Hid (vals[k]=(va,vb)):=by show _=_;rw[<-hva,<-hvb]
   rw[hva] at d0 HV HOV
   rw[hvb] at d1 HV HOV
   clear hva hvb
   by_cases hkd:va=2
   ·subst hkd
    have zdU:=HOV rfl
    rw[if_pos rfl] at HV
    clear HOV
    go_upto_region 6 with fail
    refine ym (fun W'=>zO wr W'/\Bx W' wr.heap.size 86 [.int .i64 2,.int .i64 vb]) ⟨zR _ _,Bx.new _ _ _⟩ ?_
    rintro W2 ⟨t2,y2⟩
    have yL:=hb.trans (t2.mono zb)
    have YX:=hr.below t2
    have z2:=yL.size
    have y1:=y2.cell 1 rfl
    have HC:=HCA.out vb W2 yL zdU
    clear t2 hb hr d0 d1 f0 f1 y2 zdU
    go_wp2_with fail
    refine HC.mono ?_
    rintro e W3 ⟨rfl,t3⟩
    have xn:=yL.trans (t3.mono z2)
    have JT:=YX.below t3
    clear HC t3 yL YX y1
    obtain⟨⟨d0,d1⟩,f0,f1⟩:=JT.cell hky
    have hset:=JT.set1 k hky (jQ m vb)
    rw[HYK.out,HVA.out] at hset
    have hbS:=xn.setCell (p:=zH g1 (o1+k * 2+1)) hgB (zI (jQ m vb))
    clear xn JT
    go_wp2
    go_roundg (vals.length - (k+1))
    case measure=>omega
    case rel=>exact⟨k+1,_,by omega,rfl,by go_num,by rw[List.length_set];exact hyl,hset,fun q h1 h2=>by
     rw[List.length_set] at h1
     refine⟨fun hq=>?_,fun hq=>?_⟩
     ·by_cases e:q=k
      ·subst e;rw[List.getElem_set_self,HV.out]
      ·rw[List.getElem_set_ne (fun x=>e x.symm)];exact(HY.out q h1 h2).1 (by omega)
     ·rw[List.getElem_set_ne (by omega)];exact(HY.out q h1 h2).2 (by omega),hbS⟩
   ·rw[if_neg hkd] at HV
    have hke:(va == 2)=false:=by simpa using hkd
    have Kk:∀o,zO w (wr.alloc o):=fun o=>hb.alloc zb _
    have Q7:∀o,zk w.heap.size (wr.alloc o) (zK g1 o1 vals.length c1) ys:=fun o=>hr.below (zR _ _)
    have HBA:Hid _:=Kk
    have HRA:Hid _:=Q7
    clear HOV Kk Q7 hb hr
    go_wp2
    go_roundg (vals.length - (k+1))
    case measure=>omega
    case rel=>exact⟨k+1,ys,by omega,rfl,by go_num,hyl,HRA.out _,fun q h1 h2=>by
     refine⟨fun hq=>?_,fun hq=>(HY.out q h1 h2).2 (by omega)⟩
     by_cases e:q=k
     ·subst e;rw[HYK.out,HV.out]
     ·exact(HY.out q h1 h2).1 (by omega),HBA.out _⟩
  ·obtain rfl:k=vals.length:=by omega
   have hE:ys=vals.map (j6 (jQ m)):=List.ext_getElem (by simpa using hyl) fun q h1 h2=>by rw[(HY.out q h1 (by simpa using h2)).1 (by simpa using h2)];simp
   subst hE
   go_wp2
   go_ret
   exact⟨_,rfl,hr,hb⟩
def zfe (m:Mc) (c:Cl):Cl:=⟨c.m,c.pc,c.zg.map (j6 (jQ m)),c.zf.map (j6 (jQ m)),jQ m c.zi,c.zv⟩
theorem JI (vp vo vt vs vl:Value) (m:Mc) (c:Cl) (w1 w2:Value) (w:World) (h:Pl w vp vo vt vs vl m) (ht:yo w w1 c.zg) (hs:yo w w2 c.zf) (hl:c.zg.length<=1000/\c.zf.length<=1000) (hsd:(c.zi == -1 || xg m c.zi)=true)
 (ho1:∀i,(hi:i<c.zg.length)->c.zg[i].1=2->(c.zg[i].2 == -1 || xg m c.zg[i].2)=true) (ho2:∀i,(hi:i<c.zf.length)->c.zf[i].1=2->(c.zf[i].2 == -1 || xg m c.zf[i].2)=true) :
 Calls Tryz.prog 102 #[.agg #[zI c.m,zI c.pc,w1,w2,zI c.zi,.bool c.zv],.func (.func 132) #[.agg (zE vp vo vt vs m ++ [vl,zI (yd m.zd:Int)]).toArray] #[]] w fun e w'=>∃u1 u2,e=.returned (.agg #[zI c.m,zI c.pc,u1,u2,zI (jQ m c.zi),.bool c.zv]) /\
  zk w.heap.size w' u1 (c.zg.map (j6 (jQ m)))/\zk w.heap.size w' u2 (c.zf.map (j6 (jQ m)))/\(∀g,u1.ownBlock=some g->u2.ownBlock≠some g)/\zO w w':=by
 have U8:=h
 have HOS:Hid ((∀i,(hi:i<c.zg.length)->c.zg[i].1=2->(c.zg[i].2 == -1 || xg m c.zg[i].2)=true)/\(∀i,(hi:i<c.zf.length)->c.zf[i].1=2->(c.zf[i].2 == -1 || xg m c.zf[i].2)=true)):=⟨ho1,ho2⟩
 have HSD:Hid ((c.zi == -1 || xg m c.zi)=true):=hsd
 clear ho1 ho2 hsd
 obtain⟨hM,hL,hN,hTn⟩:=h
 obtain⟨ap,cp,qI,hlp,hcp⟩:=id hM.p
 obtain⟨ao,co,j5⟩:=hM.o.shape
 obtain⟨at',ct,jz,hlt',hct⟩:=id hM.t
 obtain⟨as',cs,km⟩:=hM.s.shape
 obtain⟨al,cl,XB,hll,hcl⟩:=id hL
 subst qI j5 jz km XB
 unfold zE
 simp only[List.cons_append,List.nil_append]
 obtain⟨a1,k1,e1⟩:=ht.shape
 obtain⟨a2,k2,e2⟩:=hs.shape
 subst e1 e2
 clear hcl hct hcp
 have HCA:Hid (∀(W:World),zO w W->Calls Tryz.prog 132 #[.agg #[zI m.cells,.slice ap m.zd.length cp,.slice ao m.order.length co,zI m.now,.slice at' m.ze.length ct,zI m.born,.slice as' m.zm.length cs,zI m.code,.slice al (xV m.zd).length cl,zI (yd m.zd:Int)],zI c.zi] W fun e w'=>e=.returned (zI (jQ m c.zi))/\zO W w'):=fun W hW=>by
  have:=ZU _ _ _ _ _ m c.zi W (U8.below hW) HSD.out
  unfold zE at this
  simpa only [List.cons_append,List.nil_append] using this
 have HRV:Hid (∀(W:World) (v:Value) (l:yH),zO w W->yo W v l->l.length<=1000->(∀i,(hi:i<l.length)->l[i].1=2->(l[i].2 == -1 || xg m l[i].2)=true)->Calls Tryz.prog 133 #[v,.func (.func 132) #[.agg #[zI m.cells,.slice ap m.zd.length cp,.slice ao m.order.length co,zI m.now,.slice at' m.ze.length ct,zI m.born,.slice as' m.zm.length cs,zI m.code,.slice al (xV m.zd).length cl,zI (yd m.zd:Int)]] #[]] W fun e w'=>∃v',e=.returned v'/\zk W.heap.size w' v' (l.map (j6 (jQ m)))/\zO W w'):=fun W v l hW hv hl ho=>by
  have:=KI _ _ _ _ _ m v l W (U8.below hW) hv hl ho
  unfold zE at this
  simpa only [List.cons_append,List.nil_append] using this
 go_enter Tryz.func102,Tryz.ntmps102
 go_upto_region 1 with fail
 refine ym (fun W=>zO w W/\Bx W w.heap.size 96 [.int .i64 c.m,.int .i64 c.pc,.slice a1 c.zg.length k1,.slice a2 c.zf.length k2,.int .i64 c.zi,.bool c.zv]/\Bx W (w.heap.size+1) 96 [.int .i64 0,.int .i64 0,.slice none 0 0,.slice none 0 0,.int .i64 0,.bool false]) ⟨(zR _ _).alloc (by simp) _,(Bx.new w _ _).alloc _,Bx.newAt _ _ _ (by simp)⟩ ?_
 rintro W0 ⟨B0,x0,y0⟩
 have z0:=B0.size
 have p4:=x0.cell 4 rfl
 go_wp2_with fail
 refine(HCA.out _ B0).mono ?_
 rintro e V1 ⟨rfl,t1⟩
 have bx1:=x0.below t1
 have by1:=y0.below t1
 have BB1:=B0.trans (t1.mono z0)
 clear t1 x0 y0 B0 z0 p4
 have p4:=bx1.cell 4 rfl
 have f4:=bx1.frozen 4
 go_upto_region 2 with fail
 refine ym (fun W=>zO w W/\Bx W w.heap.size 96 [zI c.m,zI c.pc,.slice a1 c.zg.length k1,.slice a2 c.zf.length k2,zI (jQ m c.zi),.bool c.zv]/\Bx W (w.heap.size+1) 96 [zI 0,zI 0,zQ,zQ,zI 0,.bool false]) ?_ ?_
 ·have HW:=(Wr.refl1 w.heap.size V1).set1 (o:=4) (zI (jQ m c.zi))
  exact⟨HW.below1 BB1 zD zD,bx1.set 4 _,HW.bx by1 (by omega)⟩
 clear bx1 by1 BB1 p4 f4
 rintro W1 ⟨B1,x1,y1⟩
 have z1:=B1.size
 have p2:=x1.cell 2 rfl
 go_wp2_with fail
 refine(HRV.out _ _ c.zg B1 (ht.below B1) hl.1 HOS.out.1).mono ?_
 rintro e V2 ⟨u1,rfl,r1,t2⟩
 obtain⟨a3,k3,e3,_⟩:=r1.slice
 rw[List.length_map] at e3
 subst e3
 have bx2:=x1.below t2
 have by2:=y1.below t2
 have BB2:=B1.trans (t2.mono z1)
 have hl1:w.heap.size+1<W1.heap.size:=y1.lt
 clear t2 x1 y1 B1 p2
 have p2:=bx2.cell 2 rfl
 have f2:=bx2.frozen 2
 go_upto_region 3 with fail
 refine ym (fun W=>zO w W/\Bx W w.heap.size 96 [zI c.m,zI c.pc,.slice a3 c.zg.length k3,.slice a2 c.zf.length k2,zI (jQ m c.zi),.bool c.zv]/\Bx W (w.heap.size+1) 96 [zI 0,zI 0,zQ,zQ,zI 0,.bool false]/\zk W1.heap.size W (.slice a3 c.zg.length k3) (c.zg.map (j6 (jQ m)))) ?_ ?_
 ·have HW:=(Wr.refl1 w.heap.size V2).set1 (o:=2) (.slice a3 c.zg.length k3)
  exact⟨HW.below1 BB2 zD zD,bx2.set 2 _,HW.bx by2 (by omega),HW.pair r1 (fun g e e2=>by have:=(r1.lt g e).1;omega)⟩
 clear bx2 by2 BB2 p2 f2 r1
 rintro W2 ⟨B2,x2,y2,r2⟩
 have z2:=B2.size
 have p3:=x2.cell 3 rfl
 go_wp2_with fail
 refine(HRV.out _ _ c.zf B2 (hs.below B2) hl.2 HOS.out.2).mono ?_
 rintro e V3 ⟨u2,rfl,r3,t3⟩
 obtain⟨a4,k4,e4,_⟩:=r3.slice
 rw[List.length_map] at e4
 subst e4
 have bx3:=x2.below t3
 have by3:=y2.below t3
 have br3:=r2.below t3
 have BB3:=B2.trans (t3.mono z2)
 have hl2:w.heap.size+1<W2.heap.size:=y2.lt
 have HAP:Hid (∀g,(Value.slice a3 c.zg.length k3).ownBlock=some g->(Value.slice a4 c.zf.length k4).ownBlock≠some g):=fun g e e2=>by have h1:=(r2.lt g e).2;have h2:=(r3.lt g e2).1;omega
 clear t3 x2 y2 B2 p3 r2
 have p3:=bx3.cell 3 rfl
 have f3:=bx3.frozen 3
 go_upto_region 4 with fail
 refine ym (fun W=>zO w W/\Bx W w.heap.size 96 [zI c.m,zI c.pc,.slice a3 c.zg.length k3,.slice a4 c.zf.length k4,zI (jQ m c.zi),.bool c.zv]/\Bx W (w.heap.size+1) 96 [zI 0,zI 0,zQ,zQ,zI 0,.bool false]/\zk W1.heap.size W (.slice a3 c.zg.length k3) (c.zg.map (j6 (jQ m)))/\zk W2.heap.size W (.slice a4 c.zf.length k4) (c.zf.map (j6 (jQ m)))) ?_ ?_
 ·have HW:=(Wr.refl1 w.heap.size V3).set1 (o:=3) (.slice a4 c.zf.length k4)
  exact⟨HW.below1 BB3 zD zD,bx3.set 3 _,HW.bx by3 (by omega),HW.pair br3 (fun g e e2=>by have:=(br3.lt g e).1;omega),HW.pair r3 (fun g e e2=>by have:=(r3.lt g e).1;omega)⟩
 clear bx3 by3 BB3 p3 f3 br3 r3
 rintro W3 ⟨B3,x3,y3,r3,s3⟩
 have p0:=x3.cell 0 rfl
 have pf0:=x3.frozen 0
 have p1:=x3.cell 1 rfl
 have pf1:=x3.frozen 1
 have p2:=x3.cell 2 rfl
 have pf2:=x3.frozen 2
 have p3:=x3.cell 3 rfl
 have pf3:=x3.frozen 3
 have p4:=x3.cell 4 rfl
 have pf4:=x3.frozen 4
 have p5:=x3.cell 5 rfl
 have pf5:=x3.frozen 5
 have q0:=y3.cell 0 rfl
 have qf0:=y3.frozen 0
 have q1:=y3.cell 1 rfl
 have qf1:=y3.frozen 1
 have q2:=y3.cell 2 rfl
 have qf2:=y3.frozen 2
 have q3:=y3.cell 3 rfl
 have qf3:=y3.frozen 3
 have q4:=y3.cell 4 rfl
 have qf4:=y3.frozen 4
 have q5:=y3.cell 5 rfl
 have qf5:=y3.frozen 5
 go_wp2
 refine xU (fun W=>zO w W/\Bx W (w.heap.size+1) 96 [zI c.m,zI c.pc,.slice a3 c.zg.length k3,.slice a4 c.zf.length k4,zI (jQ m c.zi),.bool c.zv]/\zk w.heap.size W (.slice a3 c.zg.length k3) (c.zg.map (j6 (jQ m)))/\zk w.heap.size W (.slice a4 c.zf.length k4) (c.zf.map (j6 (jQ m)))) ?_ ?_
 ·have HW:=((((((Wr.refl1 (w.heap.size+1) W3).set1 (o:=0) (zI c.m)).set1 (o:=1) (zI c.pc)).set1 (o:=2) (.slice a3 c.zg.length k3)).set1 (o:=3) (.slice a4 c.zf.length k4)).set1 (o:=4) (zI (jQ m c.zi))).set1 (o:=5) (.bool c.zv)
  exact⟨HW.below1 B3 zD (Nat.le_succ _),(((((y3.set 0 _).set 1 _).set 2 _).set 3 _).set 4 _).set 5 _,(HW.pair r3 (fun g e e2=>by have:=(r3.lt g e).1;omega)).mono (by omega),(HW.pair s3 (fun g e e2=>by have:=(s3.lt g e).1;omega)).mono (by omega)⟩
 rintro W9 ⟨B9,x9,r9,s9⟩
 have i0:=x9.cell 0 rfl
 have i1:=x9.cell 1 rfl
 have i2:=x9.cell 2 rfl
 have i3:=x9.cell 3 rfl
 have i4:=x9.cell 4 rfl
 have i5:=x9.cell 5 rfl
 exact bodyPost_ret (v:=.agg #[zI c.m,zI c.pc,.slice a3 c.zg.length k3,.slice a4 c.zf.length k4,zI (jQ m c.zi),.bool c.zv]) (by simp[results,Tryz.results102,go_sem,i0,i1,i2,i3,i4,i5]) rfl ⟨_,_,rfl,r9,s9,HAP.out,B9⟩
def xI (m:Mc) (t:Tw):Cl:=if t.page=-1 then zfe m t.left else⟨0,0,[],[],-1,true⟩
theorem JN (vp vo vt vs vl:Value) (m:Mc) (T:Tw) (w1 w2:Value) (w:World) (h:Pl w vp vo vt vs vl m) (ht:yo w w1 T.left.zg) (hs:yo w w2 T.left.zf) (hl:T.left.zg.length<=1000/\T.left.zf.length<=1000)
 (hok:T.page=-1->(T.left.zi == -1 || xg m T.left.zi)=true/\(∀i,(hi:i<T.left.zg.length)->T.left.zg[i].1=2->(T.left.zg[i].2 == -1 || xg m T.left.zg[i].2)=true)/\(∀i,(hi:i<T.left.zf.length)->T.left.zf[i].1=2->(T.left.zf[i].2 == -1 || xg m T.left.zf[i].2)=true)) :
 Calls Tryz.prog 95 #[.agg (zE vp vo vt vs m ++ [vl,zI (yd m.zd:Int)]).toArray,.agg #[zI T.page,zI T.place,zI T.left.m,zI T.left.pc,w1,w2,zI T.left.zi,.bool T.left.zv]] w fun e w'=>∃u1 u2,e=.returned (.agg #[zI (xI m T).m,zI (xI m T).pc,u1,u2,zI (xI m T).zi,.bool (xI m T).zv]) /\
  zk w.heap.size w' u1 (xI m T).zg/\zk w.heap.size w' u2 (xI m T).zf/\(∀g,u1.ownBlock=some g->u2.ownBlock≠some g)/\zO w w':=by
 have U8:=h
 have HOK:Hid (T.page=-1->(T.left.zi == -1 || xg m T.left.zi)=true/\(∀i,(hi:i<T.left.zg.length)->T.left.zg[i].1=2->(T.left.zg[i].2 == -1 || xg m T.left.zg[i].2)=true)/\(∀i,(hi:i<T.left.zf.length)->T.left.zf[i].1=2->(T.left.zf[i].2 == -1 || xg m T.left.zf[i].2)=true)):=hok
 clear hok
 obtain⟨Th,hTh⟩:∃Th,xI m T=Th:=⟨_,rfl⟩
 have HTH:Hid (xI m T=Th):=hTh
 rw[hTh]
 clear hTh
 obtain⟨hM,hL,hN,hTn⟩:=h
 obtain⟨ap,cp,qI,hlp,hcp⟩:=id hM.p
 obtain⟨ao,co,j5⟩:=hM.o.shape
 obtain⟨at',ct,jz,hlt',hct⟩:=id hM.t
 obtain⟨as',cs,km⟩:=hM.s.shape
 obtain⟨al,cl,XB,hll,hcl⟩:=id hL
 subst qI j5 jz km XB
 unfold zE
 simp only[List.cons_append,List.nil_append]
 obtain⟨a1,k1,e1⟩:=ht.shape
 obtain⟨a2,k2,e2⟩:=hs.shape
 subst e1 e2
 clear hcl hct hcp
 go_enter Tryz.func95,Tryz.ntmps95
 go_upto_region 1 with fail
 refine ym (fun W=>zO w W/\Bx W w.heap.size 152 [.int .i64 m.cells,.slice ap m.zd.length cp,.slice ao m.order.length co,.int .i64 m.now,.slice at' m.ze.length ct,.int .i64 m.born,.slice as' m.zm.length cs,.int .i64 m.code,.slice al (xV m.zd).length cl,.int .i64 (yd m.zd:Int)]/\Bx W (w.heap.size+1) 124 [.int .i64 T.page,.int .i64 T.place,.int .i64 T.left.m,.int .i64 T.left.pc,.slice a1 T.left.zg.length k1,.slice a2 T.left.zf.length k2,.int .i64 T.left.zi,.bool T.left.zv]/\Bx W (w.heap.size+1+1) 96 [.int .i64 0,.int .i64 0,.slice none 0 0,.slice none 0 0,.int .i64 0,.bool false]) ⟨((zR _ _).alloc (by simp) _).alloc (by simp;omega) _,((Bx.new w _ _).alloc _).alloc _,(Bx.newAt _ _ _ (by simp)).alloc _,Bx.newAt _ _ _ (by simp)⟩ ?_
 rintro W0 ⟨B0,x0,t0,y0⟩
 have z0:=B0.size
 have Vj:w.heap.size+1+1<W0.heap.size:=y0.lt
 obtain⟨⟨c0,c1,c2,c3,c4,c5,c6,c7⟩,_⟩:=uk t0
 by_cases hp:T.page=-1
 case neg =>
  have hpe:¬(T.page=-1):=hp
  have e:Th=⟨0,0,[],[],-1,true⟩:=by rw[<-HTH.out];unfold xI;rw[if_neg hp]
  subst e
  have q0:=y0.cell 0 rfl
  have qf0:=y0.frozen 0
  have q1:=y0.cell 1 rfl
  have qf1:=y0.frozen 1
  have q2:=y0.cell 2 rfl
  have qf2:=y0.frozen 2
  have q3:=y0.cell 3 rfl
  have qf3:=y0.frozen 3
  have q4:=y0.cell 4 rfl
  have qf4:=y0.frozen 4
  have q5:=y0.cell 5 rfl
  have qf5:=y0.frozen 5
  go_wp2
  refine xU (fun W=>zO w W/\Bx W (w.heap.size+1+1) 96 [zI 0,zI 0,zQ,zQ,zI (-1),.bool true]) ?_ ?_
  ·have HW:=((((((Wr.refl1 (w.heap.size+1+1) W0).set1 (o:=0) (zI 0)).set1 (o:=1) (zI 0)).set1 (o:=2) (zQ)).set1 (o:=3) (zQ)).set1 (o:=4) (zI (-1))).set1 (o:=5) (.bool true)
   exact⟨HW.below1 B0 zD (Nat.le_trans (Nat.le_succ _) (Nat.le_succ _)),(((((y0.set 0 _).set 1 _).set 2 _).set 3 _).set 4 _).set 5 _⟩
  rintro W9 ⟨B9,x9⟩
  have i0:=x9.cell 0 rfl
  have i1:=x9.cell 1 rfl
  have i2:=x9.cell 2 rfl
  have i3:=x9.cell 3 rfl
  have i4:=x9.cell 4 rfl
  have i5:=x9.cell 5 rfl
  exact bodyPost_ret (v:=.agg #[zI 0,zI 0,zQ,zQ,zI (-1),.bool true]) (by simp[results,Tryz.results95,go_sem,i0,i1,i2,i3,i4,i5]) rfl ⟨_,_,rfl,zk.nil _ _,zk.nil _ _,fun g e=>by simp[Value.ownBlock] at e,B9⟩
 have e:Th=zfe m T.left:=by rw[<-HTH.out];unfold xI;rw[if_pos hp]
 subst e
 rw[hp] at c0
 obtain⟨ok1,ok2,ok3⟩:=HOK.out hp
 have HC:=JI _ _ _ _ _ m T.left _ _ W0 (U8.below B0) (ht.below B0) (hs.below B0) hl ok1 ok2 ok3
 unfold zE at HC
 simp only[List.cons_append,List.nil_append] at HC
 obtain⟨⟨p0,p1,p2,p3,p4,p5,p6,p7,p8,p9⟩,_⟩:=Yf x0
 clear ok1 ok2 ok3 HOK
 go_wp2_with fail
 refine HC.mono ?_
 rintro e W1 ⟨u1,u2,rfl,r1,s1,hap,t1⟩
 obtain⟨a3,k3,e3,_⟩:=r1.slice
 obtain⟨a4,k4,e4,_⟩:=s1.slice
 subst e3 e4
 have B1:=B0.trans (t1.mono z0)
 have y1:=y0.below t1
 have HAP:Hid _:=hap
 clear HC t1 B0 x0 t0 y0 hap c0 c1 c2 c3 c4 c5 c6 c7 p0 p1 p2 p3 p4 p5 p6 p7 p8 p9
 have q0:=y1.cell 0 rfl
 have qf0:=y1.frozen 0
 have q1:=y1.cell 1 rfl
 have qf1:=y1.frozen 1
 have q2:=y1.cell 2 rfl
 have qf2:=y1.frozen 2
 have q3:=y1.cell 3 rfl
 have qf3:=y1.frozen 3
 have q4:=y1.cell 4 rfl
 have qf4:=y1.frozen 4
 have q5:=y1.cell 5 rfl
 have qf5:=y1.frozen 5
 obtain⟨pl,hpl⟩:∃pl,jQ m T.left.zi=pl:=⟨_,rfl⟩
 rw[hpl]
 obtain⟨n3,hn3⟩:∃n,(T.left.zg.map (j6 (jQ m))).length=n:=⟨_,rfl⟩
 obtain⟨n4,hn4⟩:∃n,(T.left.zf.map (j6 (jQ m))).length=n:=⟨_,rfl⟩
 rw[hn3] at r1 HAP ⊢
 rw[hn4] at s1 HAP ⊢
 clear hn3 hn4
 have HPL:Hid (jQ m T.left.zi=pl):=hpl
 clear hpl
 go_wp2
 refine xU (fun W=>zO w W/\Bx W (w.heap.size+1+1) 96 [zI T.left.m,zI T.left.pc,.slice a3 n3 k3,.slice a4 n4 k4,zI pl,.bool T.left.zv]/\zk w.heap.size W (.slice a3 n3 k3) (T.left.zg.map (j6 (jQ m)))/\zk w.heap.size W (.slice a4 n4 k4) (T.left.zf.map (j6 (jQ m)))) ?_ ?_
 ·have HW:=((((((Wr.refl1 (w.heap.size+1+1) W1).set1 (o:=0) (zI T.left.m)).set1 (o:=1) (zI T.left.pc)).set1 (o:=2) (.slice a3 n3 k3)).set1 (o:=3) (.slice a4 n4 k4)).set1 (o:=4) (zI pl)).set1 (o:=5) (.bool T.left.zv)
  exact⟨HW.below1 B1 zD (Nat.le_trans (Nat.le_succ _) (Nat.le_succ _)),(((((y1.set 0 _).set 1 _).set 2 _).set 3 _).set 4 _).set 5 _,(HW.pair r1 (fun g e e2=>by have:=(r1.lt g e).1;omega)).mono z0,(HW.pair s1 (fun g e e2=>by have:=(s1.lt g e).1;omega)).mono z0⟩
 rintro W9 ⟨B9,x9,r9,s9⟩
 have i0:=x9.cell 0 rfl
 have i1:=x9.cell 1 rfl
 have i2:=x9.cell 2 rfl
 have i3:=x9.cell 3 rfl
 have i4:=x9.cell 4 rfl
 have i5:=x9.cell 5 rfl
 exact bodyPost_ret (v:=.agg #[zI T.left.m,zI T.left.pc,.slice a3 n3 k3,.slice a4 n4 k4,zI pl,.bool T.left.zv]) (by simp[results,Tryz.results95,go_sem,i0,i1,i2,i3,i4,i5]) rfl ⟨_,_,by rw[<-HPL.out];rfl,r9,s9,HAP.out,B9⟩
end Go.Proofs.YtbjgjjkgfnfejaaGreatDoor

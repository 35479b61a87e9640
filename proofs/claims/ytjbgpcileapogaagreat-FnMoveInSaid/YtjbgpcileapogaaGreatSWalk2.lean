/-
  The model's heap at work, walked: say.
-/
import Derived.Test.YtjbgpcileapogaaGreatSWalk3
import Derived.Deep.RegionLaw
namespace Go.Proofs.YtjbgpcileapogaaGreat
open Go.RowKit
theorem zbH {w:World} {g:Nat} {t:TypeId} {x0 x1:Value} (h:w.rowIs g t 2 (duo x0 x1)) (v:Value):(w.setCell ⟨g,1,none⟩ v).rowIs g t 2 (duo x0 v) :=
 (h.set 1 v).congr fun i hi=>by match i,hi with | 0,_=>rfl | 1,_=>rfl
theorem JK (w:World) (k q:Int) (e:TypeId) (c:Nat):zR (w.alloc (.cells #[.int .i64 k,.int .i64 q] e)).drew (.slice (some ⟨w.heap.size,0,none⟩) 1 c) [(k,q)]:=uh w k q e c
set_option maxRecDepth 100000 in
set_option maxHeartbeats 4000000 in
theorem zaK {A:Nat->Prop} {B:Nat} {w:World} {bo:Nat} {vp vs:Value} {g off zp:Nat} {ms:zM} {h:Hp} {V:Nat->Value × Value} (k:SM A B w bo vp (.slice (some ⟨g,off,none⟩) h.za.length zp) vs ms h V) (hB:B<=w.heap.size) (a b:Int) (hv:a=2->0<=b/\b<(h.za.length:Int)) (hsd:h.zl.length<=2900000) :
 Calls Tryz.prog 196 #[.pointer (some ⟨bo,0,none⟩),.agg #[.int .i64 a,.int .i64 b]] w fun e w'=>e=.returned (.tuple #[])/\(∃vs' V',SM A B w' bo vp (.slice (some ⟨g,off,none⟩) h.za.length zp) vs' ms (XQ h (a,b)) V')/\Cm A B w w':=by
 have hA:Below w.heap.size w (w.alloc (.cells #[.int .i64 a,.int .i64 b] 98)):=zB _ _
 have rx:=yS w 98 (.int .i64 a) (.int .i64 b)
 have k1:=k.below hA
 have Z2:bo<w.heap.size:=k.box.lt
 obtain⟨sa,sc,hsv,_⟩:=k.own.s.slice
 subst hsv
 have tail:∀(W:World) (m:Int),Below w.heap.size w W->W.rowIs w.heap.size 98 2 (duo (.int .i64 a) (.int .i64 m))->(a,m)=XR h (a,b) ->
  SM A B W bo vp (.slice (some ⟨g,off,none⟩) h.za.length zp) (.slice sa h.zl.length sc) ms h V /\
  (W.cell? ⟨bo,4,none⟩=some (.slice sa h.zl.length sc)/\W.cell? ⟨w.heap.size,0,none⟩=some (.int .i64 a)/\W.cell? ⟨w.heap.size,1,none⟩=some (.int .i64 m)) /\
  zj B (W.alloc (.cells #[.int .i64 a,.int .i64 m] 98)).drew (.slice sa h.zl.length sc) h.zl /\
  ∀v' w',zj B w' v' (h.zl ++ [(a,m)])->(W.alloc (.cells #[.int .i64 a,.int .i64 m] 98)).drew.grownBy w' (Value.slice sa h.zl.length sc).ownBlock->(v'.ownBlock=(Value.slice sa h.zl.length sc).ownBlock\/v'.ownBlock=some (W.alloc (.cells #[.int .i64 a,.int .i64 m] 98)).drew.heap.size) ->
   (w'.cell? ⟨bo,4,none⟩=some (.slice sa h.zl.length sc)/\w'.frozen? ⟨bo,4,none⟩=false)/\(∃vs' V',SM A B (w'.setCell ⟨bo,4,none⟩ v') bo vp (.slice (some ⟨g,off,none⟩) h.za.length zp) vs' ms (XQ h (a,b)) V')/\Cm A B w (w'.setCell ⟨bo,4,none⟩ v'):=fun W m hW rW hm=>by
  have kW:=k.below hW
  obtain⟨⟨_,_,_,_,y4,_⟩,_⟩:=zZ kW.box
  obtain⟨⟨t0,t1⟩,_⟩:=zy rW
  have N:Below W.heap.size W (W.alloc (.cells #[.int .i64 a,.int .i64 m] 98)).drew:=(zB _ _).drew
  have zW:=hW.size
  refine⟨kW,⟨y4,t0,t1⟩,kW.own.s.below N,fun v' w' hr hg hv'=>?_⟩
  have hzN:=N.size
  have hzg:=hg.size
  have hsb:(Value.slice sa h.zl.length sc).ownBlock≠some bo:=fun e=>k.nb (.inl e)
  have hbl:∀q,q<W.heap.size->(Value.slice sa h.zl.length sc).ownBlock≠some q->w'.heap[q]?=W.heap[q]?:=fun q hq hn=>(hg.block q (by omega) (fun e=>hn e.symm)).trans (N.block q hq)
  have bx:=kW.box.of_block (hbl bo (by omega) hsb)
  obtain⟨⟨_,_,_,_,z4,_⟩,_,_,_,_,f4,_⟩:=zZ bx
  have b':Below B W w':=⟨hg.os.trans N.os,hg.tape.trans N.tape,hg.output.trans N.output,by omega,fun q hq=>hbl q (by omega) (fun e=>by have:=(k.own.s.lt q e).1;omega)⟩
  obtain⟨ks,cs⟩:=kW.say v' (h.zl ++ [(a,m)]) (by omega) hbl hr (fun q e=>by
   rcases hv' with x | x
   ·exact .inl (by rw[<-x];exact e)
   ·rw[x] at e;cases e;exact .inr hzN) b'
  refine⟨⟨z4,f4⟩,⟨v',V,?_⟩,(k.cm hW hB).trans cs⟩
  unfold XQ
  rw[<-hm]
  exact ks
 by_cases ha:a=2
 ·subst ha
  obtain⟨b0,b1⟩:=hv rfl
  obtain⟨j,rfl⟩:=Int.eq_ofNat_of_zero_le b0
  have hj:j<h.za.length:=by omega
  obtain⟨⟨x0,x1,x2,x3,x4,x5⟩,_⟩:=zZ k1.box
  obtain⟨⟨c0,c1,c2,c3,c4,c5⟩,_⟩:=k1.own.c.cells hj
  obtain⟨⟨t0,t1⟩,tf0,tf1⟩:=zy rx
  have hjz:(j:Int)<(h.za.length:Int):=by omega
  have WH:((2:Int),h.za[j].m)=XR h (2,(j:Int)):=by unfold XR;simp[hj]
  have rW:=zbH rx (.int .i64 h.za[j].m)
  have hW:Below w.heap.size w ((w.alloc (.cells #[.int .i64 2,.int .i64 (j:Int)] 98)).setCell ⟨w.heap.size,1,none⟩ (.int .i64 h.za[j].m)).drew:=(hA.setCell (p:=⟨w.heap.size,1,none⟩) zD _).drew
  obtain⟨kW,⟨y4,y0,y1⟩,zx,hend⟩:=tail _ _ hW rW WH
  have HE:Hid _:=hend
  have zW:=hW.size
  have hBW:B<=((w.alloc (.cells #[.int .i64 2,.int .i64 (j:Int)] 98)).setCell ⟨w.heap.size,1,none⟩ (.int .i64 h.za[j].m)).drew.heap.size:=by omega
  have hbW:bo<((w.alloc (.cells #[.int .i64 2,.int .i64 (j:Int)] 98)).setCell ⟨w.heap.size,1,none⟩ (.int .i64 h.za[j].m)).drew.heap.size:=by omega
  have hwW:=World.block_lt_of_cell? _ _ y0
  clear hend tail zW WH
  go_enter Tryz.func196,Tryz.ntmps196
  go_upto_region 1 with fail
  generalize w.alloc (.cells #[.int .i64 2,.int .i64 (j:Int)] 98)=W1 at *
  go_wp2
  go_region
  go_upto_region 3 with fail
  generalize (W1.setCell ⟨w.heap.size,1,none⟩ (.int .i64 h.za[j].m)).drew=W at *
  clear x0 x1 x2 x3 x4 x5 c0 c1 c2 c3 c4 c5 t0 t1 tf0 tf1 rx k1 hA
  go_region_law (refine xT _ (by rfl) _ _ (by rfl) B _ _ h.zl [(2,h.za[j].m)] (by rfl) (by rfl) zx (JK W 2 h.za[j].m _ _) (by simp;omega) (by simp;omega) ?_;intro v' w' zS hg hbk;obtain⟨a',c',hv',_⟩:=zS.slice;rw[List.length_append] at hv';subst hv';obtain⟨⟨z4,f4⟩,hSM⟩:=HE.out _ w' zS hg hbk)
  all_goals exact bodyPost_end (results_none rfl _ _ _) rfl ⟨rfl,hSM⟩
 ·have hae:(a == 2)=false:=zG.2 ha
  have WH:(a,b)=XR h (a,b):=by unfold XR;rw[if_neg ha]
  obtain⟨kW,⟨y4,y0,y1⟩,zx,hend⟩:=tail _ _ hA rx WH
  have HE:Hid _:=hend
  have zW:=hA.size
  have hBW:B<=(w.alloc (.cells #[.int .i64 a,.int .i64 b] 98)).heap.size:=by omega
  have hbW:bo<(w.alloc (.cells #[.int .i64 a,.int .i64 b] 98)).heap.size:=by omega
  have hwW:=World.block_lt_of_cell? _ _ y0
  clear hend tail zW k1 rx WH
  go_enter Tryz.func196,Tryz.ntmps196
  go_upto_region 1 with fail
  generalize w.alloc (.cells #[.int .i64 a,.int .i64 b] 98)=W at *
  go_upto_region 3 with fail
  go_region_law (refine xT _ (by rfl) _ _ (by rfl) B _ _ h.zl [(a,b)] (by rfl) (by rfl) zx (JK W a b _ _) (by simp;omega) (by simp;omega) ?_;intro v' w' zS hg hbk;obtain⟨a',c',hv',_⟩:=zS.slice;rw[List.length_append] at hv';subst hv';obtain⟨⟨z4,f4⟩,hSM⟩:=HE.out _ w' zS hg hbk)
  all_goals exact bodyPost_end (results_none rfl _ _ _) rfl ⟨rfl,hSM⟩
set_option maxRecDepth 100000 in
set_option maxHeartbeats 2000000 in
theorem qi {A:Nat->Prop} {B:Nat} {w:World} {bo:Nat} {vp vs:Value} {g off zp:Nat} {ms:zM} {h:Hp} {V:Nat->Value × Value} (k:SM A B w bo vp (.slice (some ⟨g,off,none⟩) h.za.length zp) vs ms h V) {j:Nat} (hn:h.now=j) (hj:j<h.za.length) :
 Calls Tryz.prog 177 #[.pointer (some ⟨bo,0,none⟩)] w fun e w'=>e=.returned (.pointer (some ⟨g,off+j * 6,none⟩))/\w'=w.drew:=by
 obtain⟨⟨x0,x1,x2,x3,x4,x5⟩,_⟩:=zZ k.box
 rw[hn] at x2
 have hjz:(j:Int)<(h.za.length:Int):=by omega
 go_enter Tryz.func177,Tryz.ntmps177
 go_wp2
 go_region
 go_wp2
 go_ret
 exact⟨rfl,rfl⟩
theorem SM.drew {A:Nat->Prop} {B:Nat} {w:World} {bo:Nat} {vp vc vs:Value} {ms:zM} {h:Hp} {V:Nat->Value × Value} (k:SM A B w bo vp vc vs ms h V):SM A B w.drew bo vp vc vs ms h V:=k.below zC.drew
theorem kg {A:Nat->Prop} {B:Nat} {w:World} {bo:Nat} {vp vs:Value} {g off zp:Nat} {ms:zM} {h:Hp} {V:Nat->Value × Value} (k:SM A B w bo vp (.slice (some ⟨g,off,none⟩) h.za.length zp) vs ms h V) (hB:B<=w.heap.size) {j:Nat} (hj:j<h.za.length) {sa:Option Addr} {sc:Nat} (hV:(V j).2=.slice sa h.za[j].ze.length sc) (X:World) (hX:Below w.heap.size w X) (x:Int × Int) :
 zj B X (.slice sa h.za[j].ze.length sc) h.za[j].ze/\∀v' w',zj B w' v' (h.za[j].ze ++ [x])->X.grownBy w' (Value.slice sa h.za[j].ze.length sc).ownBlock->(v'.ownBlock=(Value.slice sa h.za[j].ze.length sc).ownBlock\/v'.ownBlock=some X.heap.size) ->
  (w'.cell? ⟨g,off+j * 6+3,none⟩=some (.slice sa h.za[j].ze.length sc)/\w'.frozen? ⟨g,off+j * 6+3,none⟩=false) /\
  (∃V',SM A B (w'.setCell ⟨g,off+j * 6+3,none⟩ v') bo vp (.slice (some ⟨g,off,none⟩) h.za.length zp) vs ms {h with za:=h.za.set j {h.za[j] with ze:=h.za[j].ze ++ [x]}} V')/\Cm A B w (w'.setCell ⟨g,off+j * 6+3,none⟩ v'):=by
 have hs:=(k.own.c.lists j hj).2
 rw[hV] at hs
 have hgl:=(k.own.c.lt (g:=g) (.inl rfl)).2
 have hzX:=hX.size
 have hng:(Value.slice sa h.za[j].ze.length sc).ownBlock≠some g:=fun e=>by
  have:=(k.own.c.apart (j * 2+1) (by omega) g (by rw[vg,hV];exact e)).1
  exact this rfl
 refine⟨hs.below hX,fun v' w' hr hg hv'=>?_⟩
 have hbg:w'.heap[g]?=w.heap[g]?:=(hg.block g (by omega) (fun e=>hng e.symm)).trans (hX.block g hgl)
 obtain⟨⟨_,_,_,c3,_,_⟩,fz⟩:=k.own.c.cells hj
 rw[hV] at c3
 refine⟨⟨by rw[World.cell?_of_block (a:=⟨g,off+j * 6+3,none⟩) hbg];exact c3,by rw[World.frozen?_of_block (a:=⟨g,off+j * 6+3,none⟩) hbg];exact fz 3 (by decide)⟩,?_⟩
 exact k.push hj hB hX (by rw[hV];exact hg) hr (by rw[hV];exact hv')
theorem zde (x0 x1 x2 x3 x4 x5 v:Value):∀q,q<6->Qi x0 x1 v x3 x4 x5 q=if q=2 then v else Qi x0 x1 x2 x3 x4 x5 q:=fun q hq=>by
 have h6:q=0\/q=1\/q=2\/q=3\/q=4\/q=5:=by omega
 rcases h6 with rfl | rfl | rfl | rfl | rfl | rfl <;> rfl
theorem zcG (x0 x1 x2 x3 x4 x5 v:Value):∀q,q<6->Qi x0 x1 x2 v x4 x5 q=if q=3 then v else Qi x0 x1 x2 x3 x4 x5 q:=fun q hq=>by
 have h6:q=0\/q=1\/q=2\/q=3\/q=4\/q=5:=by omega
 rcases h6 with rfl | rfl | rfl | rfl | rfl | rfl <;> rfl
theorem zcH (x0 x1 x2 x3 x4 x5 v:Value):∀q,q<6->Qi x0 x1 x2 x3 x4 v q=if q=5 then v else Qi x0 x1 x2 x3 x4 x5 q:=fun q hq=>by
 have h6:q=0\/q=1\/q=2\/q=3\/q=4\/q=5:=by omega
 rcases h6 with rfl | rfl | rfl | rfl | rfl | rfl <;> rfl
theorem SM.setNow {A:Nat->Prop} {B:Nat} {w:World} {bo:Nat} {vp vc vs:Value} {ms:zM} {h:Hp} {V:Nat->Value × Value} (k:SM A B w bo vp vc vs ms h V) (x:Int):SM A B (w.setCell ⟨bo,2,none⟩ (.int .i64 x)) bo vp vc vs ms {h with now:=x} V/\Cm A B w (w.setCell ⟨bo,2,none⟩ (.int .i64 x)):=k.num 2 x rfl rfl (zde _ _ _ _ _ _ _)
theorem SM.setBorn {A:Nat->Prop} {B:Nat} {w:World} {bo:Nat} {vp vc vs:Value} {ms:zM} {h:Hp} {V:Nat->Value × Value} (k:SM A B w bo vp vc vs ms h V) (x:Int):SM A B (w.setCell ⟨bo,3,none⟩ (.int .i64 x)) bo vp vc vs ms {h with born:=x} V/\Cm A B w (w.setCell ⟨bo,3,none⟩ (.int .i64 x)):=k.num 3 x rfl rfl (zcG _ _ _ _ _ _ _)
theorem SM.setCode {A:Nat->Prop} {B:Nat} {w:World} {bo:Nat} {vp vc vs:Value} {ms:zM} {h:Hp} {V:Nat->Value × Value} (k:SM A B w bo vp vc vs ms h V) (x:Int):SM A B (w.setCell ⟨bo,5,none⟩ (.int .i64 x)) bo vp vc vs ms {h with code:=x} V/\Cm A B w (w.setCell ⟨bo,5,none⟩ (.int .i64 x)):=k.num 5 x rfl rfl (zcH _ _ _ _ _ _ _)
theorem KJ {h:Hp} {j:Nat} (hn:h.now=j) (hj:j<h.za.length):yw h={h with za:=h.za.set j {h.za[j] with ze:=[],zf:=-1,zv:=true},now:=h.za[j].zf}:=by
 have e:h.now.toNat=j:=by omega
 unfold yw jw
 rw[xC hn hj,e]
 rfl
set_option maxRecDepth 100000 in
set_option maxHeartbeats 8000000 in
theorem zc9 {A:Nat->Prop} {B:Nat} {w:World} {bo:Nat} {vp vs:Value} {g off zp:Nat} {ms:zM} {h:Hp} {V:Nat->Value × Value} (k:SM A B w bo vp (.slice (some ⟨g,off,none⟩) h.za.length zp) vs ms h V) (hB:B<=w.heap.size) {j:Nat} (hn:h.now=j) (hj:j<h.za.length) (hs:-1<=h.za[j].zf/\h.za[j].zf<(h.za.length:Int)) (a b:Int) (hv:a=2->0<=b/\b<(h.za.length:Int)) (hsd:h.zl.length<=2900000)
 (hst:∀s:Nat,h.za[j].zf=s->∀hs:s<h.za.length,h.za[s].ze.length<=1000) :
 Calls Tryz.prog 193 #[.pointer (some ⟨bo,0,none⟩),.agg #[.int .i64 a,.int .i64 b]] w fun e w'=>e=.returned (.tuple #[])/\(∃vm vs' V',SM A B w' bo vp vm vs' ms (JT h (a,b)) V')/\Cm A B w w':=by
 obtain⟨⟨c0,c1,c2,c3,c4,c5⟩,fz⟩:=k.own.c.cells hj
 have Z2:bo<w.heap.size:=k.box.lt
 have hgl:=(k.own.c.lt (g:=g) (.inl rfl)).2
 go_enter Tryz.func193,Tryz.ntmps193
 have hA:Below w.heap.size w (w.alloc (.cells #[.int .i64 a,.int .i64 b] 98)):=zB _ _
 have rx:=yS w 98 (.int .i64 a) (.int .i64 b)
 have k1:=k.made hA (by simp)
 have vK:=k.cm hA hB
 go_upto_region 1 with fail
 generalize w.alloc (.cells #[.int .i64 a,.int .i64 b] 98)=W1 at *
 have z1:=hA.size
 obtain⟨⟨d0,d1,d2,d3,d4,d5⟩,_⟩:=k1.own.c.cells hj
 go_upto_region 2 with(go_at_call 177;refine(qi k1 hn hj).mono ?_;rintro e w' ⟨rfl,hw⟩;obtain rfl:=hw)
 have k2:=k1.drew
 obtain⟨⟨x0,x1,x2,x3,x4,x5⟩,_⟩:=zZ k2.box
 rw[hn] at x2
 go_upto_region 3 with(go_at_call 198;refine(zaz k2 hj).mono ?_;rintro e w3 ⟨rfl,⟨V3,k3⟩,cm3⟩)
 obtain⟨k4,cm4⟩:=k3.setNow h.za[j].zf
 have hlv:yw h={h with za:=h.za.set j {h.za[j] with ze:=[],zf:=-1,zv:=true},now:=h.za[j].zf}:=KJ hn hj
 have hcl:(yw h).za.length=h.za.length:=by rw[hlv];simp
 have k4':SM (fun q=>A q\/q=w.heap.size) B (w3.setCell ⟨bo,2,none⟩ (.int .i64 h.za[j].zf)) bo vp (.slice (some ⟨g,off,none⟩) (yw h).za.length zp) vs ms (yw h) V3:=by rw[hcl,hlv];exact k4
 have rx4:=cm4.row (cm3.row (show W1.drew.rowIs w.heap.size _ 2 _ from rx) (.inr rfl)) (.inr rfl)
 have vu:Cm A B w (w3.setCell ⟨bo,2,none⟩ (.int .i64 h.za[j].zf)):=vK.trans (((k1.cm zC.drew (by omega)).trans (cm3.trans cm4)).less (fun q hq=>.inl hq))
 have hB3:B<=(w3.setCell ⟨bo,2,none⟩ (.int .i64 h.za[j].zf)).heap.size:=by have:=vu.b.size;omega
 obtain⟨⟨y0,y1,y2,y3,y4,y5⟩,_,_,f2,_,_,_⟩:=zZ k3.box
 by_cases hneg:h.za[j].zf<0
 ·have hneg':decide (h.za[j].zf<0)=true:=decide_eq_true hneg
  have HR:Hid (JT h (a,b)=wv (XQ (yw h) (a,b)) 1):=by show _=_;unfold JT;rw[xC hn hj,if_pos hneg]
  have hsl:(yw h).zl=h.zl:=by rw[hlv]
  have hS:=zaK k4' hB3 a b (fun e=>by rw[hcl];exact hv e) (by rw[hsl];exact hsd)
  clear x0 x1 x2 x3 x4 x5 d0 d1 d2 d3 d4 d5 c0 c1 c2 c3 c4 c5 fz k2 k1 k
  go_upto_region 5 with fail
  generalize w3.setCell ⟨bo,2,none⟩ (.int .i64 h.za[j].zf)=W4 at *
  obtain⟨⟨t0,t1⟩,_⟩:=zy rx4
  go_upto_region 6 with(go_at_call 196;refine hS.mono ?_;rintro e w5 ⟨rfl,⟨vs5,V5,k5⟩,X1⟩)
  obtain⟨⟨u0,u1,u2,u3,u4,u5⟩,_,_,_,_,_,g5⟩:=zZ k5.box
  obtain⟨k6,cm6⟩:=k5.setCode 1
  go_wp2
  refine bodyPost_ret (results_none rfl _ _ _) rfl ?_
  refine⟨rfl,⟨.slice (some ⟨g,off,none⟩) (yw h).za.length zp,vs5,V5,?_⟩,vu.trans ((X1.trans cm6).less (fun q hq=>.inl hq))⟩
  ·rw[HR.out]
   exact k6.less (fun q hq=>.inl hq)
 ·obtain⟨s,hse⟩:∃s:Nat,h.za[j].zf=s:=⟨h.za[j].zf.toNat,by omega⟩
  have hsn:s<h.za.length:=by omega
  have za4:s<(yw h).za.length:=by omega
  have hneg':¬(h.za[j].zf<0):=hneg
  have zbX:(yw h).now=s:=by rw[hlv];exact hse
  have HR:Hid (JT h (a,b)={yw h with za:=(yw h).za.set s {(yw h).za[s] with ze:=(yw h).za[s].ze ++ [(a,b)]}}):=by
   show _=_
   unfold JT
   rw[xC hn hj,if_neg hneg,vi zbX za4]
  have hst4:(yw h).za[s].ze.length<=1000:=by
   have hq:(yw h).za=h.za.set j {h.za[j] with ze:=[],zf:=-1,zv:=true}:=by rw[hlv]
   simp only[hq]
   by_cases e:j=s
   ·subst e;simp
   ·rw[List.getElem_set_ne e];exact hst s hse hsn
  obtain⟨sa,sc,ZT,_⟩:=(k4'.own.c.lists s za4).2.slice
  obtain⟨⟨e0,e1,e2,e3,e4,e5⟩,_⟩:=k4'.own.c.cells za4
  rw[ZT] at e3
  have hN:=qi k4' zbX za4
  have Zo:=(k4'.own.c.lt (g:=g) (.inl rfl)).2
  clear x0 x1 x2 x3 x4 x5 d0 d1 d2 d3 d4 d5 c0 c1 c2 c3 c4 c5 fz k2 k1 k hneg hlv k4 cm4 hst
  generalize h.za[j].zf=S at *
  subst hse
  go_upto_region 7 with fail
  have HPT:=kg k4' hB3 za4 ZT
  have hwl:=rx4.lt
  generalize w3.setCell ⟨bo,2,none⟩ (.int .i64 (s:Int))=W4 at *
  generalize hLH:yw h=LH at *
  obtain⟨⟨t0,t1⟩,_⟩:=zy rx4
  obtain⟨zx,hend⟩:=HPT ((W4.alloc (.cells #[.int .i64 a,.int .i64 b] 98)).drew.drew.drew) (((zB _ _).drew.drew.drew)) (a,b)
  have HE:Hid _:=hend
  clear hend HPT
  go_region_law (first
   | (refine xT _ (by rfl) _ _ (by rfl) B _ _ LH.za[s].ze [(a,b)] (by rfl) (by rfl) zx (uh W4 a b _ _) (by simp;omega) (by simp;omega) ?_;intro v' w' zS hg hbk;obtain⟨a',c',hv',_⟩:=zS.slice;rw[List.length_append] at hv';subst hv';obtain⟨⟨z4,f4⟩,hSM⟩:=HE.out _ w' zS hg hbk)
   | (go_simp;go_at_call 177;refine(qi (k4'.below (by first | exact zC.drew | exact zC.drew.drew | exact(zB _ _).drew | exact(zB _ _).drew.drew)) zbX za4).mono ?_;rintro e w' ⟨rfl,hw⟩;obtain rfl:=hw))
  all_goals
   obtain⟨⟨V',kV⟩,cV⟩:=hSM
   refine bodyPost_end (results_none rfl _ _ _) rfl ⟨rfl,⟨.slice (some ⟨g,off,none⟩) LH.za.length zp,vs,V',?_⟩,vu.trans (cV.less (fun q hq=>.inl hq))⟩
   rw[HR.out]
   exact kV.less (fun q hq=>.inl hq)
theorem KX {ops:Array Oper} {o:Oper} {act:Act} {K:Act->World->Prop} {Q:Exit->Act->World->Prop} {E:Prop} (w:World) (hgd:o.guard=none) (s y:Operand)
 (ho:o.op=.call {callee:=.builtin .append,args:=#[s,y],argTypes:=#[26,26]}) (B:Nat) (v:Value) (L:List (Cl × Value × Value)) (x:Cl × Value × Value) (hs:act.eval s=v) (H c:Nat) (hy:act.eval y=.slice (some ⟨H,0,none⟩) 1 c) (zx:yz B w v L)
 (h1:x.2.1.oneCell'=true) (h2:x.2.2.oneCell'=true) (hx:∀j u,(kY x)[j]?=some u->w.cell? ⟨H,j,none⟩=some u) (hL:L.length<=900000) (hB:B<=w.heap.size)
 (h:∀v' w',yz B w' v' (L ++ [x])->w.grownBy w' v.ownBlock->(v'.ownBlock=v.ownBlock\/v'.ownBlock=some w.heap.size)->K (act.put o.dst v') w') :
 if Region.wanted o (yielded ops act.tmps)=true then Oper.wp Tryz.prog o act w K Q else E:=by
 obtain⟨v',w',hr,h3,h4,h5⟩:=uk (ty:=o.type) zx x h1 h2 H c hx hL hB
 rw[if_pos (by simp[Region.wanted,hgd])]
 unfold Oper.wp execOp
 simp only[ho,resolve,invoke,builtin,Sem.run_bind,Sem.run_pure,Result.andThen_ok,List.map_toArray,List.map_cons,List.map_nil,hs,hy,hr]
 exact h v' w' h3 h4 h5
theorem Ws {ms:Ms} {h:Hp} {m:Int} {args:zL} (hb:30<=h.born):wU ms h m args={h with code:=3}:=by unfold wU;rw[if_pos hb];rfl
theorem zaS {ms:Ms} {h:Hp} {m:Nat} {args:zL} (hb:¬30<=h.born) (hm:m<ms.length) {t:Nat} (ht:ms[m].2.1=(t:Int)):wU ms h m args={h with za:=h.za ++ [⟨(m:Int),0,args ++ List.replicate (t - args.length) (0,0),[],h.now,false⟩],now:=h.za.length,born:=h.born+1}:=by
 unfold wU
 rw[if_neg hb]
 have e:(ms.getD ((m:Int)).toNat (0,0,[])).2.1.toNat=t:=by simp[hm,ht]
 rw[e]
set_option maxRecDepth 100000 in
set_option maxHeartbeats 8000000 in
theorem zbC {A:Nat->Prop} {B:Nat} {w:World} {bo:Nat} {vp vs:Value} {g off zp:Nat} {ms:zM} {h:Hp} {V:Nat->Value × Value} (k:SM A B w bo vp (.slice (some ⟨g,off,none⟩) h.za.length zp) vs ms h V) (hB:B<=w.heap.size) (m:Nat) (hm:m<ms.length) (t:Nat) (ht:ms[m].2.1=(t:Int)) (X7:t<=1000) (va:Value) (args:zL) (ha:zR w va args) (hat:args.length<=t) (hn:h.za.length<=800000) (hbn:0<=h.born) :
 Calls Tryz.prog 192 #[.pointer (some ⟨bo,0,none⟩),.int .i64 (m:Int),va] w fun e w'=>e=.returned (.tuple #[])/\(∃vm vs' V',SM A B w' bo vp vm vs' ms (wU ms h m args) V')/\Cm A B w w':=by
 obtain⟨⟨x0,x1,x2,x3,x4,x5⟩,_,_,f2,f3,_,f5⟩:=zZ k.box
 obtain⟨ap,cp,hvp,_⟩:=id k.prog
 obtain⟨aa,ca,hva⟩:=ha.shape
 subst hva
 by_cases hb:30<=h.born
 ·have hb':decide (30<=h.born)=true:=decide_eq_true hb
  obtain⟨k2,cm2⟩:=k.setCode 3
  have HR:Hid (wU ms h m args={h with code:=3}):=Ws hb
  clear hb
  go_enter Tryz.func192,Tryz.ntmps192
  go_wp2
  refine bodyPost_ret (results_none rfl _ _ _) rfl ⟨rfl,⟨.slice (some ⟨g,off,none⟩) h.za.length zp,vs,V,?_⟩,cm2⟩
  rw[HR.out]
  exact k2
 ·have hb':¬(30<=h.born):=hb
  subst hvp
  have HR:Hid (wU ms h m args={h with za:=h.za ++ [⟨(m:Int),0,args ++ List.replicate (t - args.length) (0,0),[],h.now,false⟩],now:=h.za.length,born:=h.born+1}):=zaS hb hm ht
  have Z2:bo<w.heap.size:=k.box.lt
  have HC:=fun(W:World) (hW:Below w.heap.size w W)=>Zt _ _ ms m args h.now t W (k.prog.below hW) hm ht X7 (ha.below hW) hat
  have hlr:=vF h.za V
  have HTL:Hid ((args ++ List.replicate (t - args.length) ((0:Int),(0:Int))).length=t):=by show _=_;simp;omega
  -- behind the making of the call
  have H3:Hid (∀(w3:World) (at3 as3:Option Addr) (kt ks:Nat),Below w.drew.heap.size w.drew w3->zj w.drew.heap.size w3 (.slice at3 t kt) (args ++ List.replicate (t - args.length) (0,0))->zj w.drew.heap.size w3 (.slice as3 0 ks) []->(∀q,(Value.slice at3 t kt).ownBlock=some q->(Value.slice as3 0 ks).ownBlock≠some q) ->
   (w3.cell? ⟨bo,1,none⟩=some (.slice (some ⟨g,off,none⟩) h.za.length zp)/\bo<w3.heap.size) /\
   yz B (w3.alloc (.cells #[.int .i64 (m:Int),.int .i64 0,.slice at3 t kt,.slice as3 0 ks,.int .i64 h.now,.bool false] 37)) (.slice (some ⟨g,off,none⟩) h.za.length zp) (xO h.za V) /\
   (∀j u,(kY (⟨(m:Int),0,args ++ List.replicate (t - args.length) (0,0),[],h.now,false⟩,.slice at3 t kt,.slice as3 0 ks))[j]?=some u->(w3.alloc (.cells #[.int .i64 (m:Int),.int .i64 0,.slice at3 t kt,.slice as3 0 ks,.int .i64 h.now,.bool false] 37)).cell? ⟨w3.heap.size,j,none⟩=some u)/\B<=(w3.alloc (.cells #[.int .i64 (m:Int),.int .i64 0,.slice at3 t kt,.slice as3 0 ks,.int .i64 h.now,.bool false] 37)).heap.size /\
   (∀v' w',yz B w' v' (xO h.za V ++ [(⟨(m:Int),0,args ++ List.replicate (t - args.length) (0,0),[],h.now,false⟩,.slice at3 t kt,.slice as3 0 ks)])->(w3.alloc (.cells #[.int .i64 (m:Int),.int .i64 0,.slice at3 t kt,.slice as3 0 ks,.int .i64 h.now,.bool false] 37)).grownBy w' (Value.slice (some ⟨g,off,none⟩) h.za.length zp).ownBlock->(v'.ownBlock=(Value.slice (some ⟨g,off,none⟩) h.za.length zp).ownBlock\/v'.ownBlock=some (w3.alloc (.cells #[.int .i64 (m:Int),.int .i64 0,.slice at3 t kt,.slice as3 0 ks,.int .i64 h.now,.bool false] 37)).heap.size) ->
    w'.rowIs bo 216 6 (Qi (.slice ap ms.length cp) (.slice (some ⟨g,off,none⟩) h.za.length zp) (.int .i64 h.now) (.int .i64 h.born) vs (.int .i64 h.code)) /\
    (∃V',SM A B (w'.setCell ⟨bo,1,none⟩ v') bo (.slice ap ms.length cp) v' vs ms {h with za:=h.za ++ [⟨(m:Int),0,args ++ List.replicate (t - args.length) (0,0),[],h.now,false⟩]} V')/\Cm A B w (w'.setCell ⟨bo,1,none⟩ v'))):=fun w3 at3 as3 kt ks hb3 hp3 hq3 hap3=>by
   have Qz:Below w.heap.size w w3:=(Below.refl w.heap.size w).drew.trans hb3
   have hz3:=Qz.size
   have N:=zB w3 (.cells #[.int .i64 (m:Int),.int .i64 0,.slice at3 t kt,.slice as3 0 ks,.int .i64 h.now,.bool false] 37)
   have hX:Below w.heap.size w _:=Qz.trans (N.mono hz3)
   have hzX:=hX.size
   obtain⟨⟨_,y1,_⟩,_⟩:=zZ (zz Qz k.box)
   refine⟨⟨y1,by omega⟩,(k.own.below hX).c.toRow,Qw (jx w3 37 _ _ _ _ _ _),by omega,fun v' w' hr hg hv'=>?_⟩
   have hbn:(Value.slice (some ⟨g,off,none⟩) h.za.length zp).ownBlock≠some bo:=fun e=>k.nb (.inr (.inl e))
   have hbk:w'.heap[bo]?=w.heap[bo]?:=(hg.block bo (by omega) (fun e=>hbn e.symm)).trans (hX.block bo Z2)
   exact⟨k.box.of_block hbk,k.born _ _ _ v' hB hX (hp3.below N) (hq3.below N) hap3 hr hg hv'⟩
  have hwb:IntKind.i64.wrap (h.born+1)=h.born+1:=by rw[IntKind.wrap_i64];omega
  have hwn:IntKind.i64.wrap ((h.za.length:Int)+1 - 1)=(h.za.length:Int):=by rw[IntKind.wrap_i64];omega
  go_enter Tryz.func192,Tryz.ntmps192
  go_upto_region 2 with fail
  clear x3 x4 x5 f2 f3 f5
  go_region_law (first
   | (refine KX _ (by rfl) _ _ (by rfl) B _ (xO h.za V) (⟨(m:Int),0,args ++ List.replicate (t - args.length) (0,0),[],h.now,false⟩,.slice at3 t kt,.slice as3 0 ks) (by rfl) w3.heap.size 1 (by rfl) hrow3 rfl rfl hcell3 (by rw[hlr];omega) hB3 ?_;intro v' w' zS hg hbk;obtain⟨a',c',hv',_⟩:=zS.slice;rw[List.length_append,hlr] at hv';subst hv';obtain⟨hbx,hSM⟩:=HEnd.out _ w' zS hg hbk;obtain⟨⟨z0,z1,z2,z3,z4,z5⟩,y0,y1,y2,y3,y4,y5⟩:=zZ hbx)
   | (go_simp;go_at_call 159;refine(HC _ (zC.drew)).mono ?_;rintro e w3 ⟨vt,vs3,rfl,hp3,hq3,hap3,hb3⟩;obtain⟨at3,kt,xZ,_⟩:=hp3.slice;obtain⟨as3,ks,hvs,_⟩:=hq3.slice;rw[HTL.out] at xZ;subst xZ hvs;unfold qt;obtain⟨⟨w31,w3b⟩,hrow3,hcell3,hB3,hE3⟩:=H3.out w3 at3 as3 kt ks hb3 hp3 hq3 hap3;have HEnd:Hid _:=hE3;clear hE3 hp3 hq3 hap3 hb3))
  all_goals
   obtain⟨⟨V5,k5⟩,X1⟩:=hSM
   clear z0 z1 z2 z3 z4 z5 y0 y1 y2 y3 y4 y5 hbx zS hg hbk
   obtain⟨⟨z0,z1,z2,z3,z4,z5⟩,y0,y1,y2,y3,y4,y5⟩:=zZ k5.box
   obtain⟨k6,cm6⟩:=k5.setBorn (h.born+1)
   obtain⟨k7,cm7⟩:=k6.setNow h.za.length
   generalize w'.setCell ⟨bo,1,none⟩ (.slice a' (h.za.length+1) c')=W5 at *
   go_wp2
   refine bodyPost_end (results_none rfl _ _ _) rfl ⟨rfl,⟨.slice a' (h.za.length+1) c',vs,V5,?_⟩,X1.trans (cm6.trans cm7)⟩
   rw[HR.out]
   exact k7
set_option maxRecDepth 100000 in
set_option maxHeartbeats 8000000 in
theorem zbA {A:Nat->Prop} {B:Nat} {w:World} {bo:Nat} {vp vs:Value} {g off zp:Nat} {ms:zM} {h:Hp} {V:Nat->Value × Value} (k:SM A B w bo vp (.slice (some ⟨g,off,none⟩) h.za.length zp) vs ms h V) (hB:B<=w.heap.size) (j:Nat) (hj:j<h.za.length) (a b:Int) (l:List Nat) (hw:xA h.za h.now l) (hst:∀s:Nat,∀hs:s<h.za.length,h.za[s].ze.length<=1000) :
 Calls Tryz.prog 195 #[.pointer (some ⟨bo,0,none⟩),.int .i64 (j:Int),.agg #[.int .i64 a,.int .i64 b]] w fun e w'=>e=.returned (.tuple #[])/\(∃vm vs' V',SM A B w' bo vp vm vs' ms (wR h j (a,b)) V')/\Cm A B w w':=by
 have hA:Below w.heap.size w (w.alloc (.cells #[.int .i64 a,.int .i64 b] 98)):=zB _ _
 have rx:=yS w 98 (.int .i64 a) (.int .i64 b)
 have k1:=k.made hA (by simp)
 have vK:=k.cm hA hB
 have hjz:(j:Int)<(h.za.length:Int):=by omega
 go_enter Tryz.func195,Tryz.ntmps195
 go_upto_region 1 with fail
 generalize w.alloc (.cells #[.int .i64 a,.int .i64 b] 98)=W1 at *
 have z1:=hA.size
 obtain⟨⟨d0,d1,d2,d3,d4,d5⟩,_⟩:=k1.own.c.cells hj
 obtain⟨⟨x0,x1,x2,x3,x4,x5⟩,_,_,_,_,_,f5⟩:=zZ k1.box
 cases hd:h.za[j].zv
 case true =>
  rw[hd] at d5
  have HR:Hid (wR h j (a,b)={h with code:=2}):=by show _=_;unfold wR;rw[yi hj,hd];rfl
  obtain⟨k2,cm2⟩:=k1.setCode 2
  go_wp2
  refine bodyPost_ret (results_none rfl _ _ _) rfl ⟨rfl,⟨.slice (some ⟨g,off,none⟩) h.za.length zp,vs,V,?_⟩,vK.trans (cm2.less (fun q hq=>.inl hq))⟩
  rw[HR.out]
  exact k2.less (fun q hq=>.inl hq)
 case false =>
  rw[hd] at d5
  have HR:Hid (wR h j (a,b)=xN (backTo h.za.length h j) (a,b)):=by show _=_;unfold wR;rw[yi hj,hd];rfl
  have hjl:j∈l:=hw.all j hj hd
  have hll:=hw.len
  go_wp2
  go_loopg [] l.length (fun d wr=>∃(h':Hp) (V':Nat->Value × Value) (l':List Nat) (f:Nat),d=l'.length/\SM (fun q=>A q\/q=w.heap.size) B wr bo vp (.slice (some ⟨g,off,none⟩) h'.za.length zp) vs ms h' V'/\xA h'.za h'.now l'/\j∈l'/\l'.length<=f/\backTo h.za.length h j=backTo f h' j/\(∀s:Nat,∀hs:s<h'.za.length,h'.za[s].ze.length<=1000)/\Cm (fun q=>A q\/q=w.heap.size) B W1 wr)
  case atStart=>exact⟨h,V,l,h.za.length,rfl,k1,hw,hjl,hll,rfl,hst,⟨zC,fun _ _=>rfl⟩⟩
  case round =>
   obtain⟨h',V',l',f,rfl,k',hw',hjl',hf,hback,hst',cm'⟩:=hrel
   have HBK:Hid (backTo h.za.length h j=backTo f h' j):=hback
   clear hback
   obtain⟨f',rfl⟩:∃f',f=f'+1:=⟨f - 1,by cases l' with | nil=>cases hjl' | cons=>simp at hf;omega⟩
   have hn0:0<=h'.now:=by
    by_cases q:h'.now<0
    ·obtain⟨f'',hf''⟩:=hw'.ch
     rw[yZ q] at hf''
     cases hf''
     cases hjl'
    ·omega
   obtain⟨i,hni⟩:∃i:Nat,h'.now=i:=⟨h'.now.toNat,by omega⟩
   rw[hni] at hw'
   have hi:i<h'.za.length:=hw'.head.1
   obtain⟨⟨x0',Wl,x2',x3',x4',x5'⟩,_,_,f2',_,_,_⟩:=zZ k'.box
   rw[hni] at x2'
   by_cases hij:i=j
   ·subst hij
    have HR2:Hid (wR h i (a,b)={h' with za:=h'.za.set i {h'.za[i] with ze:=h'.za[i].ze ++ [(a,b)]}}):=by
     show _=_
     rw[HR.out,HBK.out,Q5 hni,vi hni hi]
    have rx4:=cm'.row rx (.inr rfl)
    have vu:Cm A B w wr:=vK.trans (cm'.less (fun q hq=>.inl hq))
    have hB3:B<=wr.heap.size:=by have:=vu.b.size;omega
    have hst4:=hst' i hi
    obtain⟨sa,sc,ZT,_⟩:=(k'.own.c.lists i hi).2.slice
    obtain⟨⟨e0,e1,e2,e3,e4,e5⟩,_⟩:=k'.own.c.cells hi
    rw[ZT] at e3
    have Zo:=(k'.own.c.lt (g:=g) (.inl rfl)).2
    have Yl:bo<wr.heap.size:=k'.box.lt
    have HPT:=kg k' hB3 hi ZT
    have hwl:=rx4.lt
    obtain⟨⟨t0,t1⟩,_⟩:=zy rx4
    obtain⟨zx,hend⟩:=HPT ((wr.alloc (.cells #[.int .i64 a,.int .i64 b] 98)).drew.drew.drew) (((zB _ _).drew.drew.drew)) (a,b)
    have HE:Hid _:=hend
    clear hend HPT x0 x1 x2 x3 x4 x5 d0 d1 d2 d3 d4 d5 k k1 hst hst'
    go_wp2_with fail
    go_region_law (first
     | (refine xT _ (by rfl) _ _ (by rfl) B _ _ h'.za[i].ze [(a,b)] (by rfl) (by rfl) zx (uh wr a b _ _) (by simp;omega) (by simp;omega) ?_;intro v' w' zS hg hbk;obtain⟨a',c',hv',_⟩:=zS.slice;rw[List.length_append] at hv';subst hv';obtain⟨⟨z4,f4⟩,hSM⟩:=HE.out _ w' zS hg hbk)
     | (go_simp;go_at_call 177;refine(qi (k'.below (by first | exact zC.drew | exact zC.drew.drew | exact(zB _ _).drew | exact(zB _ _).drew.drew)) hni hi).mono ?_;rintro e w' ⟨rfl,hw⟩;obtain rfl:=hw))
    all_goals
     obtain⟨⟨V4,kV⟩,cV⟩:=hSM
     refine bodyPost_end (results_none rfl _ _ _) rfl ⟨rfl,⟨.slice (some ⟨g,off,none⟩) h'.za.length zp,vs,V4,?_⟩,vu.trans (cV.less (fun q hq=>.inl hq))⟩
     rw[HR2.out]
     exact kV.less (fun q hq=>.inl hq)
   ·have hij':((i:Int) == (j:Int))=false:=zG.2 (by omega)
    have HW:Hid (xA h'.za (i:Int) l'):=hw'
    obtain⟨t,hlt,hwt,_⟩:=hw'.leave hi (Yf h'.za[i]) rfl
    have HWT:Hid (xA (h'.za.set i (Yf h'.za[i])) h'.za[i].zf t/\l'=i :: t):=⟨hwt,hlt⟩
    have hlv:=KJ hni hi
    have HLV:Hid (yw h'={h' with za:=h'.za.set i {h'.za[i] with ze:=[],zf:=-1,zv:=true},now:=h'.za[i].zf}):=hlv
    have HB2:Hid (backTo (f'+1) h' j=backTo f' (yw h') j):=Kw (fun e=>hij (by rw[hni] at e;omega))
    clear hw' hlv hwt hlt hij
    obtain⟨⟨e0,e1,e2,e3,e4,e5⟩,_⟩:=k'.own.c.cells hi
    obtain⟨k2,cm2⟩:=k'.drew.setNow h'.za[i].zf
    have hN:=qi k' hni hi
    have hD:=zaz (h:={h' with now:=h'.za[i].zf}) k2 (j:=i) hi
    have cmD:=k'.cm zC.drew (by have:=k'.box.lt;have:=k'.le;omega)
    clear x0 x1 x2 x3 x4 x5 d0 d1 d2 d3 d4 d5 k k1
    go_wp2_with (first
     | (go_at_call 177;refine hN.mono ?_;rintro e w' ⟨rfl,hw⟩;obtain rfl:=hw)
     | (go_at_call 198;refine hD.mono ?_;rintro e w' ⟨rfl,⟨V3,k3⟩,cm3⟩))
    have hlen:(yw h').za.length=h'.za.length:=by rw[HLV.out];simp
    have k4:SM (fun q=>A q\/q=w.heap.size) B w' bo vp (.slice (some ⟨g,off,none⟩) (yw h').za.length zp) vs ms (yw h') V3:=by rw[hlen,HLV.out];exact k3
    have hw4:xA (yw h').za (yw h').now t:=by
     rw[HLV.out]
     exact HWT.out.1
    have hst4:∀s:Nat,∀hs:s<(yw h').za.length,(yw h').za[s].ze.length<=1000:=fun s hs=>by
     have hq:(yw h').za=h'.za.set i {h'.za[i] with ze:=[],zf:=-1,zv:=true}:=by rw[HLV.out]
     simp only[hq]
     by_cases e:i=s
     ·subst e;simp
     ·rw[List.getElem_set_ne e];exact hst' s (by omega)
    have hl':=HWT.out.2
    have hjt:j∈t:=by
     rw[hl'] at hjl'
     rcases List.mem_cons.1 hjl' with q | q
     ·exact absurd (by omega:(i:Int)=j) (zG.1 hij')
     ·exact q
    go_roundg t.length
    case measure=>rw[hl'];simp
    case rel=>exact⟨yw h',V3,t,f',rfl,k4,hw4,hjt,by rw[hl'] at hf;simpa using hf,by rw[HBK.out,HB2.out],hst4,cm'.trans (cmD.trans (cm2.trans cm3))⟩
set_option maxRecDepth 100000 in
set_option maxHeartbeats 8000000 in
theorem Vb {A:Nat->Prop} {B:Nat} {w:World} {bo:Nat} {vp vs:Value} {g off zp:Nat} {ms:zM} {h:Hp} {V:Nat->Value × Value} (k:SM A B w bo vp (.slice (some ⟨g,off,none⟩) h.za.length zp) vs ms h V) (hB:B<=w.heap.size) {j:Nat} (hn:h.now=j) (hj:j<h.za.length) (hst:h.za[j].ze.length<=1000) (kk a x:Int) (va:Value) (args:zL) (ha:zR w va args)
 (hM:∀W:World,Below w.heap.size w W->Calls Tryz.prog 190 #[.agg #[.int .i64 kk,.int .i64 a],va] W fun e w'=>e=.returned (.tuple #[.agg #[.int .i64 1,.int .i64 x],.bool true])/\Below W.heap.size W w') :
 Calls Tryz.prog 180 #[.pointer (some ⟨bo,0,none⟩),.agg #[.int .i64 kk,.int .i64 a],va] w fun e w'=>e=.returned (.tuple #[])/\(∃vm vs' V',SM A B w' bo vp vm vs' ms (xN h (1,x)) V')/\Cm A B w w':=by
 obtain⟨aa,ca,hva⟩:=ha.shape
 subst hva
 have hA:Below w.heap.size w (w.alloc (.cells #[.int .i64 kk,.int .i64 a] 33)):=zB _ _
 have rx:=yS w 33 (.int .i64 kk) (.int .i64 a)
 have k1:=k.made hA (by simp)
 have vK:=k.cm hA hB
 go_enter Tryz.func180,Tryz.ntmps180
 go_upto_region 1 with fail
 generalize w.alloc (.cells #[.int .i64 kk,.int .i64 a] 33)=W1 at *
 have z1:=hA.size
 obtain⟨⟨t0,t1⟩,_⟩:=zy rx
 go_upto_region 4 with(first
  | (go_at_call 177;refine(qi k1 hn hj).mono ?_;rintro e w' ⟨rfl,hw⟩;obtain rfl:=hw)
  | (go_at_call 190;refine(hM _ hA.drew).mono ?_;rintro e w3 ⟨rfl,hb3⟩))
 have N4:=zB w3 (.cells #[.int .i64 1,.int .i64 x] 98)
 have r4:=yS w3 98 (.int .i64 1) (.int .i64 x)
 have b14:Below W1.heap.size W1 (w3.alloc (.cells #[.int .i64 1,.int .i64 x] 98)):=((Below.refl W1.heap.size W1).drew.trans hb3).trans (N4.mono hb3.size)
 have k4:=k1.below b14
 have vu:Cm A B w (w3.alloc (.cells #[.int .i64 1,.int .i64 x] 98)):=vK.trans ((k1.cm b14 (by omega)).less (fun q hq=>.inl hq))
 have hB4:B<=(w3.alloc (.cells #[.int .i64 1,.int .i64 x] 98)).heap.size:=by have:=vu.b.size;omega
 have HR:Hid (xN h (1,x)={h with za:=h.za.set j {h.za[j] with ze:=h.za[j].ze ++ [(1,x)]}}):=vi hn hj _
 obtain⟨sa,sc,ZT,_⟩:=(k4.own.c.lists j hj).2.slice
 obtain⟨⟨e0,e1,e2,e3,e4,e5⟩,_⟩:=k4.own.c.cells hj
 rw[ZT] at e3
 have Zo:=(k4.own.c.lt (g:=g) (.inl rfl)).2
 have HPT:=kg k4 hB4 hj ZT
 have hwl:=r4.lt
 clear k1 k vK N4 b14 hb3 hM t0 t1 rx
 generalize w3.alloc (.cells #[.int .i64 1,.int .i64 x] 98)=W4 at *
 generalize w3.heap.size=bv at *
 obtain⟨⟨t0,t1⟩,_⟩:=zy r4
 obtain⟨zx,hend⟩:=HPT ((W4.alloc (.cells #[.int .i64 1,.int .i64 x] 98)).drew) ((zB _ _).drew) (1,x)
 have HE:Hid _:=hend
 clear hend HPT
 go_region_law (refine xT _ (by rfl) _ _ (by rfl) B _ _ h.za[j].ze [(1,x)] (by rfl) (by rfl) zx (uh W4 1 x _ _) (by simp;omega) (by simp;omega) ?_;intro v' w' zS hg hbk;obtain⟨a',c',hv',_⟩:=zS.slice;rw[List.length_append] at hv';subst hv';obtain⟨⟨z4,f4⟩,hSM⟩:=HE.out _ w' zS hg hbk)
 all_goals
  obtain⟨⟨V4,kV⟩,cV⟩:=hSM
  go_wp2
  refine bodyPost_ret (results_none rfl _ _ _) rfl ⟨rfl,⟨.slice (some ⟨g,off,none⟩) h.za.length zp,vs,V4,?_⟩,vu.trans (cV.less (fun q hq=>.inl hq))⟩
  rw[HR.out]
  exact kV.less (fun q hq=>.inl hq)
end Go.Proofs.YtjbgpcileapogaaGreat

/-
  The program's heap at work: who called, a value is put.
-/
import Derived.Test.YtbjgjjkgfnfejaaGreatDoorMLive3
import Derived.Test.YtbjgjjkgfnfejaaGreatDoorMOrder
namespace Go.Proofs.YtbjgjjkgfnfejaaGreatDoor
set_option maxHeartbeats 4000000
set_option maxRecDepth 100000
open Go.RowKit
variable {B:Nat} {w w':World} {bl br:Nat} {vp j9 qa:Value} {C D:Nat->Nat} {T:Nat->Value × Value} {h h':Hp}
theorem Ji (w:World) (k q:Int) (e:TypeId) (c:Nat):yi (w.alloc (.cells #[.int .i64 k,.int .i64 q] e)).drew (.slice (some ⟨w.heap.size,0,none⟩) 1 c) [(k,q)]:=zfx w k q e c
theorem zdk {w w2:World} {t:TypeId} (hb:zO w w2) (hr:w2.rowIs w.heap.size t 2 (UZ (zI 0) (zI 0))) (x y:Int):∃W9:World,W9=(w2.setCell (zH w.heap.size 0) (zI x)).setCell (zH w.heap.size 1) (zI y)/\W9.cell? (zH w.heap.size 0)=some (zI x)/\W9.cell? (zH w.heap.size 1)=some (zI y)/\zO w W9:=by
 have R9:((w2.setCell (zH w.heap.size 0) (zI x)).setCell (zH w.heap.size 1) (zI y)).rowIs w.heap.size t 2 (UZ (zI x) (zI y)):=((ZO hr (zI x)).set 1 (zI y)).congr fun i hi=>by match i,hi with | 0,_=>rfl | 1,_=>rfl
 obtain⟨⟨q0,q1⟩,_⟩:=yz R9
 exact⟨_,rfl,q0,q1,(hb.setCell (p:=zH w.heap.size 0) zD (zI x)).setCell (p:=zH w.heap.size 1) zD (zI y)⟩
variable {B:Nat} {w w':World} {bl br:Nat} {vp j9 qa:Value} {C D:Nat->Nat} {T:Nat->Value × Value} {h h':Hp}
theorem zeD (d:Nat) (w:World) (x3 x4:Value) (h3:w.cell? (zH d 3)=some x3) (h4:w.cell? (zH d 4)=some x4) (f3:w.frozen? (zH d 3)=false) (f4:w.frozen? (zH d 4)=false) :
 Calls Tryz.prog 217 #[zJ d 0] w fun e w'=>e=.returned (.tuple #[])/\w'=(w.setCell (zH d 3) (zQ)).setCell (zH d 4) (.bool true):=by
 go_enter Tryz.func217,Tryz.ntmps217
 go_wp2
 exact bodyPost_end (results_none rfl _ _ _) rfl ⟨rfl,rfl⟩
variable {B:Nat} {w w':World} {bl br:Nat} {vp j9 qa:Value} {C D:Nat->Nat} {T:Nat->Value × Value} {h h':Hp}
variable {B:Nat} {w w':World} {bl br:Nat} {vp j9 qa:Value} {C D:Nat->Nat} {T:Nat->Value × Value} {h h':Hp}
variable {B:Nat} {w w':World} {bl br:Nat} {vp j9 qa:Value} {C D:Nat->Nat} {T:Nat->Value × Value} {h h':Hp}
variable {B:Nat} {w w':World} {bl br:Nat} {vp j9 qa:Value} {C D:Nat->Nat} {T:Nat->Value × Value} {h h':Hp}
structure Tk (P:Nat->Prop) (w:World) (v:Value) (args:yH):Prop where
 at_:yi w v args
 off:∀g,v.ownBlock=some g->g<w.heap.size/\¬P g
theorem Tk.go {P P':Nat->Prop} {v:Value} {args:yH} (t:Tk P w v args) (g:LGo B P P' w w'):Tk P' w' v args:=by
 refine⟨?_,fun q e=>⟨Nat.lt_of_lt_of_le (t.off q e).1 g.b.size,fun hq=>?_⟩⟩
 ·obtain⟨a,cap,rfl,hl,hc⟩:=t.at_
  refine⟨a,cap,rfl,hl,fun i hi=>?_⟩
  obtain⟨b,o,rfl,h0,h1⟩:=hc i hi
  have ho:=t.off b rfl
  have e:=g.keep b ho.1 ho.2
  exact⟨b,o,rfl,(World.cell?_of_block (a:=⟨b,_,none⟩) e).trans h0,(World.cell?_of_block (a:=⟨b,_,none⟩) e).trans h1⟩
 ·rcases g.own q hq with x | x
  ·exact(t.off q e).2 x
  ·have:=(t.off q e).1;omega
theorem Tk.cell {P:Nat->Prop} {v:Value} {args:yH} (t:Tk P w v args) {i:Nat} (hi:i<args.length):∃b o cap,v=zK b o args.length cap/\w.cell? (zH b (o+i * 2))=some (zI args[i].1)/\w.cell? (zH b (o+i * 2+1))=some (zI args[i].2):=by
 obtain⟨a,cap,rfl,hl,hc⟩:=t.at_
 obtain⟨b,o,rfl,h0,h1⟩:=hc i hi
 exact⟨b,o,cap,rfl,h0,h1⟩
theorem ve (n:Int) (w:World) :
 Calls Tryz.prog 175 #[zI n] w fun e w'=>e=.returned (.agg #[zI 1,zI n])/\zO w w':=by
 go_enter Tryz.func175,Tryz.ntmps175
 go_wp2
 exact bodyPost_ret (v:=.agg #[zI 1,zI n]) (by simp[results,Tryz.results175,go_sem]) rfl ⟨rfl,zR _ _⟩
theorem wk (t:Bool) (w:World) :
 Calls Tryz.prog 176 #[.bool t] w fun e w'=>e=.returned (.agg #[zI 1,zI (if t then 1 else 0)])/\zO w w':=by
 have hA:zO w (w.alloc (.cells #[.int .i64 0,.int .i64 0] 86)):=zR _ _
 have rx:=kH w 86 (.int .i64 0) (.int .i64 0)
 cases t
 ·go_enter Tryz.func176,Tryz.ntmps176
  go_wp2_with (go_at_call 175;refine(ve 0 _).mono ?_;rintro e w2 ⟨rfl,hb⟩;have r2:=yU hb rx;obtain⟨⟨t0,t1⟩,tf0,tf1⟩:=yz r2)
  obtain⟨W9,hW9,q0,q1,B9⟩:=zdk (hA.trans (hb.mono hA.size)) r2 1 0
  rw[<-hW9]
  exact bodyPost_ret (v:=.agg #[zI 1,zI 0]) (by simp[results,Tryz.results176,go_sem,q0,q1]) rfl ⟨rfl,B9⟩
 ·go_enter Tryz.func176,Tryz.ntmps176
  go_wp2_with (go_at_call 175;refine(ve 1 _).mono ?_;rintro e w2 ⟨rfl,hb⟩;have r2:=yU hb rx;obtain⟨⟨t0,t1⟩,tf0,tf1⟩:=yz r2)
  obtain⟨W9,hW9,q0,q1,B9⟩:=zdk (hA.trans (hb.mono hA.size)) r2 1 1
  rw[<-hW9]
  exact bodyPost_ret (v:=.agg #[zI 1,zI 1]) (by simp[results,Tryz.results176,go_sem,q0,q1]) rfl ⟨rfl,B9⟩
variable {B:Nat} {w w':World} {bl br:Nat} {vp j9 qa:Value} {C D:Nat->Nat} {T:Nat->Value × Value} {h h':Hp}
theorem LV.pc (k:LV B w bl br vp j9 qa C D T h) {j:Nat} (hj:j<h.ze.length) (x:Int):LV B (w.setCell (zH (D j) 1) (zI x)) bl br vp j9 qa C D (wi T j ((T j).1,(T j).2)) {h with ze:=h.ze.set j {h.ze[j] with pc:=x}} /\
 LGo B (zbJ bl br j9 qa C D T h.ze.length) (zbJ bl br j9 qa C D (wi T j ((T j).1,(T j).2)) h.ze.length) w (w.setCell (zH (D j) 1) (zI x)):=by
 have hDl:=k.lo (.body j) hj (D j) rfl
 have hDt:(T j).1.ownBlock≠some (D j):=fun e=>by have:=k.ap (.zh j) (.body j) hj hj (D j) e rfl;cases this
 have hDs:(T j).2.ownBlock≠some (D j):=fun e=>by have:=k.ap (.zf j) (.body j) hj hj (D j) e rfl;cases this
 have hTS:∀q,(T j).1.ownBlock=some q->(T j).2.ownBlock≠some q:=fun q e e2=>by have:=k.ap (.zh j) (.zf j) hj hj q e e2;cases this
 have hbl:∀g,g<w.heap.size->g≠D j->(T j).1.ownBlock≠some g->(T j).2.ownBlock≠some g->(w.setCell (zH (D j) 1) (zI x)).heap[g]?=w.heap[g]?:=fun g _ h2 _ _=>Below.heap_setCell _ _ _ _ (fun e=>h2 e)
 exact⟨k.turn hj rfl (by simp[World.setCell]) hbl (Uw (k.bd j hj) (zI x)) ((k.ts j hj).1.set_other _ hDt) ((k.ts j hj).2.set_other _ hDs) (fun q e=>.inl e) (fun q e=>.inr (.inl e)) hTS,LV.turn_go hj (zS.setCell (p:=zH (D j) 1) hDl.1 _) hbl (fun q e=>.inl e) (fun q e=>.inr (.inl e))⟩
variable {B:Nat} {w w':World} {bl br:Nat} {vp j9 qa:Value} {C D:Nat->Nat} {T:Nat->Value × Value} {h h':Hp}
variable {B:Nat} {w w':World} {bl br:Nat} {vp j9 qa:Value} {C D:Nat->Nat} {T:Nat->Value × Value} {h h':Hp}
variable {B:Nat} {w w':World} {bl br:Nat} {vp j9 qa:Value} {C D:Nat->Nat} {T:Nat->Value × Value} {h h':Hp}
theorem LV.temp (k:LV B w bl br vp j9 qa C D T h) {j:Nat} (hj:j<h.ze.length) {gt ot m ct:Nat} (hT:(T j).1=zK gt ot m ct) (q:Nat) (hq:q<h.ze[j].zh.length) (x y:Int) :
 LV B ((w.setCell (zH gt (ot+q * 2)) (zI x)).setCell (zH gt (ot+q * 2+1)) (zI y)) bl br vp j9 qa C D (wi T j ((T j).1,(T j).2)) {h with ze:=h.ze.set j {h.ze[j] with zh:=h.ze[j].zh.set q (x,y)}} /\
 LGo B (zbJ bl br j9 qa C D T h.ze.length) (zbJ bl br j9 qa C D (wi T j ((T j).1,(T j).2)) h.ze.length) w ((w.setCell (zH gt (ot+q * 2)) (zI x)).setCell (zH gt (ot+q * 2+1)) (zI y)):=by
 have zE:(T j).1.ownBlock=some gt:=by rw[hT];rfl
 have hgl:=k.lo (.zh j) hj gt zE
 have hTS:∀g,(T j).1.ownBlock=some g->(T j).2.ownBlock≠some g:=fun g e e2=>by have:=k.ap (.zh j) (.zf j) hj hj g e e2;cases this
 have hgD:gt≠D j:=fun e=>by have:=k.ap (.zh j) (.body j) hj hj gt zE (by rw[e];rfl);cases this
 have hset:∀g,g≠gt->((w.setCell (zH gt (ot+q * 2)) (zI x)).setCell (zH gt (ot+q * 2+1)) (zI y)).heap[g]?=w.heap[g]?:=fun g h2=>(Below.heap_setCell _ _ _ _ (fun e=>h2 e)).trans (Below.heap_setCell _ _ _ _ (fun e=>h2 e))
 have hbl:∀g,g<w.heap.size->g≠D j->(T j).1.ownBlock≠some g->(T j).2.ownBlock≠some g->((w.setCell (zH gt (ot+q * 2)) (zI x)).setCell (zH gt (ot+q * 2+1)) (zI y)).heap[g]?=w.heap[g]?:=fun g _ _ h3 _=>hset g (fun e=>h3 (by rw[e];exact zE))
 have ht:=(k.ts j hj).1
 rw[hT] at ht
 have ht':=ht.set q hq x y
 rw[<-hT] at ht'
 have hs':=(((k.ts j hj).2.set_other (p:=zH gt (ot+q * 2)) (zI x) (hTS gt zE)).set_other (p:=zH gt (ot+q * 2+1)) (zI y) (hTS gt zE))
 exact⟨k.turn hj rfl (by simp[World.setCell]) hbl ((k.bd j hj).of_block (hset (D j) (Ne.symm hgD))) ht' hs' (fun g e=>.inl e) (fun g e=>.inr (.inl e)) hTS,LV.turn_go hj ((Below.refl _ _ |>.setCell (p:=zH gt (ot+q * 2)) hgl.1 _).setCell (p:=zH gt (ot+q * 2+1)) hgl.1 _) hbl (fun g e=>.inl e) (fun g e=>.inr (.inl e))⟩
theorem zbb {h:Hp} {i:Nat} (hi:i<h.ze.length) (q:Nat) (v:Int × Int):YT h i (q:Int) v={h with ze:=h.ze.set i {h.ze[i] with zh:=h.ze[i].zh.set q v}}:=by
 unfold YT
 rw[xo hi,Int.toNat_natCast]
theorem zcA {h:Hp} {i:Nat} (hi:i<h.ze.length) {q:Nat} (hq:¬q<h.ze[i].zh.length) (v:Int × Int):YT h i (q:Int) v=h:=by
 have e:h.ze[i].zh.set q v=h.ze[i].zh:=List.set_eq_of_length_le (by omega)
 have e2:h.ze.set i h.ze[i]=h.ze:=List.set_getElem_self hi
 rw[zbb hi,e]
 show({h with ze:=h.ze.set i h.ze[i]}:Hp)=h
 rw[e2]
variable {B:Nat} {w w':World} {bl br:Nat} {vp j9 qa:Value} {C D:Nat->Nat} {T:Nat->Value × Value} {h h':Hp}
variable {B:Nat} {w w':World} {bl br:Nat} {vp j9 qa:Value} {C D:Nat->Nat} {T:Nat->Value × Value} {h h':Hp}
variable {B:Nat} {w w':World} {bl br:Nat} {vp j9 qa:Value} {C D:Nat->Nat} {T:Nat->Value × Value} {h h':Hp}
theorem Tk.cells2 {P:Nat->Prop} {v:Value} {args:yH} (t:Tk P w v args) (h1:1<args.length):∃b o cap,v=zK b o args.length cap/\(w.cell? (zH b o)=some (zI args[0].1)/\w.cell? (zH b (o+1))=some (zI args[0].2))/\w.cell? (zH b (o+2))=some (zI args[1].1)/\w.cell? (zH b (o+2+1))=some (zI args[1].2):=by
 obtain⟨b,o,cap,jA,c0,c1⟩:=t.cell (i:=0) (by omega)
 obtain⟨b',o',cap',zfg,d0,d1⟩:=t.cell h1
 subst jA
 obtain⟨rfl,rfl,rfl⟩:b=b'/\o=o'/\cap=cap':=by
  injection zfg with e1 _ e3
  injection e1 with e1
  injection e1 with e1 e2 _
  exact⟨e1,e2,e3⟩
 rw[Nat.zero_mul,Nat.add_zero] at c0 c1
 rw[Nat.one_mul] at d0 d1
 exact⟨b,o,cap,rfl,⟨c0,c1⟩,d0,d1⟩
variable {B:Nat} {w w':World} {bl br:Nat} {vp j9 qa:Value} {C D:Nat->Nat} {T:Nat->Value × Value} {h h':Hp}
theorem Va (k n:Int) (w:World) :
 Calls Tryz.prog 177 #[.agg #[zI k,zI n]] w fun e w'=>e=.returned (.bool (decide (n=0/\(k=0\/k=1))))/\zO w w':=by
 have hA:zO w (w.alloc (.cells #[.int .i64 k,.int .i64 n] 86)):=zR _ _
 have rx:=kH w 86 (.int .i64 k) (.int .i64 n)
 by_cases hz:k=0/\n=0
 ·obtain⟨rfl,rfl⟩:=hz
  go_enter Tryz.func177,Tryz.ntmps177
  go_wp2_with fail
  go_region
  go_wp2
  go_ret
  exact⟨zp (by simp),hA.drew⟩
 by_cases hn:n=0
 ·subst hn
  have hk:(k == 0)=false:=zG.2 (fun q=>hz ⟨q,rfl⟩)
  have Wt:¬k=0:=fun q=>hz ⟨q,rfl⟩
  clear hz
  by_cases h1:k=1
  ·subst h1
   clear hk Wt
   go_enter Tryz.func177,Tryz.ntmps177
   go_wp2_with fail
   go_region_with (go_at_call 175;refine(ve _ _).mono ?_;rintro e w2 ⟨rfl,hb⟩;obtain⟨⟨t0,t1⟩,_⟩:=yz (yU hb rx))
   all_goals
    go_wp2
    go_ret
    exact⟨zp (by simp),hA.drew.trans (hb.mono hA.size)⟩
  ·have h1':(k == 1)=false:=zG.2 h1
   go_enter Tryz.func177,Tryz.ntmps177
   go_wp2_with fail
   go_region_with (go_at_call 175;refine(ve _ _).mono ?_;rintro e w2 ⟨rfl,hb⟩;obtain⟨⟨t0,t1⟩,_⟩:=yz (yU hb rx))
   all_goals
    go_wp2
    go_ret
    exact⟨zp (by simp[Wt,h1]),hA.drew.trans (hb.mono hA.size)⟩
 ·have hn':(n == 0)=false:=zG.2 hn
  clear hz
  go_enter Tryz.func177,Tryz.ntmps177
  go_wp2_with fail
  go_region_with (go_at_call 175;refine(ve _ _).mono ?_;rintro e w2 ⟨rfl,hb⟩;obtain⟨⟨t0,t1⟩,_⟩:=yz (yU hb rx))
  all_goals
   go_wp2
   go_ret
   exact⟨zp (by simp[hn]),hA.drew.trans (hb.mono hA.size)⟩
variable {B:Nat} {w w':World} {bl br:Nat} {vp j9 qa:Value} {C D:Nat->Nat} {T:Nat->Value × Value} {cs:List Cl} {now:Int}
def Xb (xs:List Int) (k:Nat) (i:Int):List Int:=xs.take k ++ xs.drop (k+1) ++ [i]
theorem zef {B:Nat} {ρ:Nat->Rl} {w:World} {P:Lay} (h:yj B ρ w P) (hB:B<=w.heap.size) (i:Int) (k:Nat) (hk:k<P.L.order.length) (he:P.L.order[k]=i) (hno:∀j,(hj:j<P.L.order.length)->j<k->P.L.order[j]≠i) (zb9:P.L.order.length<=1000) :
 Calls Tryz.prog 75 #[zJ P.bl 0,zI i] w fun e w'=>e=.returned (.tuple #[])/\∃ρ' uV,yj B ρ' w' {P with vo:=uV,L:={P.L with order:=Xb P.L.order k i,now:=i}}/\Ch (fun r=>r≠.other) ρ ρ' w w'/\Below B w w':=by
 have HL:Hid (yj B ρ w P):=h
 obtain⟨hor,hog⟩:=h .order
 have hidx:Uc P.L.order i=(k:Int):=K2 hk he hno
 obtain⟨g,off,cap,jw,hBg,hgl⟩:=hor.form (by omega)
 obtain⟨m,hm⟩:∃m,P.L.order.length=m+1:=⟨P.L.order.length - 1,by omega⟩
 have hbx:=(h .live).1
 have hrl:=(h .live).2.1
 have hBb:=(h .live).2.2
 have hρg:ρ g=.order:=hog g (by rw[jw];rfl)
 have xp:g≠P.bl:=fun e=>by rw[e,hrl] at hρg;cases hρg
 rw[jw] at hbx
 obtain⟨vp,qz⟩:∃vp,P.vp=vp:=⟨_,rfl⟩
 have hIX:=Yp P.vo P.L.order i w hor.at
 rw[hidx,jw,hm] at hIX
 have X7:zL B w (zK g off P.L.order.length cap) P.L.order:=by rw[<-jw];exact hor
 have hDE:=Jo B g off cap k m P.L.order w hm X7 (by omega)
 have x2:=hbx.cell 2 rfl
 rw[hm] at x2
 obtain⟨bl,hbl⟩:∃bl,P.bl=bl:=⟨_,rfl⟩
 rw[hbl] at x2 hbx xp hBb ⊢
 have hblw:=hbx.lt
 clear h hor X7 hidx
 go_enter Tryz.func75,Tryz.ntmps75
 go_wp2_with fail
 refine hIX.mono ?_
 rintro e W ⟨rfl,hw⟩
 obtain rfl:=hw.symm
 clear hw hIX
 go_wp2_with fail
 refine hDE.mono ?_
 rintro e w1 ⟨rfl,X8,Yt⟩
 have qk:Bx w1 bl 117 [zI P.L.cells,P.vp,zK g off P.L.order.length cap,zI P.L.now,.map (some P.bm)]:=hbx.grown Yt fun e=>xp (by injection e)
 obtain⟨YS,hYS⟩:∃YS,P.L.order.take k ++ P.L.order.drop (k+1)=YS:=⟨_,rfl⟩
 have hyl:YS.length=m:=by rw[<-hYS];simp;omega
 rw[hYS] at X8
 have hyl2:YS.length<=1000:=by omega
 obtain⟨i0,hii,jM,xP,vJ⟩:=info_parts Tryz.infoIntO
 have hz1w:=Yt.size
 have HFIN:Hid (∀(g2 Xw cp2:Nat) (w2:World),zL B w2 (zK g2 Xw (YS.length+1) cp2) (YS ++ [i])->w1.grownBy w2 (some g)->((some g:Option Nat)=some g2\/w1.heap.size<=g2) ->
  ∃ρ' uV,yj B ρ' ((w2.setCell (zH bl 2) (zK g2 Xw (YS.length+1) cp2)).setCell (zH bl 3) (zI i)) {P with vo:=uV,L:={P.L with order:=Xb P.L.order k i,now:=i}}/\Ch (fun r=>r≠.other) ρ ρ' w ((w2.setCell (zH bl 2) (zK g2 Xw (YS.length+1) cp2)).setCell (zH bl 3) (zI i))/\Below B w ((w2.setCell (zH bl 2) (zK g2 Xw (YS.length+1) cp2)).setCell (zH bl 3) (zI i))):=by
  intro g2 Xw cp2 w2 yd hgr hor
  have G:w.grownBy w2 (some g):=Yt.trans hgr
  have c:Ch (fun r=>r=.order) ρ (zv ρ w .order) w w2:=Ch.grown G ρ .order fun q e=>by cases e;exact hρg
  have qF:∀q,(zK g2 Xw (YS.length+1) cp2).ownBlock=some q->zv ρ w .order q=.order:=fun q e=>by
   have e2:g2=q:=by injection e
   subst e2
   rcases hor with e3 | e3
   ·injection e3 with e3
    subst e3
    rw[yJ hgl,hρg]
   ·exact qt (by omega)
  have yO:zL B w2 (zK g2 Xw (YS.length+1) cp2) (Xb P.L.order k i):=by unfold Xb;rw[hYS];exact yd
  have A:=HL.out.setOrder c yO qF
  have A2:=A.setNow i
  subst hbl
  refine⟨_,_,A2,?_,?_⟩
  ·have r2:zv ρ w .order P.bl=.live:=by rw[yJ (by omega)];exact hrl
   exact((c.mono (by intro r e;rw[e];simp)).trans (Ch.set w2 _ P.bl 2 _ (by rw[r2];simp))).trans (Ch.set _ _ P.bl 3 _ (by rw[r2];simp))
  ·exact(((Below.refl B w).grown G hB fun q e=>by cases e;exact hBg).setCell (p:=zH P.bl 2) hBb _).setCell (p:=zH P.bl 3) hBb _
 clear hyl hrl hρg hgl Yt hYS jw HL hm he hno hk hog
 go_upto_region 2 with(at_builtin;refine Jy Tryz.underlying30 hii jM xP vJ w1 (by rfl) _ _ (by rfl) _ YS (by rfl) X8 i w1.heap.size _ rfl (by rfl) (by omega) (by omega) ?_;intro g2 Xw cp2 w2 yO qF X7 X6;have yE:=qk.grown qF (fun e=>xp (by injection e));have y2:=yE.cell 2 rfl;have f2:=yE.frozen 2)
 have qR:=yE.set 2 (zK g2 Xw (YS.length+1) cp2)
 have y3:=qR.cell 3 rfl
 have f3:=qR.frozen 3
 have HE:=HFIN.out g2 Xw cp2 w2 yO qF X7
 clear HFIN qk yE qR y2 f2
 go_wp2
 subst hbl
 exact bodyPost_end (results_none rfl _ _ _) rfl ⟨rfl,HE⟩
end Go.Proofs.YtbjgjjkgfnfejaaGreatDoor
namespace Go.Proofs.YtbjgjjkgfnfejaaGreatDoor
structure jU (L L':yw):Prop where
 pl:L'.za.length=L.za.length
 fb:∀i k,(L'.fr i k).map (fun f:jV=>f.body)=(L.fr i k).map (fun f:jV=>f.body)
 ba:∀i:Nat,(L'.za[i]?).map (fun p:ws=>p.base)=(L.za[i]?).map (fun p:ws=>p.base)
 bo:L'.zj=L.zj
 ord:L'.order=L.order
 now:L'.now=L.now
 ce:L'.cells=L.cells
 tw:qx L.zd L'.zd
theorem jU.refl (L:yw):jU L L:=⟨rfl,fun _ _=>rfl,fun _=>rfl,rfl,rfl,rfl,rfl,qx.refl _⟩
theorem jU.trans {a b c:yw} (h:jU a b) (k:jU b c):jU a c :=
 ⟨k.pl.trans h.pl,fun i q=>(k.fb i q).trans (h.fb i q),fun i=>(k.ba i).trans (h.ba i),k.bo.trans h.bo,k.ord.trans h.ord,k.now.trans h.now,k.ce.trans h.ce,h.tw.trans k.tw⟩
theorem jU.fr {L L':yw} (h:jU L L') {i k:Nat} {f:jV} (hf:L.fr i k=some f):∃f',L'.fr i k=some f'/\f'.body=f.body:=by
 have:=h.fb i k
 rw[hf] at this
 cases e:L'.fr i k with
 | none=>rw[e] at this;cases this
 | some g=>rw[e] at this;exact⟨g,rfl,by injection this⟩
theorem jU.none {L L':yw} (h:jU L L') {i k:Nat} (hf:L.fr i k=none):L'.fr i k=none:=by
 have:=h.fb i k
 rw[hf] at this
 cases e:L'.fr i k with
 | none=>rfl
 | some g=>rw[e] at this;cases this
def qv (L:yw) (i:Nat):Nat:=(L.za.getD i ⟨-1,[]⟩).zg.length
theorem kx {L:yw} {i:Nat} (hi:i<L.za.length):qv L i=L.za[i].zg.length:=by unfold qv;simp[hi]
theorem vB {L:yw} {i k:Nat} (hk:k<qv L i):∃f,L.fr i k=some f:=by
 by_cases hi:i<L.za.length
 ·rw[kx hi] at hk
  exact⟨_,yw.fr_at hi hk⟩
 ·unfold qv at hk
  simp[hi] at hk
theorem zc6 {L:yw} {i k:Nat} {f:jV} (h:L.fr i k=some f):i<L.za.length/\k<qv L i:=by
 obtain⟨hi,hk,_⟩:=yw.fr_some h
 exact⟨hi,by rw[kx hi];exact hk⟩
theorem jU.n {L L':yw} (h:jU L L') (i:Nat):qv L' i=qv L i:=by
 rcases Nat.lt_trichotomy (qv L' i) (qv L i) with e | e | e
 ·obtain⟨f,hf⟩:=vB e
  obtain⟨f',hf',_⟩:=h.fr hf
  exact absurd (zc6 hf').2 (Nat.lt_irrefl _)
 ·exact e
 ·obtain⟨f,hf⟩:=vB e
  cases e2:L.fr i (qv L i) with
  | none=>rw[h.none e2] at hf;cases hf
  | some g=>exact absurd (zc6 e2).2 (Nat.lt_irrefl _)
theorem jU.bel {L L':yw} (h:jU L L') (hb:∀(i:Nat) (p:ws),L.za[i]?=some p->ui L.zd.length p.base) (i k:Nat):qE L' i k=qE L i k:=j5 h.tw hb (fun _=>h.ba i) fun q _=>h.fb i q
theorem vL (L:yw) (i:Nat):ue L i=qE L i (qv L i):=rfl
theorem jU.top {L L':yw} (h:jU L L') (hb:∀(i:Nat) (p:ws),L.za[i]?=some p->ui L.zd.length p.base) (i:Nat):ue L' i=ue L i:=by
 rw[vL,vL,h.n i,h.bel hb]
def zC (L:yw) (i k:Nat):yw × Int:=match L.fr i k with
 | some f=>if f.twin=-1 then(YI L i k f,(L.zd.length:Int)) else(L,f.twin)
 | none=>(L,-1)
theorem zdK {L:yw} {i k:Nat} {f:jV} (hf:L.fr i k=some f):jU L (YI L i k f) where
 pl:=by unfold YI yw.setFr;simp
 fb:=fun i' k'=>by
  show((L.setFr i k _).fr i' k').map _=_
  rw[yw.fr_setFr hf]
  split
  ·rename_i e
   rw[e.1,e.2,hf]
   rfl
  ·rfl
 ba:=fun i'=>yw.base_setFr i'
 bo:=rfl
 ord:=rfl
 now:=rfl
 ce:=rfl
 tw:=qx.snoc _ _
theorem vN {I K:Nat} {L:yw} {h:Hp} (s:xE I K L h) {i k:Nat} {f:jV} (hf:L.fr i k=some f) (hp:Pr I K i k) :
 xE I K (zC L i k).1 h/\jU L (zC L i k).1/\∃(j:Nat) (sx:Int),(zC L i k).2=(j:Int)/\(zC L i k).1.zd[j]?=some ⟨(i:Int),(k:Int),f.body,sx⟩/\(zC L i k).1.fr i k=some ⟨f.body,(j:Int)⟩:=by
 unfold zC
 rw[hf]
 by_cases h0:f.twin=-1
 ·simp only[h0,if_true]
  refine⟨s.give hf hp h0,zdK hf,L.zd.length,0,rfl,?_,?_⟩
  ·show(L.zd ++ [_])[L.zd.length]?=_
   simp
  ·show(L.setFr i k _).fr i k=_
   rw[yw.fr_setFr hf,if_pos ⟨rfl,rfl⟩]
 ·simp only[if_neg h0]
  refine⟨s,jU.refl _,?_⟩
  rcases(s.fb i k f hf hp).2 with e | ⟨j,sx,e1,e2⟩
  ·exact absurd e h0
  ·exact⟨j,sx,e1,e2,by rw[hf,<-e1]⟩
def qL (I:Nat):Nat->Nat->Int->yw->yw × Int
 | 0,_,below,L=>(L,below)
 | n+1,k,below,L=>qL I n (k+1) (zC L I k).2 (vF (zC L I k).1 (zC L I k).2.toNat (((L.fr I k).map fun f:jV=>f.body).getD 0) below)
def yu (L:yw) (i:Nat):Int:=((L.za[i]?).map fun p:ws=>p.base).getD (-1)
def jI (L:yw) (I:Nat):yw × Int:=(Zy (qL I (qv L I) 0 (yu L I) L).1 I,(qL I (qv L I) 0 (yu L I) L).2)
theorem zfv (L:yw) (j:Nat) (b:Nat) (below:Int) (t:km) (h:L.zd[j]?=some t) (e:t.body=b):jU L (vF L j b below) :=
 ⟨rfl,fun _ _=>rfl,fun _=>rfl,rfl,rfl,rfl,rfl,qx.set _ _ _ _ h e.symm⟩
theorem KO {I:Nat} {h:Hp} (n k:Nat) (below:Int) (L:yw) (s:xE I k L h) {f:jV} (hf:L.fr I k=some f) (hb:ui L.zd.length below) (he:qE L I k=Ya L.zd below) :
 ∃(j:Nat) (sx:Int),(zC L I k).2=(j:Int)/\(zC L I k).1.zd[j]?=some ⟨(I:Int),(k:Int),f.body,sx⟩/\jU L (zC L I k).1/\xE I (k+1) (vF (zC L I k).1 j f.body below) h/\jU L (vF (zC L I k).1 j f.body below) /\
  ui (vF (zC L I k).1 j f.body below).zd.length (j:Int)/\qE (vF (zC L I k).1 j f.body below) I (k+1)=Ya (vF (zC L I k).1 j f.body below).zd (j:Int) /\
  qL I (n+1) k below L=qL I n (k+1) (j:Int) (vF (zC L I k).1 j f.body below):=by
 have hP:Pr I k I k:=fun e=>absurd e.2 (Nat.lt_irrefl _)
 obtain⟨s1,l1,j,sx,e1,e2,e3⟩:=vN s hf hP
 have hl:ui (zC L I k).1.zd.length below:=hb.ext l1.tw.le
 have qk:qE (zC L I k).1 I k=Ya (zC L I k).1.zd below:=by rw[l1.bel s.ba,he,wl l1.tw hb]
 have s2:=s1.off (f:=⟨f.body,(j:Int)⟩) e3 rfl hl qk
 have hfl:qL I (n+1) k below L=qL I n (k+1) (j:Int) (vF (zC L I k).1 j f.body below):=by
  show qL I n (k+1) (zC L I k).2 (vF (zC L I k).1 (zC L I k).2.toNat (((L.fr I k).map fun f:jV=>f.body).getD 0) below)=_
  rw[e1,hf]
  rfl
 have l2:jU (zC L I k).1 (vF (zC L I k).1 j f.body below):=zfv _ _ _ _ _ e2 rfl
 have hjl:j<(vF (zC L I k).1 j f.body below).zd.length:=by
  rw[show(vF (zC L I k).1 j f.body below).zd.length=(zC L I k).1.zd.length from List.length_set]
  exact(List.getElem?_eq_some_iff.1 e2).1
 have hbk:qE (vF (zC L I k).1 j f.body below) I (k+1)=Ya (vF (zC L I k).1 j f.body below).zd (j:Int):=by
  have e4:(vF (zC L I k).1 j f.body below).zd[j]?=some ⟨-1,0,f.body,below⟩:=List.getElem?_set_self (List.getElem?_eq_some_iff.1 e2).1
  rw[zcM e4]
  show(((zC L I k).1.fr I k).map fun f:jV=>(f.body:Int)).getD (-1)=_
  rw[e3]
  rfl
 exact⟨j,sx,e1,e2,l1,s2,l1.trans l2,.inr ⟨j,rfl,hjl⟩,hbk,hfl⟩
theorem KN {I:Nat} {h:Hp}:∀(n k:Nat) (below:Int) (L:yw),xE I k L h->k+n=qv L I->ui L.zd.length below->qE L I k=Ya L.zd below ->
 xE I (k+n) (qL I n k below L).1 h/\jU L (qL I n k below L).1/\ui (qL I n k below L).1.zd.length (qL I n k below L).2/\qE (qL I n k below L).1 I (k+n)=Ya (qL I n k below L).1.zd (qL I n k below L).2
 | 0,k,below,L,s,_,hb,he=>⟨s,jU.refl _,hb,he⟩
 | n+1,k,below,L,s,hn,hb,he=>by
  obtain⟨f,hf⟩:=vB (L:=L) (i:=I) (k:=k) (by omega)
  obtain⟨j,sx,_,_,_,s2,l3,hjl,hbk,hfl⟩:=KO n k below L s hf hb he
  obtain⟨q1,q2,q3,q4⟩:=KN n (k+1) (j:Int) _ s2 (by rw[l3.n I];omega) hjl hbk
  rw[hfl,show k+(n+1)=k+1+n by omega]
  exact⟨q1,l3.trans q2,q3,q4⟩
theorem zdg {I K:Nat} {L:yw} {h:Hp} (s:xE 0 0 L h) (hK:K=0):xE I K L h:=by
 subst hK
 have hp:∀a b,Pr I 0 a b:=fun a b e=>absurd e.2 yB
 exact⟨fun a b c e _=>s.fb a b c e (yv _ _),fun a b e=>⟨(s.tb a b e).1,(s.tb a b e).2.imp id fun⟨x,y,z,e1,_,e3⟩=>⟨x,y,z,e1,hp _ _,e3⟩⟩,fun a b c a' b' c' e1 _ e2 _=>s.fi a b c a' b' c' e1 (yv _ _) e2 (yv _ _),s.ti,
  fun a b c d e e1 _=>s.tf a b c d e e1 (yv _ _),s.ba,s.se,fun a b c d e1 _=>s.al a b c d e1 (yv _ _),s.n,s.c,fun a b c d e1 _=>s.fs a b c d e1 (yv _ _),s.ts⟩
structure zfV (I:Nat) (L L':yw):Prop where
 pl:L'.za.length=L.za.length
 oth:∀i k,i≠I->(L'.fr i k).map (fun f:jV=>f.body)=(L.fr i k).map (fun f:jV=>f.body)
 ba:∀i:Nat,i≠I->(L'.za[i]?).map (fun p:ws=>p.base)=(L.za[i]?).map (fun p:ws=>p.base)
 gone:L'.za[I]?=some ⟨-1,[]⟩
 bo:L'.zj=L.zj
 ord:L'.order=L.order
 now:L'.now=L.now
 ce:L'.cells=L.cells
 tw:qx L.zd L'.zd
theorem zdE {L:yw} {h:Hp} (s:xE 0 0 L h) {I:Nat} (hI:I<L.za.length) :
 xE 0 0 (jI L I).1 h/\zfV I L (jI L I).1/\ui (jI L I).1.zd.length (jI L I).2/\Ya (jI L I).1.zd (jI L I).2=ue L I:=by
 have hb0:ui L.zd.length (yu L I):=by
  unfold yu
  rw[List.getElem?_eq_getElem hI]
  exact s.ba I _ (List.getElem?_eq_getElem hI)
 obtain⟨q1,q2,q3,q4⟩:=KN (qv L I) 0 (yu L I) L (zdg (I:=I) s rfl) (by omega) hb0 rfl
 rw[Nat.zero_add] at q1 q4
 have hI':I<(qL I (qv L I) 0 (yu L I) L).1.za.length:=by rw[q2.pl];exact hI
 have hn:=q2.n I
 rw[kx hI'] at hn
 refine⟨q1.clear hI' (by omega),⟨?_,fun i k e=>?_,fun i e=>?_,?_,q2.bo,q2.ord,q2.now,q2.ce,q2.tw⟩,q3,?_⟩
 ·show(List.set _ _ _).length=_
  rw[List.length_set,q2.pl]
 ·have:=vY (L:=(qL I (qv L I) 0 (yu L I) L).1) (p:=⟨-1,[]⟩) hI' i k
  rw[if_neg e] at this
  show(yw.fr {(qL I (qv L I) 0 (yu L I) L).1 with za:=_} i k).map _=_
  rw[this]
  exact q2.fb i k
 ·show(((qL I (qv L I) 0 (yu L I) L).1.za.set I _)[i]?).map _=_
  rw[List.getElem?_set_ne (fun x=>e x.symm)]
  exact q2.ba i
 ·show((qL I (qv L I) 0 (yu L I) L).1.za.set I _)[I]?=_
  rw[List.getElem?_set_self hI']
 ·show Ya (qL I (qv L I) 0 (yu L I) L).1.zd _=_
  exact q4.symm.trans (q2.bel s.ba _ _)
end Go.Proofs.YtbjgjjkgfnfejaaGreatDoor

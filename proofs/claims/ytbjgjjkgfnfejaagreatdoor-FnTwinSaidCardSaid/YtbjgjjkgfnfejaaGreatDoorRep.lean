/-
  What draws a heap, in memory: the boxes of the program and of the heap, and what stays while they are written.
-/
import Derived.Test.YtbjgjjkgfnfejaaGreatDoorDraw7
import Derived.Test.YtbjgjjkgfnfejaaGreatDoorPgBack
namespace Go.Proofs.YtbjgjjkgfnfejaaGreatDoor
set_option maxHeartbeats 4000000
set_option maxRecDepth 100000
open Go.RowKit
variable {w wx w':World} {b:Nat} {a:Option Addr} {len cap q B0 bp bh:Nat} {vp vc vs:Value} {ms:List MM} {h:Hp}
theorem qZ.setLow {B:Nat} {w:World} {vc vs:Value} {h:Hp} {V:Nat->Value × Value} (k:qZ B w vc vs h V) {p:Addr} (hp:p.block<B) (u:Value):qZ B (w.setCell p u) vc vs h V :=
 k.kept (by simp[World.setCell]) fun g hg=>Below.heap_setCell _ _ _ _ (fun e=>by have:=(k.lt hg).1;omega)
variable {B:Nat} {w w':World} {bl br:Nat} {vp vcs vsd:Value} {C D:Nat->Nat} {T:Nat->Value × Value} {h h':Hp}
theorem zaJ (k:LV B w bl br vp vcs vsd C D T h) {b:Nat} {l:List Nat} (hw:qG h.za h.now l) (hb:b∈l) (hl:l.length<=h.za.length) :
 Calls Tryz.prog 221 #[zJ bl 0,zI b] w fun e w'=>e=.returned (.tuple #[])/\∃T',LV B w' bl br vp vcs vsd C D T' (yC h.za.length h b)/\vV B (yu bl br vcs vsd C D T h.za.length) (yu bl br vcs vsd C D T' h.za.length) w w':=by
 obtain⟨R,hR⟩:∃R,yC h.za.length h b=R:=⟨_,rfl⟩
 rw[hR]
 have HS:Hid (∃(hc:Hp) (T':Nat->Value × Value) (fc:Nat) (lc:List Nat),LV B w bl br vp vcs vsd C D T' hc/\vV B (yu bl br vcs vsd C D T h.za.length) (yu bl br vcs vsd C D T' h.za.length) w w/\qG hc.za hc.now lc/\b∈lc/\lc.length<=fc/\yC fc hc b=R/\hc.za.length=h.za.length/\l.length=lc.length):=⟨h,T,h.za.length,l,k,vV.refl _ _ _,hw,hb,hl,hR,rfl,rfl⟩
 generalize hN:h.za.length=n at *
 clear k hw hb hR hN
 go_enter Tryz.func221,Tryz.ntmps221
 go_wp2
 go_loopg [] l.length (fun g wr=>∃(hc:Hp) (T':Nat->Value × Value) (fc:Nat) (lc:List Nat),LV B wr bl br vp vcs vsd C D T' hc/\vV B (yu bl br vcs vsd C D T n) (yu bl br vcs vsd C D T' n) w wr/\qG hc.za hc.now lc/\b∈lc/\lc.length<=fc/\yC fc hc b=R/\hc.za.length=n/\g=lc.length)
 case atStart=>exact HS.out
 case round =>
  obtain⟨hc,T',fc,lc,kc,gc,hwc,hbc,hlf,hbk,hcn,rfl⟩:=hrel
  have hpos:0<lc.length:=List.length_pos_iff.2 (fun e=>by rw[e] at hbc;cases hbc)
  obtain⟨fc',rfl⟩:∃f,fc=f+1:=⟨fc - 1,by omega⟩
  have hnn:0<=hc.now:=by
   by_cases e:0<=hc.now
   ·exact e
   ·obtain⟨f,hf⟩:=hwc.ch
    rw[qn (by omega)] at hf
    cases hf
    cases hbc
  obtain⟨j,hj⟩:=Int.eq_ofNat_of_zero_le hnn
  rw[hj] at hwc
  obtain⟨hjl,t0,hl0,_⟩:=hwc.head
  obtain⟨⟨x0,x1⟩,_⟩:=zZ kc.hp
  rw[hj,Go.Proofs.YtbjgjjkgfnfejaaGreatDoor.u9] at x1
  obtain⟨⟨y0,y1,y2⟩,_⟩:=xu (kc.cl j hjl)
  by_cases hjb:j=b
  ·subst hjb
   have hE:R=hc:=by rw[<-hbk];exact XY hj
   have HK:Hid (LV B wr bl br vp vcs vsd C D T' R):=by rw[hE];exact kc
   clear kc
   go_wp2
   exact bodyPost_end (results_none rfl _ _ _) rfl ⟨rfl,T',HK.out,gc⟩
  ·have qF:((j:Int) == (b:Int))=false:=zG.2 (by omega)
   have HL:=VR kc hj hjl
   have hbk2:yC fc' (ye hc) b=R:=by rw[<-hbk,VB (by rw[hj];omega)]
   obtain⟨t,yz,hwt,_⟩:=hwc.leave hjl (um hc.za[j]) rfl
   obtain⟨e1,e2,_⟩:=Xd hj hjl
   have hwl:qG (ye hc).za (ye hc).now t:=by rw[e1,e2];exact hwt
   have hbt:b∈t:=by
    rw[yz] at hbc
    rcases List.mem_cons.1 hbc with e | e
    ·exact absurd e.symm hjb
    ·exact e
   have htl:t.length+1=lc.length:=by rw[yz];rfl
   have hcl:(ye hc).za.length=n:=by rw[e1,List.length_set];exact hcn
   have HX:Hid _:=And.intro hwl (And.intro hbt (And.intro hbk2 hcl))
   clear hwl hbt hbk2 hcl e1 e2 hwt hwc hbk kc
   rw[hcn] at HL
   generalize ye hc=hd at *
   go_wp2_with (go_at_call 225;refine HL.mono ?_;rintro e w2 ⟨rfl,T2,k2,g2⟩)
   have g3:=gc.trans g2
   go_roundg t.length
   case measure=>omega
   case rel=>exact⟨hd,T2,fc',t,k2,g3,HX.out.1,HX.out.2.1,by omega,HX.out.2.2.1,HX.out.2.2.2,rfl⟩
variable {B:Nat} {w w':World} {bl br:Nat} {vp vcs vsd:Value} {C D:Nat->Nat} {T:Nat->Value × Value} {h h':Hp}
theorem Tryz.go_looked (bl : Nat) (w : World) : (method 364 98 (zJ bl 0) "loop.example/gemel/impl.looked").run Tryz.prog w = .ok (226, zJ bl 0) w := by kernel_rfl
theorem Tryz.go_here (bl : Nat) (w : World) : (method 364 98 (zJ bl 0) "loop.example/gemel/impl.here").run Tryz.prog w = .ok (224, zJ bl 0) w := by kernel_rfl
theorem Tryz.go_sender (bl : Nat) (w : World) : (method 364 98 (zJ bl 0) "loop.example/gemel/impl.sender").run Tryz.prog w = .ok (228, zJ bl 0) w := by kernel_rfl
theorem Tryz.go_enter (bl : Nat) (w : World) : (method 364 98 (zJ bl 0) "loop.example/gemel/impl.enter").run Tryz.prog w = .ok (223, zJ bl 0) w := by kernel_rfl
theorem Tryz.go_leave (bl : Nat) (w : World) : (method 364 98 (zJ bl 0) "loop.example/gemel/impl.leave").run Tryz.prog w = .ok (225, zJ bl 0) w := by kernel_rfl
theorem Tryz.go_backTo (bl : Nat) (w : World) : (method 364 98 (zJ bl 0) "loop.example/gemel/impl.backTo").run Tryz.prog w = .ok (221, zJ bl 0) w := by kernel_rfl
theorem zah (k:LV B w bl br vp vcs vsd C D T h) (hB:B<=w.heap.size) (W1:World) (hA:zO w W1) (a m:Int) {sa:Option Addr} {sc:Nat} (hS:vsd=.slice sa h.zm.length sc) :
 zk B (W1.alloc (.cells #[.int .i64 a,.int .i64 m] 86)).drew (.slice sa h.zm.length sc) h.zm/\(W1.cell? (zH br 3)=some (.slice sa h.zm.length sc)) /\
 ∀v' w',zk B w' v' (h.zm ++ [(a,m)])->(W1.alloc (.cells #[.int .i64 a,.int .i64 m] 86)).drew.grownBy w' (Value.slice sa h.zm.length sc).ownBlock->(v'.ownBlock=(Value.slice sa h.zm.length sc).ownBlock\/v'.ownBlock=some (W1.alloc (.cells #[.int .i64 a,.int .i64 m] 86)).drew.heap.size) ->
  (w'.cell? (zH br 3)=some (.slice sa h.zm.length sc)/\w'.frozen? (zH br 3)=false)/\∃YZ,LV B (w'.setCell (zH br 3) v') bl br vp vcs YZ C D T {h with zm:=h.zm ++ [(a,m)]}/\vV B (yu bl br vcs vsd C D T h.za.length) (yu bl br vcs YZ C D T h.za.length) w (w'.setCell (zH br 3) v'):=by
 have NA:zO W1 (W1.alloc (.cells #[.int .i64 a,.int .i64 m] 86)).drew:=(zR _ _).drew
 have zN:(W1.alloc (.cells #[.int .i64 a,.int .i64 m] 86)).drew.heap.size=W1.heap.size+1:=by simp
 have xF:=hA.size
 have hbr:=k.lo .run trivial br rfl
 obtain⟨⟨_,_,_,b3,_⟩,_,_,_,bf3,_⟩:=zq k.rn
 have hrs:vsd.ownBlock≠some br:=fun e=>by have:=k.ap .zm .run trivial trivial br e rfl;cases this
 have zT:=k.sd
 rw[hS] at b3
 refine⟨?_,zc hA b3,fun v' w' hr hg hv=>?_⟩
 ·rw[<-hS];exact(zT.below hA).below NA
 have hz:=hg.size
 have hbl:∀g,g<w.heap.size->vsd.ownBlock≠some g->w'.heap[g]?=w.heap[g]?:=fun g h1 h2=>((hg.block g (by omega) (fun e=>h2 (by rw[hS];exact e.symm))).trans (NA.block g (by omega))).trans (hA.block g h1)
 have hDb:=hbl br hbr.2 hrs
 have hvn:∀q,v'.ownBlock=some q->vsd.ownBlock=some q\/w.heap.size<=q:=fun q e=>by
  rcases hv with x | x
  ·exact .inl (by rw[hS,<-x];exact e)
  ·rw[x] at e;injection e with e;exact .inr (by omega)
 have hBw:Below B w w':=((hA.mono hB).trans (NA.mono (by omega))).grown hg (by omega) (fun q e=>(zT.lt q (by rw[hS];exact e)).1)
 exact⟨⟨(World.cell?_of_block (a:=⟨br,3,none⟩) hDb).trans b3,(World.frozen?_of_block (a:=⟨br,3,none⟩) hDb).trans bf3⟩,v',k.say v' _ (by omega) hbl hr hvn,k.say_go v' hBw hbl hvn⟩
theorem KK (k:LV B w bl br vp vcs vsd C D T h) (hB:B<=w.heap.size) (a b:Int) (hv:a=2->0<=b/\b<(h.za.length:Int)) (hsl:h.zm.length<=2900000) :
 Calls Tryz.prog 178 #[zJ br 0,.agg #[zI a,zI b]] w fun e w'=>e=.returned (.tuple #[])/\∃YZ,LV B w' bl br vp vcs YZ C D T (uN h (a,b))/\vV B (yu bl br vcs vsd C D T h.za.length) (yu bl br vcs YZ C D T h.za.length) w w':=by
 have hA:zO w (w.alloc (.cells #[.int .i64 a,.int .i64 b] 86)):=zR _ _
 have rx:=xJ w 86 (.int .i64 a) (.int .i64 b)
 have zA:(w.alloc (.cells #[.int .i64 a,.int .i64 b] 86)).heap.size=w.heap.size+1:=by simp
 obtain⟨sa,sc,hS,_⟩:=k.sd.slice
 have hbr:=k.lo .run trivial br rfl
 by_cases ha:a=2
 ·subst ha
  obtain⟨h0,h1⟩:=hv rfl
  obtain⟨i,rfl⟩:=Int.eq_ofNat_of_zero_le h0
  have hi:i<h.za.length:=by omega
  have UE:uN h (2,(i:Int))={h with zm:=h.zm ++ [(2,h.za[i].m)]}:=by
   unfold uN XP
   rw[if_pos rfl,Int.toNat_natCast,yn hi]
  rw[UE]
  have hDi:=k.lo (.body i) hi (D i) rfl
  have k1:=k.below hA
  have hm:=Tryz.go_looked bl
  have hW:zO w (((w.alloc (.cells #[.int .i64 2,.int .i64 i] 86)).setCell (zH w.heap.size 1) (.int .i64 h.za[i].m)).drew):=(hA.setCell (p:=zH w.heap.size 1) zD _).drew
  have rW:(((w.alloc (.cells #[.int .i64 2,.int .i64 i] 86)).setCell (zH w.heap.size 1) (.int .i64 h.za[i].m)).drew).rowIs w.heap.size 86 2 (Jn (.int .i64 2) (.int .i64 h.za[i].m)):=(rx.set 1 (.int .i64 h.za[i].m)).congr fun q hq=>by match q,hq with | 0,_=>rfl | 1,_=>rfl
  obtain⟨zy,c3,hend⟩:=zah k hB _ hW 2 h.za[i].m hS
  have HE:Hid _:=hend
  have c0:=(zq (k1.bd i hi)).1.1
  clear hend
  obtain⟨⟨x0,x1⟩,xf0,xf1⟩:=zZ rx
  obtain⟨⟨y0,y1,y2,y3,y4⟩,_⟩:=zq k1.rn
  obtain⟨⟨t0,t1⟩,_⟩:=zZ rW
  generalize h.za[i].m=mm at *
  go_enter Tryz.func178,Tryz.ntmps178
  go_upto_region 1 with fail
  generalize w.alloc (.cells #[.int .i64 2,.int .i64 i] 86)=W1 at *
  have k1d:=k1.below (zS.drew)
  have HR:Hid (Calls Tryz.prog 226 #[zJ bl 0,zI i] W1.drew fun e w'=>e=.returned (zJ (D i) 0)/\w'=W1.drew):=uy k1d hi
  have zdL:br<W1.heap.size:=by omega
  have hwW:w.heap.size<W1.heap.size:=by omega
  have ZQ:(W1.setCell (zH w.heap.size 1) (zI mm)).drew.heap.size=w.heap.size+1:=by simp[World.setCell];exact zA
  clear k k1 k1d rx rW hW
  go_wp2_with fail
  go_region_law (go_simp;go_at_call 226;refine HR.out.mono ?_;rintro e w' ⟨rfl,hw⟩;obtain rfl:=hw.symm)
  all_goals
   generalize (W1.setCell (zH w.heap.size 1) (zI mm)).drew=W2 at *
   have KA:yo (W2.alloc (.cells #[.int .i64 2,.int .i64 mm] 86)).drew (.slice (some ⟨w.heap.size+1,0,none⟩) 1 1) [(2,mm)]:=by rw[<-ZQ];exact wl W2 2 mm _ _
   have xF:B<=(W2.alloc (.cells #[.int .i64 2,.int .i64 mm] 86)).drew.heap.size:=by simp;omega
   have hbr2:br<W2.heap.size:=by omega
   have hw2:w.heap.size<W2.heap.size:=by omega
   clear x0 x1 y0 y1 y2 y3 y4 c0 xf0 xf1
   go_wp2_with fail
   go_region_law (refine wn _ (by rfl) _ _ (by rfl) B _ _ h.zm [(2,mm)] (by rfl) (by rfl) zy KA (by simp;omega) (by first | exact xF | (simp;omega)) ?_;intro v' w' zT hg hbk;obtain⟨a',c',hv',_⟩:=zT.slice;rw[List.length_append] at hv';subst hv';obtain⟨⟨z4,f4⟩,Wy⟩:=HE.out _ w' zT hg hbk)
   all_goals exact bodyPost_end (results_none rfl _ _ _) rfl ⟨rfl,Wy⟩
 ·have hae:(a == 2)=false:=zG.2 ha
  have UE:uN h (a,b)={h with zm:=h.zm ++ [(a,b)]}:=by unfold uN XP;rw[if_neg ha]
  rw[UE]
  obtain⟨zy,c3,hend⟩:=zah k hB _ hA a b hS
  have HE:Hid _:=hend
  clear hend
  obtain⟨⟨x0,x1⟩,_⟩:=zZ rx
  go_enter Tryz.func178,Tryz.ntmps178
  go_upto_region 1 with fail
  generalize w.alloc (.cells #[.int .i64 a,.int .i64 b] 86)=W1 at *
  have KA:yo (W1.alloc (.cells #[.int .i64 a,.int .i64 b] 86)).drew (.slice (some ⟨w.heap.size+1,0,none⟩) 1 1) [(a,b)]:=by rw[<-zA];exact wl W1 a b _ _
  have xF:B<=(W1.alloc (.cells #[.int .i64 a,.int .i64 b] 86)).drew.heap.size:=by simp;omega
  have zdL:br<W1.heap.size:=by omega
  have hwW:w.heap.size<W1.heap.size:=by omega
  clear k rx
  go_wp2_with fail
  go_region_law (refine wn _ (by rfl) _ _ (by rfl) B _ _ h.zm [(a,b)] (by rfl) (by rfl) zy KA (by simp;omega) (by first | exact xF | (simp;omega)) ?_;intro v' w' zT hg hbk;obtain⟨a',c',hv',_⟩:=zT.slice;rw[List.length_append] at hv';subst hv';obtain⟨⟨z4,f4⟩,Wy⟩:=HE.out _ w' zT hg hbk)
  all_goals exact bodyPost_end (results_none rfl _ _ _) rfl ⟨rfl,Wy⟩
variable {B:Nat} {w w':World} {bl br:Nat} {vp vcs vsd:Value} {C D:Nat->Nat} {T:Nat->Value × Value} {h h':Hp}
theorem Tryz.infoLC:(Tryz.prog.info? 103).map (fun i=>(i.zero,i.size,i.bytes))=some (some (.pointer none),1,8):=by kernel_rfl
theorem zcf {w:World} {c g:Nat} (hc:w.cell? (zH g 0)=some (zJ c 0)):Src Tryz.prog 1 102 (zK g 0 1 1) 1 [zJ c 0] w:=by
 refine Src.ofSlice w Tryz.underlying102 ⟨g,0,none⟩ _ 1 _ rfl (fun j u hu=>?_) (fun u hu=>?_)
 ·cases j with
  | zero=>simp at hu;subst hu;rw[Addr.add_lit];exact hc
  | succ j=>simp at hu
 ·simp at hu;subst hu;rfl
theorem JJ {ty:TypeId} {B:Nat} {w:World} {v xv:Value} {n:Nat} {xs:List Value} {y:Value} (zy:yg B 1 w v n xs) (hM:Src Tryz.prog 1 102 xv 1 [y] w) (hL:n+1<=3000000) (hB:B<=w.heap.size) :
 ∃v' w',(Builtin.append_ #[102,102] ty #[v,xv]).run Tryz.prog w=.ok v' w'/\yg B 1 w' v' (n+1) (xs ++ [y])/\w.grownBy w' v.ownBlock/\(v'.ownBlock=v.ownBlock\/v'.ownBlock=some w.heap.size):=by
 obtain⟨i0,hi,jT,xF,kf⟩:=info_parts Tryz.infoLC
 have h1:yg B i0.size w v n xs:=by rw[xF];exact zy
 have h2:Src Tryz.prog i0.size 102 xv 1 [y] w:=by rw[xF];exact hM
 obtain⟨v',w',hr,hc,hg,hb⟩:=j7 (P:=Tryz.prog) (ty:=ty) Tryz.underlying102 hi jT (by rw[xF];rfl) (by rw[kf];omega) h1 xv 1 [y] h2 hL hB
 rw[xF] at hc
 exact⟨v',w',hr,hc,hg,hb⟩
theorem Ub {ops:Array Oper} {o:Oper} {act:Act} {K:Act->World->Prop} {Q:Exit->Act->World->Prop} {E:Prop} (w:World) (hgd:o.guard=none) (s x:Operand)
 (ho:o.op=.call {callee:=.builtin .append,args:=#[s,x],argTypes:=#[102,102]}) (B:Nat) (v xv:Value) (n:Nat) (xs:List Value) (y:Value) (hs:act.eval s=v) (hx:act.eval x=xv) (zy:yg B 1 w v n xs) (hM:Src Tryz.prog 1 102 xv 1 [y] w)
 (hL:n+1<=3000000) (hB:B<=w.heap.size)
 (h:∀v' w',yg B 1 w' v' (n+1) (xs ++ [y])->w.grownBy w' v.ownBlock->(v'.ownBlock=v.ownBlock\/v'.ownBlock=some w.heap.size)->K (act.put o.dst v') w') :
 if Region.wanted o (yielded ops act.tmps)=true then Oper.wp Tryz.prog o act w K Q else E:=by
 obtain⟨v',w',hr,h2,h3,h4⟩:=JJ (ty:=o.type) zy hM hL hB
 rw[if_pos (by simp[Region.wanted,hgd])]
 unfold Oper.wp execOp
 simp only[ho,resolve,invoke,builtin,Sem.run_bind,Sem.run_pure,Result.andThen_ok,List.map_toArray,List.map_cons,List.map_nil,hs,hx,hr]
 exact h v' w' h2 h3 h4
theorem yg.form1 {B n:Nat} {w:World} {v:Value} {xs:List Value} (h:yg B 1 w v n xs):∃a cap,v=.slice a n cap:=by
 obtain⟨_,h | ⟨g,off,cap,hv,_⟩⟩:=h
 ·exact⟨none,0,by rw[h.1,h.2]⟩
 ·exact⟨_,cap,hv⟩
theorem zdB {w0:World} (_k:LV B w0 bl br vp vcs vsd C D T h) {c d:Nat} {xt:Value} (hbl:∀g,g<w0.heap.size->g≠bl->vcs.ownBlock≠some g->w'.heap[g]?=w0.heap[g]?) (hb:Below B w0 w') (hc:w0.heap.size<=c) (hd:w0.heap.size<=d) {vt:Value}
 (nv:∀q,xt.ownBlock=some q->vcs.ownBlock=some q\/(w0.heap.size<=q/\q≠c/\q≠d)) (nt:∀q,vt.ownBlock=some q->w0.heap.size<=q) :
 vV B (yu bl br vcs vsd C D T h.za.length) (yu bl br xt vsd (jf C h.za.length c) (jf D h.za.length d) (xT T h.za.length (vt,zQ)) (h.za.length+1)) w0 w':=by
 refine⟨hb,fun g hg hn=>hbl g hg (fun e=>hn ⟨.heap,trivial,by rw[e];rfl⟩) (fun e=>hn ⟨.row,trivial,e⟩),fun g ⟨x,hx,e⟩=>?_⟩
 cases x with
 | heap=>exact .inl ⟨.heap,trivial,e⟩
 | run=>exact .inl ⟨.run,trivial,e⟩
 | zm=>exact .inl ⟨.zm,trivial,e⟩
 | row =>
  rcases nv g e with q | q
  ·exact .inl ⟨.row,trivial,q⟩
  ·exact .inr q.1
 | call i =>
  simp only[jw.at] at e
  by_cases q:i=h.za.length
  ·subst q;rw[xK] at e;injection e with e;exact .inr (by omega)
  ·rw[xh _ q] at e;exact .inl ⟨.call i,by have:i<h.za.length+1:=hx;show i<h.za.length;omega,e⟩
 | body i =>
  simp only[jw.at] at e
  by_cases q:i=h.za.length
  ·subst q;rw[xK] at e;injection e with e;exact .inr (by omega)
  ·rw[xh _ q] at e;exact .inl ⟨.body i,by have:i<h.za.length+1:=hx;show i<h.za.length;omega,e⟩
 | zg i =>
  simp only[jw.at] at e
  by_cases q:i=h.za.length
  ·subst q;rw[xk] at e;exact .inr (nt g e)
  ·rw[qJ _ _ q] at e;exact .inl ⟨.zg i,by have:i<h.za.length+1:=hx;show i<h.za.length;omega,e⟩
 | zf i =>
  simp only[jw.at] at e
  by_cases q:i=h.za.length
  ·subst q;rw[xk] at e;simp[Value.ownBlock] at e
  ·rw[qJ _ _ q] at e;exact .inl ⟨.zf i,by have:i<h.za.length+1:=hx;show i<h.za.length;omega,e⟩
theorem zcv {w0:World} (k:LV B w0 bl br vp vcs vsd C D T h) (Uy:zO w0 w) (hB:B<=w0.heap.size) {d:Nat} (hd:w0.heap.size<=d) {vt:Value} {cl:Cl} (hst:cl.zf=[]) (hsn:cl.zi=h.now) (uZ:h.now<(h.za.length:Int)) (hsd:∀i,(hi:i<h.za.length)->h.za[i].zi<(h.za.length:Int))
 (rd:w.rowIs d 186 5 (kq (zI cl.m) (zI cl.pc) vt (zQ) (.bool cl.zv))) (ht:zk B w vt cl.zg) (nt:∀q,vt.ownBlock=some q->w0.heap.size<=q/\q≠d) (hl:h.za.length<=1000) :
 Calls Tryz.prog 223 #[zJ bl 0,zJ d 0] w fun e w'=>e=.returned (.tuple #[])/\∃xt C' D' T',LV B w' bl br vp xt vsd C' D' T' {h with za:=h.za ++ [cl],now:=(h.za.length:Int)}/\vV B (yu bl br vcs vsd C D T h.za.length) (yu bl br xt vsd C' D' T' (h.za.length+1)) w0 w':=by
 have kw:=k.below Uy
 obtain⟨av,cv,hvc⟩:=k.row.form1
 subst hvc
 obtain⟨q,hq⟩:∃q,jd C h.now=.pointer q:=by
  unfold jd
  split
  ·exact⟨_,rfl⟩
  ·exact⟨_,rfl⟩
 have hbl:=k.lo .heap trivial bl rfl
 have jT:=Uy.size
 have hdl:=rd.lt
 have hblw:bl<w.heap.size:=by omega
 have hrl:∀g,(Value.slice av h.za.length cv).ownBlock=some g->g<w0.heap.size/\g≠bl:=fun g e=>⟨(k.lo .row trivial g e).2,fun e2=>by have:=k.ap .row .heap trivial trivial g e (by rw[e2];rfl);cases this⟩
 -- the world behind the first statement
 have zs:(w.setCell (zH bl 1) (zJ w.heap.size 0)).heap.size=w.heap.size:=by simp[World.setCell]
 have NS:Below (w.setCell (zH bl 1) (.pointer (some ⟨w.heap.size,0,none⟩))).heap.size (w.setCell (zH bl 1) (.pointer (some ⟨w.heap.size,0,none⟩))) (((w.setCell (zH bl 1) (.pointer (some ⟨w.heap.size,0,none⟩))).alloc (.cells #[.pointer (some ⟨d,0,none⟩),.int .i64 h.za.length,.pointer q] 159)).drew):=(zR _ _).drew
 have rc1:(((w.setCell (zH bl 1) (.pointer (some ⟨w.heap.size,0,none⟩))).alloc (.cells #[.pointer (some ⟨d,0,none⟩),.int .i64 h.za.length,.pointer q] 159)).drew).rowIs w.heap.size 159 3 (Vy (.pointer (some ⟨d,0,none⟩)) (.int .i64 h.za.length) (.pointer q)):=by
  have r:=zaw (w.setCell (zH bl 1) (zJ w.heap.size 0)) 159 (zJ d 0) (zI h.za.length) (.pointer q)
  rw[zs] at r
  exact r
 have UD:(((w.setCell (zH bl 1) (.pointer (some ⟨w.heap.size,0,none⟩))).alloc (.cells #[.pointer (some ⟨d,0,none⟩),.int .i64 h.za.length,.pointer q] 159)).drew).rowIs bl 105 2 (Jn (.slice av h.za.length cv) (.pointer (some ⟨w.heap.size,0,none⟩))):=yp NS ((kw.hp.set 1 (.pointer (some ⟨w.heap.size,0,none⟩))).congr fun i hi=>by match i,hi with | 0,_=>rfl | 1,_=>rfl)
 have xF:(((w.setCell (zH bl 1) (.pointer (some ⟨w.heap.size,0,none⟩))).alloc (.cells #[.pointer (some ⟨d,0,none⟩),.int .i64 h.za.length,.pointer q] 159)).drew).heap.size=w.heap.size+1:=by simp[World.setCell]
 have hblk:∀g,g<w.heap.size->g≠bl->(((w.setCell (zH bl 1) (.pointer (some ⟨w.heap.size,0,none⟩))).alloc (.cells #[.pointer (some ⟨d,0,none⟩),.int .i64 h.za.length,.pointer q] 159)).drew).heap[g]?=w.heap[g]?:=fun g h1 h2=>(NS.block g (by rw[zs];exact h1)).trans (Below.heap_setCell _ _ _ _ (fun e=>h2 e))
 have row1:yg B 1 (((w.setCell (zH bl 1) (.pointer (some ⟨w.heap.size,0,none⟩))).alloc (.cells #[.pointer (some ⟨d,0,none⟩),.int .i64 h.za.length,.pointer q] 159)).drew) (.slice av h.za.length cv) h.za.length (wY C h.za.length):=kw.row.kept (by rw[xF];omega) fun g e=>hblk g (by have:=(hrl g e).1;omega) (hrl g e).2
 have hbW:Below B w (((w.setCell (zH bl 1) (.pointer (some ⟨w.heap.size,0,none⟩))).alloc (.cells #[.pointer (some ⟨d,0,none⟩),.int .i64 h.za.length,.pointer q] 159)).drew):=(((Below.refl B w).setCell (p:=zH bl 1) hbl.1 _).alloc (by rw[zs];omega) _).drew
 obtain⟨⟨x0,x1⟩,xf0,xf1⟩:=zZ kw.hp
 obtain⟨⟨p0,p1⟩,pf0,pf1⟩:=zZ UD
 rw[hq] at x1
 have HFIN:Hid (∀(W1:World),W1=((w.setCell (zH bl 1) (.pointer (some ⟨w.heap.size,0,none⟩))).alloc (.cells #[.pointer (some ⟨d,0,none⟩),.int .i64 h.za.length,.pointer q] 159)).drew->∀v' w',yg B 1 w' v' (h.za.length+1) (wY C h.za.length ++ [.pointer (some ⟨w.heap.size,0,none⟩)])->(W1.alloc (.cells #[.pointer (some ⟨w.heap.size,0,none⟩)] 103)).drew.grownBy w' (Value.slice av h.za.length cv).ownBlock->(v'.ownBlock=(Value.slice av h.za.length cv).ownBlock\/v'.ownBlock=some (W1.alloc (.cells #[.pointer (some ⟨w.heap.size,0,none⟩)] 103)).drew.heap.size)->(w'.cell? (zH bl 0)=some (.slice av h.za.length cv)/\w'.frozen? (zH bl 0)=false)/\∃xt C' D' T',LV B (w'.setCell (zH bl 0) v') bl br vp xt vsd C' D' T' {h with za:=h.za ++ [cl],now:=(h.za.length:Int)}/\vV B (yu bl br (.slice av h.za.length cv) vsd C D T h.za.length) (yu bl br xt vsd C' D' T' (h.za.length+1)) w0 (w'.setCell (zH bl 0) v')):=by
  intro W1 hW1 v' w' hr hg hv
  rw[<-hW1] at rc1 UD xF hblk hbW
  have NA:zO W1 (W1.alloc (.cells #[.pointer (some ⟨w.heap.size,0,none⟩)] 103)).drew:=(zR _ _).drew
  have zN:(W1.alloc (.cells #[.pointer (some ⟨w.heap.size,0,none⟩)] 103)).drew.heap.size=w.heap.size+2:=by simp;omega
  have hzg:=hg.size
  have hbw:∀g,g<W1.heap.size->(Value.slice av h.za.length cv).ownBlock≠some g->w'.heap[g]?=W1.heap[g]?:=fun g h1 h2=>(hg.block g (by omega) (fun e=>h2 e.symm)).trans (NA.block g h1)
  have hnr:∀g,w0.heap.size<=g->(Value.slice av h.za.length cv).ownBlock≠some g:=fun g h1 e=>by have:=(hrl g e).1;omega
  have hbr:(Value.slice av h.za.length cv).ownBlock≠some bl:=fun e=>(hrl bl e).2 rfl
  have hpw:=UD.of_block (hbw bl (by omega) hbr)
  obtain⟨⟨c0,_⟩,cf0,_⟩:=zZ hpw
  have hvb:v'.ownBlock≠some bl:=fun e=>by
   rcases hv with x | x
   ·exact hbr (by rw[<-x];exact e)
   ·rw[x] at e;injection e with e;omega
  have nv:∀g,v'.ownBlock=some g->(Value.slice av h.za.length cv).ownBlock=some g\/(w0.heap.size<=g/\g≠w.heap.size/\g≠d):=fun g e=>by
   rcases hv with x | x
   ·exact .inl (by rw[<-x];exact e)
   ·rw[x] at e;injection e with e;exact .inr ⟨by omega,by omega,by omega⟩
  have ntt:∀g,vt.ownBlock=some g->w0.heap.size<=g/\g≠w.heap.size/\g≠d/\v'.ownBlock≠some g:=fun g e=>by
   have h1:=nt g e
   have h2:=(ht.lt g e).2
   refine⟨h1.1,by omega,h1.2,fun e2=>?_⟩
   rcases hv with x | x
   ·exact hnr g h1.1 (by rw[<-x];exact e2)
   ·rw[x] at e2;injection e2 with e2;omega
  have hF:∀g,g<w.heap.size->g≠bl->(Value.slice av h.za.length cv).ownBlock≠some g->(w'.setCell (zH bl 0) v').heap[g]?=w.heap[g]?:=fun g h1 h2 h3=>((Below.heap_setCell _ _ _ _ (fun e=>h2 e)).trans (hbw g (by omega) h3)).trans (hblk g h1 h2)
  have hF0:∀g,g<w0.heap.size->g≠bl->(Value.slice av h.za.length cv).ownBlock≠some g->(w'.setCell (zH bl 0) v').heap[g]?=w0.heap[g]?:=fun g h1 h2 h3=>(hF g (by omega) h2 h3).trans (Uy.block g h1)
  have vJ:w0.heap.size<=(w'.setCell (zH bl 0) v').heap.size:=by simp[World.setCell];omega
  have hhp:(w'.setCell (zH bl 0) v').rowIs bl 105 2 (Jn v' (zJ w.heap.size 0)):=uO hpw v'
  have hrw:yg B 1 (w'.setCell (zH bl 0) v') v' (h.za.length+1) (wY C h.za.length ++ [zJ w.heap.size 0]):=hr.kept (by simp[World.setCell]) fun g e=>Below.heap_setCell _ _ _ _ (fun e2=>hvb (by have e3:g=bl:=e2;rw[<-e3];exact e))
  have hcl:(w'.setCell (zH bl 0) v').rowIs w.heap.size 159 3 (Vy (zJ d 0) (zI h.za.length) (jd C h.now)):=by
   rw[hq]
   exact rc1.of_block ((Below.heap_setCell _ _ _ _ (by show w.heap.size≠bl;omega)).trans (hbw _ (by omega) (hnr _ (by omega))))
  have hbd:=rd.of_block (hF d hdl (by omega) (hnr d hd))
  have htF:zk B (w'.setCell (zH bl 0) v') vt cl.zg:=ht.kept (by simp[World.setCell];omega) fun g e=>hF g (ht.lt g e).2 (by have:=(nt g e).1;omega) (hnr g (nt g e).1)
  have hbF:Below B w0 (w'.setCell (zH bl 0) v'):=((((Uy.mono hB).trans hbW).trans (NA.mono (by omega))).grown hg (by omega) (fun g e=>(k.lo .row trivial g e).1)).setCell (p:=zH bl 0) hbl.1 v'
  exact⟨⟨c0,cf0⟩,v',_,_,_,k.enter hst hsn uZ hsd hB (by omega) hd (by omega) vJ hF0 hhp hrw hcl hbd htF nv ntt,zdB k hF0 hbF (by omega) hd nv (fun g e=>(nt g e).1)⟩
 have hBz:B<=w.heap.size:=by omega
 clear kw k rc1 UD NS rd ht hblk hbW Uy hsd
 go_enter Tryz.func223,Tryz.ntmps223
 go_wp2_with fail
 go_region
 all_goals
  have HF:=HFIN.out _ rfl
  have HFH:Hid _:=HF
  clear HF HFIN
  generalize ((w.setCell (zH bl 1) (.pointer (some ⟨w.heap.size,0,none⟩))).alloc (.cells #[.pointer (some ⟨d,0,none⟩),.int .i64 h.za.length,.pointer q] 159)).drew=W1 at *
  have s1:Src Tryz.prog 1 102 (.slice (some ⟨w.heap.size+1,0,none⟩) 1 1) 1 [.pointer (some ⟨w.heap.size,0,none⟩)] (W1.alloc (.cells #[.pointer (some ⟨w.heap.size,0,none⟩)] 103)).drew:=zcf (by rw[<-xF];simp[go_sem])
  have zeq:yg B 1 (W1.alloc (.cells #[.pointer (some ⟨w.heap.size,0,none⟩)] 103)).drew (.slice av h.za.length cv) h.za.length (wY C h.za.length):=row1.below ((zR _ _).drew)
  have Vd:B<=(W1.alloc (.cells #[.pointer (some ⟨w.heap.size,0,none⟩)] 103)).drew.heap.size:=by simp;omega
  have hblW:bl<W1.heap.size:=by omega
  clear row1 x0 x1 xf0 xf1
  go_wp2_with fail
  go_region_law (refine Ub _ (by rfl) _ _ (by rfl) B _ _ h.za.length (wY C h.za.length) (zJ w.heap.size 0) (by rfl) (by rfl) zeq s1 (by omega) (by first | exact Vd | (simp;omega)) ?_;intro v' w' zT hg hbk;obtain⟨a',c',hv'⟩:=zT.form1;subst hv';obtain⟨⟨z4,f4⟩,Wy⟩:=HFH.out _ w' zT hg hbk)
  all_goals exact bodyPost_end (results_none rfl _ _ _) rfl ⟨rfl,Wy⟩
variable {B:Nat} {w w':World} {bl br:Nat} {vp vcs vsd:Value} {C D:Nat->Nat} {T:Nat->Value × Value} {h h':Hp}
def qY (B bl br:Nat) (vp:Value) (P:Nat->Prop) (w0:World) (h:Hp) (w':World):Prop:=∃vcs vsd C D T,LV B w' bl br vp vcs vsd C D T h/\vV B P (yu bl br vcs vsd C D T h.za.length) w0 w'
theorem qY.first {P:Nat->Prop} {w0 w1:World} (hb:zO w0 w1) (hB:B<=w0.heap.size) (h1:qY B bl br vp P w1 h w'):qY B bl br vp P w0 h w':=by
 obtain⟨a,b,c,d,e,k,g⟩:=h1
 exact⟨a,b,c,d,e,k,(vV.of_below hB hb).trans g⟩
structure Tk (P:Nat->Prop) (w:World) (v:Value) (args:yH):Prop where
 at_:yo w v args
 off:∀g,v.ownBlock=some g->g<w.heap.size/\¬P g
theorem Tk.go {P P':Nat->Prop} {v:Value} {args:yH} (t:Tk P w v args) (g:vV B P P' w w'):Tk P' w' v args:=by
 refine⟨?_,fun q e=>⟨Nat.lt_of_lt_of_le (t.off q e).1 g.b.size,fun hq=>?_⟩⟩
 ·obtain⟨a,cap,rfl,hl,hc⟩:=t.at_
  refine⟨a,cap,rfl,hl,fun i hi=>?_⟩
  obtain⟨b,o,rfl,h0,h1⟩:=hc i hi
  have ho:=t.off b rfl
  have e:=g.keep b ho.1 ho.2
  exact⟨b,o,rfl,(World.cell?_of_block (a:=⟨b,_,none⟩) e).trans h0,(World.cell?_of_block (a:=⟨b,_,none⟩) e).trans h1⟩
 ·rcases g.own q hq with x | x
  ·exact(t.off q e).2 x
  ·have:=(t.off q e).1;omega
theorem Tk.cell {P:Nat->Prop} {v:Value} {args:yH} (t:Tk P w v args) {i:Nat} (hi:i<args.length):∃b o cap,v=zK b o args.length cap/\w.cell? (zH b (o+i * 2))=some (zI args[i].1)/\w.cell? (zH b (o+i * 2+1))=some (zI args[i].2):=by
 obtain⟨a,cap,rfl,hl,hc⟩:=t.at_
 obtain⟨b,o,rfl,h0,h1⟩:=hc i hi
 exact⟨b,o,cap,rfl,h0,h1⟩
theorem jn (n:Int) (w:World) :
 Calls Tryz.prog 175 #[zI n] w fun e w'=>e=.returned (.agg #[zI 1,zI n])/\zO w w':=by
 go_enter Tryz.func175,Tryz.ntmps175
 go_wp2
 exact bodyPost_ret (v:=.agg #[zI 1,zI n]) (by simp[results,Tryz.results175,go_sem]) rfl ⟨rfl,zR _ _⟩
theorem jF (t:Bool) (w:World) :
 Calls Tryz.prog 176 #[.bool t] w fun e w'=>e=.returned (.agg #[zI 1,zI (if t then 1 else 0)])/\zO w w':=by
 have hA:zO w (w.alloc (.cells #[.int .i64 0,.int .i64 0] 86)):=zR _ _
 have rx:=xJ w 86 (.int .i64 0) (.int .i64 0)
 cases t
 ·go_enter Tryz.func176,Tryz.ntmps176
  go_wp2_with (go_at_call 175;refine(jn 0 _).mono ?_;rintro e w2 ⟨rfl,hb⟩;have r2:=yp hb rx;obtain⟨⟨t0,t1⟩,tf0,tf1⟩:=zZ r2)
  obtain⟨W9,hW9,q0,q1,B9⟩:=JZ (hA.trans (hb.mono hA.size)) r2 1 0
  rw[<-hW9]
  exact bodyPost_ret (v:=.agg #[zI 1,zI 0]) (by simp[results,Tryz.results176,go_sem,q0,q1]) rfl ⟨rfl,B9⟩
 ·go_enter Tryz.func176,Tryz.ntmps176
  go_wp2_with (go_at_call 175;refine(jn 1 _).mono ?_;rintro e w2 ⟨rfl,hb⟩;have r2:=yp hb rx;obtain⟨⟨t0,t1⟩,tf0,tf1⟩:=zZ r2)
  obtain⟨W9,hW9,q0,q1,B9⟩:=JZ (hA.trans (hb.mono hA.size)) r2 1 1
  rw[<-hW9]
  exact bodyPost_ret (v:=.agg #[zI 1,zI 1]) (by simp[results,Tryz.results176,go_sem,q0,q1]) rfl ⟨rfl,B9⟩
theorem uf (k:LV B w bl br vp vcs vsd C D T h) {j:Nat} (hn:h.now=(j:Int)) (hj:j<h.za.length) (hB:B<=w.heap.size) (hl:h.za[j].zf.length<=1000) (a b:Int) (w1:World) (hb:zO w w1) :
 Calls Tryz.prog 174 #[zJ br 0,.agg #[zI a,zI b]] w1 fun e w'=>e=.returned (.tuple #[])/\qY B bl br vp (yu bl br vcs vsd C D T h.za.length) w (yI h (a,b)) w':=by
 refine(QE (k.below hb) hn hj (by have:=hb.size;omega) a b hl).mono ?_
 rintro e w' ⟨he,T',k',g'⟩
 refine⟨he,qY.first hb hB ⟨vcs,vsd,C,D,T',k',?_⟩⟩
 rw[ZC]
 exact g'
theorem zcq (k:LV B w bl br vp vcs vsd C D T h) {j:Nat} (hn:h.now=(j:Int)) (hj:j<h.za.length) (hB:B<=w.heap.size) (hl:h.za[j].zf.length<=1000) (a:Int) (vt:Value) :
 Calls Tryz.prog 146 #[zJ br 0,zI a,vt] w fun e w'=>e=.returned (.tuple #[])/\qY B bl br vp (yu bl br vcs vsd C D T h.za.length) w (yI h (1,a)) w':=by
 have HP:=uf k hn hj hB hl 1 a
 have HPH:Hid _:=HP
 clear HP k
 go_enter Tryz.func146,Tryz.ntmps146
 go_wp2_with (first
  | (go_at_call 175;refine(jn a _).mono ?_;rintro e w2 ⟨rfl,hb⟩)
  | (go_at_call 174;refine(HPH.out _ hb).mono ?_;rintro e w3 ⟨rfl,hE⟩))
 exact bodyPost_end (results_none rfl _ _ _) rfl ⟨rfl,hE⟩
theorem zaQ (k:LV B w bl br vp vcs vsd C D T h) {j:Nat} (hn:h.now=(j:Int)) (hj:j<h.za.length) (hB:B<=w.heap.size) (hl:h.za[j].zf.length<=1000) (a:Int) (vt:Value) :
 Calls Tryz.prog 156 #[zJ br 0,zI a,vt] w fun e w'=>e=.returned (.tuple #[])/\qY B bl br vp (yu bl br vcs vsd C D T h.za.length) w (yI h (2,h.now)) w':=by
 have HP:=uf k hn hj hB hl 2 j
 have HH:=zdN k hn hj
 obtain⟨⟨y0,y1,y2,y3,y4⟩,_⟩:=zq k.rn
 have hm:=Tryz.go_here bl
 have HPH:Hid _:=HP
 rw[hn]
 clear HP k
 go_enter Tryz.func156,Tryz.ntmps156
 go_wp2_with (first
  | (go_at_call 224;refine HH.mono ?_;rintro e w2 ⟨rfl,hb⟩)
  | (go_at_call 174;refine(HPH.out _ hb).mono ?_;rintro e w3 ⟨rfl,hE⟩))
 exact bodyPost_end (results_none rfl _ _ _) rfl ⟨rfl,hE⟩
theorem zaP (k:LV B w bl br vp vcs vsd C D T h) (a:Int) (vt:Value) :
 Calls Tryz.prog 149 #[zJ br 0,zI a,vt] w fun e w'=>e=.returned (.tuple #[])/\qY B bl br vp (yu bl br vcs vsd C D T h.za.length) w h w':=by
 go_enter Tryz.func149,Tryz.ntmps149
 go_wp2
 exact bodyPost_end (results_none rfl _ _ _) rfl ⟨rfl,_,_,_,_,_,k,vV.refl _ _ _⟩
theorem zcs (k:LV B w bl br vp vcs vsd C D T h) (hB:B<=w.heap.size) (hsl:h.zm.length<=2900000) (a:Int) {vt:Value} {args:yH} (t:Tk (yu bl br vcs vsd C D T h.za.length) w vt args) (h1:0<args.length) (hv:args[0].1=2->0<=args[0].2/\args[0].2<(h.za.length:Int)) :
 Calls Tryz.prog 161 #[zJ br 0,zI a,vt] w fun e w'=>e=.returned (.tuple #[])/\qY B bl br vp (yu bl br vcs vsd C D T h.za.length) w (uN h args[0]) w':=by
 obtain⟨b,o,cap,rfl,c0,c1⟩:=t.cell h1
 rw[Nat.zero_mul,Nat.add_zero] at c0 c1
 have hz:(0:Int)<(args.length:Int):=by omega
 clear t
 generalize args[0]=x at *
 obtain⟨x1,x2⟩:=x
 have HS:=KK k hB x1 x2 hv hsl
 clear k
 go_enter Tryz.func161,Tryz.ntmps161
 go_wp2_with (go_at_call 178;refine HS.mono ?_;rintro e w3 ⟨rfl,YZ,k3,g3⟩)
 exact bodyPost_end (results_none rfl _ _ _) rfl ⟨rfl,_,YZ,_,_,_,k3,g3⟩
variable {B:Nat} {w w':World} {bl br:Nat} {vp vcs vsd:Value} {C D:Nat->Nat} {T:Nat->Value × Value} {h h':Hp}
theorem Ut (k:LV B w bl br vp vcs vsd C D T h) {j:Nat} (hn:h.now=(j:Int)) (hj:j<h.za.length) (hB:B<=w.heap.size) (hl:h.za[j].zf.length<=1000) (a:Int) {vt:Value} {args:yH} (t:Tk (yu bl br vcs vsd C D T h.za.length) w vt args) (h1:0<args.length) {i:Nat} (hi:i<h.za.length) (hv:args[0].2=(i:Int)) (QQ:h.za[i].zi<(h.za.length:Int)) (hs1:-1<=h.za[i].zi) :
 Calls Tryz.prog 157 #[zJ br 0,zI a,vt] w fun e w'=>e=.returned (.tuple #[])/\qY B bl br vp (yu bl br vcs vsd C D T h.za.length) w (yI h (if 0<=h.za[i].zi then(2,h.za[i].zi) else(0,0))) w':=by
 obtain⟨b,o,cap,rfl,c0,c1⟩:=t.cell h1
 rw[Nat.zero_mul,Nat.add_zero] at c0 c1
 rw[hv] at c1
 have hz:(0:Int)<(args.length:Int):=by omega
 have kd:=k.below (zS.drew)
 obtain⟨⟨y0,y1,y2,y3,y4⟩,_⟩:=zq k.rn
 have hm:=Tryz.go_sender bl
 by_cases hs:0<=h.za[i].zi
 ·obtain⟨q,hq⟩:=Int.eq_ofNat_of_zero_le hs
  rw[if_pos hs,hq]
  have HS:=zc9 kd hi hq (by omega)
  have HP:=uf k hn hj hB hl 2 q
  have HPH:Hid _:=HP
  clear HP k kd t
  go_enter Tryz.func157,Tryz.ntmps157
  go_wp2_with fail
  go_region_law (first
   | (go_simp;go_at_call 228;refine HS.mono ?_;rintro e w2 ⟨rfl,hb⟩;have hb':zO w w2:=zS.drew.trans hb)
   | (go_simp;go_at_call 174;refine(HPH.out _ hb').mono ?_;rintro e w3 ⟨rfl,hE⟩))
  all_goals exact bodyPost_end (results_none rfl _ _ _) rfl ⟨rfl,hE⟩
 ·rw[if_neg hs]
  have HS:=zai kd hi (by omega)
  have HP:=uf k hn hj hB hl 0 0
  have HPH:Hid _:=HP
  clear HP k kd t
  go_enter Tryz.func157,Tryz.ntmps157
  go_wp2_with fail
  go_region_law (first
   | (go_simp;go_at_call 228;refine HS.mono ?_;rintro e w2 ⟨rfl,hb⟩;have hb':zO w w2:=zS.drew.trans hb)
   | (go_simp;go_at_call 174;refine(HPH.out _ hb').mono ?_;rintro e w3 ⟨rfl,hE⟩))
  all_goals exact bodyPost_end (results_none rfl _ _ _) rfl ⟨rfl,hE⟩
theorem zaO (k:LV B w bl br vp vcs vsd C D T h) {j:Nat} (hn:h.now=(j:Int)) (hj:j<h.za.length) (hB:B<=w.heap.size) (hl:h.za[j].zf.length<=1000) (a:Int) {vt:Value} {args:yH} (t:Tk (yu bl br vcs vsd C D T h.za.length) w vt args) (h1:0<args.length) {i:Nat} (hi:i<h.za.length) (hv:args[0].2=(i:Int)) :
 Calls Tryz.prog 162 #[zJ br 0,zI a,vt] w fun e w'=>e=.returned (.tuple #[])/\qY B bl br vp (yu bl br vcs vsd C D T h.za.length) w (yI h (Qo h.za[i].zv)) w':=by
 obtain⟨b,o,cap,rfl,c0,c1⟩:=t.cell h1
 rw[Nat.zero_mul,Nat.add_zero] at c0 c1
 rw[hv] at c1
 have hz:(0:Int)<(args.length:Int):=by omega
 have kd:=k.below (zS.drew)
 obtain⟨⟨y0,y1,y2,y3,y4⟩,_⟩:=zq k.rn
 have hm:=Tryz.go_looked bl
 obtain⟨⟨z0,z1,z2,z3,z4⟩,_⟩:=zq (k.bd i hi)
 have HL:=uy kd hi
 have HPH:Hid (∀(x:Bool) (w1:World),zO w w1->Calls Tryz.prog 174 #[zJ br 0,.agg #[zI 1,zI (if x then 1 else 0)]] w1 fun e w'=>e=.returned (.tuple #[])/\qY B bl br vp (yu bl br vcs vsd C D T h.za.length) w (yI h (1,(if x then 1 else 0))) w'):=fun x=>uf k hn hj hB hl 1 (if x then 1 else 0)
 unfold Qo
 generalize h.za[i].zv=x at *
 clear k kd t
 go_enter Tryz.func162,Tryz.ntmps162
 go_wp2_with fail
 go_region_law (first
  | (go_simp;go_at_call 226;refine HL.mono ?_;rintro e w' ⟨rfl,hw⟩;obtain rfl:=hw.symm)
  | (go_simp;go_at_call 176;refine(jF x _).mono ?_;rintro e w2 ⟨rfl,hb⟩;have hb':zO w w2:=zS.drew.trans hb)
  | (go_simp;go_at_call 174;refine(HPH.out x _ hb').mono ?_;rintro e w3 ⟨rfl,hE⟩))
 all_goals exact bodyPost_end (results_none rfl _ _ _) rfl ⟨rfl,hE⟩
theorem Wp (k:LV B w bl br vp vcs vsd C D T h) {j:Nat} (hn:h.now=(j:Int)) (hj:j<h.za.length) (hB:B<=w.heap.size) (hl:h.za[j].zf.length<=1000) (a:Int) {vt:Value} {args:yH} (t:Tk (yu bl br vcs vsd C D T h.za.length) w vt args) (h1:0<args.length) {i:Nat} (hi:i<h.za.length) (hv:args[0].2=(i:Int)) :
 Calls Tryz.prog 163 #[zJ br 0,zI a,vt] w fun e w'=>e=.returned (.tuple #[])/\qY B bl br vp (yu bl br vcs vsd C D T h.za.length) w (yI h (1,h.za[i].pc)) w':=by
 obtain⟨b,o,cap,rfl,c0,c1⟩:=t.cell h1
 rw[Nat.zero_mul,Nat.add_zero] at c0 c1
 rw[hv] at c1
 have hz:(0:Int)<(args.length:Int):=by omega
 have kd:=k.below (zS.drew)
 obtain⟨⟨y0,y1,y2,y3,y4⟩,_⟩:=zq k.rn
 have hm:=Tryz.go_looked bl
 obtain⟨⟨z0,z1,z2,z3,z4⟩,_⟩:=zq (k.bd i hi)
 have HL:=uy kd hi
 have HPH:Hid (∀(x:Int) (w1:World),zO w w1->Calls Tryz.prog 174 #[zJ br 0,.agg #[zI 1,zI x]] w1 fun e w'=>e=.returned (.tuple #[])/\qY B bl br vp (yu bl br vcs vsd C D T h.za.length) w (yI h (1,x)) w'):=fun x=>uf k hn hj hB hl 1 x
 skip
 generalize h.za[i].pc=x at *
 clear k kd t
 go_enter Tryz.func163,Tryz.ntmps163
 go_wp2_with fail
 go_region_law (first
  | (go_simp;go_at_call 226;refine HL.mono ?_;rintro e w' ⟨rfl,hw⟩;obtain rfl:=hw.symm)
  | (go_simp;go_at_call 175;refine(jn x _).mono ?_;rintro e w2 ⟨rfl,hb⟩;have hb':zO w w2:=zS.drew.trans hb)
  | (go_simp;go_at_call 174;refine(HPH.out x _ hb').mono ?_;rintro e w3 ⟨rfl,hE⟩))
 all_goals exact bodyPost_end (results_none rfl _ _ _) rfl ⟨rfl,hE⟩
theorem zaX (k:LV B w bl br vp vcs vsd C D T h) {j:Nat} (hn:h.now=(j:Int)) (hj:j<h.za.length) (hB:B<=w.heap.size) (hl:h.za[j].zf.length<=1000) (q:Nat) (hq:q<h.za[j].zg.length) (vt:Value) :
 Calls Tryz.prog 147 #[zJ br 0,zI q,vt] w fun e w'=>e=.returned (.tuple #[])/\qY B bl br vp (yu bl br vcs vsd C D T h.za.length) w (yI h h.za[j].zg[q]) w':=by
 have HR:=kJ k hn hj
 have hm:=Tryz.go_running bl
 obtain⟨⟨y0,y1,y2,y3,y4⟩,_⟩:=zq k.rn
 obtain⟨⟨z0,z1,z2,z3,z4⟩,_⟩:=zq (k.bd j hj)
 have ht:=(k.ts j hj).1
 obtain⟨gt,ot,ct,hT,_⟩:=ht.form (by omega)
 rw[hT] at ht z2
 obtain⟨⟨c0,c1⟩,_⟩:=ht.cell hq
 have HP:=uf k hn hj hB hl h.za[j].zg[q].1 h.za[j].zg[q].2
 have HPH:Hid _:=HP
 have hqz:(q:Int)<(h.za[j].zg.length:Int):=by omega
 clear HP k ht
 generalize h.za[j].zg[q]=x at *
 obtain⟨x1,x2⟩:=x
 generalize h.za[j].zg.length=nt at *
 go_enter Tryz.func147,Tryz.ntmps147
 go_wp2_with (first
  | (go_at_call 227;refine HR.mono ?_;rintro e w' ⟨rfl,hw⟩;obtain rfl:=hw.symm)
  | (go_at_call 174;refine(HPH.out _ zS).mono ?_;rintro e w3 ⟨rfl,hE⟩))
 exact bodyPost_end (results_none rfl _ _ _) rfl ⟨rfl,hE⟩
theorem LV.pc (k:LV B w bl br vp vcs vsd C D T h) {j:Nat} (hj:j<h.za.length) (x:Int):LV B (w.setCell (zH (D j) 1) (zI x)) bl br vp vcs vsd C D (xT T j ((T j).1,(T j).2)) {h with za:=h.za.set j {h.za[j] with pc:=x}} /\
 vV B (yu bl br vcs vsd C D T h.za.length) (yu bl br vcs vsd C D (xT T j ((T j).1,(T j).2)) h.za.length) w (w.setCell (zH (D j) 1) (zI x)):=by
 have hDl:=k.lo (.body j) hj (D j) rfl
 have hDt:(T j).1.ownBlock≠some (D j):=fun e=>by have:=k.ap (.zg j) (.body j) hj hj (D j) e rfl;cases this
 have hDs:(T j).2.ownBlock≠some (D j):=fun e=>by have:=k.ap (.zf j) (.body j) hj hj (D j) e rfl;cases this
 have hTS:∀q,(T j).1.ownBlock=some q->(T j).2.ownBlock≠some q:=fun q e e2=>by have:=k.ap (.zg j) (.zf j) hj hj q e e2;cases this
 have hbl:∀g,g<w.heap.size->g≠D j->(T j).1.ownBlock≠some g->(T j).2.ownBlock≠some g->(w.setCell (zH (D j) 1) (zI x)).heap[g]?=w.heap[g]?:=fun g _ h2 _ _=>Below.heap_setCell _ _ _ _ (fun e=>h2 e)
 exact⟨k.turn hj rfl (by simp[World.setCell]) hbl (uv (k.bd j hj) (zI x)) ((k.ts j hj).1.set_other _ hDt) ((k.ts j hj).2.set_other _ hDs) (fun q e=>.inl e) (fun q e=>.inr (.inl e)) hTS,LV.turn_go hj (zS.setCell (p:=zH (D j) 1) hDl.1 _) hbl (fun q e=>.inl e) (fun q e=>.inr (.inl e))⟩
theorem zaR (k:LV B w bl br vp vcs vsd C D T h) {j:Nat} (hn:h.now=(j:Int)) (hj:j<h.za.length) (a:Int) (vt:Value) :
 Calls Tryz.prog 152 #[zJ br 0,zI a,vt] w fun e w'=>e=.returned (.tuple #[])/\qY B bl br vp (yu bl br vcs vsd C D T h.za.length) w (setH h {yJ h with pc:=a}) w':=by
 have HR:=kJ k hn hj
 have hm:=Tryz.go_running bl
 obtain⟨⟨y0,y1,y2,y3,y4⟩,_⟩:=zq k.rn
 obtain⟨⟨z0,z1,z2,z3,z4⟩,zf0,Wc,zf2,zf3,zf4⟩:=zq (k.bd j hj)
 have hE:qY B bl br vp (yu bl br vcs vsd C D T h.za.length) w (setH h {yJ h with pc:=a}) (w.setCell (zH (D j) 1) (zI a)):=by
  have e:setH h {yJ h with pc:=a}={h with za:=h.za.set j {h.za[j] with pc:=a}}:=by
   unfold setH
   rw[xO hn hj,hn,Int.toNat_natCast]
  rw[e]
  obtain⟨k2,g2⟩:=k.pc hj a
  refine⟨_,_,_,_,_,k2,?_⟩
  simp only[List.length_set]
  exact g2
 clear k
 go_enter Tryz.func152,Tryz.ntmps152
 go_wp2_with (go_at_call 227;refine HR.mono ?_;rintro e w' ⟨rfl,hw⟩;obtain rfl:=hw.symm)
 exact bodyPost_end (results_none rfl _ _ _) rfl ⟨rfl,hE⟩
theorem xo.mono {B B':Nat} {w:World} {v:Value} {cs:List Cl} {V:Nat->Value × Value} (h:xo B w v cs V) (hB:B'<=B):xo B' w v cs V:=by
 refine⟨?_,fun i hi=>⟨(h.lists i hi).1.mono hB,(h.lists i hi).2.mono hB⟩,h.apart⟩
 rcases h.row with h0 | ⟨g,off,cap,hv,hg,r⟩
 ·exact .inl h0
 ·exact .inr ⟨g,off,cap,hv,by omega,r⟩
end Go.Proofs.YtbjgjjkgfnfejaaGreatDoor
namespace Go.Proofs.YtbjgjjkgfnfejaaGreatDoor
def jA (L:yF) (bs:List jg):yF:={L with zj:=bs}
def KH (L:yF) (i k:Nat):yF:={L with zd:=L.zd.set i ⟨(L.zd.getD i ⟨-1,[]⟩).base,(L.zd.getD i ⟨-1,[]⟩).zh ++ [⟨k,-1⟩]⟩}
theorem Jm (L:yF) (bs:List jg) (i k:Nat):zx (jA L bs) i k=(jA (zx L i k).1 bs,(zx L i k).2):=by
 have e:(jA L bs).fr i k=L.fr i k:=rfl
 unfold zx
 rw[e]
 cases L.fr i k with
 | none=>rfl
 | some f =>
  simp only
  split
  ·rfl
  ·rfl
theorem X8 (I:Nat):∀(n k:Nat) (below:Int) (L:yF) (bs:List jg),qD I n k below (jA L bs)=(jA (qD I n k below L).1 bs,(qD I n k below L).2)
 | 0,_,_,_,_=>rfl
 | n+1,k,below,L,bs=>by
  have e:(jA L bs).fr I k=L.fr I k:=rfl
  show qD I n (k+1) (zx (jA L bs) I k).2 (vi (zx (jA L bs) I k).1 _ _ below)=_
  rw[Jm,e]
  exact X8 I n (k+1) _ (vi (zx L I k).1 (zx L I k).2.toNat (((L.fr I k).map fun f:ki=>f.body).getD 0) below) bs
theorem za5 (L:yF) (I:Nat) (bs:List jg):jG (jA L bs) I=(jA (jG L I).1 bs,(jG L I).2):=by
 show(Zo (qD I (qq L I) 0 (yw L I) (jA L bs)).1 I,(qD I (qq L I) 0 (yw L I) (jA L bs)).2)=_
 rw[X8]
 rfl
theorem zcD (L:yF) (bs:List jg):xC (jA L bs)=(jA (xC L).1 bs,(xC L).2):=by
 have e:(jA L bs).order.find? (fun x=>decide (qq (jA L bs) x.toNat=0))=L.order.find? (fun x=>decide (qq L x.toNat=0)):=rfl
 have e2:(jA L bs).order=L.order:=rfl
 unfold xC
 rw[e,e2]
 cases L.order.find? (fun x=>decide (qq L x.toNat=0)) with
 | some x=>rfl
 | none =>
  simp only
  rw[za5]
theorem zcW (L:yF) (bs:List jg):jP (jA L bs)=jA (jP L) bs:=by
 have e1:(jA L bs).now=L.now:=rfl
 have e2:∀i,qq (jA L bs) i=qq L i:=fun _=>rfl
 unfold jP
 rw[e1,e2,Jm]
 simp only
 rw[zcD]
 rfl
theorem zc3 {L:yF} {h:Hp} (s:jB 0 0 L h) (b:jg) (i:Nat):vL (jA L (L.zj ++ [b])) i=vL L i:=by
 unfold vL
 show L.cells - (((L.zd.getD i ⟨-1,[]⟩).zh).map fun f:ki=>xB ((L.zj ++ [b]).getD f.body jg.none).zg.length).sum=_
 congr 2
 refine List.map_congr_left fun f hf=>?_
 obtain⟨k,hk,e⟩:=List.getElem_of_mem hf
 have hfr:L.fr i k=some f:=by
  by_cases hi:i<L.zd.length
  ·have hg:L.zd.getD i ⟨-1,[]⟩=L.zd[i]:=by simp[hi]
   unfold yF.fr
   rw[List.getElem?_eq_getElem hi]
   show L.zd[i].zh[k]?=some f
   simp only[hg] at hk e
   rw[List.getElem?_eq_getElem hk,e]
  ·have hg:L.zd.getD i ⟨-1,[]⟩=⟨-1,[]⟩:=by simp[List.getD_eq_getElem?_getD,List.getElem?_eq_none (Nat.le_of_not_lt hi)]
   rw[hg] at hk
   simp at hk
 have hb:=(s.fb i k f hfr (yP _ _)).1
 rw[List.getD_eq_getElem?_getD,List.getD_eq_getElem?_getD,List.getElem?_append_left hb]
theorem za1 {L:yF} {h:Hp} (s:jB 0 0 L h) (ho:qU L) {i:Nat} (hn:L.now=(i:Int)) (hi:i<L.zd.length) (hf:0<qq L i) (b:jg) :
 Zp L b=KH (if vL (jA L (L.zj ++ [b])) i<xB b.zg.length then jP (jA L (L.zj ++ [b])) else jA L (L.zj ++ [b])) (if vL (jA L (L.zj ++ [b])) i<xB b.zg.length then jP (jA L (L.zj ++ [b])) else jA L (L.zj ++ [b])).now.toNat L.zj.length:=by
 have ek:=(KB s ho hn hi hf).2.1.bo
 unfold Zp
 rw[zc3 s,hn,Int.toNat_natCast,zcW]
 by_cases hr:vL L i<xB b.zg.length
 ·simp only[if_pos hr]
  unfold uL KH
  rw[ek]
  rfl
 ·simp only[if_neg hr]
  rfl
theorem jB.orph {L:yF} {h:Hp} (s:jB 0 0 L h) {b:jg} {c:Cl} (ha:Ym L.ze b c):jB 0 0 (jA L (L.zj ++ [b])) {h with za:=h.za ++ [c]} where
 fb:=fun i k f hf hp=>⟨by have:=(s.fb i k f hf hp).1;show _<(L.zj ++ [b]).length;rw[List.length_append];omega,(s.fb i k f hf hp).2⟩
 tb:=fun j t ht=>⟨by have:=(s.tb j t ht).1;show _<(L.zj ++ [b]).length;rw[List.length_append];omega,(s.tb j t ht).2⟩
 fi:=s.fi
 ti:=s.ti
 tf:=s.tf
 ba:=s.ba
 se:=s.se
 al:=fun i k f x hf hp hx=>by
  have hb:=(s.fb i k f hf hp).1
  have hx':(L.zj ++ [b])[f.body]?=some x:=hx
  rw[List.getElem?_append_left hb] at hx'
  exact s.al i k f x hf hp hx'
 n:=by
  show(h.za ++ [c]).length=(L.zj ++ [b]).length
  rw[List.length_append,List.length_append,s.n]
  rfl
 c:=fun k x hx=>by
  rcases YF hx with⟨e1,e2⟩ | ⟨e1,e2⟩
  ·subst e2
   refine⟨c,?_,ha⟩
   show(h.za ++ [c])[k]?=some c
   rw[e1,<-s.n]
   simp
  ·obtain⟨c',h1,h2⟩:=s.c k x e2
   refine⟨c',?_,h2⟩
   show(h.za ++ [c])[k]?=some c'
   rw[List.getElem?_append_left (by rw[s.n];exact e1)]
   exact h1
 fs:=fun i k f c' hf hp hc=>by
  have hb:=(s.fb i k f hf hp).1
  have hc':(h.za ++ [c])[f.body]?=some c':=hc
  rw[List.getElem?_append_left (by rw[s.n];exact hb)] at hc'
  exact s.fs i k f c' hf hp hc'
 ts:=fun j t c' ht h0 hc=>by
  have hb:=(s.tb j t ht).1
  have hc':(h.za ++ [c])[t.body]?=some c':=hc
  rw[List.getElem?_append_left (by rw[s.n];exact hb)] at hc'
  exact s.ts j t c' ht h0 hc'
def xX (cells:Int) (n:Nat) (ord:List Int) (b:jg):yF:=⟨cells,⟨-1,[⟨0,-1⟩]⟩ :: List.replicate n ⟨-1,[]⟩,ord,0,[],[b]⟩
theorem YH {cells:Int} {n:Nat} {ord:List Int} {b:jg} {i k:Nat} {f:ki} (h:(xX cells n ord b).fr i k=some f):i=0/\k=0/\f=⟨0,-1⟩:=by
 unfold yF.fr xX at h
 cases i with
 | zero =>
  cases k with
  | zero=>simp at h;exact⟨rfl,rfl,h.symm⟩
  | succ k=>simp at h
 | succ i =>
  simp only[List.getElem?_cons_succ,List.getElem?_replicate] at h
  split at h <;> simp at h
theorem zda {cells:Int} {n:Nat} {ord:List Int} {b:jg} {c:Cl} (ha:Ym [] b c) (hd:b.zv=false) (hs:c.zi=-1) (born code:Int) (zm:yH) :
 jB 0 0 (xX cells n ord b) ⟨[c],0,born,zm,code⟩/\ZJ (xX cells n ord b) ⟨[c],0,born,zm,code⟩:=by
 refine⟨⟨fun i k f hf _=>?_,fun j t ht=>by simp[xX] at ht,fun i k f i' k' f' hf _ hf' _ _=>?_,fun j t j' t' ht=>by simp[xX] at ht,fun i k f j t _ _ ht=>by simp[xX] at ht,fun i p hp=>?_,fun j t ht=>by simp[xX] at ht,fun i k f x hf _ hx=>?_,rfl,fun k x hx=>?_,fun i k f x hf _ hx=>?_,fun j t x ht=>by simp[xX] at ht⟩,?_⟩
 ·obtain⟨_,_,rfl⟩:=YH hf
  exact⟨by simp[xX],.inl rfl⟩
 ·obtain⟨rfl,rfl,_⟩:=YH hf
  obtain⟨rfl,rfl,_⟩:=YH hf'
  exact⟨rfl,rfl⟩
 ·refine .inl ?_
  unfold xX at hp
  cases i with
  | zero=>simp at hp;rw[<-hp]
  | succ i =>
   simp only[List.getElem?_cons_succ,List.getElem?_replicate] at hp
   split at hp
   ·injection hp with hp;rw[<-hp]
   ·cases hp
 ·obtain⟨_,_,rfl⟩:=YH hf
  simp[xX] at hx
  rw[<-hx]
  exact hd
 ·cases k with
  | zero =>
   simp[xX] at hx
   subst hx
   exact⟨c,rfl,ha⟩
  | succ k=>simp[xX] at hx
 ·obtain⟨rfl,rfl,rfl⟩:=YH hf
  simp at hx
  rw[<-hx,hs]
  rfl
 ·exact .inr ⟨0,rfl,by simp[xX],by simp[qq,xX],rfl⟩
end Go.Proofs.YtbjgjjkgfnfejaaGreatDoor

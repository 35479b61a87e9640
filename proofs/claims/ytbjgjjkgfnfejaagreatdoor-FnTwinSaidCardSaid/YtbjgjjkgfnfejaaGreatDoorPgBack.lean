/-
  The program's heap at work: who called, a value is put.
-/
import Derived.Test.YtbjgjjkgfnfejaaGreatDoorMLive3
import Derived.Test.YtbjgjjkgfnfejaaGreatDoorMOrder
namespace Go.Proofs.YtbjgjjkgfnfejaaGreatDoor
set_option maxHeartbeats 4000000
set_option maxRecDepth 100000
open Go.RowKit
variable {B:Nat} {w w':World} {bl br:Nat} {vp vcs vsd:Value} {C D:Nat->Nat} {T:Nat->Value × Value} {h h':Hp}
theorem wl (w:World) (k q:Int) (e:TypeId) (c:Nat):yo (w.alloc (.cells #[.int .i64 k,.int .i64 q] e)).drew (.slice (some ⟨w.heap.size,0,none⟩) 1 c) [(k,q)]:=zec w k q e c
theorem JZ {w w2:World} {t:TypeId} (hb:zO w w2) (hr:w2.rowIs w.heap.size t 2 (Jn (zI 0) (zI 0))) (x y:Int):∃W9:World,W9=(w2.setCell (zH w.heap.size 0) (zI x)).setCell (zH w.heap.size 1) (zI y)/\W9.cell? (zH w.heap.size 0)=some (zI x)/\W9.cell? (zH w.heap.size 1)=some (zI y)/\zO w W9:=by
 have R9:((w2.setCell (zH w.heap.size 0) (zI x)).setCell (zH w.heap.size 1) (zI y)).rowIs w.heap.size t 2 (Jn (zI x) (zI y)):=((uO hr (zI x)).set 1 (zI y)).congr fun i hi=>by match i,hi with | 0,_=>rfl | 1,_=>rfl
 obtain⟨⟨q0,q1⟩,_⟩:=zZ R9
 exact⟨_,rfl,q0,q1,(hb.setCell (p:=zH w.heap.size 0) zD (zI x)).setCell (p:=zH w.heap.size 1) zD (zI y)⟩
theorem zc9 (k:LV B w bl br vp vcs vsd C D T h) {j i:Nat} (hj:j<h.za.length) (hs:h.za[j].zi=(i:Int)) (hi:i<h.za.length) :
 Calls Tryz.prog 228 #[zJ bl 0,zI j] w fun e w'=>e=.returned (.agg #[zI 2,zI i])/\zO w w':=by
 have hA:zO w (w.alloc (.cells #[.int .i64 0,.int .i64 0] 86)):=zR _ _
 have rx:=xJ w 86 (.int .i64 0) (.int .i64 0)
 have kA:=k.below hA
 obtain⟨⟨x0,x1⟩,_⟩:=zZ kA.hp
 obtain⟨g,off,cap,hv,hl,hx⟩:=kA.ptr (by omega)
 subst hv
 have z:=hx j hj
 clear hx
 obtain⟨⟨y0,y1,y2⟩,_⟩:=xu (kA.cl j hj)
 rw[hs,u9] at y2
 have u1:=(xu (kA.cl i hi)).1.2.1
 have hjz:(j:Int)<(h.za.length:Int):=by omega
 go_enter Tryz.func228,Tryz.ntmps228
 go_wp2_with (first
  | (go_at_call 214;refine(Qp i _).mono ?_;rintro e w2 ⟨rfl,hb⟩;have r2:=yp hb rx;obtain⟨⟨t0,t1⟩,tf0,tf1⟩:=zZ r2)
  | (go_at_call 54;refine(QD (C i) i _ u1).mono ?_;rintro e w' ⟨rfl,hw⟩;obtain rfl:=hw.symm))
 obtain⟨W9,hW9,q0,q1,B9⟩:=JZ (hA.trans (hb.mono hA.size)) r2 2 i
 rw[<-hW9]
 exact bodyPost_ret (v:=.agg #[zI 2,zI i]) (by simp[results,Tryz.results228,go_sem,q0,q1]) rfl ⟨rfl,B9⟩
theorem zai (k:LV B w bl br vp vcs vsd C D T h) {j:Nat} (hj:j<h.za.length) (hs:h.za[j].zi<0) :
 Calls Tryz.prog 228 #[zJ bl 0,zI j] w fun e w'=>e=.returned (.agg #[zI 0,zI 0])/\zO w w':=by
 have hA:zO w (w.alloc (.cells #[.int .i64 0,.int .i64 0] 86)):=zR _ _
 have rx:=xJ w 86 (.int .i64 0) (.int .i64 0)
 have kA:=k.below hA
 obtain⟨⟨x0,x1⟩,_⟩:=zZ kA.hp
 obtain⟨g,off,cap,hv,hl,hx⟩:=kA.ptr (by omega)
 subst hv
 have z:=hx j hj
 clear hx
 obtain⟨⟨y0,y1,y2⟩,_⟩:=xu (kA.cl j hj)
 rw[vr hs] at y2
 have hjz:(j:Int)<(h.za.length:Int):=by omega
 go_enter Tryz.func228,Tryz.ntmps228
 go_wp2_with (first
  | (go_at_call 214;refine(QY _).mono ?_;rintro e w2 ⟨rfl,hb⟩;have r2:=yp hb rx;obtain⟨⟨t0,t1⟩,tf0,tf1⟩:=zZ r2)
  | (go_at_call 54;refine(ZV _).mono ?_;rintro e w' ⟨rfl,hw⟩;obtain rfl:=hw.symm))
 obtain⟨W9,hW9,q0,q1,B9⟩:=JZ (hA.trans (hb.mono hA.size)) r2 0 0
 rw[<-hW9]
 exact bodyPost_ret (v:=.agg #[zI 0,zI 0]) (by simp[results,Tryz.results228,go_sem,q0,q1]) rfl ⟨rfl,B9⟩
theorem Wg (k:LV B w bl br vp vcs vsd C D T h) {j:Nat} (hj:j<h.za.length) (hB:B<=w.heap.size) (a b:Int) (hl:h.za[j].zf.length<=1000) :
 Calls Tryz.prog 186 #[zJ (D j) 0,.agg #[zI a,zI b]] w fun e w'=>e=.returned (.tuple #[])/\∃T',LV B w' bl br vp vcs vsd C D T' {h with za:=h.za.set j {h.za[j] with zf:=h.za[j].zf ++ [(a,b)]}}/\vV B (yu bl br vcs vsd C D T h.za.length) (yu bl br vcs vsd C D T' h.za.length) w w':=by
 have hA:zO w (w.alloc (.cells #[.int .i64 a,.int .i64 b] 86)):=zR _ _
 have rx:=xJ w 86 (.int .i64 a) (.int .i64 b)
 have zA:(w.alloc (.cells #[.int .i64 a,.int .i64 b] 86)).heap.size=w.heap.size+1:=by simp
 obtain⟨aS,cS,hS,_⟩:=(k.ts j hj).2.slice
 have hDl:=k.lo (.body j) hj (D j) rfl
 have HPU:Hid (∀(w2:World) (v':Value),w.heap.size<=w2.heap.size->Below B w w2->(∀g,g<w.heap.size->(T j).2.ownBlock≠some g->w2.heap[g]?=w.heap[g]?)->zk B w2 v' (h.za[j].zf ++ [(a,b)])->(∀q,v'.ownBlock=some q->(T j).2.ownBlock=some q\/w.heap.size<=q)->∃T',LV B (w2.setCell (zH (D j) 3) v') bl br vp vcs vsd C D T' {h with za:=h.za.set j {h.za[j] with zf:=h.za[j].zf ++ [(a,b)]}}/\vV B (yu bl br vcs vsd C D T h.za.length) (yu bl br vcs vsd C D T' h.za.length) w (w2.setCell (zH (D j) 3) v')):=fun w2 v' h1 h2 h3 h4 h5=>⟨_,k.push hj hB h1 h2 h3 h4 h5⟩
 have zT:=(k.ts j hj).2
 have hDs:(T j).2.ownBlock≠some (D j):=fun e=>by have:=k.ap (.zf j) (.body j) hj hj (D j) e rfl;cases this
 obtain⟨⟨_,_,_,b3,_⟩,_,_,_,bf3,_⟩:=zq (k.bd j hj)
 rw[hS] at zT hDs b3
 have HS:Hid ((T j).2=.slice aS h.za[j].zf.length cS):=hS
 clear hS
 have VM:=zT.below hA
 generalize h.za[j].zf=st at *
 have b3A:=zc hA b3
 have bf3A:(w.alloc (.cells #[.int .i64 a,.int .i64 b] 86)).frozen? (zH (D j) 3)=false:=(World.frozen?_of_block (a:=⟨D j,3,none⟩) (hA.block _ hDl.2)).trans bf3
 go_enter Tryz.func186,Tryz.ntmps186
 go_upto_region 1 with fail
 generalize w.alloc (.cells #[.int .i64 a,.int .i64 b] 86)=W1 at *
 have NA:zO W1 (W1.alloc (.cells #[.int .i64 a,.int .i64 b] 86)).drew:=(zR _ _).drew
 have zy:=VM.below NA
 have zN:(W1.alloc (.cells #[.int .i64 a,.int .i64 b] 86)).drew.heap.size=W1.heap.size+1:=by simp
 obtain⟨⟨x0,x1⟩,_⟩:=zZ rx
 have hBz:B<=(W1.alloc (.cells #[.int .i64 a,.int .i64 b] 86)).drew.heap.size:=by omega
 have HE:Hid (∀v' w',zk B w' v' (st ++ [(a,b)])->(W1.alloc (.cells #[.int .i64 a,.int .i64 b] 86)).drew.grownBy w' (Value.slice aS st.length cS).ownBlock->(v'.ownBlock=(Value.slice aS st.length cS).ownBlock\/v'.ownBlock=some (W1.alloc (.cells #[.int .i64 a,.int .i64 b] 86)).drew.heap.size)->(w'.cell? (zH (D j) 3)=some (.slice aS st.length cS)/\w'.frozen? (zH (D j) 3)=false)/\∃T',LV B (w'.setCell (zH (D j) 3) v') bl br vp vcs vsd C D T' {h with za:=h.za.set j {h.za[j] with zf:=st ++ [(a,b)]}}/\vV B (yu bl br vcs vsd C D T h.za.length) (yu bl br vcs vsd C D T' h.za.length) w (w'.setCell (zH (D j) 3) v')):=by
  intro v' w' hr hg hv
  have hz:=hg.size
  have xF:=hA.size
  have hbl:∀g,g<w.heap.size->(Value.slice aS st.length cS).ownBlock≠some g->w'.heap[g]?=w.heap[g]?:=fun g h1 h2=>((hg.block g (by omega) (fun e=>h2 e.symm)).trans (NA.block g (by omega))).trans (hA.block g h1)
  have hDb:=hbl (D j) hDl.2 hDs
  refine⟨⟨(World.cell?_of_block (a:=⟨D j,3,none⟩) hDb).trans b3,(World.frozen?_of_block (a:=⟨D j,3,none⟩) hDb).trans bf3⟩,HPU.out w' v' (by omega) ?_ (fun g h1 h2=>hbl g h1 (by rw[<-HS.out];exact h2)) hr (fun q e=>?_)⟩
  ·exact((hA.mono hB).trans (NA.mono (by omega))).grown hg (by omega) (fun q e=>(zT.lt q e).1)
  ·rcases hv with x | x
   ·exact .inl (by rw[HS.out,<-x];exact e)
   ·rw[x] at e;injection e with e;exact .inr (by omega)
 have KA:yo (W1.alloc (.cells #[.int .i64 a,.int .i64 b] 86)).drew (.slice (some ⟨w.heap.size+1,0,none⟩) 1 1) [(a,b)]:=by rw[<-zA];exact wl W1 a b _ _
 clear HPU VM rx b3 bf3 NA zT
 go_region_law (refine wn _ (by rfl) _ _ (by rfl) B _ _ st [(a,b)] (by rfl) (by rfl) zy KA (by simp;omega) (by simp;omega) ?_;intro v' w' zT hg hbk;obtain⟨a',c',hv',_⟩:=zT.slice;rw[List.length_append] at hv';subst hv';obtain⟨⟨z4,f4⟩,Wy⟩:=HE.out _ w' zT hg hbk)
 all_goals exact bodyPost_end (results_none rfl _ _ _) rfl ⟨rfl,Wy⟩
variable {B:Nat} {w w':World} {bl br:Nat} {vp vcs vsd:Value} {C D:Nat->Nat} {T:Nat->Value × Value} {h h':Hp}
theorem Tryz.go_running (bl : Nat) (w : World) : (method 364 98 (zJ bl 0) "loop.example/gemel/impl.running").run Tryz.prog w = .ok (227, zJ bl 0) w := by kernel_rfl
theorem zen {h:Hp} {j:Nat} (hn:h.now=(j:Int)) (hj:j<h.za.length) (x:Int × Int):yI h x={h with za:=h.za.set j {h.za[j] with zf:=h.za[j].zf ++ [x]}}:=by
 unfold yI setH
 rw[xO hn hj,hn,Int.toNat_natCast]
theorem QE (k:LV B w bl br vp vcs vsd C D T h) {j:Nat} (hn:h.now=(j:Int)) (hj:j<h.za.length) (hB:B<=w.heap.size) (a b:Int) (hl:h.za[j].zf.length<=1000) :
 Calls Tryz.prog 174 #[zJ br 0,.agg #[zI a,zI b]] w fun e w'=>e=.returned (.tuple #[])/\∃T',LV B w' bl br vp vcs vsd C D T' (yI h (a,b))/\vV B (yu bl br vcs vsd C D T h.za.length) (yu bl br vcs vsd C D T' h.za.length) w w':=by
 rw[zen hn hj]
 have hA:zO w (w.alloc (.cells #[.int .i64 a,.int .i64 b] 86)):=zR _ _
 have rx:=xJ w 86 (.int .i64 a) (.int .i64 b)
 have k1:=k.below hA
 have hm:=Tryz.go_running bl
 go_enter Tryz.func174,Tryz.ntmps174
 go_upto_region 1 with fail
 generalize w.alloc (.cells #[.int .i64 a,.int .i64 b] 86)=W1 at *
 have k1d:=k1.below (zS.drew)
 have g1:vV B (yu bl br vcs vsd C D T h.za.length) (yu bl br vcs vsd C D T h.za.length) w W1.drew:=vV.of_below hB hA.drew
 have hBd:B<=W1.drew.heap.size:=by have:=hA.size;show B<=W1.heap.size;omega
 obtain⟨⟨x0,x1⟩,_⟩:=zZ rx
 obtain⟨⟨y0,y1,y2,y3,y4⟩,_⟩:=zq k1.rn
 have HP:Hid (Calls Tryz.prog 186 #[zJ (D j) 0,.agg #[zI a,zI b]] W1.drew fun e w'=>e=.returned (.tuple #[])/\∃T',LV B w' bl br vp vcs vsd C D T' {h with za:=h.za.set j {h.za[j] with zf:=h.za[j].zf ++ [(a,b)]}}/\vV B (yu bl br vcs vsd C D T h.za.length) (yu bl br vcs vsd C D T' h.za.length) W1.drew w'):=Wg k1d hj hBd a b hl
 have HR:Hid (Calls Tryz.prog 227 #[zJ bl 0] W1.drew fun e w'=>e=.returned (zJ (D j) 0)/\w'=W1.drew):=kJ k1d hn hj
 clear k k1 k1d rx
 go_region_law (first
  | (go_simp;go_at_call 186;refine HP.out.mono ?_;rintro e w2 ⟨rfl,T2,k2,g2⟩)
  | (go_simp;go_at_call 227;refine HR.out.mono ?_;rintro e w' ⟨rfl,hw⟩;obtain rfl:=hw.symm))
 all_goals exact bodyPost_end (results_none rfl _ _ _) rfl ⟨rfl,T2,k2,g1.trans g2⟩
theorem Wo (d:Nat) (w:World) (x3 x4:Value) (h3:w.cell? (zH d 3)=some x3) (h4:w.cell? (zH d 4)=some x4) (f3:w.frozen? (zH d 3)=false) (f4:w.frozen? (zH d 4)=false) :
 Calls Tryz.prog 217 #[zJ d 0] w fun e w'=>e=.returned (.tuple #[])/\w'=(w.setCell (zH d 3) (zQ)).setCell (zH d 4) (.bool true):=by
 go_enter Tryz.func217,Tryz.ntmps217
 go_wp2
 exact bodyPost_end (results_none rfl _ _ _) rfl ⟨rfl,rfl⟩
theorem LV.die (k:LV B w bl br vp vcs vsd C D T h) {j:Nat} (hj:j<h.za.length):LV B ((w.setCell (zH (D j) 3) (zQ)).setCell (zH (D j) 4) (.bool true)) bl br vp vcs vsd C D (xT T j ((T j).1,zQ)) {h with za:=h.za.set j {h.za[j] with zf:=[],zv:=true}} /\
 vV B (yu bl br vcs vsd C D T h.za.length) (yu bl br vcs vsd C D (xT T j ((T j).1,zQ)) h.za.length) w ((w.setCell (zH (D j) 3) (zQ)).setCell (zH (D j) 4) (.bool true)):=by
 have hDl:=k.lo (.body j) hj (D j) rfl
 have hDt:(T j).1.ownBlock≠some (D j):=fun e=>by have:=k.ap (.zg j) (.body j) hj hj (D j) e rfl;cases this
 have hbl:∀g,g<w.heap.size->g≠D j->(T j).1.ownBlock≠some g->(T j).2.ownBlock≠some g->((w.setCell (zH (D j) 3) (zQ)).setCell (zH (D j) 4) (.bool true)).heap[g]?=w.heap[g]?:=fun g _ h2 _ _=>(Below.heap_setCell _ _ _ _ (fun e=>h2 e)).trans (Below.heap_setCell _ _ _ _ (fun e=>h2 e))
 have nt:∀q,(T j).1.ownBlock=some q->(T j).1.ownBlock=some q\/(T j).2.ownBlock=some q\/w.heap.size<=q:=fun q e=>.inl e
 have ns:∀q,(Value.slice none 0 0).ownBlock=some q->(T j).1.ownBlock=some q\/(T j).2.ownBlock=some q\/w.heap.size<=q:=fun q e=>by simp[Value.ownBlock] at e
 refine⟨k.turn hj rfl (by simp[World.setCell]) hbl (jM (kP (k.bd j hj) (zQ)) (.bool true)) (((k.ts j hj).1.set_other _ hDt).set_other _ hDt) (zk.nil _ _) nt ns (fun q _ e=>by simp[Value.ownBlock] at e),LV.turn_go hj ((Below.refl _ _ |>.setCell (p:=zH (D j) 3) hDl.1 _).setCell (p:=zH (D j) 4) hDl.1 _) hbl nt ns⟩
theorem zcM {h:Hp} {j:Nat} (hn:h.now=(j:Int)) (hj:j<h.za.length):ye h={h with za:=(h.za.set j {h.za[j] with zi:=-1}).set j {h.za[j] with zf:=[],zi:=-1,zv:=true},now:=h.za[j].zi}:=by
 unfold ye setH um
 rw[xO hn hj,hn,Int.toNat_natCast,List.set_set]
theorem VR (k:LV B w bl br vp vcs vsd C D T h) {j:Nat} (hn:h.now=(j:Int)) (hj:j<h.za.length) :
 Calls Tryz.prog 225 #[zJ bl 0] w fun e w'=>e=.returned (.tuple #[])/\∃T',LV B w' bl br vp vcs vsd C D T' (ye h)/\vV B (yu bl br vcs vsd C D T h.za.length) (yu bl br vcs vsd C D T' h.za.length) w w':=by
 rw[zcM hn hj]
 have hbl:=k.lo .heap trivial bl rfl
 have hCl:=k.lo (.call j) hj (C j) rfl
 have hCb:C j≠bl:=fun e=>by have:=k.ap (.call j) .heap hj trivial (C j) rfl (by rw[e];rfl);cases this
 have hDb:D j≠bl:=fun e=>by have:=k.ap (.body j) .heap hj trivial (D j) rfl (by rw[e];rfl);cases this
 have hDC:D j≠C j:=fun e=>by have:=k.ap (.body j) (.call j) hj hj (D j) rfl (by rw[e];rfl);cases this
 obtain⟨q,hq⟩:∃q,jd C h.za[j].zi=.pointer q:=by
  unfold jd
  split
  ·exact⟨_,rfl⟩
  ·exact⟨_,rfl⟩
 have kn:=k.now h.za[j].zi (.pointer q) hq.symm
 have gn:vV B (yu bl br vcs vsd C D T h.za.length) (yu bl br vcs vsd C D T h.za.length) w (w.setCell (zH bl 1) (.pointer q)):=vV.set (p:=zH bl 1) ⟨.heap,trivial,rfl⟩ hbl.1 _
 have ks:=kn.snd (j:=j) hj (-1) (.pointer none) rfl
 have gs:vV B (yu bl br vcs vsd C D T h.za.length) (yu bl br vcs vsd C D T h.za.length) (w.setCell (zH bl 1) (.pointer q)) ((w.setCell (zH bl 1) (.pointer q)).setCell (zH (C j) 2) (.pointer none)):=vV.set (p:=zH (C j) 2) ⟨.call j,hj,rfl⟩ hCl.1 _
 have hjs:j<(h.za.set j {h.za[j] with zi:=-1}).length:=by rw[List.length_set];exact hj
 obtain⟨kd,gd⟩:=ks.die (j:=j) hjs
 simp only[List.getElem_set_self,List.length_set] at kd gd
 have G:=(gn.trans gs).trans gd
 have HK:Hid _:=kd
 have HG:Hid _:=G
 obtain⟨⟨x0,x1⟩,xf0,xf1⟩:=zZ k.hp
 rw[hn,u9] at x1
 obtain⟨⟨y0,y1,y2⟩,yf0,yf1,yf2⟩:=xu (k.cl j hj)
 rw[hq] at y2
 obtain⟨⟨z0,z1,z2⟩,_⟩:=xu (ks.cl j hjs)
 obtain⟨⟨b0,b1,b2,b3,b4⟩,bf0,bf1,bf2,bf3,bf4⟩:=zq (ks.bd j hjs)
 clear kd G gd gs gn ks kn k
 go_enter Tryz.func225,Tryz.ntmps225
 go_wp2_with (go_at_call 217;refine(Wo (D j) _ _ _ b3 b4 bf3 bf4).mono ?_;rintro e w' ⟨rfl,hw⟩;subst hw)
 exact bodyPost_end (results_none rfl _ _ _) rfl ⟨rfl,_,HK.out,HG.out⟩
def QI (xs:List Int) (k:Nat) (i:Int):List Int:=xs.take k ++ xs.drop (k+1) ++ [i]
theorem zc5 {B:Nat} {ρ:Nat->Rl} {w:World} {P:Lay} (h:yj B ρ w P) (hB:B<=w.heap.size) (i:Int) (k:Nat) (hk:k<P.L.order.length) (he:P.L.order[k]=i) (hno:∀j,(hj:j<P.L.order.length)->j<k->P.L.order[j]≠i) (zba:P.L.order.length<=1000) :
 Calls Tryz.prog 75 #[zJ P.bl 0,zI i] w fun e w'=>e=.returned (.tuple #[])/\∃ρ' uP,yj B ρ' w' {P with vo:=uP,L:={P.L with order:=QI P.L.order k i,now:=i}}/\Ch (fun r=>r≠.other) ρ ρ' w w'/\Below B w w':=by
 have HL:Hid (yj B ρ w P):=h
 obtain⟨hor,hog⟩:=h .order
 have hidx:Vk P.L.order i=(k:Int):=Kq hk he hno
 obtain⟨g,off,cap,j5,hBg,hgl⟩:=hor.form (by omega)
 obtain⟨m,hm⟩:∃m,P.L.order.length=m+1:=⟨P.L.order.length - 1,by omega⟩
 have hbx:=(h .live).1
 have hrl:=(h .live).2.1
 have hBb:=(h .live).2.2
 have hρg:ρ g=.order:=hog g (by rw[j5];rfl)
 have qF:g≠P.bl:=fun e=>by rw[e,hrl] at hρg;cases hρg
 rw[j5] at hbx
 obtain⟨vp,qI⟩:∃vp,P.vp=vp:=⟨_,rfl⟩
 have hIX:=Yd P.vo P.L.order i w hor.at
 rw[hidx,j5,hm] at hIX
 have Xz:yf B w (zK g off P.L.order.length cap) P.L.order:=by rw[<-j5];exact hor
 have hDE:=XQ B g off cap k m P.L.order w hm Xz (by omega)
 have x2:=hbx.cell 2 rfl
 rw[hm] at x2
 obtain⟨bl,hbl⟩:∃bl,P.bl=bl:=⟨_,rfl⟩
 rw[hbl] at x2 hbx qF hBb ⊢
 have hblw:=hbx.lt
 clear h hor Xz hidx
 go_enter Tryz.func75,Tryz.ntmps75
 go_wp2_with fail
 refine hIX.mono ?_
 rintro e W ⟨rfl,hw⟩
 obtain rfl:=hw.symm
 clear hw hIX
 go_wp2_with fail
 refine hDE.mono ?_
 rintro e w1 ⟨rfl,Kn,Yh⟩
 have qa:Bx w1 bl 117 [zI P.L.cells,P.vp,zK g off P.L.order.length cap,zI P.L.now,.map (some P.bm)]:=hbx.grown Yh fun e=>qF (by injection e)
 obtain⟨YS,hYS⟩:∃YS,P.L.order.take k ++ P.L.order.drop (k+1)=YS:=⟨_,rfl⟩
 have hyl:YS.length=m:=by rw[<-hYS];simp;omega
 rw[hYS] at Kn
 have hyl2:YS.length<=1000:=by omega
 obtain⟨i0,hii,jT,xF,kf⟩:=info_parts Tryz.infoIntO
 have hz1w:=Yh.size
 have HFIN:Hid (∀(g2 Xg cp2:Nat) (w2:World),yf B w2 (zK g2 Xg (YS.length+1) cp2) (YS ++ [i])->w1.grownBy w2 (some g)->((some g:Option Nat)=some g2\/w1.heap.size<=g2) ->
  ∃ρ' uP,yj B ρ' ((w2.setCell (zH bl 2) (zK g2 Xg (YS.length+1) cp2)).setCell (zH bl 3) (zI i)) {P with vo:=uP,L:={P.L with order:=QI P.L.order k i,now:=i}}/\Ch (fun r=>r≠.other) ρ ρ' w ((w2.setCell (zH bl 2) (zK g2 Xg (YS.length+1) cp2)).setCell (zH bl 3) (zI i))/\Below B w ((w2.setCell (zH bl 2) (zK g2 Xg (YS.length+1) cp2)).setCell (zH bl 3) (zI i))):=by
  intro g2 Xg cp2 w2 zT hgr hor
  have G:w.grownBy w2 (some g):=Yh.trans hgr
  have c:Ch (fun r=>r=.order) ρ (zu ρ w .order) w w2:=Ch.grown G ρ .order fun q e=>by cases e;exact hρg
  have qA:∀q,(zK g2 Xg (YS.length+1) cp2).ownBlock=some q->zu ρ w .order q=.order:=fun q e=>by
   have e2:g2=q:=by injection e
   subst e2
   rcases hor with e3 | e3
   ·injection e3 with e3
    subst e3
    rw[yG hgl,hρg]
   ·exact qj (by omega)
  have yN:yf B w2 (zK g2 Xg (YS.length+1) cp2) (QI P.L.order k i):=by unfold QI;rw[hYS];exact zT
  have A:=HL.out.setOrder c yN qA
  have A2:=A.setNow i
  subst hbl
  refine⟨_,_,A2,?_,?_⟩
  ·have r2:zu ρ w .order P.bl=.live:=by rw[yG (by omega)];exact hrl
   exact((c.mono (by intro r e;rw[e];simp)).trans (Ch.set w2 _ P.bl 2 _ (by rw[r2];simp))).trans (Ch.set _ _ P.bl 3 _ (by rw[r2];simp))
  ·exact(((Below.refl B w).grown G hB fun q e=>by cases e;exact hBg).setCell (p:=zH P.bl 2) hBb _).setCell (p:=zH P.bl 3) hBb _
 clear hyl hrl hρg hgl Yh hYS j5 HL hm he hno hk hog
 go_upto_region 2 with(at_builtin;refine XX Tryz.underlying30 hii jT xF kf w1 (by rfl) _ _ (by rfl) _ YS (by rfl) Kn i w1.heap.size _ rfl (by rfl) (by omega) (by omega) ?_;intro g2 Xg cp2 w2 yN qA Xz Xy;have yL:=qa.grown qA (fun e=>qF (by injection e));have y2:=yL.cell 2 rfl;have f2:=yL.frozen 2)
 have xn:=yL.set 2 (zK g2 Xg (YS.length+1) cp2)
 have y3:=xn.cell 3 rfl
 have f3:=xn.frozen 3
 have HE:=HFIN.out g2 Xg cp2 w2 yN qA Xz
 clear HFIN qa yL xn y2 f2
 go_wp2
 subst hbl
 exact bodyPost_end (results_none rfl _ _ _) rfl ⟨rfl,HE⟩
end Go.Proofs.YtbjgjjkgfnfejaaGreatDoor
namespace Go.Proofs.YtbjgjjkgfnfejaaGreatDoor
structure jU (L L':yF):Prop where
 pl:L'.zd.length=L.zd.length
 fb:∀i k,(L'.fr i k).map (fun f:ki=>f.body)=(L.fr i k).map (fun f:ki=>f.body)
 ba:∀i:Nat,(L'.zd[i]?).map (fun p:wh=>p.base)=(L.zd[i]?).map (fun p:wh=>p.base)
 bo:L'.zj=L.zj
 ord:L'.order=L.order
 now:L'.now=L.now
 ce:L'.cells=L.cells
 tw:qo L.ze L'.ze
theorem jU.refl (L:yF):jU L L:=⟨rfl,fun _ _=>rfl,fun _=>rfl,rfl,rfl,rfl,rfl,qo.refl _⟩
theorem jU.trans {a b c:yF} (h:jU a b) (k:jU b c):jU a c :=
 ⟨k.pl.trans h.pl,fun i q=>(k.fb i q).trans (h.fb i q),fun i=>(k.ba i).trans (h.ba i),k.bo.trans h.bo,k.ord.trans h.ord,k.now.trans h.now,k.ce.trans h.ce,h.tw.trans k.tw⟩
theorem jU.fr {L L':yF} (h:jU L L') {i k:Nat} {f:ki} (hf:L.fr i k=some f):∃f',L'.fr i k=some f'/\f'.body=f.body:=by
 have:=h.fb i k
 rw[hf] at this
 cases e:L'.fr i k with
 | none=>rw[e] at this;cases this
 | some g=>rw[e] at this;exact⟨g,rfl,by injection this⟩
theorem jU.none {L L':yF} (h:jU L L') {i k:Nat} (hf:L.fr i k=none):L'.fr i k=none:=by
 have:=h.fb i k
 rw[hf] at this
 cases e:L'.fr i k with
 | none=>rfl
 | some g=>rw[e] at this;cases this
def qq (L:yF) (i:Nat):Nat:=(L.zd.getD i ⟨-1,[]⟩).zh.length
theorem kF {L:yF} {i:Nat} (hi:i<L.zd.length):qq L i=L.zd[i].zh.length:=by unfold qq;simp[hi]
theorem vG {L:yF} {i k:Nat} (hk:k<qq L i):∃f,L.fr i k=some f:=by
 by_cases hi:i<L.zd.length
 ·rw[kF hi] at hk
  exact⟨_,yF.fr_at hi hk⟩
 ·unfold qq at hk
  simp[hi] at hk
theorem zb6 {L:yF} {i k:Nat} {f:ki} (h:L.fr i k=some f):i<L.zd.length/\k<qq L i:=by
 obtain⟨hi,hk,_⟩:=yF.fr_some h
 exact⟨hi,by rw[kF hi];exact hk⟩
theorem jU.n {L L':yF} (h:jU L L') (i:Nat):qq L' i=qq L i:=by
 rcases Nat.lt_trichotomy (qq L' i) (qq L i) with e | e | e
 ·obtain⟨f,hf⟩:=vG e
  obtain⟨f',hf',_⟩:=h.fr hf
  exact absurd (zb6 hf').2 (Nat.lt_irrefl _)
 ·exact e
 ·obtain⟨f,hf⟩:=vG e
  cases e2:L.fr i (qq L i) with
  | none=>rw[h.none e2] at hf;cases hf
  | some g=>exact absurd (zb6 e2).2 (Nat.lt_irrefl _)
theorem jU.bel {L L':yF} (h:jU L L') (hb:∀(i:Nat) (p:wh),L.zd[i]?=some p->us L.ze.length p.base) (i k:Nat):qx L' i k=qx L i k:=jW h.tw hb (fun _=>h.ba i) fun q _=>h.fb i q
theorem vz (L:yF) (i:Nat):vQ L i=qx L i (qq L i):=rfl
theorem jU.top {L L':yF} (h:jU L L') (hb:∀(i:Nat) (p:wh),L.zd[i]?=some p->us L.ze.length p.base) (i:Nat):vQ L' i=vQ L i:=by
 rw[vz,vz,h.n i,h.bel hb]
def zx (L:yF) (i k:Nat):yF × Int:=match L.fr i k with
 | some f=>if f.twin=-1 then(Yu L i k f,(L.ze.length:Int)) else(L,f.twin)
 | none=>(L,-1)
theorem zcE {L:yF} {i k:Nat} {f:ki} (hf:L.fr i k=some f):jU L (Yu L i k f) where
 pl:=by unfold Yu yF.setFr;simp
 fb:=fun i' k'=>by
  show((L.setFr i k _).fr i' k').map _=_
  rw[yF.fr_setFr hf]
  split
  ·rename_i e
   rw[e.1,e.2,hf]
   rfl
  ·rfl
 ba:=fun i'=>yF.base_setFr i'
 bo:=rfl
 ord:=rfl
 now:=rfl
 ce:=rfl
 tw:=qo.snoc _ _
theorem vC {I K:Nat} {L:yF} {h:Hp} (s:jB I K L h) {i k:Nat} {f:ki} (hf:L.fr i k=some f) (hp:Pr I K i k) :
 jB I K (zx L i k).1 h/\jU L (zx L i k).1/\∃(j:Nat) (sx:Int),(zx L i k).2=(j:Int)/\(zx L i k).1.ze[j]?=some ⟨(i:Int),(k:Int),f.body,sx⟩/\(zx L i k).1.fr i k=some ⟨f.body,(j:Int)⟩:=by
 unfold zx
 rw[hf]
 by_cases h0:f.twin=-1
 ·simp only[h0,if_true]
  refine⟨s.give hf hp h0,zcE hf,L.ze.length,0,rfl,?_,?_⟩
  ·show(L.ze ++ [_])[L.ze.length]?=_
   simp
  ·show(L.setFr i k _).fr i k=_
   rw[yF.fr_setFr hf,if_pos ⟨rfl,rfl⟩]
 ·simp only[if_neg h0]
  refine⟨s,jU.refl _,?_⟩
  rcases(s.fb i k f hf hp).2 with e | ⟨j,sx,e1,e2⟩
  ·exact absurd e h0
  ·exact⟨j,sx,e1,e2,by rw[hf,<-e1]⟩
def qD (I:Nat):Nat->Nat->Int->yF->yF × Int
 | 0,_,below,L=>(L,below)
 | n+1,k,below,L=>qD I n (k+1) (zx L I k).2 (vi (zx L I k).1 (zx L I k).2.toNat (((L.fr I k).map fun f:ki=>f.body).getD 0) below)
def yw (L:yF) (i:Nat):Int:=((L.zd[i]?).map fun p:wh=>p.base).getD (-1)
def jG (L:yF) (I:Nat):yF × Int:=(Zo (qD I (qq L I) 0 (yw L I) L).1 I,(qD I (qq L I) 0 (yw L I) L).2)
theorem zeb (L:yF) (j:Nat) (b:Nat) (below:Int) (t:kN) (h:L.ze[j]?=some t) (e:t.body=b):jU L (vi L j b below) :=
 ⟨rfl,fun _ _=>rfl,fun _=>rfl,rfl,rfl,rfl,rfl,qo.set _ _ _ _ h e.symm⟩
theorem Ke {I:Nat} {h:Hp} (n k:Nat) (below:Int) (L:yF) (s:jB I k L h) {f:ki} (hf:L.fr I k=some f) (hb:us L.ze.length below) (he:qx L I k=YW L.ze below) :
 ∃(j:Nat) (sx:Int),(zx L I k).2=(j:Int)/\(zx L I k).1.ze[j]?=some ⟨(I:Int),(k:Int),f.body,sx⟩/\jU L (zx L I k).1/\jB I (k+1) (vi (zx L I k).1 j f.body below) h/\jU L (vi (zx L I k).1 j f.body below) /\
  us (vi (zx L I k).1 j f.body below).ze.length (j:Int)/\qx (vi (zx L I k).1 j f.body below) I (k+1)=YW (vi (zx L I k).1 j f.body below).ze (j:Int) /\
  qD I (n+1) k below L=qD I n (k+1) (j:Int) (vi (zx L I k).1 j f.body below):=by
 have hP:Pr I k I k:=fun e=>absurd e.2 (Nat.lt_irrefl _)
 obtain⟨s1,l1,j,sx,e1,e2,e3⟩:=vC s hf hP
 have hl:us (zx L I k).1.ze.length below:=hb.ext l1.tw.le
 have qa:qx (zx L I k).1 I k=YW (zx L I k).1.ze below:=by rw[l1.bel s.ba,he,wd l1.tw hb]
 have s2:=s1.off (f:=⟨f.body,(j:Int)⟩) e3 rfl hl qa
 have hfl:qD I (n+1) k below L=qD I n (k+1) (j:Int) (vi (zx L I k).1 j f.body below):=by
  show qD I n (k+1) (zx L I k).2 (vi (zx L I k).1 (zx L I k).2.toNat (((L.fr I k).map fun f:ki=>f.body).getD 0) below)=_
  rw[e1,hf]
  rfl
 have l2:jU (zx L I k).1 (vi (zx L I k).1 j f.body below):=zeb _ _ _ _ _ e2 rfl
 have hjl:j<(vi (zx L I k).1 j f.body below).ze.length:=by
  rw[show(vi (zx L I k).1 j f.body below).ze.length=(zx L I k).1.ze.length from List.length_set]
  exact(List.getElem?_eq_some_iff.1 e2).1
 have hbk:qx (vi (zx L I k).1 j f.body below) I (k+1)=YW (vi (zx L I k).1 j f.body below).ze (j:Int):=by
  have e4:(vi (zx L I k).1 j f.body below).ze[j]?=some ⟨-1,0,f.body,below⟩:=List.getElem?_set_self (List.getElem?_eq_some_iff.1 e2).1
  rw[zbM e4]
  show(((zx L I k).1.fr I k).map fun f:ki=>(f.body:Int)).getD (-1)=_
  rw[e3]
  rfl
 exact⟨j,sx,e1,e2,l1,s2,l1.trans l2,.inr ⟨j,rfl,hjl⟩,hbk,hfl⟩
theorem Kd {I:Nat} {h:Hp}:∀(n k:Nat) (below:Int) (L:yF),jB I k L h->k+n=qq L I->us L.ze.length below->qx L I k=YW L.ze below ->
 jB I (k+n) (qD I n k below L).1 h/\jU L (qD I n k below L).1/\us (qD I n k below L).1.ze.length (qD I n k below L).2/\qx (qD I n k below L).1 I (k+n)=YW (qD I n k below L).1.ze (qD I n k below L).2
 | 0,k,below,L,s,_,hb,he=>⟨s,jU.refl _,hb,he⟩
 | n+1,k,below,L,s,hn,hb,he=>by
  obtain⟨f,hf⟩:=vG (L:=L) (i:=I) (k:=k) (by omega)
  obtain⟨j,sx,_,_,_,s2,l3,hjl,hbk,hfl⟩:=Ke n k below L s hf hb he
  obtain⟨q1,q2,q3,q4⟩:=Kd n (k+1) (j:Int) _ s2 (by rw[l3.n I];omega) hjl hbk
  rw[hfl,show k+(n+1)=k+1+n by omega]
  exact⟨q1,l3.trans q2,q3,q4⟩
theorem zce {I K:Nat} {L:yF} {h:Hp} (s:jB 0 0 L h) (hK:K=0):jB I K L h:=by
 subst hK
 have hp:∀a b,Pr I 0 a b:=fun a b e=>absurd e.2 yB
 exact⟨fun a b c e _=>s.fb a b c e (yP _ _),fun a b e=>⟨(s.tb a b e).1,(s.tb a b e).2.imp id fun⟨x,y,z,e1,_,e3⟩=>⟨x,y,z,e1,hp _ _,e3⟩⟩,fun a b c a' b' c' e1 _ e2 _=>s.fi a b c a' b' c' e1 (yP _ _) e2 (yP _ _),s.ti,
  fun a b c d e e1 _=>s.tf a b c d e e1 (yP _ _),s.ba,s.se,fun a b c d e1 _=>s.al a b c d e1 (yP _ _),s.n,s.c,fun a b c d e1 _=>s.fs a b c d e1 (yP _ _),s.ts⟩
structure zeC (I:Nat) (L L':yF):Prop where
 pl:L'.zd.length=L.zd.length
 oth:∀i k,i≠I->(L'.fr i k).map (fun f:ki=>f.body)=(L.fr i k).map (fun f:ki=>f.body)
 ba:∀i:Nat,i≠I->(L'.zd[i]?).map (fun p:wh=>p.base)=(L.zd[i]?).map (fun p:wh=>p.base)
 gone:L'.zd[I]?=some ⟨-1,[]⟩
 bo:L'.zj=L.zj
 ord:L'.order=L.order
 now:L'.now=L.now
 ce:L'.cells=L.cells
 tw:qo L.ze L'.ze
theorem zcz {L:yF} {h:Hp} (s:jB 0 0 L h) {I:Nat} (hI:I<L.zd.length) :
 jB 0 0 (jG L I).1 h/\zeC I L (jG L I).1/\us (jG L I).1.ze.length (jG L I).2/\YW (jG L I).1.ze (jG L I).2=vQ L I:=by
 have Uy:us L.ze.length (yw L I):=by
  unfold yw
  rw[List.getElem?_eq_getElem hI]
  exact s.ba I _ (List.getElem?_eq_getElem hI)
 obtain⟨q1,q2,q3,q4⟩:=Kd (qq L I) 0 (yw L I) L (zce (I:=I) s rfl) (by omega) Uy rfl
 rw[Nat.zero_add] at q1 q4
 have hI':I<(qD I (qq L I) 0 (yw L I) L).1.zd.length:=by rw[q2.pl];exact hI
 have hn:=q2.n I
 rw[kF hI'] at hn
 refine⟨q1.clear hI' (by omega),⟨?_,fun i k e=>?_,fun i e=>?_,?_,q2.bo,q2.ord,q2.now,q2.ce,q2.tw⟩,q3,?_⟩
 ·show(List.set _ _ _).length=_
  rw[List.length_set,q2.pl]
 ·have:=vH (L:=(qD I (qq L I) 0 (yw L I) L).1) (p:=⟨-1,[]⟩) hI' i k
  rw[if_neg e] at this
  show(yF.fr {(qD I (qq L I) 0 (yw L I) L).1 with zd:=_} i k).map _=_
  rw[this]
  exact q2.fb i k
 ·show(((qD I (qq L I) 0 (yw L I) L).1.zd.set I _)[i]?).map _=_
  rw[List.getElem?_set_ne (fun x=>e x.symm)]
  exact q2.ba i
 ·show((qD I (qq L I) 0 (yw L I) L).1.zd.set I _)[I]?=_
  rw[List.getElem?_set_self hI']
 ·show YW (qD I (qq L I) 0 (yw L I) L).1.ze _=_
  exact q4.symm.trans (q2.bel s.ba _ _)
def ZJ (L:yF) (h:Hp):Prop:=(L.now=-1/\h.now=-1)\/∃i:Nat,L.now=(i:Int)/\i<L.zd.length/\0<qq L i/\h.now=vQ L i
def qU (L:yF):Prop:=L.order.Perm ((List.range L.zd.length).map fun i:Nat=>(i:Int))
theorem qU.mem {L:yF} (h:qU L) {x:Int}:x∈L.order ↔ ∃i:Nat,x=(i:Int)/\i<L.zd.length:=by
 rw[List.Perm.mem_iff h,List.mem_map]
 constructor
 ·rintro⟨i,hi,rfl⟩;exact⟨i,rfl,List.mem_range.1 hi⟩
 ·rintro⟨i,rfl,hi⟩;exact⟨i,List.mem_range.2 hi,rfl⟩
theorem qU.len {L:yF} (h:qU L):L.order.length=L.zd.length:=by rw[List.Perm.length_eq h];simp
def uh (L:yF) (i:Nat):yF:={L with order:=QI L.order (L.order.idxOf (i:Int)) (i:Int),now:=(i:Int)}
theorem jB.runOn {I K:Nat} {L:yF} {h:Hp} (s:jB I K L h) (i:Nat):jB I K (uh L i) h:=⟨s.fb,s.tb,s.fi,s.ti,s.tf,s.ba,s.se,s.al,s.n,s.c,s.fs,s.ts⟩
theorem zay {xs:List Int} {i:Int} (h:i∈xs):(QI xs (xs.idxOf i) i).Perm xs:=by
 have hk:xs.idxOf i<xs.length:=List.idxOf_lt_length_iff.2 h
 have he:xs[xs.idxOf i]=i:=List.getElem_idxOf hk
 unfold QI
 have h1:xs=xs.take (xs.idxOf i) ++ i :: xs.drop (xs.idxOf i+1):=by
  conv=>lhs;rw[<-List.take_append_drop (xs.idxOf i) xs,List.drop_eq_getElem_cons hk,he]
 refine List.Perm.trans ?_ (List.Perm.of_eq h1.symm)
 rw[List.append_assoc]
 exact List.Perm.append_left _ (List.perm_append_comm.trans (List.Perm.of_eq rfl))
theorem qU.runOn {L:yF} (h:qU L) {i:Nat} (hi:i<L.zd.length):qU (uh L i):=(zay (h.mem.2 ⟨i,rfl,hi⟩)).trans h
def xC (L:yF):yF × Nat:=match L.order.find? (fun x=>decide (qq L x.toNat=0)) with
 | some x=>(L,x.toNat)
 | none=>((jG L (L.order.getD 0 0).toNat).1,(L.order.getD 0 0).toNat)
structure Kept (L L':yF):Prop where
 pl:L'.zd.length=L.zd.length
 bo:L'.zj=L.zj
 ce:L'.cells=L.cells
 tw:qo L.ze L'.ze
theorem Kept.trans {a b c:yF} (h:Kept a b) (k:Kept b c):Kept a c:=⟨k.pl.trans h.pl,k.bo.trans h.bo,k.ce.trans h.ce,h.tw.trans k.tw⟩
theorem jU.kept {L L':yF} (h:jU L L'):Kept L L':=⟨h.pl,h.bo,h.ce,h.tw⟩
theorem Wx {L:yF} {h:Hp} (s:jB 0 0 L h) (ho:qU L) (hp:1<=L.zd.length) :
 jB 0 0 (xC L).1 h/\Kept L (xC L).1/\(xC L).1.order=L.order/\∃hi:(xC L).2<(xC L).1.zd.length,(xC L).1.zd[(xC L).2].zh=[]:=by
 unfold xC
 cases hf:L.order.find? (fun x=>decide (qq L x.toNat=0)) with
 | some x =>
  obtain⟨i,rfl,hi⟩:=ho.mem.1 (List.mem_of_find?_eq_some hf)
  have h0:=List.find?_some hf
  simp only[Int.toNat_natCast,decide_eq_true_eq] at h0
  refine⟨s,⟨rfl,rfl,rfl,qo.refl _⟩,rfl,by simpa using hi,?_⟩
  show L.zd[i].zh=[]
  rw[kF hi] at h0
  exact List.eq_nil_of_length_eq_zero h0
 | none =>
  have h0:0<L.order.length:=by rw[ho.len];omega
  have hx:L.order.getD 0 0∈L.order:=by
   rw[List.getD_eq_getElem?_getD,List.getElem?_eq_getElem h0,Option.getD_some]
   exact List.getElem_mem h0
  obtain⟨i,hi',hi⟩:=ho.mem.1 hx
  simp only[hi',Int.toNat_natCast]
  obtain⟨q1,q2,_,_⟩:=zcz s hi
  have K3:i<(jG L i).1.zd.length:=by rw[q2.pl];exact hi
  refine⟨q1,⟨q2.pl,q2.bo,q2.ce,q2.tw⟩,q2.ord,K3,?_⟩
  have:=q2.gone
  rw[List.getElem?_eq_getElem K3] at this
  injection this with this
  rw[this]
def jP (L:yF):yF:=uh (yM (xC (zx L L.now.toNat (qq L L.now.toNat - 1)).1).1 (xC (zx L L.now.toNat (qq L L.now.toNat - 1)).1).2 (zx L L.now.toNat (qq L L.now.toNat - 1)).2) (xC (zx L L.now.toNat (qq L L.now.toNat - 1)).1).2
theorem vE {L:yF} (i:Nat) (x:Int):Kept L (yM L i x):=⟨by unfold yM;simp,rfl,rfl,qo.refl _⟩
theorem zbE {L:yF} (i:Nat):Kept L (uh L i):=⟨rfl,rfl,rfl,qo.refl _⟩
theorem zex {L:yF} {i:Nat} (hi:i<L.zd.length) (x:Int):qq (yM L i x) i=0/\vQ (yM L i x) i=YW L.ze x:=by
 have hl:i<(yM L i x).zd.length:=by unfold yM;simp;exact hi
 have e:(yM L i x).zd[i]?=some ⟨x,[]⟩:=List.getElem?_set_self hi
 have h0:qq (yM L i x) i=0:=by
  unfold qq
  rw[List.getD_eq_getElem?_getD,e]
  rfl
 refine⟨h0,?_⟩
 rw[vz,h0]
 show YW L.ze ((((yM L i x).zd[i]?).map fun p:wh=>p.base).getD (-1))=_
 rw[e]
 rfl
theorem KB {L:yF} {h:Hp} (s:jB 0 0 L h) (ho:qU L) {i:Nat} (hn:L.now=(i:Int)) (hi:i<L.zd.length) (hf:0<qq L i) :
 jB 0 0 (jP L) h/\Kept L (jP L)/\qU (jP L)/\∃p:Nat,(jP L).now=(p:Int)/\p<(jP L).zd.length/\qq (jP L) p=0/\vQ (jP L) p=vQ L i:=by
 unfold jP
 rw[hn,Int.toNat_natCast]
 obtain⟨f,hfr⟩:=vG (L:=L) (i:=i) (k:=qq L i - 1) (by omega)
 obtain⟨s1,l1,j,sx,e1,e2,e3⟩:=vC s hfr (yP _ _)
 have o1:qU (zx L i (qq L i - 1)).1:=by unfold qU;rw[l1.ord,l1.pl];exact ho
 obtain⟨s2,k2,q2,hp,he⟩:=Wx s1 o1 (by rw[l1.pl];omega)
 have o2:qU (xC (zx L i (qq L i - 1)).1).1:=by unfold qU;rw[q2,k2.pl];exact o1
 generalize hR:xC (zx L i (qq L i - 1)).1=R at *
 generalize hT:zx L i (qq L i - 1)=T at *
 rw[e1]
 have hjl:us R.1.ze.length (j:Int):=.inr ⟨j,rfl,by have:=(List.getElem?_eq_some_iff.1 e2).1;have:=k2.tw.le;omega⟩
 have s3:=s2.base hp he hjl
 have hpl:R.2<(yM R.1 R.2 (j:Int)).zd.length:=by rw[(vE _ _).pl];exact hp
 have o3:qU (yM R.1 R.2 (j:Int)):=by unfold qU;rw[(vE _ _).pl];exact o2
 obtain⟨t0,t1⟩:=zex hp (j:Int)
 refine⟨s3.runOn _,((l1.kept.trans k2).trans (vE _ _)).trans (zbE _),o3.runOn hpl,R.2,rfl,hpl,t0,?_⟩
 refine Eq.trans (show vQ (uh (yM R.1 R.2 (j:Int)) R.2) R.2=vQ (yM R.1 R.2 (j:Int)) R.2 from rfl) (t1.trans ?_)
 obtain⟨t',a1,a2⟩:=k2.tw.eq j _ e2
 rw[zbM a1,a2,vz]
 show(f.body:Int)=qx L i (qq L i)
 obtain⟨m,hm⟩:∃m,qq L i=m+1:=⟨qq L i - 1,by omega⟩
 rw[hm] at hfr ⊢
 rw[Nat.add_sub_cancel] at hfr
 show _=((L.fr i m).map fun f:ki=>(f.body:Int)).getD (-1)
 rw[hfr]
 rfl
def xB (n:Nat):Int:=4+(n:Int)+6
def vL (L:yF) (i:Nat):Int:=L.cells - ((L.zd.getD i ⟨-1,[]⟩).zh.map fun f:ki=>xB (L.zj.getD f.body jg.none).zg.length).sum
def Zp (L:yF) (b:jg):yF:=uL (if vL L L.now.toNat<xB b.zg.length then jP L else L) (if vL L L.now.toNat<xB b.zg.length then jP L else L).now.toNat b
theorem zeR {L:yF} {i:Nat} (hi:i<L.zd.length) (b:jg):(uL L i b).zd.length=L.zd.length/\0<qq (uL L i b) i/\vQ (uL L i b) i=(L.zj.length:Int):=by
 have hg:L.zd.getD i ⟨-1,[]⟩=L.zd[i]:=by simp[hi]
 have e:(uL L i b).zd[i]?=some ⟨L.zd[i].base,L.zd[i].zh ++ [⟨L.zj.length,-1⟩]⟩:=by
  show(L.zd.set i _)[i]?=_
  rw[List.getElem?_set_self hi,hg]
 have hn:qq (uL L i b) i=L.zd[i].zh.length+1:=by
  unfold qq
  rw[List.getD_eq_getElem?_getD,e]
  simp
 refine⟨by unfold uL;simp,by omega,?_⟩
 rw[vz,hn]
 show(((uL L i b).fr i L.zd[i].zh.length).map fun f:ki=>(f.body:Int)).getD (-1)=_
 unfold yF.fr
 rw[e]
 simp
theorem zcw {L:yF} {h:Hp} (s:jB 0 0 L h) (ho:qU L) (hw:ZJ L h) (h0:0<=h.now) {b:jg} {c:Cl} (ha:Ym L.ze b c) (hd:b.zv=false) (hs:c.zi=h.now) (born code:Int) (zm:yH) :
 jB 0 0 (Zp L b) ⟨h.za ++ [c],(h.za.length:Int),born,zm,code⟩/\qU (Zp L b)/\ZJ (Zp L b) ⟨h.za ++ [c],(h.za.length:Int),born,zm,code⟩/\qo L.ze (Zp L b).ze/\(Zp L b).zj=L.zj ++ [b]/\(Zp L b).cells=L.cells/\(Zp L b).zd.length=L.zd.length:=by
 rcases hw with⟨_,e⟩ | ⟨i,hn,hi,hf,ht⟩
 ·omega
 have key:∀(L1:yF),jB 0 0 L1 h->Kept L L1->qU L1->(∃p:Nat,L1.now=(p:Int)/\p<L1.zd.length/\vQ L1 p=h.now) ->
  jB 0 0 (uL L1 L1.now.toNat b) ⟨h.za ++ [c],(h.za.length:Int),born,zm,code⟩/\qU (uL L1 L1.now.toNat b)/\ZJ (uL L1 L1.now.toNat b) ⟨h.za ++ [c],(h.za.length:Int),born,zm,code⟩/\qo L.ze (uL L1 L1.now.toNat b).ze/\(uL L1 L1.now.toNat b).zj=L.zj ++ [b]/\(uL L1 L1.now.toNat b).cells=L.cells/\(uL L1 L1.now.toNat b).zd.length=L.zd.length:=by
  rintro L1 s1 k1 o1 ⟨p,e1,hp,e2⟩
  rw[e1,Int.toNat_natCast]
  obtain⟨n1,n2,n3⟩:=zeR hp b
  refine⟨s1.new hp (ha.ext k1.tw) hd (by rw[hs,e2]) _ _ _ _,?_,.inr ⟨p,e1,by rw[n1];exact hp,n2,?_⟩,k1.tw,by show L1.zj ++ [b]=_;rw[k1.bo],k1.ce,n1.trans k1.pl⟩
  ·show L1.order.Perm _
   rw[n1]
   exact o1
  ·show(h.za.length:Int)=_
   rw[n3,s1.n]
 unfold Zp
 split
 ·obtain⟨s1,k1,o1,p,e1,hp,_,e2⟩:=KB s ho hn hi hf
  exact key _ s1 k1 o1 ⟨p,e1,hp,by rw[e2,<-ht]⟩
 ·exact key _ s ⟨rfl,rfl,rfl,qo.refl _⟩ ho ⟨i,hn,hi,ht.symm⟩
def qR (L:yF) (i:Nat):yF :=
 if yw L i=-1 then {yM L i (-1) with now:=-1}
 else match (yM L i (-1)).ze[(yw L i).toNat]? with
  | some t=>if t.page=-1 then uh (JG (yM L i (-1)) i (yw L i).toNat t) i else uh (yM L i (-1)) t.page.toNat
  | none=>L
def qf (L:yF):yF:=match (L.zd.getD L.now.toNat ⟨-1,[]⟩).zh.getLast? with
 | some f=>if qq (qX L L.now.toNat f (L.zj.getD f.body jg.none)) L.now.toNat=0 then qR (qX L L.now.toNat f (L.zj.getD f.body jg.none)) L.now.toNat else qX L L.now.toNat f (L.zj.getD f.body jg.none)
 | none=>L
theorem V4 {L:yF} {h:Hp} (s:jB 0 0 L h) {i:Nat} (hi:i<L.zd.length) {f:ki} (qF:L.zd[i].zh.getLast?=some f) (b:jg) :
 (qX L i f b).zd.length=L.zd.length/\qq (qX L i f b) i+1=qq L i/\yw (qX L i f b) i=yw L i/\qo L.ze (qX L i f b).ze/\qx (qX L i f b) i (qq (qX L i f b) i)=qx L i (qq L i - 1)/\L.fr i (qq L i - 1)=some f/\vQ L i=(f.body:Int):=by
 have hg:L.zd.getD i ⟨-1,[]⟩=L.zd[i]:=by simp[hi]
 have hn:=kF hi
 have hpos:0<L.zd[i].zh.length:=by
  cases e:L.zd[i].zh with
  | nil=>rw[e] at qF;cases qF
  | cons x l=>simp
 have e1:(qX L i f b).zd[i]?=some ⟨L.zd[i].base,L.zd[i].zh.dropLast⟩:=by
  show(L.zd.set i _)[i]?=_
  rw[List.getElem?_set_self hi,hg]
 have hnf:qq (qX L i f b) i=L.zd[i].zh.length - 1:=by
  unfold qq
  rw[List.getD_eq_getElem?_getD,e1]
  simp
 have hlast:L.fr i (qq L i - 1)=some f:=by
  unfold yF.fr
  rw[List.getElem?_eq_getElem hi,hn]
  show L.zd[i].zh[_]?=some f
  rw[<-List.getLast?_eq_getElem?]
  exact qF
 have hE:qo L.ze (qX L i f b).ze:=by
  show qo L.ze (if f.twin=-1 then L.ze else L.ze.set f.twin.toNat ⟨-1,0,f.body,-1⟩)
  rcases(s.fb i _ f hlast (yP _ _)).2 with e | ⟨j,sx,q1,q2⟩
  ·rw[if_pos e];exact qo.refl _
  ·rw[if_neg (by omega),q1,Int.toNat_natCast]
   exact qo.set _ _ _ _ q2 rfl
 have hbs:yw (qX L i f b) i=yw L i:=by
  unfold yw
  rw[e1,List.getElem?_eq_getElem hi]
  rfl
 refine⟨by unfold qX;simp,by omega,hbs,hE,?_,hlast,?_⟩
 ·rw[show qq L i - 1=qq (qX L i f b) i by omega]
  refine jW (L:=L) (L':=qX L i f b) hE s.ba (fun _=>?_) fun q e=>?_
  ·rw[e1,List.getElem?_eq_getElem hi]
   rfl
  ·unfold yF.fr
   rw[e1,List.getElem?_eq_getElem hi]
   show(L.zd[i].zh.dropLast[q]?).map _=(L.zd[i].zh[q]?).map _
   rw[List.dropLast_eq_take,List.getElem?_take_of_lt (by omega)]
 ·obtain⟨m,hm⟩:∃m,qq L i=m+1:=⟨qq L i - 1,by omega⟩
  rw[vz,hm]
  rw[hm,Nat.add_sub_cancel] at hlast
  show((L.fr i m).map fun f:ki=>(f.body:Int)).getD (-1)=_
  rw[hlast]
  rfl
theorem XF {L:yF} {h:Hp} (s:jB 0 0 L h) (ho:qU L) {i:Nat} (hn:L.now=(i:Int)) (hi:i<L.zd.length) (hf:0<qq L i) (ht:h.now=vQ L i) (hW:0<=(ye h).now->∃l,qG (ye h).za (ye h).now l) :
 jB 0 0 (qf L) (ye h)/\qU (qf L)/\ZJ (qf L) (ye h)/\qo L.ze (qf L).ze/\(qf L).zd.length=L.zd.length/\(qf L).zj.length=L.zj.length/\(qf L).cells=L.cells:=by
 have hg:L.zd.getD i ⟨-1,[]⟩=L.zd[i]:=by simp[hi]
 obtain⟨f,hlf⟩:∃f,L.zd[i].zh.getLast?=some f:=by
  cases e:L.zd[i].zh with
  | nil=>rw[kF hi,e] at hf;cases hf
  | cons x l=>exact⟨_,List.getLast?_eq_some_getLast (by simp)⟩
 obtain⟨p1,p2,p3,p4,p5,p6,p7⟩:=V4 s hi hlf (L.zj.getD f.body jg.none)
 have hbl:=(s.fb i _ f p6 (yP _ _)).1
 have hb:L.zj[f.body]?=some (L.zj.getD f.body jg.none):=by simp[hbl]
 obtain⟨c,hc,hac⟩:=s.c f.body _ hb
 have uZ:h.now.toNat=f.body:=by rw[ht,p7];simp
 have Zz:yJ h=c:=by unfold yJ;rw[uZ,List.getD_eq_getElem?_getD,hc];rfl
 have hLH:ye h=⟨h.za.set f.body (um c),c.zi,h.born,h.zm,h.code⟩:=by
  unfold ye setH
  rw[Zz,uZ]
 have s1:=s.pop hi hlf hb hc c.zi h.born h.code h.zm
 rw[<-hLH] at s1
 have hsd:c.zi=qx L i (qq L i - 1):=s.fs i _ f c p6 (yP _ _) hc
 have hL:qf L=if qq (qX L i f (L.zj.getD f.body jg.none)) i=0 then qR (qX L i f (L.zj.getD f.body jg.none)) i else qX L i f (L.zj.getD f.body jg.none):=by
  unfold qf
  rw[hn,Int.toNat_natCast,hg,hlf]
 generalize hP:qX L i f (L.zj.getD f.body jg.none)=P at *
 have Xw:P.zj.length=L.zj.length:=by rw[<-hP];exact List.length_set
 have hce:P.cells=L.cells:=by rw[<-hP];rfl
 have hPn:P.now=(i:Int):=by rw[<-hP];exact hn
 have hPo:P.order=L.order:=by rw[<-hP];rfl
 have oP:qU P:=by unfold qU;rw[hPo,p1];exact ho
 have hn':(ye h).now=c.zi:=by rw[hLH]
 rw[hL]
 by_cases e0:qq P i=0
 ·rw[if_pos e0]
  have K3:i<P.zd.length:=by rw[p1];exact hi
  have hemp:P.zd[i].zh=[]:=by rw[kF K3] at e0;exact List.eq_nil_of_length_eq_zero e0
  have hsd2:c.zi=YW P.ze (yw P i):=by
   rw[hsd,<-p5,e0]
   rfl
  have s2:=s1.base K3 hemp (x:=-1) (.inl rfl)
  have k2:=vE (L:=P) i (-1)
  have o2:qU (yM P i (-1)):=by unfold qU;rw[k2.pl];exact oP
  unfold qR
  by_cases qa:yw P i=-1
  ·rw[if_pos qa]
   refine⟨⟨s2.fb,s2.tb,s2.fi,s2.ti,s2.tf,s2.ba,s2.se,s2.al,s2.n,s2.c,s2.fs,s2.ts⟩,o2,.inl ⟨rfl,?_⟩,p4,k2.pl.trans p1,Xw,hce⟩
   rw[hn',hsd2,qa]
   rfl
  ·rw[if_neg qa]
   obtain⟨j,hj,hjl⟩:∃j:Nat,yw P i=(j:Int)/\j<P.ze.length:=by
    have:=s1.ba i _ (List.getElem?_eq_getElem K3)
    have hbs:yw P i=P.zd[i].base:=by unfold yw;rw[List.getElem?_eq_getElem K3];rfl
    rw[<-hbs] at this
    exact this.resolve_left qa
   have YY:(yM P i (-1)).ze[j]?=some P.ze[j]:=List.getElem?_eq_getElem hjl
   rw[hj,Int.toNat_natCast,YY]
   have htw':P.ze[j]?=some P.ze[j]:=List.getElem?_eq_getElem hjl
   have hsd3:c.zi=(P.ze[j].body:Int):=by rw[hsd2,hj,zbM htw']
   obtain⟨l,hWl⟩:=hW (by rw[hn',hsd3];omega)
   rw[hn',hsd3] at hWl
   obtain⟨hal,tl,_,zbZ,_⟩:=hWl.head
   have hbd:∀b,(yM P i (-1)).zj[P.ze[j].body]?=some b->b.zv=false:=fun b hb'=>by
    obtain⟨c',e1,e2⟩:=s2.c _ b hb'
    rw[List.getElem?_eq_getElem hal] at e1
    injection e1 with e1
    rw[<-e2.zv,<-e1]
    exact zbZ
   show jB 0 0 (if P.ze[j].page=-1 then _ else _) _/\qU (if P.ze[j].page=-1 then _ else _)/\ZJ (if P.ze[j].page=-1 then _ else _) _/\qo L.ze (yF.ze (if P.ze[j].page=-1 then _ else _))/\(yF.zd (if P.ze[j].page=-1 then _ else _)).length=_/\(yF.zj (if P.ze[j].page=-1 then _ else _)).length=_/\yF.cells (if P.ze[j].page=-1 then _ else _)=_
   by_cases xE:P.ze[j].page=-1
   ·simp only[if_pos xE]
    have hi3:i<(yM P i (-1)).zd.length:=by rw[k2.pl];exact K3
    have he3:(yM P i (-1)).zd[i].zh=[]:=by
     have:=(List.getElem?_set_self (l:=P.zd) (a:=(⟨-1,[]⟩:wh)) K3)
     have e:(yM P i (-1)).zd[i]?=some ⟨-1,[]⟩:=this
     rw[List.getElem?_eq_getElem hi3] at e
     injection e with e
     rw[e]
    have s3:=s2.on hi3 he3 YY xE hbd
    have hpl:(JG (yM P i (-1)) i j P.ze[j]).zd.length=P.zd.length:=by unfold JG;simp[k2.pl]
    have o3:qU (JG (yM P i (-1)) i j P.ze[j]):=by unfold qU;rw[hpl];exact oP
    have e3:(JG (yM P i (-1)) i j P.ze[j]).zd[i]?=some ⟨P.ze[j].zi,[⟨P.ze[j].body,(j:Int)⟩]⟩:=List.getElem?_set_self hi3
    have n3:qq (JG (yM P i (-1)) i j P.ze[j]) i=1:=by
     unfold qq
     rw[List.getD_eq_getElem?_getD,e3]
     rfl
    refine⟨s3.runOn _,o3.runOn (by rw[hpl];exact K3),.inr ⟨i,rfl,by show i<(JG _ _ _ _).zd.length;rw[hpl];exact K3,by show 0<qq (JG _ _ _ _) i;rw[n3];exact Nat.one_pos,?_⟩,p4.trans (qo.set _ _ _ _ YY rfl),by show(JG _ _ _ _).zd.length=_;rw[hpl,p1],Xw,hce⟩
    rw[hn',hsd3]
    show _=vQ (JG (yM P i (-1)) i j P.ze[j]) i
    rw[vz,n3]
    show _=(((JG (yM P i (-1)) i j P.ze[j]).fr i 0).map fun f:ki=>(f.body:Int)).getD (-1)
    unfold yF.fr
    rw[e3]
    rfl
   ·simp only[if_neg xE]
    rcases(s2.tb j _ YY).2 with e | ⟨q,at',g,g1,_,g3,g4,g5,g6⟩
    ·exact absurd e xE
    ·rw[g5,Int.toNat_natCast]
     obtain⟨l1,l2⟩:=zb6 g1
     have hat:qq (yM P i (-1)) q=at'+1:=by
      rcases Nat.lt_or_ge (at'+1) (qq (yM P i (-1)) q) with yz | hge
      ·obtain⟨g',hg'⟩:=vG yz
       have hgb:=(s2.fb q _ g' hg' (yP _ _)).1
       obtain⟨c',hc',hac'⟩:=s2.c g'.body _ (List.getElem?_eq_getElem hgb)
       obtain⟨hk,rfl⟩:=List.getElem?_eq_some_iff.1 hc'
       have hs':=s2.fs q _ g' _ hg' (yP _ _) hc'
       have hd':(ye h).za[g'.body].zv=false:=by rw[hac'.zv];exact s2.al q _ g' _ hg' (yP _ _) (List.getElem?_eq_getElem hgb)
       refine absurd ?_ (hWl.noCaller hk hd' (by omega))
       rw[hs']
       show(((yM P i (-1)).fr q at').map fun f:ki=>(f.body:Int)).getD (-1)=_
       rw[g1,<-g4]
       rfl
      ·omega
     refine⟨s2.runOn _,o2.runOn l1,.inr ⟨q,rfl,l1,by show 0<qq (yM P i (-1)) q;omega,?_⟩,p4,k2.pl.trans p1,Xw,hce⟩
     rw[hn',hsd3]
     show _=vQ (yM P i (-1)) q
     rw[vz,hat]
     show _=(((yM P i (-1)).fr q at').map fun f:ki=>(f.body:Int)).getD (-1)
     rw[g1,<-g4]
     rfl
 ·rw[if_neg e0]
  refine⟨s1,oP,.inr ⟨i,hPn,by rw[p1];exact hi,by omega,?_⟩,p4,p1,Xw,hce⟩
  rw[hn',hsd,vz,p5]
def ku:Nat->yF->Nat->yF
 | 0,L,_=>L
 | n+1,L,b=>if vQ L L.now.toNat=(b:Int) then L else ku n (qf L) b
theorem Wf:∀(n:Nat) (L:yF) (h:Hp) (b:Nat) (l:List Nat),jB 0 0 L h->qU L->ZJ L h->qG h.za h.now l->b∈l->l.length<=n ->
 jB 0 0 (ku n L b) (yC n h b)/\qU (ku n L b)/\ZJ (ku n L b) (yC n h b)/\qo L.ze (ku n L b).ze/\(ku n L b).zd.length=L.zd.length/\(ku n L b).zj.length=L.zj.length/\(ku n L b).cells=L.cells
 | 0,L,h,b,l,_,_,_,_,hb,hl=>by
  cases l with
  | nil=>cases hb
  | cons x l=>simp at hl
 | n+1,L,h,b,l,s,ho,hw,hW,hb,hl=>by
  rcases hw with⟨_,e⟩ | ⟨i,hn,hi,hf,ht⟩
  ·obtain⟨f,hf⟩:=hW.ch
   rw[e,qn (by omega)] at hf
   cases hf
   cases hb
  ·have hLb:ku (n+1) L b=if vQ L i=(b:Int) then L else ku n (qf L) b:=by
    show(if vQ L L.now.toNat=(b:Int) then L else ku n (qf L) b)=_
    rw[hn,Int.toNat_natCast]
   have hHb:yC (n+1) h b=if h.now=(b:Int) then h else yC n (ye h) b:=rfl
   rw[hLb,hHb,<-ht]
   by_cases e:h.now=(b:Int)
   ·rw[if_pos e,if_pos e]
    exact⟨s,ho,.inr ⟨i,hn,hi,hf,ht⟩,qo.refl _,rfl,rfl,rfl⟩
   ·rw[if_neg e,if_neg e]
    obtain⟨j,hj⟩:∃j:Nat,h.now=(j:Int):=by
     have hp:0<=h.now:=by
      by_cases h0:h.now<0
      ·obtain⟨f,hf⟩:=hW.ch
       rw[qn h0] at hf
       cases hf
       cases hb
      ·omega
     exact⟨h.now.toNat,by omega⟩
    rw[hj] at hW
    obtain⟨hjl,_,_,_,_⟩:=hW.head
    obtain⟨t,rfl,hWt,_⟩:=hW.leave hjl (um h.za[j]) rfl
    have hLH:ye h=⟨h.za.set j (um h.za[j]),h.za[j].zi,h.born,h.zm,h.code⟩:=by
     unfold ye setH yJ
     rw[hj,Int.toNat_natCast]
     simp[hjl]
    have hbt:b∈t:=by
     rcases List.mem_cons.1 hb with rfl | hbt
     ·exact absurd hj e
     ·exact hbt
    have hW2:qG (ye h).za (ye h).now t:=by rw[hLH];exact hWt
    obtain⟨s1,o1,w1,x1,y1,z1,c1⟩:=XF s ho hn hi hf ht fun _=>⟨t,hW2⟩
    obtain⟨s2,o2,w2,x2,y2,z2,c2⟩:=Wf n _ _ b t s1 o1 w1 hW2 hbt (by simp at hl;omega)
    exact⟨s2,o2,w2,x1.trans x2,y2.trans y1,z2.trans z1,c2.trans c1⟩
end Go.Proofs.YtbjgjjkgfnfejaaGreatDoor

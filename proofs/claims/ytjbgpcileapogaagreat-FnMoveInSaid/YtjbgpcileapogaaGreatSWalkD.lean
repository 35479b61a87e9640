/-
  The model's heap at work, walked: do, operation by operation.
-/
import Derived.Test.YtjbgpcileapogaaGreatSWalkL18
import Derived.Test.YtjbgpcileapogaaGreatPiece
namespace Go.Proofs.YtjbgpcileapogaaGreat
open Go.RowKit
set_option maxRecDepth 100000 in
set_option maxHeartbeats 8000000 in
theorem zcV {A:Nat->Prop} {B:Nat} {w:World} {bo:Nat} {vp vs:Value} {g off zp:Nat} {ms:zM} {h:Hp} {V:Nat->Value × Value} (k:SM A B w bo vp (.slice (some ⟨g,off,none⟩) h.za.length zp) vs ms h V) (hB:B<=w.heap.size) {j:Nat} (a:Int) (va:Value) (args:zL) (ha:zR w va args) (d:jb ms h j 11 a args) :
 Calls Tryz.prog 180 #[.pointer (some ⟨bo,0,none⟩),.agg #[.int .i64 11,.int .i64 a],va] w fun e w'=>e=.returned (.tuple #[])/\(∃vm vs' V',SM A B w' bo vp vm vs' ms (uv ms h 11 a args) V')/\Cm A B w w':=by
 have hn:=d.now
 have hj:=d.lt
 have hst:=(d.g.cl j hj).s
 obtain⟨aa,ca,hva⟩:=ha.shape
 subst hva
 have hA:Below w.heap.size w (w.alloc (.cells #[.int .i64 11,.int .i64 a] 33)):=zB _ _
 have rx:=yS w 33 (.int .i64 11) (.int .i64 a)
 have k1:=k.made hA (by simp)
 have vK:=k.cm hA hB
 have hM:=fun W=>qq 11 a (.slice aa args.length ca) W (by decide) (by decide) (by decide)
 go_enter Tryz.func180,Tryz.ntmps180
 go_upto_region 1 with fail
 generalize w.alloc (.cells #[.int .i64 11,.int .i64 a] 33)=W1 at *
 have z1:=hA.size
 obtain⟨⟨t0,t1⟩,_⟩:=zy rx
 go_upto_region 5 with(first
  | (go_at_call 177;refine(qi k1 hn hj).mono ?_;rintro e w' ⟨rfl,hw⟩;obtain rfl:=hw)
  | (go_at_call 190;refine(hM _).mono ?_;rintro e w3 ⟨rfl,hb3⟩))
 have N4:=zB w3 (.cells #[.int .i64 0,.int .i64 0] 98)
 have b14:Below W1.heap.size W1 (w3.alloc (.cells #[.int .i64 0,.int .i64 0] 98)):=((Below.refl W1.heap.size W1).drew.trans hb3).trans (N4.mono hb3.size)
 have k4:=k1.below b14
 have r1:=zz b14 rx
 have uU:Below w.heap.size w (w3.alloc (.cells #[.int .i64 0,.int .i64 0] 98)):=hA.trans (b14.mono z1)
 have XF:=ha.below uU
 have vu:Cm A B w (w3.alloc (.cells #[.int .i64 0,.int .i64 0] 98)):=vK.trans ((k1.cm b14 (by omega)).less (fun q hq=>.inl hq))
 have hB4:B<=(w3.alloc (.cells #[.int .i64 0,.int .i64 0] 98)).heap.size:=by have:=vu.b.size;omega
 clear k1 k vK N4 b14 hb3 hM t0 t1 rx ha uU
 generalize w3.alloc (.cells #[.int .i64 0,.int .i64 0] 98)=W4 at *
 generalize w3.heap.size=bv at *
 obtain⟨⟨t0,t1⟩,_⟩:=zy r1
 have Zo:=(k4.own.c.lt (g:=g) (.inl rfl)).2
 have Yl:bo<W4.heap.size:=k4.box.lt
 have YW:w.heap.size<W4.heap.size:=r1.lt
 have HR:Hid (uv ms h 11 a args={h with za:=h.za.set j {h.za[j] with ze:=h.za[j].ze ++ [(2,(j:Int))]}}):=by
  show _=_
  show xN h (2,h.now)=_
  rw[vi hn hj,hn]
 obtain⟨sa,sc,ZT,_⟩:=(k4.own.c.lists j hj).2.slice
 obtain⟨⟨e0,e1,e2,e3,e4,e5⟩,_⟩:=k4.own.c.cells hj
 rw[ZT] at e3
 have HPT:=kg k4 hB4 hj ZT
 obtain⟨⟨_,_,y2,_,_,_⟩,_⟩:=zZ k4.box
 rw[hn] at y2
 obtain⟨zx,hend⟩:=HPT ((W4.alloc (.cells #[.int .i64 2,.int .i64 (j:Int)] 98)).drew) ((zB _ _).drew) (2,(j:Int))
 have HE:Hid _:=hend
 clear hend HPT
 go_wp2_with fail
 go_region_law (refine xT _ (by rfl) _ _ (by rfl) B _ _ h.za[j].ze [(2,(j:Int))] (by rfl) (by rfl) zx (uh W4 2 (j:Int) _ _) (by simp;omega) (by simp;omega) ?_;intro v' w' zS hg hbk;obtain⟨a',c',hv',_⟩:=zS.slice;rw[List.length_append] at hv';subst hv';obtain⟨⟨z4,f4⟩,hSM⟩:=HE.out _ w' zS hg hbk)
 all_goals
  obtain⟨⟨V5,kV⟩,cV⟩:=hSM
  go_wp2
  refine bodyPost_end (results_none rfl _ _ _) rfl ⟨rfl,⟨.slice (some ⟨g,off,none⟩) h.za.length zp,vs,V5,?_⟩,vu.trans (cV.less (fun q hq=>.inl hq))⟩
  rw[HR.out]
  exact kV.less (fun q hq=>.inl hq)
set_option maxRecDepth 100000 in
set_option maxHeartbeats 8000000 in
theorem zcZ {A:Nat->Prop} {B:Nat} {w:World} {bo:Nat} {vp vs:Value} {g off zp:Nat} {ms:zM} {h:Hp} {V:Nat->Value × Value} (k:SM A B w bo vp (.slice (some ⟨g,off,none⟩) h.za.length zp) vs ms h V) (hB:B<=w.heap.size) {j:Nat} (a:Int) (va:Value) (args:zL) (ha:zR w va args) (d:jb ms h j 2 a args) :
 Calls Tryz.prog 180 #[.pointer (some ⟨bo,0,none⟩),.agg #[.int .i64 2,.int .i64 a],va] w fun e w'=>e=.returned (.tuple #[])/\(∃vm vs' V',SM A B w' bo vp vm vs' ms (uv ms h 2 a args) V')/\Cm A B w w':=by
 have hn:=d.now
 have hj:=d.lt
 have hst:=(d.g.cl j hj).s
 obtain⟨m0,hm0,hmc,hop⟩:=d.op
 unfold qR at hop
 rw[if_neg (by decide),if_pos (by decide),zH] at hop
 obtain⟨i,rfl⟩:=Int.eq_ofNat_of_zero_le hop.1
 have hit:i<h.za[j].zg.length:=by
  have:=(d.g.cl j hj).t
  rw[hmc,Int.toNat_natCast,yi hm0] at this
  omega
 clear hop hmc
 obtain⟨aa,ca,hva⟩:=ha.shape
 subst hva
 have hA:Below w.heap.size w (w.alloc (.cells #[.int .i64 2,.int .i64 (i:Int)] 33)):=zB _ _
 have rx:=yS w 33 (.int .i64 2) (.int .i64 (i:Int))
 have k1:=k.made hA (by simp)
 have vK:=k.cm hA hB
 have hM:=fun W=>qq 2 (i:Int) (.slice aa args.length ca) W (by decide) (by decide) (by decide)
 go_enter Tryz.func180,Tryz.ntmps180
 go_upto_region 1 with fail
 generalize w.alloc (.cells #[.int .i64 2,.int .i64 (i:Int)] 33)=W1 at *
 have z1:=hA.size
 obtain⟨⟨t0,t1⟩,_⟩:=zy rx
 go_upto_region 5 with(first
  | (go_at_call 177;refine(qi k1 hn hj).mono ?_;rintro e w' ⟨rfl,hw⟩;obtain rfl:=hw)
  | (go_at_call 190;refine(hM _).mono ?_;rintro e w3 ⟨rfl,hb3⟩))
 have N4:=zB w3 (.cells #[.int .i64 0,.int .i64 0] 98)
 have b14:Below W1.heap.size W1 (w3.alloc (.cells #[.int .i64 0,.int .i64 0] 98)):=((Below.refl W1.heap.size W1).drew.trans hb3).trans (N4.mono hb3.size)
 have k4:=k1.below b14
 have r1:=zz b14 rx
 have uU:Below w.heap.size w (w3.alloc (.cells #[.int .i64 0,.int .i64 0] 98)):=hA.trans (b14.mono z1)
 have XF:=ha.below uU
 have vu:Cm A B w (w3.alloc (.cells #[.int .i64 0,.int .i64 0] 98)):=vK.trans ((k1.cm b14 (by omega)).less (fun q hq=>.inl hq))
 have hB4:B<=(w3.alloc (.cells #[.int .i64 0,.int .i64 0] 98)).heap.size:=by have:=vu.b.size;omega
 clear k1 k vK N4 b14 hb3 hM t0 t1 rx ha uU
 generalize w3.alloc (.cells #[.int .i64 0,.int .i64 0] 98)=W4 at *
 generalize w3.heap.size=bv at *
 obtain⟨⟨t0,t1⟩,_⟩:=zy r1
 have Zo:=(k4.own.c.lt (g:=g) (.inl rfl)).2
 have Yl:bo<W4.heap.size:=k4.box.lt
 have YW:w.heap.size<W4.heap.size:=r1.lt
 have HR:Hid (uv ms h 2 ((i:Nat):Int) args={h with za:=h.za.set j {h.za[j] with ze:=h.za[j].ze ++ [(h.za[j].zg[i].1,h.za[j].zg[i].2)]}}):=by
  show _=_
  show xN h ((qC h).zg.getD ((i:Nat):Int).toNat (0,0))=_
  rw[vi hn hj,xC hn hj,Int.toNat_natCast,yi hit]
 obtain⟨sa,sc,ZT,_⟩:=(k4.own.c.lists j hj).2.slice
 obtain⟨⟨e0,e1,e2,e3,e4,e5⟩,_⟩:=k4.own.c.cells hj
 rw[ZT] at e3
 have HPT:=kg k4 hB4 hj ZT
 have htp:=(k4.own.c.lists j hj).1
 obtain⟨gt,ot,ct,hVt,_,hgt⟩:=htp.form (by omega)
 rw[hVt] at htp e2
 obtain⟨⟨q0,q1⟩,_⟩:=htp.cell hit
 have hiz:(i:Int)<(h.za[j].zg.length:Int):=by omega
 clear htp
 generalize h.za[j].zg[i].1=X at *
 generalize h.za[j].zg[i].2=Y at *
 obtain⟨zx,hend⟩:=HPT ((W4.alloc (.cells #[.int .i64 X,.int .i64 Y] 98)).drew) ((zB _ _).drew) (X,Y)
 have HE:Hid _:=hend
 clear hend HPT
 go_wp2_with fail
 go_region_law (refine xT _ (by rfl) _ _ (by rfl) B _ _ h.za[j].ze [(X,Y)] (by rfl) (by rfl) zx (uh W4 X Y _ _) (by simp;omega) (by simp;omega) ?_;intro v' w' zS hg hbk;obtain⟨a',c',hv',_⟩:=zS.slice;rw[List.length_append] at hv';subst hv';obtain⟨⟨z4,f4⟩,hSM⟩:=HE.out _ w' zS hg hbk)
 all_goals
  obtain⟨⟨V5,kV⟩,cV⟩:=hSM
  go_wp2
  refine bodyPost_end (results_none rfl _ _ _) rfl ⟨rfl,⟨.slice (some ⟨g,off,none⟩) h.za.length zp,vs,V5,?_⟩,vu.trans (cV.less (fun q hq=>.inl hq))⟩
  rw[HR.out]
  exact kV.less (fun q hq=>.inl hq)
set_option maxRecDepth 100000 in
set_option maxHeartbeats 8000000 in
theorem zaY {A:Nat->Prop} {B:Nat} {w:World} {bo:Nat} {vp vs:Value} {g off zp:Nat} {ms:zM} {h:Hp} {V:Nat->Value × Value} (k:SM A B w bo vp (.slice (some ⟨g,off,none⟩) h.za.length zp) vs ms h V) (hB:B<=w.heap.size) {j:Nat} (a:Int) (va:Value) (args:zL) (ha:zR w va args) (d:jb ms h j 12 a args) :
 Calls Tryz.prog 180 #[.pointer (some ⟨bo,0,none⟩),.agg #[.int .i64 12,.int .i64 a],va] w fun e w'=>e=.returned (.tuple #[])/\(∃vm vs' V',SM A B w' bo vp vm vs' ms (uv ms h 12 a args) V')/\Cm A B w w':=by
 have hn:=d.now
 have hj:=d.lt
 have hst:=(d.g.cl j hj).s
 have hl0:0<args.length:=by have:=d.takes;rw[yV (by decide)] at this;simp[tk] at this;omega
 obtain⟨hr0,hr1,hr2⟩:=d.ref (by decide)
 rw[yi hl0] at hr0 hr1 hr2
 obtain⟨i,hi⟩:=Int.eq_ofNat_of_zero_le hr1
 have hin:i<h.za.length:=by omega
 have ha0:0<=a:=by
  obtain⟨m0,hm0,_,hop⟩:=d.op
  simp[qR,yO] at hop
  omega
 obtain⟨aa,ca,hva⟩:=ha.shape
 subst hva
 have hA:Below w.heap.size w (w.alloc (.cells #[.int .i64 12,.int .i64 a] 33)):=zB _ _
 have rx:=yS w 33 (.int .i64 12) (.int .i64 a)
 have k1:=k.made hA (by simp)
 have vK:=k.cm hA hB
 have hM:=fun W=>qq 12 a (.slice aa args.length ca) W (by decide) (by decide) (by decide)
 go_enter Tryz.func180,Tryz.ntmps180
 go_upto_region 1 with fail
 generalize w.alloc (.cells #[.int .i64 12,.int .i64 a] 33)=W1 at *
 have z1:=hA.size
 obtain⟨⟨t0,t1⟩,_⟩:=zy rx
 go_upto_region 5 with(first
  | (go_at_call 177;refine(qi k1 hn hj).mono ?_;rintro e w' ⟨rfl,hw⟩;obtain rfl:=hw)
  | (go_at_call 190;refine(hM _).mono ?_;rintro e w3 ⟨rfl,hb3⟩))
 have N4:=zB w3 (.cells #[.int .i64 0,.int .i64 0] 98)
 have b14:Below W1.heap.size W1 (w3.alloc (.cells #[.int .i64 0,.int .i64 0] 98)):=((Below.refl W1.heap.size W1).drew.trans hb3).trans (N4.mono hb3.size)
 have k4:=k1.below b14
 have r1:=zz b14 rx
 have uU:Below w.heap.size w (w3.alloc (.cells #[.int .i64 0,.int .i64 0] 98)):=hA.trans (b14.mono z1)
 have XF:=ha.below uU
 have vu:Cm A B w (w3.alloc (.cells #[.int .i64 0,.int .i64 0] 98)):=vK.trans ((k1.cm b14 (by omega)).less (fun q hq=>.inl hq))
 have hB4:B<=(w3.alloc (.cells #[.int .i64 0,.int .i64 0] 98)).heap.size:=by have:=vu.b.size;omega
 clear k1 k vK N4 b14 hb3 hM t0 t1 rx ha uU
 generalize w3.alloc (.cells #[.int .i64 0,.int .i64 0] 98)=W4 at *
 generalize w3.heap.size=bv at *
 obtain⟨⟨t0,t1⟩,_⟩:=zy r1
 have Zo:=(k4.own.c.lt (g:=g) (.inl rfl)).2
 have Yl:bo<W4.heap.size:=k4.box.lt
 have YW:w.heap.size<W4.heap.size:=r1.lt
 obtain⟨_,_,QC,_,hc⟩:=XF
 cases QC
 obtain⟨b,o,hb,p0,p1⟩:=hc 0 hl0
 subst hb
 simp only[Nat.zero_mul,Nat.add_zero] at p0 p1
 rw[hi] at p1
 have hz0:(0:Int)<(args.length:Int):=by omega
 clear hc
 have HR:Hid (uv ms h 12 a args={h with za:=h.za.set j {h.za[j] with ze:=h.za[j].ze ++ [((qT h 12 a i).1,(qT h 12 a i).2)]}}):=by
  show xN h (qT h 12 a (args.getD 0 (0,0)).2.toNat)=_
  rw[vi hn hj,yi hl0,hi]
  rfl
 obtain⟨sa,sc,ZT,_⟩:=(k4.own.c.lists j hj).2.slice
 obtain⟨⟨e0,e1,e2,e3,e4,e5⟩,_⟩:=k4.own.c.cells hj
 rw[ZT] at e3
 have HPT:=kg k4 hB4 hj ZT
 have hL:=Y8 k4.drew 12 a i hin (by decide) ha0
 generalize (qT h 12 a i).1=X at *
 generalize (qT h 12 a i).2=Y at *
 have H5:Hid (∀w5:World,Below W4.drew.heap.size W4.drew w5->(w5.cell? ⟨g,off+j * 6+3,none⟩=some (.slice sa h.za[j].ze.length sc)/\g<w5.heap.size/\B<=w5.heap.size)/\zj B (w5.alloc (.cells #[.int .i64 X,.int .i64 Y] 98)) (.slice sa h.za[j].ze.length sc) h.za[j].ze/\(∀v' w',zj B w' v' (h.za[j].ze ++ [(X,Y)])->(w5.alloc (.cells #[.int .i64 X,.int .i64 Y] 98)).grownBy w' (Value.slice sa h.za[j].ze.length sc).ownBlock->(v'.ownBlock=(Value.slice sa h.za[j].ze.length sc).ownBlock\/v'.ownBlock=some (w5.alloc (.cells #[.int .i64 X,.int .i64 Y] 98)).heap.size) ->
  (w'.cell? ⟨g,off+j * 6+3,none⟩=some (.slice sa h.za[j].ze.length sc)/\w'.frozen? ⟨g,off+j * 6+3,none⟩=false) /\
  (∃V',SM (fun q=>A q\/q=w.heap.size) B (w'.setCell ⟨g,off+j * 6+3,none⟩ v') bo vp (.slice (some ⟨g,off,none⟩) h.za.length zp) vs ms {h with za:=h.za.set j {h.za[j] with ze:=h.za[j].ze ++ [(X,Y)]}} V')/\Cm (fun q=>A q\/q=w.heap.size) B W4 (w'.setCell ⟨g,off+j * 6+3,none⟩ v'))):=fun w5 hb5=>by
  have wC:Below W4.heap.size W4 w5:=(Below.refl W4.heap.size W4).drew.trans hb5
  have hz5:=wC.size
  have hX:Below W4.heap.size W4 (w5.alloc (.cells #[.int .i64 X,.int .i64 Y] 98)):=wC.alloc hz5 _
  obtain⟨zx,hend⟩:=HPT _ hX (X,Y)
  exact⟨⟨zc wC e3,by omega,by omega⟩,zx,hend⟩
 clear HPT
 go_wp2_with fail
 go_region_law (first
  | (refine xT _ (by rfl) _ _ (by rfl) B _ _ h.za[j].ze [(X,Y)] (by rfl) (by rfl) hown5 (uh w5 X Y _ _) (by simp;omega) (by simp;omega) ?_;intro v' w' zS hg hbk;obtain⟨a',c',hv',_⟩:=zS.slice;rw[List.length_append] at hv';subst hv';obtain⟨⟨z4,f4⟩,hSM⟩:=HE.out _ w' zS hg hbk)
  | (go_simp;go_at_call 194;refine hL.mono ?_;rintro e w5 ⟨rfl,hb5⟩;obtain⟨⟨w53,w5g,w5B⟩,hown5,hE5⟩:=H5.out w5 hb5;have HE:Hid _:=hE5;clear hE5 hb5))
 all_goals
  obtain⟨⟨V5,kV⟩,cV⟩:=hSM
  go_wp2
  refine bodyPost_end (results_none rfl _ _ _) rfl ⟨rfl,⟨.slice (some ⟨g,off,none⟩) h.za.length zp,vs,V5,?_⟩,vu.trans (cV.less (fun q hq=>.inl hq))⟩
  rw[HR.out]
  exact kV.less (fun q hq=>.inl hq)
set_option maxRecDepth 100000 in
set_option maxHeartbeats 8000000 in
theorem zcX {A:Nat->Prop} {B:Nat} {w:World} {bo:Nat} {vp vs:Value} {g off zp:Nat} {ms:zM} {h:Hp} {V:Nat->Value × Value} (k:SM A B w bo vp (.slice (some ⟨g,off,none⟩) h.za.length zp) vs ms h V) (hB:B<=w.heap.size) {j:Nat} (a:Int) (va:Value) (args:zL) (ha:zR w va args) (d:jb ms h j 13 a args) :
 Calls Tryz.prog 180 #[.pointer (some ⟨bo,0,none⟩),.agg #[.int .i64 13,.int .i64 a],va] w fun e w'=>e=.returned (.tuple #[])/\(∃vm vs' V',SM A B w' bo vp vm vs' ms (uv ms h 13 a args) V')/\Cm A B w w':=by
 have hn:=d.now
 have hj:=d.lt
 have hst:=(d.g.cl j hj).s
 have hl0:0<args.length:=by have:=d.takes;rw[yV (by decide)] at this;simp[tk] at this;omega
 obtain⟨hr0,hr1,hr2⟩:=d.ref (by decide)
 rw[yi hl0] at hr0 hr1 hr2
 obtain⟨i,hi⟩:=Int.eq_ofNat_of_zero_le hr1
 have hin:i<h.za.length:=by omega
 have ha0:0<=a:=by
  obtain⟨m0,hm0,_,hop⟩:=d.op
  simp[qR,yO] at hop
  omega
 obtain⟨aa,ca,hva⟩:=ha.shape
 subst hva
 have hA:Below w.heap.size w (w.alloc (.cells #[.int .i64 13,.int .i64 a] 33)):=zB _ _
 have rx:=yS w 33 (.int .i64 13) (.int .i64 a)
 have k1:=k.made hA (by simp)
 have vK:=k.cm hA hB
 have hM:=fun W=>qq 13 a (.slice aa args.length ca) W (by decide) (by decide) (by decide)
 go_enter Tryz.func180,Tryz.ntmps180
 go_upto_region 1 with fail
 generalize w.alloc (.cells #[.int .i64 13,.int .i64 a] 33)=W1 at *
 have z1:=hA.size
 obtain⟨⟨t0,t1⟩,_⟩:=zy rx
 go_upto_region 5 with(first
  | (go_at_call 177;refine(qi k1 hn hj).mono ?_;rintro e w' ⟨rfl,hw⟩;obtain rfl:=hw)
  | (go_at_call 190;refine(hM _).mono ?_;rintro e w3 ⟨rfl,hb3⟩))
 have N4:=zB w3 (.cells #[.int .i64 0,.int .i64 0] 98)
 have b14:Below W1.heap.size W1 (w3.alloc (.cells #[.int .i64 0,.int .i64 0] 98)):=((Below.refl W1.heap.size W1).drew.trans hb3).trans (N4.mono hb3.size)
 have k4:=k1.below b14
 have r1:=zz b14 rx
 have uU:Below w.heap.size w (w3.alloc (.cells #[.int .i64 0,.int .i64 0] 98)):=hA.trans (b14.mono z1)
 have XF:=ha.below uU
 have vu:Cm A B w (w3.alloc (.cells #[.int .i64 0,.int .i64 0] 98)):=vK.trans ((k1.cm b14 (by omega)).less (fun q hq=>.inl hq))
 have hB4:B<=(w3.alloc (.cells #[.int .i64 0,.int .i64 0] 98)).heap.size:=by have:=vu.b.size;omega
 clear k1 k vK N4 b14 hb3 hM t0 t1 rx ha uU
 generalize w3.alloc (.cells #[.int .i64 0,.int .i64 0] 98)=W4 at *
 generalize w3.heap.size=bv at *
 obtain⟨⟨t0,t1⟩,_⟩:=zy r1
 have Zo:=(k4.own.c.lt (g:=g) (.inl rfl)).2
 have Yl:bo<W4.heap.size:=k4.box.lt
 have YW:w.heap.size<W4.heap.size:=r1.lt
 obtain⟨_,_,QC,_,hc⟩:=XF
 cases QC
 obtain⟨b,o,hb,p0,p1⟩:=hc 0 hl0
 subst hb
 simp only[Nat.zero_mul,Nat.add_zero] at p0 p1
 rw[hi] at p1
 have hz0:(0:Int)<(args.length:Int):=by omega
 clear hc
 have HR:Hid (uv ms h 13 a args={h with za:=h.za.set j {h.za[j] with ze:=h.za[j].ze ++ [((qT h 13 a i).1,(qT h 13 a i).2)]}}):=by
  show xN h (qT h 13 a (args.getD 0 (0,0)).2.toNat)=_
  rw[vi hn hj,yi hl0,hi]
  rfl
 obtain⟨sa,sc,ZT,_⟩:=(k4.own.c.lists j hj).2.slice
 obtain⟨⟨e0,e1,e2,e3,e4,e5⟩,_⟩:=k4.own.c.cells hj
 rw[ZT] at e3
 have HPT:=kg k4 hB4 hj ZT
 have hL:=Y8 k4.drew 13 a i hin (by decide) ha0
 generalize (qT h 13 a i).1=X at *
 generalize (qT h 13 a i).2=Y at *
 have H5:Hid (∀w5:World,Below W4.drew.heap.size W4.drew w5->(w5.cell? ⟨g,off+j * 6+3,none⟩=some (.slice sa h.za[j].ze.length sc)/\g<w5.heap.size/\B<=w5.heap.size)/\zj B (w5.alloc (.cells #[.int .i64 X,.int .i64 Y] 98)) (.slice sa h.za[j].ze.length sc) h.za[j].ze/\(∀v' w',zj B w' v' (h.za[j].ze ++ [(X,Y)])->(w5.alloc (.cells #[.int .i64 X,.int .i64 Y] 98)).grownBy w' (Value.slice sa h.za[j].ze.length sc).ownBlock->(v'.ownBlock=(Value.slice sa h.za[j].ze.length sc).ownBlock\/v'.ownBlock=some (w5.alloc (.cells #[.int .i64 X,.int .i64 Y] 98)).heap.size) ->
  (w'.cell? ⟨g,off+j * 6+3,none⟩=some (.slice sa h.za[j].ze.length sc)/\w'.frozen? ⟨g,off+j * 6+3,none⟩=false) /\
  (∃V',SM (fun q=>A q\/q=w.heap.size) B (w'.setCell ⟨g,off+j * 6+3,none⟩ v') bo vp (.slice (some ⟨g,off,none⟩) h.za.length zp) vs ms {h with za:=h.za.set j {h.za[j] with ze:=h.za[j].ze ++ [(X,Y)]}} V')/\Cm (fun q=>A q\/q=w.heap.size) B W4 (w'.setCell ⟨g,off+j * 6+3,none⟩ v'))):=fun w5 hb5=>by
  have wC:Below W4.heap.size W4 w5:=(Below.refl W4.heap.size W4).drew.trans hb5
  have hz5:=wC.size
  have hX:Below W4.heap.size W4 (w5.alloc (.cells #[.int .i64 X,.int .i64 Y] 98)):=wC.alloc hz5 _
  obtain⟨zx,hend⟩:=HPT _ hX (X,Y)
  exact⟨⟨zc wC e3,by omega,by omega⟩,zx,hend⟩
 clear HPT
 go_wp2_with fail
 go_region_law (first
  | (refine xT _ (by rfl) _ _ (by rfl) B _ _ h.za[j].ze [(X,Y)] (by rfl) (by rfl) hown5 (uh w5 X Y _ _) (by simp;omega) (by simp;omega) ?_;intro v' w' zS hg hbk;obtain⟨a',c',hv',_⟩:=zS.slice;rw[List.length_append] at hv';subst hv';obtain⟨⟨z4,f4⟩,hSM⟩:=HE.out _ w' zS hg hbk)
  | (go_simp;go_at_call 194;refine hL.mono ?_;rintro e w5 ⟨rfl,hb5⟩;obtain⟨⟨w53,w5g,w5B⟩,hown5,hE5⟩:=H5.out w5 hb5;have HE:Hid _:=hE5;clear hE5 hb5))
 all_goals
  obtain⟨⟨V5,kV⟩,cV⟩:=hSM
  go_wp2
  refine bodyPost_end (results_none rfl _ _ _) rfl ⟨rfl,⟨.slice (some ⟨g,off,none⟩) h.za.length zp,vs,V5,?_⟩,vu.trans (cV.less (fun q hq=>.inl hq))⟩
  rw[HR.out]
  exact kV.less (fun q hq=>.inl hq)
set_option maxRecDepth 100000 in
set_option maxHeartbeats 8000000 in
theorem zcY {A:Nat->Prop} {B:Nat} {w:World} {bo:Nat} {vp vs:Value} {g off zp:Nat} {ms:zM} {h:Hp} {V:Nat->Value × Value} (k:SM A B w bo vp (.slice (some ⟨g,off,none⟩) h.za.length zp) vs ms h V) (hB:B<=w.heap.size) {j:Nat} (a:Int) (va:Value) (args:zL) (ha:zR w va args) (d:jb ms h j 14 a args) :
 Calls Tryz.prog 180 #[.pointer (some ⟨bo,0,none⟩),.agg #[.int .i64 14,.int .i64 a],va] w fun e w'=>e=.returned (.tuple #[])/\(∃vm vs' V',SM A B w' bo vp vm vs' ms (uv ms h 14 a args) V')/\Cm A B w w':=by
 have hn:=d.now
 have hj:=d.lt
 have hst:=(d.g.cl j hj).s
 have hl2:2<=args.length:=by have:=d.takes;rw[yV (by decide)] at this;simp[tk] at this;omega
 have hl0:0<args.length:=by omega
 have hl1:1<args.length:=by omega
 obtain⟨hr0,hr1,hr2⟩:=d.ref (by decide)
 rw[yi hl0] at hr0 hr1 hr2
 obtain⟨i,hi⟩:=Int.eq_ofNat_of_zero_le hr1
 have hin:i<h.za.length:=by omega
 obtain⟨m0,hm0,_,hop⟩:=d.op
 have hop2:0<=a/\a<=3:=by
  simp[qR,yO] at hop
  exact hop
 obtain⟨n,rfl⟩:=Int.eq_ofNat_of_zero_le hop2.1
 clear hop hop2
 obtain⟨aa,ca,hva⟩:=ha.shape
 subst hva
 have hA:Below w.heap.size w (w.alloc (.cells #[.int .i64 14,.int .i64 (n:Int)] 33)):=zB _ _
 have rx:=yS w 33 (.int .i64 14) (.int .i64 (n:Int))
 have k1:=k.made hA (by simp)
 have vK:=k.cm hA hB
 have hM:=fun W=>qq 14 (n:Int) (.slice aa args.length ca) W (by decide) (by decide) (by decide)
 go_enter Tryz.func180,Tryz.ntmps180
 go_upto_region 1 with fail
 generalize w.alloc (.cells #[.int .i64 14,.int .i64 (n:Int)] 33)=W1 at *
 have z1:=hA.size
 obtain⟨⟨t0,t1⟩,_⟩:=zy rx
 go_upto_region 5 with(first
  | (go_at_call 177;refine(qi k1 hn hj).mono ?_;rintro e w' ⟨rfl,hw⟩;obtain rfl:=hw)
  | (go_at_call 190;refine(hM _).mono ?_;rintro e w3 ⟨rfl,hb3⟩))
 have N4:=zB w3 (.cells #[.int .i64 0,.int .i64 0] 98)
 have b14:Below W1.heap.size W1 (w3.alloc (.cells #[.int .i64 0,.int .i64 0] 98)):=((Below.refl W1.heap.size W1).drew.trans hb3).trans (N4.mono hb3.size)
 have k4:=k1.below b14
 have r1:=zz b14 rx
 have uU:Below w.heap.size w (w3.alloc (.cells #[.int .i64 0,.int .i64 0] 98)):=hA.trans (b14.mono z1)
 have XF:=ha.below uU
 have vu:Cm A B w (w3.alloc (.cells #[.int .i64 0,.int .i64 0] 98)):=vK.trans ((k1.cm b14 (by omega)).less (fun q hq=>.inl hq))
 have hB4:B<=(w3.alloc (.cells #[.int .i64 0,.int .i64 0] 98)).heap.size:=by have:=vu.b.size;omega
 clear k1 k vK N4 b14 hb3 hM t0 t1 rx ha uU
 generalize w3.alloc (.cells #[.int .i64 0,.int .i64 0] 98)=W4 at *
 generalize w3.heap.size=bv at *
 obtain⟨⟨t0,t1⟩,_⟩:=zy r1
 have Zo:=(k4.own.c.lt (g:=g) (.inl rfl)).2
 have Yl:bo<W4.heap.size:=k4.box.lt
 have YW:w.heap.size<W4.heap.size:=r1.lt
 obtain⟨_,_,QC,_,hc⟩:=XF
 cases QC
 obtain⟨b,o,hb,p0,p1⟩:=hc 0 hl0
 subst hb
 obtain⟨b',o',hb,q0,q1⟩:=hc 1 hl1
 obtain⟨rfl,rfl⟩:b=b'/\o=o':=by injection hb with e;injection e with e1 e2;exact⟨e1,e2⟩
 simp only[Nat.zero_mul,Nat.add_zero,Nat.one_mul] at p0 p1 q0 q1
 rw[hi] at p1
 have hz0:(0:Int)<(args.length:Int):=by omega
 have hz1:(1:Int)<(args.length:Int):=by omega
 clear hc hb
 have zaD:uv ms h 14 ((n:Nat):Int) args=Xq h i n (args[1].1,args[1].2):=by
  show Xq h (args.getD 0 (0,0)).2.toNat ((n:Nat):Int) (args.getD 1 (0,0))=_
  rw[yi hl0,yi hl1,hi]
  rfl
 obtain⟨⟨e0,e1,e2,e3,e4,e5⟩,_⟩:=k4.own.c.cells hin
 obtain⟨⟨y0,y1,y2,y3,y4,y5⟩,_⟩:=zZ k4.box
 have htp:=(k4.own.c.lists i hin).1
 obtain⟨ta,tc,hVt,_⟩:=htp.slice
 have hiz:(i:Int)<(h.za.length:Int):=by omega
 by_cases hnt:n<h.za[i].zg.length
 ·have HR:Hid (uv ms h 14 ((n:Nat):Int) args={h with za:=h.za.set i {h.za[i] with zg:=h.za[i].zg.set n (args[1].1,args[1].2)}}):=by
   show _=_
   rw[zaD]
   unfold Xq
   rw[yi hin,Int.toNat_natCast]
  obtain⟨gt,ot,ct,hVt2,zbU,hgt⟩:=htp.form (by omega)
  have zbS:=UU k4.own.c hin hVt2 n hnt args[1].1 args[1].2
  rw[hVt2] at htp e2
  obtain⟨⟨u0,u1⟩,g0,g1⟩:=htp.cell hnt
  have hnz:(n:Int)<(h.za[i].zg.length:Int):=by omega
  obtain⟨k5,X1⟩:=k4.put hin zbS (((Below.refl B W4).setCell (p:=⟨gt,ot+n * 2,none⟩) zbU _).setCell (p:=⟨gt,ot+n * 2+1,none⟩) zbU _)
  clear htp zbS zaD hVt
  generalize args[1].1=X at *
  generalize args[1].2=Y at *
  go_wp2_with fail
  go_region
  all_goals
   go_wp2_with fail
   go_region
  all_goals
   go_wp2
   refine bodyPost_end (results_none rfl _ _ _) rfl ⟨rfl,⟨.slice (some ⟨g,off,none⟩) h.za.length zp,vs,Qe V i ((V i).1,(V i).2),?_⟩,vu.trans ((X1.trans (k5.cm zC.drew.drew (by simp[World.setCell];exact hB4))).less (fun q hq=>.inl hq))⟩
   rw[HR.out]
   exact k5.drew.drew.less (fun q hq=>.inl hq)
 ·have HR:Hid (uv ms h 14 ((n:Nat):Int) args=h):=by
   show _=_
   rw[zaD]
   unfold Xq
   have hset:h.za[i].zg.set n (args[1].1,args[1].2)=h.za[i].zg:=List.set_eq_of_length_le (by omega)
   rw[yi hin,Int.toNat_natCast,hset]
   have hsame:h.za.set i {h.za[i] with zg:=h.za[i].zg}=h.za:=List.set_getElem_self hin
   rw[hsame]
  rw[hVt] at e2
  have hnz:¬(n:Int)<(h.za[i].zg.length:Int):=by omega
  clear htp zaD
  go_wp2_with fail
  go_region
  all_goals
   go_wp2
   refine bodyPost_end (results_none rfl _ _ _) rfl ⟨rfl,⟨.slice (some ⟨g,off,none⟩) h.za.length zp,vs,V,?_⟩,vu.trans ((k4.cm zC.drew hB4).less (fun q hq=>.inl hq))⟩
   rw[HR.out]
   exact k4.drew.less (fun q hq=>.inl hq)
theorem zc1 {k:Int} (h:1<=k/\k<=18):k=1\/k=2\/k=3\/k=4\/k=5\/k=6\/k=7\/k=8\/k=9\/k=10\/k=11\/k=12\/k=13\/k=14\/k=15\/k=16\/k=17\/k=18:=by omega
theorem Xx {n a:Int} (h:yN n 1 a=true):0<=a/\a<=999:=by
 unfold yN at h
 rw[if_neg (by decide),if_pos rfl,zH] at h
 exact h
set_option maxHeartbeats 1000000 in
theorem zdB {A:Nat->Prop} {B:Nat} {w:World} {bo:Nat} {vp vs:Value} {g off zp:Nat} {ms:zM} {h:Hp} {V:Nat->Value × Value} (k:SM A B w bo vp (.slice (some ⟨g,off,none⟩) h.za.length zp) vs ms h V) (hB:B<=w.heap.size) {j:Nat} (kk a:Int) (va:Value) (args:zL) (ha:zR w va args) (d:jb ms h j kk a args) (hsd:h.zl.length<=2900000) :
 Calls Tryz.prog 180 #[.pointer (some ⟨bo,0,none⟩),.agg #[.int .i64 kk,.int .i64 a],va] w fun e w'=>e=.returned (.tuple #[])/\(∃vm vs' V',SM A B w' bo vp vm vs' ms (uv ms h kk a args) V')/\Cm A B w w':=by
 have hst:(h.za[j]'d.lt).ze.length<=1000:=by have:=(d.g.cl j d.lt).s;omega
 rcases zc1 d.kind with e | e | e | e | e | e | e | e | e | e | e | e | e | e | e | e | e | e
 ·subst e
  exact Vb k hB d.now d.lt hst 1 a a va args ha (fun W _=>Uw a va W)
 ·subst e;exact zcZ k hB a va args ha d
 ·subst e;exact zdE k hB a va args ha d
 ·subst e;exact zcU k hB a va args ha d
 ·subst e
  have hl:args.length=2:=by have:=d.takes;rw[yV (by decide)] at this;simp[tk] at this;omega
  have h0:0<args.length:=by omega
  have h1:1<args.length:=by omega
  have hk:=d.kinds
  simp only[xJ,if_true,Bool.and_eq_true,beq_iff_eq] at hk
  rw[yi h0,yi h1] at hk
  have hx:=d.first 0
  have hy:=d.first 1
  rw[yi h0,hk.1] at hx
  rw[yi h1,hk.2] at hy
  have HR:uv ms h 5 a args=xN h (1,(args[0].2+args[1].2) % 1000):=by
   show xN h (1,((args.getD 0 (0,0)).2+(args.getD 1 (0,0)).2) % 1000)=_
   rw[yi h0,yi h1]
  rw[HR]
  exact Vb k hB d.now d.lt hst 5 a _ va args ha (fun W hW=>Uv a va args W (ha.below hW) hl (Xx hx) (Xx hy))
 ·subst e
  have hl:args.length=2:=by have:=d.takes;rw[yV (by decide)] at this;simp[tk] at this;omega
  have h0:0<args.length:=by omega
  have h1:1<args.length:=by omega
  have HR:uv ms h 6 a args=xN h (1,(ZS (decide (args[0]=args[1]))).2):=by
   show xN h (ZS (decide (args.getD 0 (0,0)=args.getD 1 (0,0))))=_
   rw[yi h0,yi h1]
   rfl
  rw[HR]
  exact Vb k hB d.now d.lt hst 6 a _ va args ha (fun W hW=>Vr a va args W (ha.below hW) hl)
 ·subst e;exact zcW k hB a va args ha d
 ·subst e;exact zc0 k hB a va args ha d
 ·subst e;exact zcS k hB a va args ha d
 ·subst e;exact zdC k hB a va args ha d hsd
 ·subst e;exact zcV k hB a va args ha d
 ·subst e;exact zaY k hB a va args ha d
 ·subst e;exact zcX k hB a va args ha d
 ·subst e;exact zcY k hB a va args ha d
 ·subst e;exact zcR k hB a va args ha d
 ·subst e;exact zdD k hB a va args ha d hsd
 ·subst e;exact zcT k hB a va args ha d
 ·subst e;exact zbE k hB a va args ha d
theorem SM.stackNew {A:Nat->Prop} {B:Nat} {w w2:World} {bo:Nat} {vp vs:Value} {g off n zp:Nat} {ms:zM} {h:Hp} {V:Nat->Value × Value} (k:SM A B w bo vp (.slice (some ⟨g,off,none⟩) n zp) vs ms h V) {j:Nat} (hj:j<h.za.length) {v':Value} {st:zL} (hB:B<=w.heap.size) (hW:Below w.heap.size w w2) (hr:zj w.heap.size w2 v' st) :
 (∃V',SM A B (w2.setCell ⟨g,off+j * 6+3,none⟩ v') bo vp (.slice (some ⟨g,off,none⟩) n zp) vs ms {h with za:=h.za.set j {h.za[j] with ze:=st}} V')/\Cm A B w (w2.setCell ⟨g,off+j * 6+3,none⟩ v'):=by
 have hgB:=(k.own.c.lt (g:=g) (.inl rfl)).1
 have b3:=(hW.mono hB).setCell (p:=⟨g,off+j * 6+3,none⟩) hgB v'
 have r:=k.put hj (QM k.own.c hj v' st hW.size (fun q hq _=>hW.block q hq) (hr.mono hB) (fun q e=>.inr (hr.lt q e).1)) b3
 exact⟨⟨_,r.1⟩,r.2⟩
set_option maxRecDepth 100000 in
set_option maxHeartbeats 8000000 in
theorem zcI {A:Nat->Prop} {B:Nat} {w:World} {bo:Nat} {vp vc vs:Value} {ms:zM} {h:Hp} {V:Nat->Value × Value} (k:SM A B w bo vp vc vs ms h V) (hB:B<=w.heap.size) (hg:Good ms h) (hc:h.code=0) (hsd:h.zl.length<=2900000) :
 Calls Tryz.prog 161 #[.pointer (some ⟨bo,0,none⟩)] w fun e w'=>e=.returned (.tuple #[])/\(∃vm vs' V',SM A B w' bo vp vm vs' ms (qU ms h) V')/\Cm A B w w':=by
 have hn0:0<=h.now:=by
  by_cases q:h.now<0
  ·have:=hg.head.fin.2 q;omega
  ·omega
 obtain⟨j,hn⟩:∃j:Nat,h.now=j:=⟨h.now.toNat,by omega⟩
 have hj:j<h.za.length:=by have:=hg.head.now;omega
 obtain⟨g,off,zp,Yq,_⟩:=k.own.c.form (by omega)
 subst Yq
 have c:=hg.cl j hj
 obtain⟨m,hm⟩:=Int.eq_ofNat_of_zero_le c.m.1
 obtain⟨pc,hpc⟩:=Int.eq_ofNat_of_zero_le c.pc.1
 have ZU:m<ms.length:=by have:=c.m;omega
 obtain⟨ap,cp,hvp,hlp,hms⟩:=id k.prog
 obtain⟨pb,po,vo,hap,p0,p1,p2,p3⟩:=hms m ZU
 obtain⟨oa,oc,xz,hol,hops⟩:=id p3
 subst hvp hap xz
 clear hms
 obtain⟨⟨x0,x1,x2,x3,x4,x5⟩,_,_,_,_,_,f5⟩:=zZ k.box
 obtain⟨⟨c0,c1,c2,c3,c4,c5⟩,fz⟩:=k.own.c.cells hj
 rw[hm] at c0
 rw[hpc] at c1
 have hmz:(m:Int)<(ms.length:Int):=by omega
 have hgl:=(k.own.c.lt (g:=g) (.inl rfl)).2
 have Z2:bo<w.heap.size:=k.box.lt
 have WB:=xC hn hj
 go_enter Tryz.func161,Tryz.ntmps161
 go_upto_region 1 with(go_at_call 177;refine(qi k hn hj).mono ?_;rintro e w' ⟨rfl,hw⟩;obtain rfl:=hw)
 go_region
 have hD2:Below w.heap.size w w.drew.drew:=zC.drew.drew
 have k2:=k.below hD2
 have cm2:=k.cm hD2 hB
 have p0':=zc hD2 p0
 have p1':=zc hD2 p1
 have p2':=zc hD2 p2
 have p3':=p3.below hD2
 have hB2:B<=w.drew.drew.heap.size:=hB
 have hgl2:g<w.drew.drew.heap.size:=hgl
 have hbo2:bo<w.drew.drew.heap.size:=Z2
 clear x0 x1 x2 x3 x4 x5 f5 c0 c1 c2 c3 c4 c5 fz p0 p1 p2 p3 k hD2 hB hgl Z2 hops
 generalize w.drew.drew=W2 at *
 obtain⟨⟨x0,x1,x2,x3,x4,x5⟩,_,_,_,_,_,f5⟩:=zZ k2.box
 obtain⟨⟨c0,c1,c2,c3,c4,c5⟩,fz⟩:=k2.own.c.cells hj
 rw[hm] at c0
 rw[hpc] at c1
 by_cases hlp2:ms[m].2.2.length<=pc
 ·have hlz:((ms[m].2.2.length:Nat):Int)<=(pc:Int):=by omega
  have HR:Hid (qU ms h={h with code:=2}):=zal hn hj hm hpc ZU hlp2
  obtain⟨k3,cm3⟩:=k2.setCode 2
  go_wp2
  refine bodyPost_ret (results_none rfl _ _ _) rfl ⟨rfl,⟨.slice (some ⟨g,off,none⟩) h.za.length zp,vs,V,?_⟩,cm2.trans cm3⟩
  rw[HR.out]
  exact k3
 have hlz:¬((ms[m].2.2.length:Nat):Int)<=(pc:Int):=by omega
 have hpl:pc<ms[m].2.2.length:=by omega
 obtain⟨_,_,QC,_,hops⟩:=id p3'
 cases QC
 obtain⟨ob,oo,hob,q0,q1⟩:=hops pc hpl
 subst hob
 have hpz:(pc:Int)<(ms[m].2.2.length:Int):=by omega
 have HT:=Kq (.slice (some ⟨pb,po,none⟩) ms.length cp) ms ms[m].2.2[pc].1 ms[m].2.2[pc].2
 clear hops
 obtain⟨kk,a,ho⟩:∃kk a,ms[m].2.2[pc]=(kk,a):=⟨_,_,rfl⟩
 obtain⟨t,l,ht⟩:∃t l,yI ms kk a=(t,l):=⟨_,_,rfl⟩
 have HO:Hid (ms[m].2.2[pc]=(kk,a)/\yI ms kk a=(t,l)):=⟨ho,ht⟩
 rw[ho] at q0 q1 HT
 simp only[ht] at q0 q1 HT
 have HTB:=U3 hg.head.p kk a
 rw[ht] at HTB
 simp only[] at HTB
 clear ho ht
 go_upto_region 5 with fail
 have hA3:Below W2.heap.size W2 (W2.alloc (.cells #[.int .i64 kk,.int .i64 a] 33)):=zB _ _
 have ro:=yS W2 33 (.int .i64 kk) (.int .i64 a)
 have k3:=k2.below hA3
 obtain⟨⟨y0,y1,y2,y3,y4,y5⟩,_,_,_,_,_,g5⟩:=zZ k3.box
 obtain⟨⟨u0,u1⟩,_⟩:=zy ro
 generalize W2.alloc (.cells #[.int .i64 kk,.int .i64 a] 33)=W3 at *
 go_region_with (go_at_call 178;refine(HT _ (k3.drew.prog)).mono ?_;rintro e w5 ⟨rfl,hb5⟩)
 all_goals
  have hW5:Below W2.heap.size W2 w5:=hA3.drew.trans (hb5.mono hA3.size)
  have k5:=k2.below hW5
  have X1:Cm A B w w5:=cm2.trans (k2.cm hW5 hB2)
  have ro5:=zz hb5 (show W3.drew.rowIs W2.heap.size 33 2 _ from ro)
  have hB5:B<=w5.heap.size:=by have:=hW5.size;omega
  clear x0 x1 x2 x3 x4 x5 f5 c0 c1 c2 c3 c4 c5 fz y0 y1 y2 y3 y4 y5 g5 u0 u1 q0 q1 p0' p1' p2' p3' k3 hA3 HT
  obtain⟨⟨x0,x1,x2,x3,x4,x5⟩,_,_,_,_,_,f5⟩:=zZ k5.box
  obtain⟨⟨c0,c1,c2,c3,c4,c5⟩,fz⟩:=k5.own.c.cells hj
  rw[hpc] at c1
  obtain⟨⟨u0,u1⟩,_⟩:=zy ro5
  obtain⟨sa,sc,ZT,_⟩:=(k5.own.c.lists j hj).2.slice
  rw[ZT] at c3
  have hs6:=c.s
  have hwl:IntKind.i64.wrap ((h.za[j].ze.length:Int) - t)=(h.za[j].ze.length:Int) - t:=by rw[IntKind.wrap_i64];omega
  have hwl2:IntKind.i64.wrap ((h.za[j].ze.length:Int) - t+l)=(h.za[j].ze.length:Int) - t+l:=by rw[IntKind.wrap_i64];omega
  by_cases hbad:(h.za[j].ze.length:Int) - t<0\/6<(h.za[j].ze.length:Int) - t+l
  ·have HR:Hid (qU ms h={h with code:=2}):=by show _=_;rw[U2 hn hj hm hpc ZU hpl HO.out.1 HO.out.2,if_pos hbad]
   obtain⟨k6,cm6⟩:=k5.setCode 2
   have fin:(∃vm vs' V',SM A B (w5.setCell ⟨bo,5,none⟩ (.int .i64 2)) bo (.slice (some ⟨pb,po,none⟩) ms.length cp) vm vs' ms (qU ms h) V')/\Cm A B w (w5.setCell ⟨bo,5,none⟩ (.int .i64 2)):=by
    refine⟨⟨.slice (some ⟨g,off,none⟩) h.za.length zp,vs,V,?_⟩,X1.trans cm6⟩
    rw[HR.out]
    exact k6
   by_cases hneg:(h.za[j].ze.length:Int) - t<0
   ·go_wp2
    exact bodyPost_ret (results_none rfl _ _ _) rfl ⟨rfl,fin⟩
   ·have hbig:6<(h.za[j].ze.length:Int) - t+l:=by omega
    go_wp2
    exact bodyPost_ret (results_none rfl _ _ _) rfl ⟨rfl,fin⟩
  ·obtain⟨L,hL⟩:∃L:Nat,(h.za[j].ze.length:Int) - t=(L:Int):=⟨((h.za[j].ze.length:Int) - t).toNat,by omega⟩
   have hLn:L<=h.za[j].ze.length:=by omega
   have hneg:¬((L:Int)<0):=by omega
   have hbig:¬(6<(L:Int)+l):=by omega
   have hLz:(L:Int)<=(h.za[j].ze.length:Int):=by omega
   rw[hL] at hwl hwl2
   have hsr:=(k5.own.c.lists j hj).2
   rw[ZT] at hsr
   obtain⟨hpF,_⟩:=hsr.piece (l:=L) (k:=h.za[j].ze.length) hLn zD
   obtain⟨hpT,hLc⟩:=hsr.piece (l:=0) (k:=L) zE hLn
   rw[List.take_length] at hpF
   rw[List.drop_zero] at hpT
   have hfrom:∀W,(Instr.slice 27 (.slice sa h.za[j].ze.length sc) (some (.int .i64 (L:Int))) none none).run Tryz.prog W=.ok (sliced sa L h.za[j].ze.length sc 2) W:=fun W=>zcM W sa _ sc L hLn
   have hto:∀W,(Instr.slice 27 (.slice sa h.za[j].ze.length sc) none (some (.int .i64 (L:Int))) none).run Tryz.prog W=.ok (sliced sa 0 L sc 2) W:=fun W=>zdW W sa _ sc L hLc
   generalize sliced sa L h.za[j].ze.length sc 2=VF at *
   generalize sliced sa 0 L sc 2=VT at *
   have N6:Below w5.heap.size w5 (w5.alloc (.cells #[] 98)):=zB _ _
   have mk6:=zj.made (B:=w5.heap.size) (w:=w5) (e:=98) zD
   have hF6:=hpF.below N6
   have hgl5:=(k5.own.c.lt (g:=g) (.inl rfl)).2
   have hbo5:bo<w5.heap.size:=k5.box.lt
   have HSE:Hid (qU ms h=if xJ kk (h.za[j].ze.drop L)=false then {h with code:=2} else uv ms {h with za:=h.za.set j {h.za[j] with ze:=h.za[j].ze.take L,pc:=(pc:Int)+1}} kk a (h.za[j].ze.drop L)):=by
    show _=_
    rw[U2 hn hj hm hpc ZU hpl HO.out.1 HO.out.2,if_neg hbad,hL,Int.toNat_natCast]
   have HDo:Hid (xJ kk (h.za[j].ze.drop L)=true->jb ms {h with za:=h.za.set j {h.za[j] with ze:=h.za[j].ze.take L,pc:=(pc:Int)+1}} j kk a (h.za[j].ze.drop L)):=fun hk=>by
    have:=zbF hg hc hn hj hm hpc ZU hpl HO.out.1 HO.out.2 hbad (by rw[hL,Int.toNat_natCast];exact hk)
    rw[hL,Int.toNat_natCast] at this
    exact this
   have hdl:((h.za[j].ze.drop L).length:Int)=t:=by simp;omega
   have htl:(h.za[j].ze.take L).length<=6:=by simp;omega
   have HK5:Hid ((kk=5->(h.za[j].ze.drop L).length=2)/\(kk=12\/kk=13\/kk=14\/kk=15\/kk=17\/kk=18->1<=(h.za[j].ze.drop L).length)):=by
    have e:=HO.out.2
    refine⟨fun q=>?_,fun q=>?_⟩
    ·subst q
     rw[yV (by decide)] at e
     injection e with e1 e2
     have:tk 5=2:=rfl
     omega
    ·rw[yV (by omega)] at e
     injection e with e1 e2
     have:1<=tk kk:=by
      rcases q with q | q | q | q | q | q <;> subst q <;> decide
     omega
   generalize h.za[j].ze.drop L=DR at *
   generalize h.za[j].ze.take L=TK at *
   have hdl6:DR.length<=6:=by omega
   clear hbad hsr
   go_upto_region 10 with(at_builtin;refine qM _ (by rfl) _ _ (by rfl) w5.heap.size _ _ [] DR (by rfl) (by rfl) mk6 hF6 (by simp;omega) (by simp) ?_;intro v6 w6 yD jf hb6;rw[List.nil_append] at yD;obtain⟨a6,c6,hv6,_⟩:=yD.slice;subst hv6)
   have b56:Below w5.heap.size w5 w6:=N6.grown jf N6.size (fun q e=>(mk6.lt q e).1)
   have hz56:=b56.size
   have ro6:=zz b56 ro5
   have hK:=Vq kk a (.slice a6 DR.length c6) DR w6 yD.at HK5.out.1 HK5.out.2
   clear jf hb6 N6 mk6 hF6 u0 u1
   obtain⟨⟨u0,u1⟩,_⟩:=zy ro6
   cases hkb:xJ kk DR
   ·have HR:Hid (qU ms h={h with code:=2}):=by show _=_;rw[HSE.out,hkb];rfl
    rw[hkb] at hK
    go_wp2_with (go_at_call 179;refine hK.mono ?_;rintro e w7 ⟨rfl,hb7⟩;have b57:=b56.trans (hb7.mono hz56);have k7:=k5.below b57;obtain⟨⟨z0,z1,z2,z3,z4,z5⟩,_,_,_,_,_,g5⟩:=zZ k7.box)
    obtain⟨k8,cm8⟩:=k7.setCode 2
    refine bodyPost_ret (results_none rfl _ _ _) rfl ⟨rfl,⟨.slice (some ⟨g,off,none⟩) h.za.length zp,vs,V,?_⟩,X1.trans ((k5.cm b57 hB5).trans cm8)⟩
    rw[HR.out]
    exact k8
   ·have d:=HDo.out hkb
    have HR:Hid (qU ms h=uv ms {h with za:=h.za.set j {h.za[j] with ze:=TK,pc:=(pc:Int)+1}} kk a DR):=by show _=_;rw[HSE.out,hkb];rfl
    rw[hkb] at hK
    clear x0 x1 x2 x3 x4 x5 f5 c0 c1 c2 c3 c4 c5 fz
    go_upto_region 12 with(go_at_call 179;refine hK.mono ?_;rintro e w7 ⟨rfl,hb7⟩)
    have b57:=b56.trans (hb7.mono hz56)
    have hz57:=b57.size
    have k7:=k5.below b57
    have ro7:=zz hb7 ro6
    have jp:=yD.below hb7
    have hpT7:=hpT.below b57
    have hB7:B<=w7.heap.size:=by omega
    have hgl7:g<w7.heap.size:=by omega
    obtain⟨⟨c0,c1,c2,c3,c4,c5⟩,fz⟩:=k7.own.c.cells hj
    rw[ZT] at c3
    have N8:Below w7.heap.size w7 (w7.alloc (.cells #[] 98)):=zB _ _
    have mk8:=zj.made (B:=w7.heap.size) (w:=w7) (e:=98) zD
    have hT8:=hpT7.below N8
    clear fz
    go_upto_region 13 with(at_builtin;refine qM _ (by rfl) _ _ (by rfl) w7.heap.size _ _ [] TK (by rfl) (by rfl) mk8 hT8 (by simp;omega) (by simp) ?_;intro v9 w9 kO Xb hb9;rw[List.nil_append] at kO;obtain⟨a9,c9,hv9,_⟩:=kO.slice;subst hv9;have b79:Below w7.heap.size w7 w9:=N8.grown Xb N8.size (fun q e=>(mk8.lt q e).1);have k9:=k7.below b79;obtain⟨⟨_,_,_,z3,_,_⟩,fz9⟩:=k9.own.c.cells hj;rw[ZT] at z3;have f3:=fz9 3 (by decide);clear fz9)
    have hz79:=b79.size
    have hW2g:W2.heap.size≠g:=by omega
    obtain⟨⟨V10,k10⟩,cm10⟩:=k7.stackNew hj hB7 b79 kO
    have ro10:(w9.setCell ⟨g,off+j * 6+3,none⟩ (.slice a9 TK.length c9)).rowIs W2.heap.size 33 2 (duo (.int .i64 kk) (.int .i64 a)):=(zz b79 ro7).of_block (Below.heap_setCell _ _ _ _ hW2g)
    have xk:=(jp.below b79).set_other (p:=⟨g,off+j * 6+3,none⟩) (.slice a9 TK.length c9) (fun e=>by have:=(jp.lt _ e).1;simp at this;omega)
    have hj10:j<(h.za.set j {h.za[j] with ze:=TK}).length:=by simpa using hj
    obtain⟨⟨m0,m1,m2,m3,m4,m5⟩,fz10⟩:=k10.own.c.cells hj10
    have f1:=fz10 1 (by decide)
    simp only[List.getElem_set_self] at m1
    rw[hpc] at m1
    have hgB:=(k10.own.c.lt (g:=g) (.inl rfl)).1
    have hcmT:Cm A B w (w9.setCell ⟨g,off+j * 6+3,none⟩ (.slice a9 TK.length c9)):=X1.trans ((k5.cm b57 hB5).trans cm10)
    clear fz10 c0 c1 c2 c3 c4 c5 z3 f3 kO Xb hb9 b79 N8 mk8 hT8 k9 cm10
    generalize w9.setCell ⟨g,off+j * 6+3,none⟩ (.slice a9 TK.length c9)=W10 at *
    obtain⟨k11,cm11⟩:=k10.put hj10 (uL k10.own.c hj10 1 (.int .i64 ((pc:Int)+1)) {(h.za.set j {h.za[j] with ze:=TK})[j] with pc:=(pc:Int)+1} (by decide) rfl rfl rfl rfl rfl rfl) ((Below.refl B W10).setCell (p:=⟨g,off+j * 6+1,none⟩) hgB _)
    simp only[List.getElem_set_self,List.set_set] at k11
    have k11':SM A B (W10.setCell ⟨g,off+j * 6+1,none⟩ (.int .i64 ((pc:Int)+1))) bo (.slice (some ⟨pb,po,none⟩) ms.length cp) (.slice (some ⟨g,off,none⟩) (h.za.set j {h.za[j] with ze:=TK,pc:=(pc:Int)+1}).length zp) vs ms {h with za:=h.za.set j {h.za[j] with ze:=TK,pc:=(pc:Int)+1}} (Qe V10 j ((V10 j).1,(V10 j).2)):=by rw[List.length_set];exact k11
    have hB11:B<=(W10.setCell ⟨g,off+j * 6+1,none⟩ (.int .i64 ((pc:Int)+1))).heap.size:=by have:=hcmT.b.size;simp[World.setCell];have:=cm11.b.size;simp[World.setCell] at this;have:=X1.b.size;have:=k11.own.c.lt (g:=g) (.inl rfl);simp[World.setCell] at this;omega
    have ro11:=(show(W10.setCell ⟨g,off+j * 6+1,none⟩ (.int .i64 ((pc:Int)+1))).rowIs W2.heap.size 33 2 (duo (.int .i64 kk) (.int .i64 a)) from ro10.of_block (Below.heap_setCell _ _ _ _ hW2g))
    have hrow11:=xk.set_other (p:=⟨g,off+j * 6+1,none⟩) (.int .i64 ((pc:Int)+1)) (fun e=>by have:=(xk.lt _ e).1;simp at this;omega)
    have hDo:=zdB k11' hB11 kk a (.slice a6 DR.length c6) DR hrow11.at d hsd
    have hwp:IntKind.i64.wrap ((pc:Int)+1)=(pc:Int)+1:=by rw[IntKind.wrap_i64];have:=c.pc;rw[hpc] at this;unfold maxLen at hol;omega
    go_upto_region 14 with fail
    generalize W10.setCell ⟨g,off+j * 6+1,none⟩ (.int .i64 ((pc:Int)+1))=W11 at *
    clear u0 u1
    obtain⟨⟨u0,u1⟩,_⟩:=zy ro11
    go_wp2_with (go_at_call 180;refine hDo.mono ?_;rintro e w12 ⟨rfl,hSM,cm12⟩)
    refine bodyPost_end (results_none rfl _ _ _) rfl ⟨rfl,?_,hcmT.trans (cm11.trans cm12)⟩
    rw[HR.out]
    exact hSM
end Go.Proofs.YtjbgpcileapogaaGreat

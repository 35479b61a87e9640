/-
  The model's heap at work, walked: do, operation by operation.
-/
import Derived.Test.YtjbgpcileapogaaGreatSWalk2
namespace Go.Proofs.YtjbgpcileapogaaGreat
open Go.RowKit
set_option maxRecDepth 100000 in
set_option maxHeartbeats 8000000 in
theorem zcU {A:Nat->Prop} {B:Nat} {w:World} {bo:Nat} {vp vs:Value} {g off zp:Nat} {ms:zM} {h:Hp} {V:Nat->Value × Value} (k:SM A B w bo vp (.slice (some ⟨g,off,none⟩) h.za.length zp) vs ms h V) (hB:B<=w.heap.size) {j:Nat} (a:Int) (va:Value) (args:zL) (ha:zR w va args) (d:jb ms h j 4 a args) :
 Calls Tryz.prog 180 #[.pointer (some ⟨bo,0,none⟩),.agg #[.int .i64 4,.int .i64 a],va] w fun e w'=>e=.returned (.tuple #[])/\(∃vm vs' V',SM A B w' bo vp vm vs' ms (uv ms h 4 a args) V')/\Cm A B w w':=by
 have hn:=d.now
 have hj:=d.lt
 have hst:=(d.g.cl j hj).s
 obtain⟨aa,ca,hva⟩:=ha.shape
 subst hva
 have hA:Below w.heap.size w (w.alloc (.cells #[.int .i64 4,.int .i64 a] 33)):=zB _ _
 have rx:=yS w 33 (.int .i64 4) (.int .i64 a)
 have k1:=k.made hA (by simp)
 have vK:=k.cm hA hB
 have hM:=fun W=>qq 4 a (.slice aa args.length ca) W (by decide) (by decide) (by decide)
 go_enter Tryz.func180,Tryz.ntmps180
 go_upto_region 1 with fail
 generalize w.alloc (.cells #[.int .i64 4,.int .i64 a] 33)=W1 at *
 have z1:=hA.size
 obtain⟨⟨t0,t1⟩,_⟩:=zy rx
 go_upto_region 5 with(first
  | (go_at_call 177;refine(qi k1 hn hj).mono ?_;rintro e w' ⟨rfl,hw⟩;obtain rfl:=hw)
  | (go_at_call 190;refine(hM _).mono ?_;rintro e w3 ⟨rfl,hb3⟩))
 have N4:=zB w3 (.cells #[.int .i64 0,.int .i64 0] 98)
 have b14:Below W1.heap.size W1 (w3.alloc (.cells #[.int .i64 0,.int .i64 0] 98)):=((Below.refl W1.heap.size W1).drew.trans hb3).trans (N4.mono hb3.size)
 have k4:=k1.below b14
 have r1:=zz b14 rx
 have uU:Below w.heap.size w (w3.alloc (.cells #[.int .i64 0,.int .i64 0] 98)):=hA.trans (b14.mono z1)
 have XF:=ha.below uU
 have vu:Cm A B w (w3.alloc (.cells #[.int .i64 0,.int .i64 0] 98)):=vK.trans ((k1.cm b14 (by omega)).less (fun q hq=>.inl hq))
 have hB4:B<=(w3.alloc (.cells #[.int .i64 0,.int .i64 0] 98)).heap.size:=by have:=vu.b.size;omega
 clear k1 k vK N4 b14 hb3 hM t0 t1 rx ha uU
 generalize w3.alloc (.cells #[.int .i64 0,.int .i64 0] 98)=W4 at *
 generalize w3.heap.size=bv at *
 obtain⟨⟨t0,t1⟩,_⟩:=zy r1
 have Zo:=(k4.own.c.lt (g:=g) (.inl rfl)).2
 have Yl:bo<W4.heap.size:=k4.box.lt
 have YW:w.heap.size<W4.heap.size:=r1.lt
 go_wp2
 refine bodyPost_end (results_none rfl _ _ _) rfl ⟨rfl,⟨.slice (some ⟨g,off,none⟩) h.za.length zp,vs,V,?_⟩,vu⟩
 exact k4.less (fun q hq=>.inl hq)
set_option maxRecDepth 100000 in
set_option maxHeartbeats 8000000 in
theorem zcW {A:Nat->Prop} {B:Nat} {w:World} {bo:Nat} {vp vs:Value} {g off zp:Nat} {ms:zM} {h:Hp} {V:Nat->Value × Value} (k:SM A B w bo vp (.slice (some ⟨g,off,none⟩) h.za.length zp) vs ms h V) (hB:B<=w.heap.size) {j:Nat} (a:Int) (va:Value) (args:zL) (ha:zR w va args) (d:jb ms h j 7 a args) :
 Calls Tryz.prog 180 #[.pointer (some ⟨bo,0,none⟩),.agg #[.int .i64 7,.int .i64 a],va] w fun e w'=>e=.returned (.tuple #[])/\(∃vm vs' V',SM A B w' bo vp vm vs' ms (uv ms h 7 a args) V')/\Cm A B w w':=by
 have hn:=d.now
 have hj:=d.lt
 have hst:=(d.g.cl j hj).s
 obtain⟨aa,ca,hva⟩:=ha.shape
 subst hva
 have hA:Below w.heap.size w (w.alloc (.cells #[.int .i64 7,.int .i64 a] 33)):=zB _ _
 have rx:=yS w 33 (.int .i64 7) (.int .i64 a)
 have k1:=k.made hA (by simp)
 have vK:=k.cm hA hB
 have hM:=fun W=>qq 7 a (.slice aa args.length ca) W (by decide) (by decide) (by decide)
 go_enter Tryz.func180,Tryz.ntmps180
 go_upto_region 1 with fail
 generalize w.alloc (.cells #[.int .i64 7,.int .i64 a] 33)=W1 at *
 have z1:=hA.size
 obtain⟨⟨t0,t1⟩,_⟩:=zy rx
 go_upto_region 5 with(first
  | (go_at_call 177;refine(qi k1 hn hj).mono ?_;rintro e w' ⟨rfl,hw⟩;obtain rfl:=hw)
  | (go_at_call 190;refine(hM _).mono ?_;rintro e w3 ⟨rfl,hb3⟩))
 have N4:=zB w3 (.cells #[.int .i64 0,.int .i64 0] 98)
 have b14:Below W1.heap.size W1 (w3.alloc (.cells #[.int .i64 0,.int .i64 0] 98)):=((Below.refl W1.heap.size W1).drew.trans hb3).trans (N4.mono hb3.size)
 have k4:=k1.below b14
 have r1:=zz b14 rx
 have uU:Below w.heap.size w (w3.alloc (.cells #[.int .i64 0,.int .i64 0] 98)):=hA.trans (b14.mono z1)
 have XF:=ha.below uU
 have vu:Cm A B w (w3.alloc (.cells #[.int .i64 0,.int .i64 0] 98)):=vK.trans ((k1.cm b14 (by omega)).less (fun q hq=>.inl hq))
 have hB4:B<=(w3.alloc (.cells #[.int .i64 0,.int .i64 0] 98)).heap.size:=by have:=vu.b.size;omega
 clear k1 k vK N4 b14 hb3 hM t0 t1 rx ha uU
 generalize w3.alloc (.cells #[.int .i64 0,.int .i64 0] 98)=W4 at *
 generalize w3.heap.size=bv at *
 obtain⟨⟨t0,t1⟩,_⟩:=zy r1
 have Zo:=(k4.own.c.lt (g:=g) (.inl rfl)).2
 have Yl:bo<W4.heap.size:=k4.box.lt
 have YW:w.heap.size<W4.heap.size:=r1.lt
 have HR:Hid (uv ms h 7 a args={h with za:=h.za.set j {h.za[j] with pc:=a}}):=by
  show _=_
  show jw h {qC h with pc:=a}=_
  rw[VK hn,xC hn hj]
 obtain⟨⟨e0,e1,e2,e3,e4,e5⟩,fz⟩:=k4.own.c.cells hj
 have f1:=fz 1 (by decide)
 have hgB:=(k4.own.c.lt (g:=g) (.inl rfl)).1
 obtain⟨k5,X1⟩:=k4.put hj (uL k4.own.c hj 1 (.int .i64 a) {h.za[j] with pc:=a} (by decide) rfl rfl rfl rfl rfl rfl) ((Below.refl B W4).setCell (p:=⟨g,off+j * 6+1,none⟩) hgB _)
 clear fz
 go_wp2
 refine bodyPost_end (results_none rfl _ _ _) rfl ⟨rfl,⟨.slice (some ⟨g,off,none⟩) h.za.length zp,vs,Qe V j ((V j).1,(V j).2),?_⟩,vu.trans (X1.less (fun q hq=>.inl hq))⟩
 rw[HR.out]
 exact k5.less (fun q hq=>.inl hq)
set_option maxRecDepth 100000 in
set_option maxHeartbeats 8000000 in
theorem zdD {A:Nat->Prop} {B:Nat} {w:World} {bo:Nat} {vp vs:Value} {g off zp:Nat} {ms:zM} {h:Hp} {V:Nat->Value × Value} (k:SM A B w bo vp (.slice (some ⟨g,off,none⟩) h.za.length zp) vs ms h V) (hB:B<=w.heap.size) {j:Nat} (a:Int) (va:Value) (args:zL) (ha:zR w va args) (d:jb ms h j 16 a args) (hsd:h.zl.length<=2900000) :
 Calls Tryz.prog 180 #[.pointer (some ⟨bo,0,none⟩),.agg #[.int .i64 16,.int .i64 a],va] w fun e w'=>e=.returned (.tuple #[])/\(∃vm vs' V',SM A B w' bo vp vm vs' ms (uv ms h 16 a args) V')/\Cm A B w w':=by
 have hn:=d.now
 have hj:=d.lt
 have hst:=(d.g.cl j hj).s
 have hl0:1<=args.length:=by have:=d.takes;rw[yV (by decide)] at this;simp[tk] at this;omega
 have hx:=d.first 0
 rw[yi hl0] at hx
 obtain⟨aa,ca,hva⟩:=ha.shape
 subst hva
 have hA:Below w.heap.size w (w.alloc (.cells #[.int .i64 16,.int .i64 a] 33)):=zB _ _
 have rx:=yS w 33 (.int .i64 16) (.int .i64 a)
 have k1:=k.made hA (by simp)
 have vK:=k.cm hA hB
 have hM:=fun W=>qq 16 a (.slice aa args.length ca) W (by decide) (by decide) (by decide)
 go_enter Tryz.func180,Tryz.ntmps180
 go_upto_region 1 with fail
 generalize w.alloc (.cells #[.int .i64 16,.int .i64 a] 33)=W1 at *
 have z1:=hA.size
 obtain⟨⟨t0,t1⟩,_⟩:=zy rx
 go_upto_region 5 with(first
  | (go_at_call 177;refine(qi k1 hn hj).mono ?_;rintro e w' ⟨rfl,hw⟩;obtain rfl:=hw)
  | (go_at_call 190;refine(hM _).mono ?_;rintro e w3 ⟨rfl,hb3⟩))
 have N4:=zB w3 (.cells #[.int .i64 0,.int .i64 0] 98)
 have b14:Below W1.heap.size W1 (w3.alloc (.cells #[.int .i64 0,.int .i64 0] 98)):=((Below.refl W1.heap.size W1).drew.trans hb3).trans (N4.mono hb3.size)
 have k4:=k1.below b14
 have r1:=zz b14 rx
 have uU:Below w.heap.size w (w3.alloc (.cells #[.int .i64 0,.int .i64 0] 98)):=hA.trans (b14.mono z1)
 have XF:=ha.below uU
 have vu:Cm A B w (w3.alloc (.cells #[.int .i64 0,.int .i64 0] 98)):=vK.trans ((k1.cm b14 (by omega)).less (fun q hq=>.inl hq))
 have hB4:B<=(w3.alloc (.cells #[.int .i64 0,.int .i64 0] 98)).heap.size:=by have:=vu.b.size;omega
 clear k1 k vK N4 b14 hb3 hM t0 t1 rx ha uU
 generalize w3.alloc (.cells #[.int .i64 0,.int .i64 0] 98)=W4 at *
 generalize w3.heap.size=bv at *
 obtain⟨⟨t0,t1⟩,_⟩:=zy r1
 have Zo:=(k4.own.c.lt (g:=g) (.inl rfl)).2
 have Yl:bo<W4.heap.size:=k4.box.lt
 have YW:w.heap.size<W4.heap.size:=r1.lt
 obtain⟨_,_,QC,_,hc⟩:=XF
 cases QC
 obtain⟨b,o,hb,p0,p1⟩:=hc 0 hl0
 subst hb
 simp only[Nat.zero_mul,Nat.add_zero] at p0 p1
 have hz0:(0:Int)<(args.length:Int):=by omega
 clear hc
 have hS:=zaK k4 hB4 args[0].1 args[0].2 (fun e=>by rw[e] at hx;exact vH hx) hsd
 have HR:Hid (uv ms h 16 a args=XQ h args[0]):=by
  show XQ h (args.getD 0 (0,0))=_
  rw[yi hl0]
 go_wp2_with (go_at_call 196;refine hS.mono ?_;rintro e w5 ⟨rfl,⟨vs5,V5,k5⟩,X1⟩)
 refine bodyPost_end (results_none rfl _ _ _) rfl ⟨rfl,⟨.slice (some ⟨g,off,none⟩) h.za.length zp,vs5,V5,?_⟩,vu.trans (X1.less (fun q hq=>.inl hq))⟩
 rw[HR.out]
 exact k5.less (fun q hq=>.inl hq)
set_option maxRecDepth 100000 in
set_option maxHeartbeats 8000000 in
theorem zdC {A:Nat->Prop} {B:Nat} {w:World} {bo:Nat} {vp vs:Value} {g off zp:Nat} {ms:zM} {h:Hp} {V:Nat->Value × Value} (k:SM A B w bo vp (.slice (some ⟨g,off,none⟩) h.za.length zp) vs ms h V) (hB:B<=w.heap.size) {j:Nat} (a:Int) (va:Value) (args:zL) (ha:zR w va args) (d:jb ms h j 10 a args) (hsd:h.zl.length<=2900000) :
 Calls Tryz.prog 180 #[.pointer (some ⟨bo,0,none⟩),.agg #[.int .i64 10,.int .i64 a],va] w fun e w'=>e=.returned (.tuple #[])/\(∃vm vs' V',SM A B w' bo vp vm vs' ms (uv ms h 10 a args) V')/\Cm A B w w':=by
 have hn:=d.now
 have hj:=d.lt
 have hst:=(d.g.cl j hj).s
 have hl0:1<=args.length:=by have:=d.takes;rw[yV (by decide)] at this;simp[tk] at this;omega
 have hx:=d.first 0
 rw[yi hl0] at hx
 obtain⟨aa,ca,hva⟩:=ha.shape
 subst hva
 have hA:Below w.heap.size w (w.alloc (.cells #[.int .i64 10,.int .i64 a] 33)):=zB _ _
 have rx:=yS w 33 (.int .i64 10) (.int .i64 a)
 have k1:=k.made hA (by simp)
 have vK:=k.cm hA hB
 have hM:=fun W=>qq 10 a (.slice aa args.length ca) W (by decide) (by decide) (by decide)
 go_enter Tryz.func180,Tryz.ntmps180
 go_upto_region 1 with fail
 generalize w.alloc (.cells #[.int .i64 10,.int .i64 a] 33)=W1 at *
 have z1:=hA.size
 obtain⟨⟨t0,t1⟩,_⟩:=zy rx
 go_upto_region 5 with(first
  | (go_at_call 177;refine(qi k1 hn hj).mono ?_;rintro e w' ⟨rfl,hw⟩;obtain rfl:=hw)
  | (go_at_call 190;refine(hM _).mono ?_;rintro e w3 ⟨rfl,hb3⟩))
 have N4:=zB w3 (.cells #[.int .i64 0,.int .i64 0] 98)
 have b14:Below W1.heap.size W1 (w3.alloc (.cells #[.int .i64 0,.int .i64 0] 98)):=((Below.refl W1.heap.size W1).drew.trans hb3).trans (N4.mono hb3.size)
 have k4:=k1.below b14
 have r1:=zz b14 rx
 have uU:Below w.heap.size w (w3.alloc (.cells #[.int .i64 0,.int .i64 0] 98)):=hA.trans (b14.mono z1)
 have XF:=ha.below uU
 have vu:Cm A B w (w3.alloc (.cells #[.int .i64 0,.int .i64 0] 98)):=vK.trans ((k1.cm b14 (by omega)).less (fun q hq=>.inl hq))
 have hB4:B<=(w3.alloc (.cells #[.int .i64 0,.int .i64 0] 98)).heap.size:=by have:=vu.b.size;omega
 clear k1 k vK N4 b14 hb3 hM t0 t1 rx ha uU
 generalize w3.alloc (.cells #[.int .i64 0,.int .i64 0] 98)=W4 at *
 generalize w3.heap.size=bv at *
 obtain⟨⟨t0,t1⟩,_⟩:=zy r1
 have Zo:=(k4.own.c.lt (g:=g) (.inl rfl)).2
 have Yl:bo<W4.heap.size:=k4.box.lt
 have YW:w.heap.size<W4.heap.size:=r1.lt
 obtain⟨_,_,QC,_,hc⟩:=XF
 cases QC
 obtain⟨b,o,hb,p0,p1⟩:=hc 0 hl0
 subst hb
 simp only[Nat.zero_mul,Nat.add_zero] at p0 p1
 have hz0:(0:Int)<(args.length:Int):=by omega
 clear hc
 have hS:=zc9 k4 hB4 hn hj (d.g.cl j hj).sd args[0].1 args[0].2 (fun e=>by rw[e] at hx;exact vH hx) hsd (fun s _ hs=>by have:=(d.g.cl s hs).s;omega)
 have HR:Hid (uv ms h 10 a args=JT h args[0]):=by
  show JT h (args.getD 0 (0,0))=_
  rw[yi hl0]
 go_wp2_with (go_at_call 193;refine hS.mono ?_;rintro e w5 ⟨rfl,⟨vc5,vs5,V5,k5⟩,X1⟩)
 refine bodyPost_end (results_none rfl _ _ _) rfl ⟨rfl,⟨vc5,vs5,V5,?_⟩,vu.trans (X1.less (fun q hq=>.inl hq))⟩
 rw[HR.out]
 exact k5.less (fun q hq=>.inl hq)
set_option maxRecDepth 100000 in
set_option maxHeartbeats 8000000 in
theorem zcS {A:Nat->Prop} {B:Nat} {w:World} {bo:Nat} {vp vs:Value} {g off zp:Nat} {ms:zM} {h:Hp} {V:Nat->Value × Value} (k:SM A B w bo vp (.slice (some ⟨g,off,none⟩) h.za.length zp) vs ms h V) (hB:B<=w.heap.size) {j:Nat} (a:Int) (va:Value) (args:zL) (ha:zR w va args) (d:jb ms h j 9 a args) :
 Calls Tryz.prog 180 #[.pointer (some ⟨bo,0,none⟩),.agg #[.int .i64 9,.int .i64 a],va] w fun e w'=>e=.returned (.tuple #[])/\(∃vm vs' V',SM A B w' bo vp vm vs' ms (uv ms h 9 a args) V')/\Cm A B w w':=by
 have hn:=d.now
 have hj:=d.lt
 have hst:=(d.g.cl j hj).s
 obtain⟨m0,hm0,_,hop⟩:=d.op
 unfold qR at hop
 rw[if_neg (by decide),if_neg (by decide),if_neg (by decide),if_pos rfl,zH] at hop
 obtain⟨m,rfl⟩:=Int.eq_ofNat_of_zero_le hop.1
 have hm:m<ms.length:=by omega
 have hMP:=vE d.g.head.p hm
 have htk:=d.takes
 rw[wJ hm] at htk
 simp only[] at htk
 obtain⟨T,hT⟩:∃T:Nat,ms[m].2.1=(T:Int):=⟨ms[m].2.1.toNat,by have:=hMP.args;have:=hMP.zg;omega⟩
 have hT4:T<=1000:=by have:=hMP.zg;omega
 have hat:args.length<=T:=by have:=hMP.zg;omega
 clear hop htk hMP
 obtain⟨aa,ca,hva⟩:=ha.shape
 subst hva
 have hA:Below w.heap.size w (w.alloc (.cells #[.int .i64 9,.int .i64 (m:Int)] 33)):=zB _ _
 have rx:=yS w 33 (.int .i64 9) (.int .i64 (m:Int))
 have k1:=k.made hA (by simp)
 have vK:=k.cm hA hB
 have hM:=fun W=>qq 9 (m:Int) (.slice aa args.length ca) W (by decide) (by decide) (by decide)
 go_enter Tryz.func180,Tryz.ntmps180
 go_upto_region 1 with fail
 generalize w.alloc (.cells #[.int .i64 9,.int .i64 (m:Int)] 33)=W1 at *
 have z1:=hA.size
 obtain⟨⟨t0,t1⟩,_⟩:=zy rx
 go_upto_region 5 with(first
  | (go_at_call 177;refine(qi k1 hn hj).mono ?_;rintro e w' ⟨rfl,hw⟩;obtain rfl:=hw)
  | (go_at_call 190;refine(hM _).mono ?_;rintro e w3 ⟨rfl,hb3⟩))
 have N4:=zB w3 (.cells #[.int .i64 0,.int .i64 0] 98)
 have b14:Below W1.heap.size W1 (w3.alloc (.cells #[.int .i64 0,.int .i64 0] 98)):=((Below.refl W1.heap.size W1).drew.trans hb3).trans (N4.mono hb3.size)
 have k4:=k1.below b14
 have r1:=zz b14 rx
 have uU:Below w.heap.size w (w3.alloc (.cells #[.int .i64 0,.int .i64 0] 98)):=hA.trans (b14.mono z1)
 have XF:=ha.below uU
 have vu:Cm A B w (w3.alloc (.cells #[.int .i64 0,.int .i64 0] 98)):=vK.trans ((k1.cm b14 (by omega)).less (fun q hq=>.inl hq))
 have hB4:B<=(w3.alloc (.cells #[.int .i64 0,.int .i64 0] 98)).heap.size:=by have:=vu.b.size;omega
 clear k1 k vK N4 b14 hb3 hM t0 t1 rx ha uU
 generalize w3.alloc (.cells #[.int .i64 0,.int .i64 0] 98)=W4 at *
 generalize w3.heap.size=bv at *
 obtain⟨⟨t0,t1⟩,_⟩:=zy r1
 have Zo:=(k4.own.c.lt (g:=g) (.inl rfl)).2
 have Yl:bo<W4.heap.size:=k4.box.lt
 have YW:w.heap.size<W4.heap.size:=r1.lt
 have HR:Hid (uv ms h 9 ((m:Nat):Int) args=wU ms h m args):=rfl
 have hC:=zbC k4 hB4 m hm T hT hT4 (.slice aa args.length ca) args XF hat (by have:=d.g.head.few;have:=d.g.head.born;omega) (by have:=d.g.head.born;omega)
 go_wp2_with (go_at_call 192;refine hC.mono ?_;rintro e w5 ⟨rfl,⟨vc5,vs5,V5,k5⟩,X1⟩)
 refine bodyPost_end (results_none rfl _ _ _) rfl ⟨rfl,⟨vc5,vs5,V5,?_⟩,vu.trans (X1.less (fun q hq=>.inl hq))⟩
 rw[HR.out]
 exact k5.less (fun q hq=>.inl hq)
set_option maxRecDepth 100000 in
set_option maxHeartbeats 8000000 in
theorem zcR {A:Nat->Prop} {B:Nat} {w:World} {bo:Nat} {vp vs:Value} {g off zp:Nat} {ms:zM} {h:Hp} {V:Nat->Value × Value} (k:SM A B w bo vp (.slice (some ⟨g,off,none⟩) h.za.length zp) vs ms h V) (hB:B<=w.heap.size) {j:Nat} (a:Int) (va:Value) (args:zL) (ha:zR w va args) (d:jb ms h j 15 a args) :
 Calls Tryz.prog 180 #[.pointer (some ⟨bo,0,none⟩),.agg #[.int .i64 15,.int .i64 a],va] w fun e w'=>e=.returned (.tuple #[])/\(∃vm vs' V',SM A B w' bo vp vm vs' ms (uv ms h 15 a args) V')/\Cm A B w w':=by
 have hn:=d.now
 have hj:=d.lt
 have hst:=(d.g.cl j hj).s
 have hl2:2<=args.length:=by have:=d.takes;rw[yV (by decide)] at this;simp[tk] at this;omega
 have hl0:0<args.length:=by omega
 have hl1:1<args.length:=by omega
 obtain⟨hr0,hr1,hr2⟩:=d.ref (by decide)
 rw[yi hl0] at hr0 hr1 hr2
 obtain⟨i,hi⟩:=Int.eq_ofNat_of_zero_le hr1
 have hin:i<h.za.length:=by omega
 obtain⟨aa,ca,hva⟩:=ha.shape
 subst hva
 have hA:Below w.heap.size w (w.alloc (.cells #[.int .i64 15,.int .i64 a] 33)):=zB _ _
 have rx:=yS w 33 (.int .i64 15) (.int .i64 a)
 have k1:=k.made hA (by simp)
 have vK:=k.cm hA hB
 have hM:=fun W=>qq 15 a (.slice aa args.length ca) W (by decide) (by decide) (by decide)
 go_enter Tryz.func180,Tryz.ntmps180
 go_upto_region 1 with fail
 generalize w.alloc (.cells #[.int .i64 15,.int .i64 a] 33)=W1 at *
 have z1:=hA.size
 obtain⟨⟨t0,t1⟩,_⟩:=zy rx
 go_upto_region 5 with(first
  | (go_at_call 177;refine(qi k1 hn hj).mono ?_;rintro e w' ⟨rfl,hw⟩;obtain rfl:=hw)
  | (go_at_call 190;refine(hM _).mono ?_;rintro e w3 ⟨rfl,hb3⟩))
 have N4:=zB w3 (.cells #[.int .i64 0,.int .i64 0] 98)
 have b14:Below W1.heap.size W1 (w3.alloc (.cells #[.int .i64 0,.int .i64 0] 98)):=((Below.refl W1.heap.size W1).drew.trans hb3).trans (N4.mono hb3.size)
 have k4:=k1.below b14
 have r1:=zz b14 rx
 have uU:Below w.heap.size w (w3.alloc (.cells #[.int .i64 0,.int .i64 0] 98)):=hA.trans (b14.mono z1)
 have XF:=ha.below uU
 have vu:Cm A B w (w3.alloc (.cells #[.int .i64 0,.int .i64 0] 98)):=vK.trans ((k1.cm b14 (by omega)).less (fun q hq=>.inl hq))
 have hB4:B<=(w3.alloc (.cells #[.int .i64 0,.int .i64 0] 98)).heap.size:=by have:=vu.b.size;omega
 clear k1 k vK N4 b14 hb3 hM t0 t1 rx ha uU
 generalize w3.alloc (.cells #[.int .i64 0,.int .i64 0] 98)=W4 at *
 generalize w3.heap.size=bv at *
 obtain⟨⟨t0,t1⟩,_⟩:=zy r1
 have Zo:=(k4.own.c.lt (g:=g) (.inl rfl)).2
 have Yl:bo<W4.heap.size:=k4.box.lt
 have YW:w.heap.size<W4.heap.size:=r1.lt
 obtain⟨_,_,QC,_,hc⟩:=XF
 cases QC
 obtain⟨b,o,hb,p0,p1⟩:=hc 0 hl0
 subst hb
 obtain⟨b',o',hb,q0,q1⟩:=hc 1 hl1
 obtain⟨rfl,rfl⟩:b=b'/\o=o':=by injection hb with e;injection e with e1 e2;exact⟨e1,e2⟩
 simp only[Nat.zero_mul,Nat.add_zero,Nat.one_mul] at p0 p1 q0 q1
 rw[hi] at p1
 have hz0:(0:Int)<(args.length:Int):=by omega
 have hz1:(1:Int)<(args.length:Int):=by omega
 clear hc hb
 obtain⟨l,hw⟩:=d.g.w
 have hS:=fun(W:World) (hW:Below W4.heap.size W4 W)=>zbA (k4.below hW) (by have:=hW.size;omega) i hin args[1].1 args[1].2 l hw (fun s hs=>by have:=(d.g.cl s hs).s;omega)
 have HR:Hid (uv ms h 15 a args=wR h i args[1]):=by
  show wR h (args.getD 0 (0,0)).2.toNat (args.getD 1 (0,0))=_
  rw[yi hl0,yi hl1,hi]
  rfl
 go_wp2_with fail
 go_region_with (go_at_call 195;refine(hS _ (zC.drew)).mono ?_;rintro e w5 ⟨rfl,⟨vc5,vs5,V5,k5⟩,X1⟩)
 all_goals
  go_wp2
  refine bodyPost_end (results_none rfl _ _ _) rfl ⟨rfl,⟨vc5,vs5,V5,?_⟩,vu.trans (((k4.cm zC.drew hB4).trans X1).less (fun q hq=>.inl hq))⟩
  rw[HR.out]
  exact k5.less (fun q hq=>.inl hq)
set_option maxRecDepth 100000 in
set_option maxHeartbeats 8000000 in
theorem zdE {A:Nat->Prop} {B:Nat} {w:World} {bo:Nat} {vp vs:Value} {g off zp:Nat} {ms:zM} {h:Hp} {V:Nat->Value × Value} (k:SM A B w bo vp (.slice (some ⟨g,off,none⟩) h.za.length zp) vs ms h V) (hB:B<=w.heap.size) {j:Nat} (a:Int) (va:Value) (args:zL) (ha:zR w va args) (d:jb ms h j 3 a args) :
 Calls Tryz.prog 180 #[.pointer (some ⟨bo,0,none⟩),.agg #[.int .i64 3,.int .i64 a],va] w fun e w'=>e=.returned (.tuple #[])/\(∃vm vs' V',SM A B w' bo vp vm vs' ms (uv ms h 3 a args) V')/\Cm A B w w':=by
 have hn:=d.now
 have hj:=d.lt
 have hst:=(d.g.cl j hj).s
 have hl0:1<=args.length:=by have:=d.takes;rw[yV (by decide)] at this;simp[tk] at this;omega
 have hx:=d.first 0
 rw[yi hl0] at hx
 obtain⟨m0,hm0,hmc,hop⟩:=d.op
 unfold qR at hop
 rw[if_neg (by decide),if_pos (by decide),zH] at hop
 obtain⟨i,rfl⟩:=Int.eq_ofNat_of_zero_le hop.1
 have hit:i<h.za[j].zg.length:=by
  have:=(d.g.cl j hj).t
  rw[hmc,Int.toNat_natCast,yi hm0] at this
  omega
 clear hop hmc
 obtain⟨aa,ca,hva⟩:=ha.shape
 subst hva
 have hA:Below w.heap.size w (w.alloc (.cells #[.int .i64 3,.int .i64 (i:Int)] 33)):=zB _ _
 have rx:=yS w 33 (.int .i64 3) (.int .i64 (i:Int))
 have k1:=k.made hA (by simp)
 have vK:=k.cm hA hB
 have hM:=fun W=>qq 3 (i:Int) (.slice aa args.length ca) W (by decide) (by decide) (by decide)
 go_enter Tryz.func180,Tryz.ntmps180
 go_upto_region 1 with fail
 generalize w.alloc (.cells #[.int .i64 3,.int .i64 (i:Int)] 33)=W1 at *
 have z1:=hA.size
 obtain⟨⟨t0,t1⟩,_⟩:=zy rx
 go_upto_region 5 with(first
  | (go_at_call 177;refine(qi k1 hn hj).mono ?_;rintro e w' ⟨rfl,hw⟩;obtain rfl:=hw)
  | (go_at_call 190;refine(hM _).mono ?_;rintro e w3 ⟨rfl,hb3⟩))
 have N4:=zB w3 (.cells #[.int .i64 0,.int .i64 0] 98)
 have b14:Below W1.heap.size W1 (w3.alloc (.cells #[.int .i64 0,.int .i64 0] 98)):=((Below.refl W1.heap.size W1).drew.trans hb3).trans (N4.mono hb3.size)
 have k4:=k1.below b14
 have r1:=zz b14 rx
 have uU:Below w.heap.size w (w3.alloc (.cells #[.int .i64 0,.int .i64 0] 98)):=hA.trans (b14.mono z1)
 have XF:=ha.below uU
 have vu:Cm A B w (w3.alloc (.cells #[.int .i64 0,.int .i64 0] 98)):=vK.trans ((k1.cm b14 (by omega)).less (fun q hq=>.inl hq))
 have hB4:B<=(w3.alloc (.cells #[.int .i64 0,.int .i64 0] 98)).heap.size:=by have:=vu.b.size;omega
 clear k1 k vK N4 b14 hb3 hM t0 t1 rx ha uU
 generalize w3.alloc (.cells #[.int .i64 0,.int .i64 0] 98)=W4 at *
 generalize w3.heap.size=bv at *
 obtain⟨⟨t0,t1⟩,_⟩:=zy r1
 have Zo:=(k4.own.c.lt (g:=g) (.inl rfl)).2
 have Yl:bo<W4.heap.size:=k4.box.lt
 have YW:w.heap.size<W4.heap.size:=r1.lt
 obtain⟨_,_,QC,_,hc⟩:=XF
 cases QC
 obtain⟨b,o,hb,p0,p1⟩:=hc 0 hl0
 subst hb
 simp only[Nat.zero_mul,Nat.add_zero] at p0 p1
 have hz0:(0:Int)<(args.length:Int):=by omega
 clear hc
 have HR:Hid (uv ms h 3 ((i:Nat):Int) args={h with za:=h.za.set j {h.za[j] with zg:=h.za[j].zg.set i (args[0].1,args[0].2)}}):=by
  show jw h {qC h with zg:=(qC h).zg.set ((i:Nat):Int).toNat (args.getD 0 (0,0))}=_
  rw[VK hn,xC hn hj,yi hl0,Int.toNat_natCast]
 obtain⟨⟨e0,e1,e2,e3,e4,e5⟩,_⟩:=k4.own.c.cells hj
 have htp:=(k4.own.c.lists j hj).1
 obtain⟨gt,ot,ct,hVt,zbU,hgt⟩:=htp.form (by omega)
 have zbS:=UU k4.own.c hj hVt i hit args[0].1 args[0].2
 rw[hVt] at htp e2
 obtain⟨⟨q0,q1⟩,g0,g1⟩:=htp.cell hit
 have hiz:(i:Int)<(h.za[j].zg.length:Int):=by omega
 obtain⟨k5,X1⟩:=k4.put hj zbS (((Below.refl B W4).setCell (p:=⟨gt,ot+i * 2,none⟩) zbU _).setCell (p:=⟨gt,ot+i * 2+1,none⟩) zbU _)
 clear htp zbS
 generalize args[0].1=X at *
 generalize args[0].2=Y at *
 go_wp2_with fail
 go_region
 all_goals
  go_wp2
  refine bodyPost_end (results_none rfl _ _ _) rfl ⟨rfl,⟨.slice (some ⟨g,off,none⟩) h.za.length zp,vs,Qe V j ((V j).1,(V j).2),?_⟩,vu.trans ((X1.trans (k5.cm zC.drew (by simp[World.setCell];exact hB4))).less (fun q hq=>.inl hq))⟩
  rw[HR.out]
  exact k5.drew.less (fun q hq=>.inl hq)
set_option maxRecDepth 100000 in
set_option maxHeartbeats 8000000 in
theorem zc0 {A:Nat->Prop} {B:Nat} {w:World} {bo:Nat} {vp vs:Value} {g off zp:Nat} {ms:zM} {h:Hp} {V:Nat->Value × Value} (k:SM A B w bo vp (.slice (some ⟨g,off,none⟩) h.za.length zp) vs ms h V) (hB:B<=w.heap.size) {j:Nat} (a:Int) (va:Value) (args:zL) (ha:zR w va args) (d:jb ms h j 8 a args) :
 Calls Tryz.prog 180 #[.pointer (some ⟨bo,0,none⟩),.agg #[.int .i64 8,.int .i64 a],va] w fun e w'=>e=.returned (.tuple #[])/\(∃vm vs' V',SM A B w' bo vp vm vs' ms (uv ms h 8 a args) V')/\Cm A B w w':=by
 have hn:=d.now
 have hj:=d.lt
 have hst:=(d.g.cl j hj).s
 have hl0:1<=args.length:=by have:=d.takes;rw[yV (by decide)] at this;simp[tk] at this;omega
 have hx:=d.first 0
 rw[yi hl0] at hx
 obtain⟨aa,ca,hva⟩:=ha.shape
 subst hva
 have hA:Below w.heap.size w (w.alloc (.cells #[.int .i64 8,.int .i64 a] 33)):=zB _ _
 have rx:=yS w 33 (.int .i64 8) (.int .i64 a)
 have k1:=k.made hA (by simp)
 have vK:=k.cm hA hB
 have hM:=fun W=>qq 8 a (.slice aa args.length ca) W (by decide) (by decide) (by decide)
 go_enter Tryz.func180,Tryz.ntmps180
 go_upto_region 1 with fail
 generalize w.alloc (.cells #[.int .i64 8,.int .i64 a] 33)=W1 at *
 have z1:=hA.size
 obtain⟨⟨t0,t1⟩,_⟩:=zy rx
 go_upto_region 5 with(first
  | (go_at_call 177;refine(qi k1 hn hj).mono ?_;rintro e w' ⟨rfl,hw⟩;obtain rfl:=hw)
  | (go_at_call 190;refine(hM _).mono ?_;rintro e w3 ⟨rfl,hb3⟩))
 have N4:=zB w3 (.cells #[.int .i64 0,.int .i64 0] 98)
 have b14:Below W1.heap.size W1 (w3.alloc (.cells #[.int .i64 0,.int .i64 0] 98)):=((Below.refl W1.heap.size W1).drew.trans hb3).trans (N4.mono hb3.size)
 have k4:=k1.below b14
 have r1:=zz b14 rx
 have uU:Below w.heap.size w (w3.alloc (.cells #[.int .i64 0,.int .i64 0] 98)):=hA.trans (b14.mono z1)
 have XF:=ha.below uU
 have vu:Cm A B w (w3.alloc (.cells #[.int .i64 0,.int .i64 0] 98)):=vK.trans ((k1.cm b14 (by omega)).less (fun q hq=>.inl hq))
 have hB4:B<=(w3.alloc (.cells #[.int .i64 0,.int .i64 0] 98)).heap.size:=by have:=vu.b.size;omega
 clear k1 k vK N4 b14 hb3 hM t0 t1 rx ha uU
 generalize w3.alloc (.cells #[.int .i64 0,.int .i64 0] 98)=W4 at *
 generalize w3.heap.size=bv at *
 obtain⟨⟨t0,t1⟩,_⟩:=zy r1
 have Zo:=(k4.own.c.lt (g:=g) (.inl rfl)).2
 have Yl:bo<W4.heap.size:=k4.box.lt
 have YW:w.heap.size<W4.heap.size:=r1.lt
 obtain⟨_,_,QC,_,hc⟩:=XF
 cases QC
 obtain⟨b,o,hb,p0,p1⟩:=hc 0 hl0
 subst hb
 simp only[Nat.zero_mul,Nat.add_zero] at p0 p1
 have hz0:(0:Int)<(args.length:Int):=by omega
 clear hc
 have Uq:jw h {qC h with pc:=a}={h with za:=h.za.set j {h.za[j] with pc:=a}}:=by rw[VK hn,xC hn hj]
 have hdo:uv ms h 8 a args=if args[0].1=0\/args[0]=(1,0) then {h with za:=h.za.set j {h.za[j] with pc:=a}} else h:=by
  show(if(args.getD 0 (0,0)).1=0\/args.getD 0 (0,0)=(1,0) then jw h {qC h with pc:=a} else h)=_
  rw[Uq,yi hl0]
 obtain⟨⟨e0,e1,e2,e3,e4,e5⟩,fz⟩:=k4.own.c.cells hj
 have f1:=fz 1 (by decide)
 have hgB:=(k4.own.c.lt (g:=g) (.inl rfl)).1
 have HK:Hid (∀W:World,Below W4.heap.size W4 W->(W.cell? ⟨g,off+j * 6+1,none⟩=some (.int .i64 h.za[j].pc)/\W.frozen? ⟨g,off+j * 6+1,none⟩=false/\W.cell? ⟨w.heap.size,1,none⟩=some (.int .i64 a))/\(∃V',SM (fun q=>A q\/q=w.heap.size) B (W.setCell ⟨g,off+j * 6+1,none⟩ (.int .i64 a)) bo vp (.slice (some ⟨g,off,none⟩) h.za.length zp) vs ms {h with za:=h.za.set j {h.za[j] with pc:=a}} V')/\Cm (fun q=>A q\/q=w.heap.size) B W4 (W.setCell ⟨g,off+j * 6+1,none⟩ (.int .i64 a))):=fun W hW=>by
  have kW:=k4.below hW
  obtain⟨⟨_,y1,_⟩,fy⟩:=kW.own.c.cells hj
  obtain⟨k5,X1⟩:=kW.put hj (uL kW.own.c hj 1 (.int .i64 a) {h.za[j] with pc:=a} (by decide) rfl rfl rfl rfl rfl rfl) ((Below.refl B W).setCell (p:=⟨g,off+j * 6+1,none⟩) hgB _)
  exact⟨⟨y1,fy 1 (by decide),zc hW t1⟩,⟨_,k5⟩,(k4.cm hW hB4).trans X1⟩
 have HD:Hid (uv ms h 8 a args=if args[0].1=0\/args[0]=(1,0) then {h with za:=h.za.set j {h.za[j] with pc:=a}} else h):=hdo
 clear fz hdo Uq
 generalize args[0]=P at *
 obtain⟨X,Y⟩:=P
 simp only[] at p0 p1 HD
 by_cases hX0:X=0
 ·subst hX0
  have HR:Hid (uv ms h 8 a args={h with za:=h.za.set j {h.za[j] with pc:=a}}):=by show _=_;rw[HD.out,if_pos (.inl rfl)]
  have hdn:∀n,Below W4.heap.size W4 (W4.drewN n):=fun n=>uT zC n
  go_wp2_with fail
  go_quiet (fail)
  obtain⟨⟨y1,g1,y2⟩,⟨V5,kV⟩,cV⟩:=HK.out (W4.drewN nq) (hdn nq)
  go_wp2
  refine bodyPost_end (results_none rfl _ _ _) rfl ⟨rfl,⟨.slice (some ⟨g,off,none⟩) h.za.length zp,vs,V5,?_⟩,vu.trans (cV.less (fun q hq=>.inl hq))⟩
  rw[HR.out]
  exact kV.less (fun q hq=>.inl hq)
 have hX0':(X == 0)=false:=zG.2 hX0
 by_cases hXY:X=1/\Y=0
 ·obtain⟨rfl,rfl⟩:=hXY
  have HR:Hid (uv ms h 8 a args={h with za:=h.za.set j {h.za[j] with pc:=a}}):=by show _=_;rw[HD.out,if_pos (.inr rfl)]
  go_wp2_with fail
  go_region_with (go_at_call 191;refine(kJ _ _).mono ?_;rintro e w5 ⟨rfl,hb5⟩;have p05:=zc hb5 (show W4.drew.cell? _=_ from p0);have p15:=zc hb5 (show W4.drew.cell? _=_ from p1))
  all_goals
   obtain⟨⟨y1,g1,y2⟩,⟨V5,kV⟩,cV⟩:=HK.out w5 ((Below.refl W4.heap.size W4).drew.trans hb5)
   go_wp2
   refine bodyPost_end (results_none rfl _ _ _) rfl ⟨rfl,⟨.slice (some ⟨g,off,none⟩) h.za.length zp,vs,V5,?_⟩,vu.trans (cV.less (fun q hq=>.inl hq))⟩
   rw[HR.out]
   exact kV.less (fun q hq=>.inl hq)
 ·have HR:Hid (uv ms h 8 a args=h):=by show _=_;rw[HD.out,if_neg (fun e=>by rcases e with e | e;exact hX0 e;injection e with e1 e2;exact hXY ⟨e1,e2⟩)]
  by_cases hX1:X=1
  ·subst hX1
   have hY:(Y == 0)=false:=zG.2 (fun e=>hXY ⟨rfl,e⟩)
   clear hXY hX0
   go_wp2_with fail
   go_region_with (go_at_call 191;refine(kJ _ _).mono ?_;rintro e w5 ⟨rfl,hb5⟩;have p05:=zc hb5 (show W4.drew.cell? _=_ from p0);have p15:=zc hb5 (show W4.drew.cell? _=_ from p1))
   all_goals
    have hbw:Below W4.heap.size W4 w5:=(Below.refl W4.heap.size W4).drew.trans hb5
    go_wp2
    refine bodyPost_end (results_none rfl _ _ _) rfl ⟨rfl,⟨.slice (some ⟨g,off,none⟩) h.za.length zp,vs,V,?_⟩,vu.trans ((k4.cm hbw hB4).less (fun q hq=>.inl hq))⟩
    rw[HR.out]
    exact(k4.below hbw).less (fun q hq=>.inl hq)
  ·have hX1':(X == 1)=false:=zG.2 hX1
   clear hXY hX0 hX1
   go_wp2_with fail
   go_region_with (go_at_call 191;refine(kJ _ _).mono ?_;rintro e w5 ⟨rfl,hb5⟩;have p05:=zc hb5 (show W4.drew.cell? _=_ from p0);have p15:=zc hb5 (show W4.drew.cell? _=_ from p1))
   all_goals
    have hbw:Below W4.heap.size W4 w5:=(Below.refl W4.heap.size W4).drew.trans hb5
    go_wp2
    refine bodyPost_end (results_none rfl _ _ _) rfl ⟨rfl,⟨.slice (some ⟨g,off,none⟩) h.za.length zp,vs,V,?_⟩,vu.trans ((k4.cm hbw hB4).less (fun q hq=>.inl hq))⟩
    rw[HR.out]
    exact(k4.below hbw).less (fun q hq=>.inl hq)
set_option maxRecDepth 100000 in
set_option maxHeartbeats 8000000 in
theorem zcT {A:Nat->Prop} {B:Nat} {w:World} {bo:Nat} {vp vs:Value} {g off zp:Nat} {ms:zM} {h:Hp} {V:Nat->Value × Value} (k:SM A B w bo vp (.slice (some ⟨g,off,none⟩) h.za.length zp) vs ms h V) (hB:B<=w.heap.size) {j:Nat} (a:Int) (va:Value) (args:zL) (ha:zR w va args) (d:jb ms h j 17 a args) :
 Calls Tryz.prog 180 #[.pointer (some ⟨bo,0,none⟩),.agg #[.int .i64 17,.int .i64 a],va] w fun e w'=>e=.returned (.tuple #[])/\(∃vm vs' V',SM A B w' bo vp vm vs' ms (uv ms h 17 a args) V')/\Cm A B w w':=by
 have hn:=d.now
 have hj:=d.lt
 have hst:=(d.g.cl j hj).s
 have hl0:0<args.length:=by have:=d.takes;rw[yV (by decide)] at this;simp[tk] at this;omega
 obtain⟨hr0,hr1,hr2⟩:=d.ref (by decide)
 rw[yi hl0] at hr0 hr1 hr2
 obtain⟨i,hi⟩:=Int.eq_ofNat_of_zero_le hr1
 have hin:i<h.za.length:=by omega
 have ha0:0<=a:=by
  obtain⟨m0,hm0,_,hop⟩:=d.op
  simp[qR,yO] at hop
  omega
 obtain⟨aa,ca,hva⟩:=ha.shape
 subst hva
 have hA:Below w.heap.size w (w.alloc (.cells #[.int .i64 17,.int .i64 a] 33)):=zB _ _
 have rx:=yS w 33 (.int .i64 17) (.int .i64 a)
 have k1:=k.made hA (by simp)
 have vK:=k.cm hA hB
 have hM:=fun W=>qq 17 a (.slice aa args.length ca) W (by decide) (by decide) (by decide)
 go_enter Tryz.func180,Tryz.ntmps180
 go_upto_region 1 with fail
 generalize w.alloc (.cells #[.int .i64 17,.int .i64 a] 33)=W1 at *
 have z1:=hA.size
 obtain⟨⟨t0,t1⟩,_⟩:=zy rx
 go_upto_region 5 with(first
  | (go_at_call 177;refine(qi k1 hn hj).mono ?_;rintro e w' ⟨rfl,hw⟩;obtain rfl:=hw)
  | (go_at_call 190;refine(hM _).mono ?_;rintro e w3 ⟨rfl,hb3⟩))
 have N4:=zB w3 (.cells #[.int .i64 0,.int .i64 0] 98)
 have b14:Below W1.heap.size W1 (w3.alloc (.cells #[.int .i64 0,.int .i64 0] 98)):=((Below.refl W1.heap.size W1).drew.trans hb3).trans (N4.mono hb3.size)
 have k4:=k1.below b14
 have r1:=zz b14 rx
 have uU:Below w.heap.size w (w3.alloc (.cells #[.int .i64 0,.int .i64 0] 98)):=hA.trans (b14.mono z1)
 have XF:=ha.below uU
 have vu:Cm A B w (w3.alloc (.cells #[.int .i64 0,.int .i64 0] 98)):=vK.trans ((k1.cm b14 (by omega)).less (fun q hq=>.inl hq))
 have hB4:B<=(w3.alloc (.cells #[.int .i64 0,.int .i64 0] 98)).heap.size:=by have:=vu.b.size;omega
 clear k1 k vK N4 b14 hb3 hM t0 t1 rx ha uU
 generalize w3.alloc (.cells #[.int .i64 0,.int .i64 0] 98)=W4 at *
 generalize w3.heap.size=bv at *
 obtain⟨⟨t0,t1⟩,_⟩:=zy r1
 have Zo:=(k4.own.c.lt (g:=g) (.inl rfl)).2
 have Yl:bo<W4.heap.size:=k4.box.lt
 have YW:w.heap.size<W4.heap.size:=r1.lt
 obtain⟨_,_,QC,_,hc⟩:=XF
 cases QC
 obtain⟨b,o,hb,p0,p1⟩:=hc 0 hl0
 subst hb
 simp only[Nat.zero_mul,Nat.add_zero] at p0 p1
 rw[hi] at p1
 have hz0:(0:Int)<(args.length:Int):=by omega
 clear hc
 have HR:Hid (uv ms h 17 a args={h with za:=h.za.set j {h.za[j] with ze:=h.za[j].ze ++ [((qT h 17 a i).1,(qT h 17 a i).2)]}}):=by
  show xN h (qT h 17 a (args.getD 0 (0,0)).2.toNat)=_
  rw[vi hn hj,yi hl0,hi]
  rfl
 obtain⟨sa,sc,ZT,_⟩:=(k4.own.c.lists j hj).2.slice
 obtain⟨⟨e0,e1,e2,e3,e4,e5⟩,_⟩:=k4.own.c.cells hj
 rw[ZT] at e3
 have HPT:=kg k4 hB4 hj ZT
 have hL:=Y8 k4.drew 17 a i hin (by decide) ha0
 generalize (qT h 17 a i).1=X at *
 generalize (qT h 17 a i).2=Y at *
 have H5:Hid (∀w5:World,Below W4.drew.heap.size W4.drew w5->(w5.cell? ⟨g,off+j * 6+3,none⟩=some (.slice sa h.za[j].ze.length sc)/\g<w5.heap.size/\B<=w5.heap.size)/\zj B (w5.alloc (.cells #[.int .i64 X,.int .i64 Y] 98)) (.slice sa h.za[j].ze.length sc) h.za[j].ze/\(∀v' w',zj B w' v' (h.za[j].ze ++ [(X,Y)])->(w5.alloc (.cells #[.int .i64 X,.int .i64 Y] 98)).grownBy w' (Value.slice sa h.za[j].ze.length sc).ownBlock->(v'.ownBlock=(Value.slice sa h.za[j].ze.length sc).ownBlock\/v'.ownBlock=some (w5.alloc (.cells #[.int .i64 X,.int .i64 Y] 98)).heap.size) ->
  (w'.cell? ⟨g,off+j * 6+3,none⟩=some (.slice sa h.za[j].ze.length sc)/\w'.frozen? ⟨g,off+j * 6+3,none⟩=false) /\
  (∃V',SM (fun q=>A q\/q=w.heap.size) B (w'.setCell ⟨g,off+j * 6+3,none⟩ v') bo vp (.slice (some ⟨g,off,none⟩) h.za.length zp) vs ms {h with za:=h.za.set j {h.za[j] with ze:=h.za[j].ze ++ [(X,Y)]}} V')/\Cm (fun q=>A q\/q=w.heap.size) B W4 (w'.setCell ⟨g,off+j * 6+3,none⟩ v'))):=fun w5 hb5=>by
  have wC:Below W4.heap.size W4 w5:=(Below.refl W4.heap.size W4).drew.trans hb5
  have hz5:=wC.size
  have hX:Below W4.heap.size W4 (w5.alloc (.cells #[.int .i64 X,.int .i64 Y] 98)):=wC.alloc hz5 _
  obtain⟨zx,hend⟩:=HPT _ hX (X,Y)
  exact⟨⟨zc wC e3,by omega,by omega⟩,zx,hend⟩
 clear HPT
 go_wp2_with fail
 go_region_law (first
  | (refine xT _ (by rfl) _ _ (by rfl) B _ _ h.za[j].ze [(X,Y)] (by rfl) (by rfl) hown5 (uh w5 X Y _ _) (by simp;omega) (by simp;omega) ?_;intro v' w' zS hg hbk;obtain⟨a',c',hv',_⟩:=zS.slice;rw[List.length_append] at hv';subst hv';obtain⟨⟨z4,f4⟩,hSM⟩:=HE.out _ w' zS hg hbk)
  | (go_simp;go_at_call 194;refine hL.mono ?_;rintro e w5 ⟨rfl,hb5⟩;obtain⟨⟨w53,w5g,w5B⟩,hown5,hE5⟩:=H5.out w5 hb5;have HE:Hid _:=hE5;clear hE5 hb5))
 all_goals
  obtain⟨⟨V5,kV⟩,cV⟩:=hSM
  go_wp2
  refine bodyPost_end (results_none rfl _ _ _) rfl ⟨rfl,⟨.slice (some ⟨g,off,none⟩) h.za.length zp,vs,V5,?_⟩,vu.trans (cV.less (fun q hq=>.inl hq))⟩
  rw[HR.out]
  exact kV.less (fun q hq=>.inl hq)
set_option maxRecDepth 100000 in
set_option maxHeartbeats 8000000 in
theorem zbE {A:Nat->Prop} {B:Nat} {w:World} {bo:Nat} {vp vs:Value} {g off zp:Nat} {ms:zM} {h:Hp} {V:Nat->Value × Value} (k:SM A B w bo vp (.slice (some ⟨g,off,none⟩) h.za.length zp) vs ms h V) (hB:B<=w.heap.size) {j:Nat} (a:Int) (va:Value) (args:zL) (ha:zR w va args) (d:jb ms h j 18 a args) :
 Calls Tryz.prog 180 #[.pointer (some ⟨bo,0,none⟩),.agg #[.int .i64 18,.int .i64 a],va] w fun e w'=>e=.returned (.tuple #[])/\(∃vm vs' V',SM A B w' bo vp vm vs' ms (uv ms h 18 a args) V')/\Cm A B w w':=by
 have hn:=d.now
 have hj:=d.lt
 have hst:=(d.g.cl j hj).s
 have hl0:0<args.length:=by have:=d.takes;rw[yV (by decide)] at this;simp[tk] at this;omega
 obtain⟨hr0,hr1,hr2⟩:=d.ref (by decide)
 rw[yi hl0] at hr0 hr1 hr2
 obtain⟨i,hi⟩:=Int.eq_ofNat_of_zero_le hr1
 have hin:i<h.za.length:=by omega
 have ha0:0<=a:=by
  obtain⟨m0,hm0,_,hop⟩:=d.op
  simp[qR,yO] at hop
  omega
 obtain⟨aa,ca,hva⟩:=ha.shape
 subst hva
 have hA:Below w.heap.size w (w.alloc (.cells #[.int .i64 18,.int .i64 a] 33)):=zB _ _
 have rx:=yS w 33 (.int .i64 18) (.int .i64 a)
 have k1:=k.made hA (by simp)
 have vK:=k.cm hA hB
 have hM:=fun W=>qq 18 a (.slice aa args.length ca) W (by decide) (by decide) (by decide)
 go_enter Tryz.func180,Tryz.ntmps180
 go_upto_region 1 with fail
 generalize w.alloc (.cells #[.int .i64 18,.int .i64 a] 33)=W1 at *
 have z1:=hA.size
 obtain⟨⟨t0,t1⟩,_⟩:=zy rx
 go_upto_region 5 with(first
  | (go_at_call 177;refine(qi k1 hn hj).mono ?_;rintro e w' ⟨rfl,hw⟩;obtain rfl:=hw)
  | (go_at_call 190;refine(hM _).mono ?_;rintro e w3 ⟨rfl,hb3⟩))
 have N4:=zB w3 (.cells #[.int .i64 0,.int .i64 0] 98)
 have b14:Below W1.heap.size W1 (w3.alloc (.cells #[.int .i64 0,.int .i64 0] 98)):=((Below.refl W1.heap.size W1).drew.trans hb3).trans (N4.mono hb3.size)
 have k4:=k1.below b14
 have r1:=zz b14 rx
 have uU:Below w.heap.size w (w3.alloc (.cells #[.int .i64 0,.int .i64 0] 98)):=hA.trans (b14.mono z1)
 have XF:=ha.below uU
 have vu:Cm A B w (w3.alloc (.cells #[.int .i64 0,.int .i64 0] 98)):=vK.trans ((k1.cm b14 (by omega)).less (fun q hq=>.inl hq))
 have hB4:B<=(w3.alloc (.cells #[.int .i64 0,.int .i64 0] 98)).heap.size:=by have:=vu.b.size;omega
 clear k1 k vK N4 b14 hb3 hM t0 t1 rx ha uU
 generalize w3.alloc (.cells #[.int .i64 0,.int .i64 0] 98)=W4 at *
 generalize w3.heap.size=bv at *
 obtain⟨⟨t0,t1⟩,_⟩:=zy r1
 have Zo:=(k4.own.c.lt (g:=g) (.inl rfl)).2
 have Yl:bo<W4.heap.size:=k4.box.lt
 have YW:w.heap.size<W4.heap.size:=r1.lt
 obtain⟨_,_,QC,_,hc⟩:=XF
 cases QC
 obtain⟨b,o,hb,p0,p1⟩:=hc 0 hl0
 subst hb
 simp only[Nat.zero_mul,Nat.add_zero] at p0 p1
 rw[hi] at p1
 have hz0:(0:Int)<(args.length:Int):=by omega
 clear hc
 have HR:Hid (uv ms h 18 a args={h with za:=h.za.set j {h.za[j] with ze:=h.za[j].ze ++ [((qT h 18 a i).1,(qT h 18 a i).2)]}}):=by
  show xN h (qT h 18 a (args.getD 0 (0,0)).2.toNat)=_
  rw[vi hn hj,yi hl0,hi]
  rfl
 obtain⟨sa,sc,ZT,_⟩:=(k4.own.c.lists j hj).2.slice
 obtain⟨⟨e0,e1,e2,e3,e4,e5⟩,_⟩:=k4.own.c.cells hj
 rw[ZT] at e3
 have HPT:=kg k4 hB4 hj ZT
 have hL:=Y8 k4.drew 18 a i hin (by decide) ha0
 generalize (qT h 18 a i).1=X at *
 generalize (qT h 18 a i).2=Y at *
 have H5:Hid (∀w5:World,Below W4.drew.heap.size W4.drew w5->(w5.cell? ⟨g,off+j * 6+3,none⟩=some (.slice sa h.za[j].ze.length sc)/\g<w5.heap.size/\B<=w5.heap.size)/\zj B (w5.alloc (.cells #[.int .i64 X,.int .i64 Y] 98)) (.slice sa h.za[j].ze.length sc) h.za[j].ze/\(∀v' w',zj B w' v' (h.za[j].ze ++ [(X,Y)])->(w5.alloc (.cells #[.int .i64 X,.int .i64 Y] 98)).grownBy w' (Value.slice sa h.za[j].ze.length sc).ownBlock->(v'.ownBlock=(Value.slice sa h.za[j].ze.length sc).ownBlock\/v'.ownBlock=some (w5.alloc (.cells #[.int .i64 X,.int .i64 Y] 98)).heap.size) ->
  (w'.cell? ⟨g,off+j * 6+3,none⟩=some (.slice sa h.za[j].ze.length sc)/\w'.frozen? ⟨g,off+j * 6+3,none⟩=false) /\
  (∃V',SM (fun q=>A q\/q=w.heap.size) B (w'.setCell ⟨g,off+j * 6+3,none⟩ v') bo vp (.slice (some ⟨g,off,none⟩) h.za.length zp) vs ms {h with za:=h.za.set j {h.za[j] with ze:=h.za[j].ze ++ [(X,Y)]}} V')/\Cm (fun q=>A q\/q=w.heap.size) B W4 (w'.setCell ⟨g,off+j * 6+3,none⟩ v'))):=fun w5 hb5=>by
  have wC:Below W4.heap.size W4 w5:=(Below.refl W4.heap.size W4).drew.trans hb5
  have hz5:=wC.size
  have hX:Below W4.heap.size W4 (w5.alloc (.cells #[.int .i64 X,.int .i64 Y] 98)):=wC.alloc hz5 _
  obtain⟨zx,hend⟩:=HPT _ hX (X,Y)
  exact⟨⟨zc wC e3,by omega,by omega⟩,zx,hend⟩
 clear HPT
 go_wp2_with fail
 go_region_law (first
  | (refine xT _ (by rfl) _ _ (by rfl) B _ _ h.za[j].ze [(X,Y)] (by rfl) (by rfl) hown5 (uh w5 X Y _ _) (by simp;omega) (by simp;omega) ?_;intro v' w' zS hg hbk;obtain⟨a',c',hv',_⟩:=zS.slice;rw[List.length_append] at hv';subst hv';obtain⟨⟨z4,f4⟩,hSM⟩:=HE.out _ w' zS hg hbk)
  | (go_simp;go_at_call 194;refine hL.mono ?_;rintro e w5 ⟨rfl,hb5⟩;obtain⟨⟨w53,w5g,w5B⟩,hown5,hE5⟩:=H5.out w5 hb5;have HE:Hid _:=hE5;clear hE5 hb5))
 all_goals
  obtain⟨⟨V5,kV⟩,cV⟩:=hSM
  go_wp2
  refine bodyPost_end (results_none rfl _ _ _) rfl ⟨rfl,⟨.slice (some ⟨g,off,none⟩) h.za.length zp,vs,V5,?_⟩,vu.trans (cV.less (fun q hq=>.inl hq))⟩
  rw[HR.out]
  exact kV.less (fun q hq=>.inl hq)
end Go.Proofs.YtjbgpcileapogaaGreat

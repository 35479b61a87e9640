/-
  What is seen of a heap, by the program: calls in the order in which they are come to (come, comeToVals, numberOf).
-/
import Derived.Test.YtbjgjjkgfnfejaaGreatDoorMOk2
namespace Go.Proofs.YtbjgjjkgfnfejaaGreatDoor
set_option maxHeartbeats 4000000
set_option maxRecDepth 100000
open Go.RowKit
def Kn (n:Nat) (ps:List Nat):List Int:=(List.range n).map fun(p:Nat)=>yK ps p
theorem uT (n:Nat) (ps:List Nat):(Kn n ps).length=n:=by simp[Kn]
theorem XB (n:Nat) (ps:List Nat) (p:Nat) (h:p<(Kn n ps).length):(Kn n ps)[p]=yK ps p:=by simp[Kn]
theorem zel {n:Nat} {ps:List Nat} {p:Nat} (hp:p<n) (h:yK ps p=-1):(Kn n ps).set p (ps.length:Int)=Kn n (ps ++ [p]):=by
 refine List.ext_getElem (by simp[Kn]) fun i h1 h2=>?_
 rw[XB,Vj h]
 by_cases e:i=p
 ·subst e;simp
 ·rw[List.getElem_set_ne (Ne.symm e),XB,if_neg (by omega)]
def UZ (x0 x1:Value):Nat->Value:=fun i=>if i=0 then x0 else x1
theorem kH (w:World) (t:TypeId) (x0 x1:Value):(w.alloc (.cells #[x0,x1] t)).rowIs w.heap.size t 2 (UZ x0 x1) :=
 ⟨_,Go.Deep.blk_alloc_new _ _,rfl,fun i hi=>by match i,hi with | 0,_=>rfl | 1,_=>rfl⟩
theorem yz {w:World} {g:Nat} {t:TypeId} {x0 x1:Value} (h:w.rowIs g t 2 (UZ x0 x1)):(w.cell? (zH g 0)=some x0/\w.cell? (zH g 1)=some x1)/\(w.frozen? (zH g 0)=false/\w.frozen? (zH g 1)=false) :=
 ⟨⟨h.cell (i:=0) (by decide),h.cell (i:=1) (by decide)⟩,h.frozen 0,h.frozen 1⟩
theorem ZO {w:World} {g:Nat} {t:TypeId} {x0 x1:Value} (h:w.rowIs g t 2 (UZ x0 x1)) (v:Value):(w.setCell (zH g 0) v).rowIs g t 2 (UZ v x1) :=
 (h.set 0 v).congr fun i hi=>by match i,hi with | 0,_=>rfl | 1,_=>rfl
structure XR (A:Nat->Prop) (B bo n:Nat) (ps:List Nat) (vp vn:Value) (w:World):Prop where
 le:B<=bo
 box:w.rowIs bo 108 2 (UZ vp vn)
 p:zL B w vp (Kg ps)
 n:zL B w vn (Kn n ps)
 pb:vp.ownBlock≠some bo
 nb:vn.ownBlock≠some bo
 pn:∀g,vp.ownBlock=some g->vn.ownBlock≠some g
 av:∀g,A g->g≠bo/\g<w.heap.size/\vp.ownBlock≠some g/\vn.ownBlock≠some g
structure Came (A:Nat->Prop) (B:Nat) (w w':World):Prop where
 b:Below B w w'
 a:∀g,A g->w'.heap[g]?=w.heap[g]?
theorem Came.refl (A:Nat->Prop) (B:Nat) (w:World):Came A B w w:=⟨zS,fun _ _=>rfl⟩
theorem Came.trans {A:Nat->Prop} {B:Nat} {a b c:World} (h:Came A B a b) (k:Came A B b c):Came A B a c :=
 ⟨h.b.trans k.b,fun g hg=>(k.a g hg).trans (h.a g hg)⟩
theorem KG (A:Nat->Prop) (B bo n:Nat) (ps:List Nat) (vp vn:Value) (p:Int) (w:World) (h:XR A B bo n ps vp vn w) (hps:xV n ps) (hn:n<=1000) :
 Calls Tryz.prog 100 #[.pointer (some ⟨bo,0,none⟩),.int .i64 p] w fun e w'=>e=.returned (.tuple #[])/\(∃vp',XR A B bo n (qn n ps p) vp' vn w')/\Came A B w w':=by
 obtain⟨ap,cp,qz,_⟩:=h.p.slice
 obtain⟨an,cn,hvn,_⟩:=h.n.slice
 rw[uo] at qz
 rw[uT] at hvn
 subst qz hvn
 have hpl:=hps.len
 obtain⟨⟨x0,x1⟩,f0,f1⟩:=yz h.box
 by_cases hI:qy p 0 ((n:Int) - 1)=false
 ·have hE:Hid (qn n ps p=ps):=XW (fun e=>by have:qy p 0 ((n:Int) - 1)=true:=zx.2 (by omega);rw[hI] at this;cases this)
  go_enter Tryz.func100,Tryz.ntmps100
  go_wp2_with (go_at_call 58;refine(zZ _ _ _).mono ?_;rintro e w' ⟨rfl,hw⟩;obtain rfl:=hw.symm;rw[hI])
  go_end0
  exact⟨rfl,⟨_,by rw[hE.out];exact h⟩,Came.refl _ _ _⟩
 have hI':qy p 0 ((n:Int) - 1)=true:=by simpa using hI
 clear hI
 have hI2:=zx.1 hI'
 obtain⟨k,rfl⟩:=Int.eq_ofNat_of_zero_le hI2.1
 have hk:k<n:=by omega
 have v7:(k:Int)<(n:Int):=by omega
 obtain⟨gn,on,c1,e1,hgB,hgn⟩:=h.n.form (by rw[uT];omega)
 obtain rfl:an=some ⟨gn,on,none⟩:=by injection e1
 clear e1
 obtain⟨d1,fd⟩:=h.n.cell (i:=k) (by rw[uT];exact hk)
 rw[XB] at d1
 by_cases hN:yK ps k=-1
 ·rw[hN] at d1
  have hE:Hid (qn n ps k=ps ++ [k]):=Qj hk hN
  have hset:=h.n.set k (by rw[uT];exact hk) (ps.length:Int)
  rw[zel hk hN] at hset
  have hpo:=h.pn
  have hbn:bo≠gn:=fun e=>h.nb (by rw[e];rfl)
  have HPB:Hid ((Value.slice ap ps.length cp).ownBlock≠some bo):=h.pb
  have hle:=h.le
  have hp2:=h.p.set_other (p:=zH gn (on+k)) (zI (ps.length:Int)) (fun e=>hpo _ e rfl)
  have zdN:(w.setCell (zH gn (on+k)) (zI (ps.length:Int))).rowIs bo 108 2 (UZ (.slice ap ps.length cp) (zK gn on n cn)):=h.box.of_block (Below.heap_setCell _ _ _ _ hbn)
  have HAV:Hid (∀g,A g->g≠bo/\g<w.heap.size/\(Value.slice ap ps.length cp).ownBlock≠some g/\(zK gn on n cn).ownBlock≠some g):=h.av
  have C2:Came A B w (w.setCell (zH gn (on+k)) (zI (ps.length:Int))):=⟨(Below.refl B w).setCell (p:=zH gn (on+k)) hgB _,fun g hg=>Below.heap_setCell _ _ _ _ (fun e=>(h.av g hg).2.2.2 (by rw[e];rfl))⟩
  have vJ:(w.setCell (zH gn (on+k)) (zI (ps.length:Int))).heap.size=w.heap.size:=by simp[World.setCell]
  go_enter Tryz.func100,Tryz.ntmps100
  go_upto_region 1 with(go_at_call 58;refine(zZ _ _ _).mono ?_;rintro e w' ⟨rfl,hw⟩;obtain rfl:=hw.symm;rw[hI'])
  obtain⟨⟨y0,y1⟩,g0,g1⟩:=yz zdN
  go_region_held3 (fun w'=>w'.cell? (zH bo 0)=some (.slice ap ps.length cp)/\w'.cell? (zH bo 1)=some (.slice (some ⟨gn,on,none⟩) n cn))
   (first | exact⟨y0,y1⟩ | exact⟨x0,x1⟩ | go_keep)
   (fail)
  have zgH:=hset.below zS.drew
  have hp3:=hp2.below zS.drew
  have hbx3:=yU zS.drew zdN
  have C3:Came A B w (w.setCell (zH gn (on+k)) (zI (ps.length:Int))).drew:=⟨C2.b.drew,C2.a⟩
  have hz3:(w.setCell (zH gn (on+k)) (zI (ps.length:Int))).drew.heap.size≥w.heap.size:=Nat.le_of_eq vJ.symm
  have HBO:Hid (bo<w.heap.size):=h.box.lt
  clear hset hp2 zdN C2 vJ y0 y1 g0 g1 x0 x1 f0 f1 d1 fd h
  generalize (w.setCell (zH gn (on+k)) (zI (ps.length:Int))).drew=w3 at *
  obtain⟨⟨x0,x1⟩,f0,f1⟩:=yz hbx3
  have Kv:=HBO.out
  go_wp2_with (at_builtin;refine zew _ (by rfl) _ _ (by rfl) B _ (Kg ps) (by rfl) hp3 (k:Int) _ _ rfl (by rfl) (by rw[uo];omega) (by omega) ?_;intro g4 o4 c4 w4 qd uy Za hlt4;have hbx4:=hbx3.of_block (uy.block bo hbx3.lt (fun e=>HPB.out e.symm));obtain⟨⟨q0,q1⟩,m0,m1⟩:=yz hbx4)
  have hz4:=uy.size
  have hbg:g4≠bo:=fun e=>by
   rcases Za with h4 | h4
   ·exact HPB.out (by rw[h4,e])
   ·omega
  rw[zd4,<-hE.out] at qd
  have zgI:=zgH.kept uy.size fun q e=>uy.block q (zgH.lt q e).2 (fun e2=>hpo q e2.symm e)
  refine bodyPost_end (results_none rfl _ _ _) rfl ⟨rfl,⟨_,⟨hle,ZO hbx4 _,qd.set_other _ (fun e=>by simp[Value.ownBlock] at e;omega),?_,fun e=>by simp[Value.ownBlock] at e;omega,fun e=>by simp[Value.ownBlock] at e;omega,fun q e e2=>?_,fun q hq=>?_⟩⟩,⟨?_,fun q hq=>?_⟩⟩
  ·rw[<-hE.out] at zgI
   exact zgI.set_other _ (fun e=>by simp[Value.ownBlock] at e;omega)
  ·simp[Value.ownBlock] at e e2
   subst e e2
   rcases Za with h4 | h4
   ·exact hpo _ h4 rfl
   ·omega
  ·obtain⟨a1,a2,a3,a4⟩:=HAV.out q hq
   refine⟨a1,by simp[World.setCell];omega,fun e=>?_,a4⟩
   simp[Value.ownBlock] at e
   subst e
   rcases Za with h4 | h4
   ·exact a3 h4
   ·omega
  ·exact(C3.b.grown uy (by omega) (fun q e=>(hp3.lt q e).1)).setCell (p:=zH bo 0) hle _
  ·obtain⟨a1,a2,a3,a4⟩:=HAV.out q hq
   rw[Below.heap_setCell _ _ _ _ a1,uy.block q (by omega) (fun e=>a3 e.symm)]
   exact C3.a q hq
 ·have hE:Hid (qn n ps k=ps):=Xj hN
  go_enter Tryz.func100,Tryz.ntmps100
  go_wp2_with (go_at_call 58;refine(zZ _ _ _).mono ?_;rintro e w' ⟨rfl,hw⟩;obtain rfl:=hw.symm;rw[hI'])
  go_end0
  exact⟨rfl,⟨_,by rw[hE.out];exact h⟩,Came.refl _ _ _⟩
theorem XR.alloc {A:Nat->Prop} {B bo n:Nat} {ps:List Nat} {vp vn:Value} {w:World} (h:XR A B bo n ps vp vn w) (o:Obj):XR A B bo n ps vp vn (w.alloc o) :=
 have hb:=zR w o
 ⟨h.le,yU hb h.box,h.p.below hb,h.n.below hb,h.pb,h.nb,h.pn,fun g hg=>⟨(h.av g hg).1,by have:=(h.av g hg).2.1;simp;omega,(h.av g hg).2.2⟩⟩
theorem Came.alloc {A:Nat->Prop} {B:Nat} {w w':World} (h:Came A B w w') (hb:B<=w'.heap.size) (hA:∀g,A g->g<w'.heap.size) (o:Obj):Came A B w (w'.alloc o) :=
 ⟨h.b.alloc hb o,fun g hg=>(Below.heap_alloc _ _ _ (hA g hg)).trans (h.a g hg)⟩
theorem YC (A:Nat->Prop) (B bo n:Nat) (ps:List Nat) (vp vn vl:Value) (vals:yH) (w0 w:World) (h:XR A B bo n ps vp vn w) (hps:xV n ps) (hn:n<=1000) (hl:yi w0 vl vals) (hb:zO w0 w) (h0:w0.heap.size<=B) :
 Calls Tryz.prog 101 #[.pointer (some ⟨bo,0,none⟩),vl] w fun e w'=>e=.returned (.tuple #[])/\(∃vp',XR A B bo n (comeV n ps vals) vp' vn w')/\Came A B w w':=by
 obtain⟨al,cl,rfl,hll,hc⟩:=hl
 unfold maxLen at hll
 go_enter Tryz.func101,Tryz.ntmps101
 go_wp2
 go_loopg [8] vals.length (fun g i wr=>∃k:Nat,k<=vals.length/\g=vals.length - k/\i=zI k/\(∃vp',XR A B bo n (comeV n ps (vals.take k)) vp' vn wr)/\Came A B w wr)
 case atStart=>exact⟨0,Nat.zero_le _,rfl,rfl,⟨vp,h⟩,Came.refl _ _ _⟩
 case round =>
  obtain⟨k,hk,rfl,rfl,⟨vp1,hO⟩,hC⟩:=hrel
  have hP:xV n (comeV n ps (vals.take k)):=hps.comeV _
  by_cases yt:k<vals.length
  ·obtain⟨b,o,e1,c0,c1⟩:=hc k yt
   subst e1
   have yE:zO w0 wr:=hb.trans (hC.b.mono h0)
   have d0:=zc yE c0
   have d1:=zc yE c1
   have v7:(k:Int)<(vals.length:Int):=by omega
   have hst:=zbR (n:=n) (ps:=ps) yt
   have hOA:=hO.alloc (.cells #[.int .i64 vals[k].1,.int .i64 vals[k].2] 86)
   have hCA:=hC.alloc (Nat.le_trans hO.le (Nat.le_of_lt hO.box.lt)) (fun g hg=>(hO.av g hg).2.1) (.cells #[.int .i64 vals[k].1,.int .i64 vals[k].2] 86)
   generalize hvk:vals[k]=x at *
   clear hvk c0 c1
   by_cases hkd:x.1=2
   ·rw[if_pos hkd] at hst
    rw[hkd] at d0 hOA hCA
    have HST:Hid (comeV n ps (vals.take (k+1))=qn n (comeV n ps (vals.take k)) x.2):=hst
    clear hst hO hC
    go_wp2_with fail
    refine(KG A B bo n _ vp1 vn x.2 _ hOA hP hn).mono ?_
    rintro e w2 ⟨rfl,⟨vp2,hO2⟩,hC2⟩
    have hC3:=hCA.trans hC2
    rw[<-HST.out] at hO2
    clear hOA hCA hC2
    go_wp2
    go_roundg (vals.length - (k+1))
    case measure=>omega
    case rel=>exact⟨k+1,by omega,rfl,by go_num,⟨vp2,hO2⟩,hC3⟩
   ·rw[if_neg hkd] at hst
    rw[<-hst] at hOA
    clear hst hO hC
    go_wp2
    go_roundg (vals.length - (k+1))
    case measure=>omega
    case rel=>exact⟨k+1,by omega,rfl,by go_num,⟨vp1,hOA⟩,hCA⟩
  ·obtain rfl:k=vals.length:=by omega
   rw[List.take_length] at hO
   go_wp2
   go_end0
   exact⟨rfl,⟨vp1,hO⟩,hC⟩
theorem Xv (A:Nat->Prop) (B bo n:Nat) (ps:List Nat) (vp vn:Value) (p:Int) (w:World) (h:XR A B bo n ps vp vn w) (hps:xV n ps) (hn:n<=1000) :
 Calls Tryz.prog 103 #[.pointer (some ⟨bo,0,none⟩),.int .i64 p] w fun e w'=>e=.returned (.int .i64 (yK ps p))/\w'=w:=by
 obtain⟨an,cn,hvn,_⟩:=h.n.slice
 rw[uT] at hvn
 subst hvn
 obtain⟨⟨x0,x1⟩,f0,f1⟩:=yz h.box
 by_cases hI:qy p 0 ((n:Int) - 1)=false
 ·have hE:Hid (yK ps p=-1):=kZ (fun i hi e=>by
   have:=hps.lt _ (List.getElem_mem hi)
   have h2:qy p 0 ((n:Int) - 1)=true:=zx.2 (by omega)
   rw[hI] at h2;cases h2)
  go_enter Tryz.func103,Tryz.ntmps103
  go_wp2_with (go_at_call 58;refine(zZ _ _ _).mono ?_;rintro e w' ⟨rfl,hw⟩;obtain rfl:=hw.symm;rw[hI])
  go_ret
  exact⟨by rw[hE.out];rfl,rfl⟩
 have hI':qy p 0 ((n:Int) - 1)=true:=by simpa using hI
 clear hI
 have hI2:=zx.1 hI'
 obtain⟨k,rfl⟩:=Int.eq_ofNat_of_zero_le hI2.1
 have hk:k<n:=by omega
 have v7:(k:Int)<(n:Int):=by omega
 obtain⟨gn,on,c1,e1,hgB,hgn⟩:=h.n.form (by rw[uT];omega)
 obtain rfl:an=some ⟨gn,on,none⟩:=by injection e1
 clear e1
 obtain⟨d1,fd⟩:=h.n.cell (i:=k) (by rw[uT];exact hk)
 rw[XB] at d1
 go_enter Tryz.func103,Tryz.ntmps103
 go_wp2_with (go_at_call 58;refine(zZ _ _ _).mono ?_;rintro e w' ⟨rfl,hw⟩;obtain rfl:=hw.symm;rw[hI'])
 go_ret
 exact⟨rfl,rfl⟩
theorem wv (v:Value) (xs:yH) (w:World) (h:yi w v xs) (hl:xs.length<=1000) :
 Calls Tryz.prog 46 #[v] w fun e w'=>∃v',e=.returned v'/\zl w.heap.size w' v' xs/\zO w w':=by
 obtain⟨a,c,rfl,hlm,hc⟩:=id h
 have hnil:∀(W:World) (a:Option Addr) (n c:Nat),(binOp .eql 32 (.slice a n c) (zQ)).run Tryz.prog W=.ok (.bool a.isNone) W:=fun W a n c=>Lib.run_eql_slice_nil W _ _ a n c 0 0 Tryz.underlying32
 cases a with
 | none =>
  have hx:xs=[]:=by
   cases xs with
   | nil=>rfl
   | cons y t=>obtain⟨b,o,e,_⟩:=hc 0 (by simp);cases e
  subst hx
  go_enter Tryz.func46,Tryz.ntmps46
  go_wp2
  go_ret
  exact⟨_,rfl,zl.nil _ _,zS⟩
 | some ad =>
  have N1:=zR w (.cells #[] 86)
  have mk:=zl.made (B:=w.heap.size) (w:=w) (e:=86) zD
  have h1:=h.below N1
  go_enter Tryz.func46,Tryz.ntmps46
  go_wp2_with (at_builtin;refine Zd _ (by rfl) _ _ (by rfl) w.heap.size _ _ [] xs (by rfl) (by rfl) mk h1 (by simp;omega) N1.size ?_;intro v2 w2 yO qF yE;rw[List.nil_append] at yO)
  have B2:=N1.grown qF N1.size (fun q e=>(mk.lt q e).1)
  clear qF yE
  go_ret
  exact⟨_,rfl,yO,B2⟩
theorem zl.set1 {B:Nat} {w:World} {g off n cap:Nat} {xs:yH} (h:zl B w (zK g off n cap) xs) (i:Nat) (hi:i<xs.length) (y:Int) :
 zl B (w.setCell (zH g (off+i * 2+1)) (zI y)) (zK g off n cap) (xs.set i (xs[i].1,y)):=by
 obtain⟨⟨hc,hd⟩,_⟩:=h.cell hi
 rcases h with⟨h,_⟩ | ⟨g',off',cap',hv,hB,hg,hl,hm,hsp,hx⟩
 ·cases h
 ·cases hv
  refine .inr ⟨g,off,cap,by simp,hB,by simp[World.setCell];exact hg,by simpa using hl,hm,fun j hj=>?_,fun j hj=>?_⟩
  ·rw[World.frozen?_setCell]
   refine⟨?_,(hsp j hj).2⟩
   by_cases e:j=i * 2+1
   ·subst e;rw[show off+(i * 2+1)=off+i * 2+1 by omega,World.cell?_setCell_same _ _ _ hd];rfl
   ·rw[World.cell?_setCell_other _ _ _ _ (fun q=>by have:=congrArg Addr.off q;simp at this;omega)];exact(hsp j hj).1
  ·rw[List.length_set] at hj
   by_cases e:j=i
   ·subst e
    rw[List.getElem_set_self]
    refine⟨?_,World.cell?_setCell_same _ _ _ hd⟩
    rw[World.cell?_setCell_other _ _ _ _ (fun q=>by have:=congrArg Addr.off q;simp at this)];exact hc
   ·rw[List.getElem_set_ne (Ne.symm e),World.cell?_setCell_other _ _ _ _ (fun q=>by have:=congrArg Addr.off q;simp at this;omega),World.cell?_setCell_other _ _ _ _ (fun q=>by have:=congrArg Addr.off q;simp at this;omega)]
    exact hx j hj
theorem XR.below {A:Nat->Prop} {B bo n:Nat} {ps:List Nat} {vp vn:Value} {w w':World} (h:XR A B bo n ps vp vn w) (hb:zO w w'):XR A B bo n ps vp vn w' :=
 ⟨h.le,yU hb h.box,h.p.below hb,h.n.below hb,h.pb,h.nb,h.pn,fun g hg=>⟨(h.av g hg).1,Nat.lt_of_lt_of_le (h.av g hg).2.1 hb.size,(h.av g hg).2.2⟩⟩
theorem XR.set {A:Nat->Prop} {B bo n:Nat} {ps:List Nat} {vp vn:Value} {w:World} (h:XR A B bo n ps vp vn w) {p:Addr} (u:Value) (h1:bo≠p.block) (h2:vp.ownBlock≠some p.block) (h3:vn.ownBlock≠some p.block):XR A B bo n ps vp vn (w.setCell p u) :=
 ⟨h.le,h.box.of_block (Below.heap_setCell _ _ _ _ h1),h.p.set_other u h2,h.n.set_other u h3,h.pb,h.nb,h.pn,fun g hg=>⟨(h.av g hg).1,by simp[World.setCell];exact(h.av g hg).2.1,(h.av g hg).2.2⟩⟩
theorem wQ (A:Nat->Prop) (B bo n:Nat) (ps:List Nat) (vp vn vl:Value) (vals:yH) (w:World) (h:XR A B bo n ps vp vn w) (hps:xV n ps) (hn:n<=1000) (hl:yi w vl vals) (hll:vals.length<=1000) :
 Calls Tryz.prog 133 #[vl,.func (.func 103) #[.pointer (some ⟨bo,0,none⟩)] #[]] w fun e w'=>∃v,e=.returned v/\zl w.heap.size w' v (vals.map (XN ps))/\zO w w':=by
 obtain⟨al,cl,rfl,_,_⟩:=id hl
 go_enter Tryz.func133,Tryz.ntmps133
 go_wp2_with fail
 refine(wv _ vals _ hl hll).mono ?_
 rintro e w1 ⟨v1,rfl,X8,qk⟩
 obtain⟨a1,c1,hv1,_⟩:=X8.slice
 subst hv1
 have hO1:=h.below qk
 have xP:=qk.size
 have HLT:Hid (bo<w.heap.size/\(∀g,vp.ownBlock=some g->g<w.heap.size)/\(∀g,vn.ownBlock=some g->g<w.heap.size)):=⟨h.box.lt,fun g e=>(h.p.lt g e).2,fun g e=>(h.n.lt g e).2⟩
 go_wp2
 go_loopg [12] vals.length (fun g i wr=>∃(k:Nat) (ys:yH),k<=vals.length/\g=vals.length - k/\i=zI k/\ys.length=vals.length/\zl w.heap.size wr (.slice a1 vals.length c1) ys/\(∀q,(hq:q<ys.length)->(hq':q<vals.length)->(q<k->ys[q]=XN ps vals[q])/\(k<=q->ys[q]=vals[q]))/\XR A B bo n ps vp vn wr/\zO w wr)
 case atStart=>exact⟨0,vals,Nat.zero_le _,rfl,rfl,rfl,X8,fun q _ _=>⟨fun hq=>absurd hq yB,fun _=>rfl⟩,hO1,qk⟩
 case round =>
  obtain⟨k,ys,hk,rfl,rfl,hyl,hr,hys,hO,hb⟩:=hrel
  have HY:Hid (∀q,(hq:q<ys.length)->(hq':q<vals.length)->(q<k->ys[q]=XN ps vals[q])/\(k<=q->ys[q]=vals[q])):=hys
  clear hys
  by_cases yt:k<vals.length
  ·obtain⟨g1,o1,c2,e1,hgB,hgl⟩:=hr.form (by omega)
   obtain rfl:a1=some ⟨g1,o1,none⟩:=by injection e1
   clear e1
   have hky:k<ys.length:=by omega
   have hyk:ys[k]=vals[k]:=(HY.out k hky yt).2 zD
   obtain⟨⟨d0,d1⟩,f0,f1⟩:=hr.cell hky
   have v7:(k:Int)<(vals.length:Int):=by omega
   have N1:=zR wr (.cells #[.int .i64 vals[k].1,.int .i64 vals[k].2] 86)
   have KY:=hr.below N1
   have hOA:=hO.below N1
   have Uz:=hb.trans (N1.mono hb.size)
   have zgG:=hr.set1 k hky (yK ps vals[k].2)
   have hset:=zgG.below (zR _ (.cells #[.int .i64 vals[k].1,.int .i64 vals[k].2] 86))
   clear zgG
   have d1A:=zc N1 d1
   have f1A:(wr.alloc (.cells #[.int .i64 vals[k].1,.int .i64 vals[k].2] 86)).frozen? (zH g1 (o1+k * 2+1))=false:=(World.frozen?_of_block (a:=⟨g1,o1+k * 2+1,none⟩) (N1.block g1 hgl)).trans f1
   rw[hyk] at d0 d1 d1A hset
   have hren:vals[k].1=2->XN ps vals[k]=(vals[k].1,yK ps vals[k].2):=fun e=>by unfold XN;rw[if_pos e,e]
   have zgE:¬vals[k].1=2->XN ps vals[k]=vals[k]:=fun e=>by unfold XN;rw[if_neg e]
   have HREN:Hid _:=hren
   have HREN2:Hid _:=zgE
   have HB3:=HLT.out
   have hOS:=(hO.set (p:=zH g1 (o1+k * 2+1)) (.int .i64 (yK ps vals[k].2)) (by show bo≠g1;omega) (fun e=>by have h1:g1<w.heap.size:=HB3.2.1 _ e;omega) (fun e=>by have h1:g1<w.heap.size:=HB3.2.2 _ e;omega)).alloc (.cells #[.int .i64 vals[k].1,.int .i64 vals[k].2] 86)
   have hbS0:=hb.setCell (p:=zH g1 (o1+k * 2+1)) hgB (zI (yK ps vals[k].2))
   have hbS:=hbS0.alloc hbS0.size (.cells #[.int .i64 vals[k].1,.int .i64 vals[k].2] 86)
   clear hren zgE hr hO hb HLT hbS0
   by_cases hkd:vals[k].1=2
   ·have hE:=HREN.out hkd
    have HE:Hid (XN ps vals[k]=(vals[k].1,yK ps vals[k].2)):=hE
    clear hE
    have hds:∀x0:Int,x0=vals[k].1->x0=2:=fun x0 e=>by rw[e];exact hkd
    clear hds
    have HYK:Hid (ys[k]=vals[k]):=hyk
    clear hyk
    have hd02:wr.cell? (zH g1 (o1+k * 2))=some (.int .i64 2):=by rw[d0,hkd]
    clear d0
    rw[hkd] at hset hOS hbS hOA d1A f1A
    go_wp2_with (go_at_call 103;refine(Xv A B bo n ps vp vn _ _ hOA hps hn).mono ?_;rintro e w' ⟨rfl,hw⟩;obtain rfl:=hw.symm)
    go_roundg (vals.length - (k+1))
    case measure=>omega
    case rel=>exact⟨k+1,_,by omega,rfl,by go_num,by rw[List.length_set];exact hyl,hset,fun q h1 h2=>by
     rw[List.length_set] at h1
     refine⟨fun hq=>?_,fun hq=>?_⟩
     ·by_cases e:q=k
      ·subst e;rw[List.getElem_set_self,HE.out,hkd]
      ·rw[List.getElem_set_ne (fun x=>e x.symm)];exact(HY.out q h1 h2).1 (by omega)
     ·rw[List.getElem_set_ne (by omega)];exact(HY.out q h1 h2).2 (by omega),hOS,hbS⟩
   ·have hE:=HREN2.out hkd
    have HE:Hid (XN ps vals[k]=vals[k]):=hE
    have HYK:Hid (ys[k]=vals[k]):=hyk
    clear hE hyk hset hOS hbS
    go_wp2
    go_roundg (vals.length - (k+1))
    case measure=>omega
    case rel=>exact⟨k+1,ys,by omega,rfl,by go_num,hyl,KY,fun q h1 h2=>by
     refine⟨fun hq=>?_,fun hq=>(HY.out q h1 h2).2 (by omega)⟩
     by_cases e:q=k
     ·subst e;rw[HYK.out,HE.out]
     ·exact(HY.out q h1 h2).1 (by omega),hOA,Uz⟩
  ·obtain rfl:k=vals.length:=by omega
   have hE:ys=vals.map (XN ps):=List.ext_getElem (by simpa using hyl) fun q h1 h2=>by rw[(HY.out q h1 (by simpa using h2)).1 (by simpa using h2)];simp
   subst hE
   go_wp2
   go_ret
   exact⟨_,rfl,hr,hb⟩
theorem Ks (w:World) (t:TypeId) (x:Value):(w.alloc (.cells #[x] t)).rowIs w.heap.size t 1 (fun _=>x) :=
 ⟨_,Go.Deep.blk_alloc_new _ _,rfl,fun i hi=>by match i,hi with | 0,_=>rfl⟩
theorem zbj {h:Hp} {j:Nat} (hn:h.now=j) (c:Cl):setH h c={h with ze:=h.ze.set j c}:=by
 unfold setH
 rw[hn,Int.toNat_natCast]
theorem zbA (w:World) (a:Option Addr) (n cap k:Nat) (hk:k<=n):(Instr.slice 32 (.slice a n cap) (some (zI (k:Int))) none none).run Tryz.prog w=.ok (sliced a k n cap 2) w:=by
 have hs:∀w,(sizeOf (Tryz.prog.elem 32)).run Tryz.prog w=.ok 2 w:=fun w=>by kernel_rfl
 rw[run_slice_l w 32 a n cap (by kernel_rfl) .i64 k (by omega) (by omega)]
 simp[hs,Result.andThen]
theorem zg2 (w:World) (a:Option Addr) (n cap k:Nat) (hk:k<=cap):(Instr.slice 32 (.slice a n cap) none (some (zI (k:Int))) none).run Tryz.prog w=.ok (sliced a 0 k cap 2) w:=by
 have hs:∀w,(sizeOf (Tryz.prog.elem 32)).run Tryz.prog w=.ok 2 w:=fun w=>by kernel_rfl
 rw[run_slice_h w 32 a n cap (by kernel_rfl) .i64 k (by omega) (by omega)]
 simp[hs,Result.andThen]
theorem zl.piece {B:Nat} {w:World} {a:Option Addr} {n cap:Nat} {xs:yH} (h:zl B w (.slice a n cap) xs) {l k:Nat} (hl:l<=k) (hk:k<=xs.length):yi w (sliced a l k cap 2) ((xs.take k).drop l)/\k<=cap:=by
 rcases h with⟨h0,rfl⟩ | ⟨g,off,cp,hv,hB,hg,hlc,hc,hsp,hx⟩
 ·injection h0 with e1 e2 e3
  subst e1 e2 e3
  obtain rfl:k=0:=by simpa using hk
  obtain rfl:l=0:=by omega
  exact⟨⟨_,_,rfl,by simp,fun i hi=>absurd hi (by simp)⟩,Nat.le_refl _⟩
 ·injection hv with e1 e2 e3
  subst e1 e2 e3
  refine⟨?_,by omega⟩
  have hlen:((xs.take k).drop l).length=k - l:=by simp;omega
  by_cases e:l=cap
  ·have hkl:k - l=0:=by omega
   have hn:(xs.take k).drop l=[]:=List.eq_nil_of_length_eq_zero (by omega)
   rw[hn]
   unfold sliced
   exact⟨_,_,by rw[List.length_nil,<-hkl],by simp,fun i hi=>absurd hi (by simp)⟩
  ·unfold sliced
   refine⟨_,_,by rw[hlen],by rw[hlen];unfold maxLen at *;omega,fun i hi=>?_⟩
   rw[hlen] at hi
   have Ws:l+i<xs.length:=by omega
   obtain⟨y0,y1⟩:=hx (l+i) Ws
   refine⟨g,off+l * 2,?_,?_,?_⟩
   ·rw[if_neg (by omega)]
    simp[Addr.add]
   ·rw[show off+l * 2+i * 2=off+(l+i) * 2 by omega,y0]
    simp
   ·rw[show off+l * 2+i * 2+1=off+(l+i) * 2+1 by omega,y1]
    simp
theorem zl.cutTo {B:Nat} {w:World} {a:Option Addr} {n cap:Nat} {xs:yH} (h:zl B w (.slice a n cap) xs) {k:Nat} (hk:k<=xs.length):zl B w (.slice a k cap) (xs.take k):=by
 rcases h with⟨h0,rfl⟩ | ⟨g,off,cp,hv,hB,hg,hlc,hc,hsp,hx⟩
 ·injection h0 with e1 e2 e3
  subst e1 e2 e3
  obtain rfl:k=0:=by simpa using hk
  exact .inl ⟨rfl,by simp⟩
 ·injection hv with e1 e2 e3
  subst e1 e2 e3
  have hl:(xs.take k).length=k:=by simp;omega
  refine .inr ⟨g,off,cap,by rw[hl],hB,hg,by omega,hc,hsp,fun i hi=>?_⟩
  have hi':i<xs.length:=by omega
  rw[List.getElem_take]
  exact hx i hi'
theorem Qb {ms:Ms} (hp:yn ms=true) (kk a:Int):(0<=(yx ms kk a).1/\(yx ms kk a).1<=2)/\0<=(yx ms kk a).2/\(yx ms kk a).2<=1:=by
 unfold yx
 split
 ·split
  ·rename_i q
   rw[zx] at q
   have hq:a.toNat<ms.length:=by omega
   rw[xo hq]
   have:=(vz hp hq).args
   simp only[]
   omega
  ·decide
 ·simp only[]
  unfold tk lv
  refine⟨?_,?_⟩
  ·split
   ·decide
   ·split <;> decide
  ·split <;> decide
theorem zcG {ms:Ms} {h:Hp} {j m pc:Nat} (hn:h.now=j) (hj:j<h.ze.length) (hm:h.ze[j].m=m) (hpc:h.ze[j].pc=pc) (Zm:m<ms.length) (hl:ms[m].2.2.length<=pc):xU ms h={h with code:=2}:=by
 unfold xU
 simp only[kw hn hj,hm,hpc,Int.toNat_natCast,xo Zm]
 rw[if_pos (by omega)]
 rfl
theorem UM {ms:Ms} {h:Hp} {j m pc:Nat} (hj:j<h.ze.length) (hm:h.ze[j].m=m) (hpc:h.ze[j].pc=pc) (Zm:m<ms.length) (hpl:pc<ms[m].2.2.length):xZ ms h.ze[j]=ms[m].2.2[pc]:=by
 unfold xZ
 rw[hm,hpc,Int.toNat_natCast,Int.toNat_natCast,xo Zm,xo hpl]
theorem zbr {ms:Ms} {h:Hp} {j m pc:Nat} (hn:h.now=j) (hj:j<h.ze.length) (hm:h.ze[j].m=m) (hpc:h.ze[j].pc=pc) (Zm:m<ms.length) (hpl:pc<ms[m].2.2.length) {kk a t l:Int} (ho:ms[m].2.2[pc]=(kk,a)) (ht:yx ms kk a=(t,l)) :
 xU ms h=if(h.ze[j].zf.length:Int) - t<0\/6<(h.ze[j].zf.length:Int) - t+l then {h with code:=2}
  else if qZ kk (h.ze[j].zf.drop ((h.ze[j].zf.length:Int) - t).toNat)=false then {h with code:=2}
  else doH ms {h with ze:=h.ze.set j {h.ze[j] with zf:=h.ze[j].zf.take ((h.ze[j].zf.length:Int) - t).toNat,pc:=(pc:Int)+1}} kk a (h.ze[j].zf.drop ((h.ze[j].zf.length:Int) - t).toNat):=by
 unfold xU
 simp only[kw hn hj,UM hj hm hpc Zm hpl,ho,ht]
 rw[hm,Int.toNat_natCast,xo Zm,if_neg (by rw[hpc];omega),zbj hn,hpc]
 rfl
theorem zeQ {ms:Ms} {h:Hp} {j m pc:Nat} (hg:Good ms h) (hc:h.code=0) (hn:h.now=j) (hj:j<h.ze.length) (hm:h.ze[j].m=m) (hpc:h.ze[j].pc=pc) (Zm:m<ms.length) (hpl:pc<ms[m].2.2.length) {kk a t l:Int} (ho:ms[m].2.2[pc]=(kk,a)) (ht:yx ms kk a=(t,l))
 (h2:¬((h.ze[j].zf.length:Int) - t<0\/6<(h.ze[j].zf.length:Int) - t+l)) (h3:qZ kk (h.ze[j].zf.drop ((h.ze[j].zf.length:Int) - t).toNat)=true) :
 kI ms {h with ze:=h.ze.set j {h.ze[j] with zf:=h.ze[j].zf.take ((h.ze[j].zf.length:Int) - t).toNat,pc:=(pc:Int)+1}} j kk a (h.ze[j].zf.drop ((h.ze[j].zf.length:Int) - t).toNat):=by
 have h1:¬((ms.getD (qm h).m.toNat (0,0,[])).2.2.length:Int)<=(qm h).pc:=by
  rw[kw hn hj,hm,Int.toNat_natCast,xo Zm,hpc]
  omega
 have e:xZ ms (qm h)=(kk,a):=by rw[kw hn hj,UM hj hm hpc Zm hpl,ho]
 obtain⟨j',d⟩:=hg.doing hc h1 (by rw[e];simp only[];rw[ht,kw hn hj];exact h2) (by rw[e];simp only[];rw[ht,kw hn hj];exact h3)
 rw[e] at d
 simp only[] at d
 rw[ht,kw hn hj,zbj hn,hpc] at d
 have hjj:j'=j:=by have:=d.now;simp only[] at this;omega
 subst hjj
 exact d
def xn (L:yw) (i:Nat) (f:jV) (b:jg):yw :=
 {L with za:=L.za.set i ⟨(L.za.getD i ⟨-1,[]⟩).base,(L.za.getD i ⟨-1,[]⟩).zg.dropLast⟩,zd:=if f.twin=-1 then L.zd else L.zd.set f.twin.toNat ⟨-1,0,f.body,-1⟩,zj:=L.zj.set f.body {b with zf:=[],zy:=true}}
theorem xE.pop {L:yw} {h:Hp} (s:xE 0 0 L h) {i:Nat} (hi:i<L.za.length) {f:jV} {b:jg} {c:Cl} (xp:L.za[i].zg.getLast?=some f) (hb:L.zj[f.body]?=some b) (hc:h.ze[f.body]?=some c) (now born code:Int) (zm:yH) :
 xE 0 0 (xn L i f b) ⟨h.ze.set f.body (u9 c),now,born,zm,code⟩:=by
 have hg:L.za.getD i ⟨-1,[]⟩=L.za[i]:=by simp[hi]
 obtain⟨m,hm⟩:∃m,L.za[i].zg.length=m+1:=by
  cases e:L.za[i].zg with
  | nil=>rw[e] at xp;cases xp
  | cons x l=>exact⟨l.length,rfl⟩
 have hlast:L.fr i m=some f:=by
  unfold yw.fr
  rw[List.getElem?_eq_getElem hi]
  show L.za[i].zg[m]?=some f
  rw[List.getLast?_eq_getElem?,hm] at xp
  exact xp
 have hfr:∀i' k,(xn L i f b).fr i' k=if i'=i/\k=m then none else L.fr i' k:=fun i' k=>by
  unfold xn
  rw[hg]
  have:=vY (L:=L) (p:=⟨L.za[i].base,L.za[i].zg.dropLast⟩) hi i' k
  refine Eq.trans ?_ (this.trans ?_)
  ·rfl
  ·by_cases e:i'=i
   ·subst e
    rw[if_pos rfl]
    unfold yw.fr
    rw[List.getElem?_eq_getElem hi]
    show L.za[i'].zg.dropLast[k]?=_
    rw[List.dropLast_eq_take]
    by_cases e2:k=m
    ·refine Eq.trans (List.getElem?_eq_none (by rw[List.length_take];omega)) ?_
     rw[if_pos (show i'=i'/\k=m from ⟨rfl,e2⟩)]
    ·rw[if_neg (show ¬(i'=i'/\k=m) from fun x=>e2 x.2)]
     by_cases e3:k<L.za[i'].zg.length - 1
     ·exact List.getElem?_take_of_lt e3
     ·exact(List.getElem?_eq_none (by rw[List.length_take];omega)).trans (List.getElem?_eq_none (by omega)).symm
   ·rw[if_neg e,if_neg (fun x=>e x.1)]
 have fo:∀i' k g,(xn L i f b).fr i' k=some g->L.fr i' k=some g/\¬(i'=i/\k=m):=fun i' k g hg'=>by
  rw[hfr] at hg'
  by_cases e:i'=i/\k=m
  ·rw[if_pos e] at hg';cases hg'
  ·rw[if_neg e] at hg';exact⟨hg',e⟩
 have bn:∀i' k g,(xn L i f b).fr i' k=some g->g.body≠f.body:=fun i' k g hg' e=>(fo i' k g hg').2 (s.fi i' k g i m f (fo i' k g hg').1 (yv _ _) hlast (yv _ _) e)
 have hbase:∀i':Nat,((xn L i f b).za[i']?).map (fun p:ws=>p.base)=(L.za[i']?).map (fun p:ws=>p.base):=fun i'=>by
  show((L.za.set i _)[i']?).map _=_
  by_cases e:i=i'
  ·subst e
   rw[List.getElem?_set_self hi,List.getElem?_eq_getElem hi,hg]
   rfl
  ·rw[List.getElem?_set_ne e]
 -- its twin
 have tw:∀(q:Nat) (t:km),(xn L i f b).zd[q]?=some t->(L.zd[q]?=some t/\f.twin≠(q:Int))\/(f.twin=(q:Int)/\t=⟨-1,0,f.body,-1⟩/\∃sx,L.zd[q]?=some ⟨(i:Int),(m:Int),f.body,sx⟩):=fun q t h1=>by
  have h1':(if f.twin=-1 then L.zd else L.zd.set f.twin.toNat ⟨-1,0,f.body,-1⟩)[q]?=some t:=h1
  rcases(s.fb i m f hlast (yv _ _)).2 with e | ⟨j,sx,e1,e2⟩
  ·rw[if_pos e] at h1'
   exact .inl ⟨h1',by omega⟩
  ·rw[if_neg (by omega),e1,Int.toNat_natCast] at h1'
   rcases ju h1' with⟨rfl,rfl,_⟩ | ⟨hq,h2⟩
   ·exact .inr ⟨e1,rfl,sx,e2⟩
   ·exact .inl ⟨h2,by omega⟩
 have hE:qx L.zd (xn L i f b).zd:=by
  show qx L.zd (if f.twin=-1 then L.zd else L.zd.set f.twin.toNat ⟨-1,0,f.body,-1⟩)
  rcases(s.fb i m f hlast (yv _ _)).2 with e | ⟨j,sx,e1,e2⟩
  ·rw[if_pos e];exact qx.refl _
  ·rw[if_neg (by omega),e1,Int.toNat_natCast]
   exact qx.set _ _ _ _ e2 rfl
 have hl:(xn L i f b).zd.length=L.zd.length:=by
  show(if f.twin=-1 then L.zd else L.zd.set f.twin.toNat ⟨-1,0,f.body,-1⟩).length=_
  split <;> simp
 have tb:∀(q:Nat) (t:km),(xn L i f b).zd[q]?=some t->∃t',L.zd[q]?=some t'/\t'.body=t.body:=fun q t h1=>by
  rcases tw q t h1 with⟨h2,_⟩ | ⟨_,rfl,sx,h2⟩
  ·exact⟨t,h2,rfl⟩
  ·exact⟨_,h2,rfl⟩
 have hbl:(xn L i f b).zj.length=L.zj.length:=List.length_set
 have hbel:∀i' k g,(xn L i f b).fr i' k=some g->qE (xn L i f b) i' k=qE L i' k:=fun i' k g hg'=>j5 (L:=L) (L':=xn L i f b) hE s.ba (fun _=>hbase i') fun q e=>by
  rw[hfr,if_neg]
  rintro⟨rfl,rfl⟩
  obtain⟨_,hk,_⟩:=yw.fr_some (fo i' k g hg').1
  omega
 have other:∀(k:Nat) (x:Cl),k≠f.body->(h.ze.set f.body (u9 c))[k]?=some x->h.ze[k]?=some x:=fun k x hk hx=>by
  rcases ju hx with⟨e,_⟩ | ⟨_,h2⟩
  ·exact absurd e hk
  ·exact h2
 refine⟨fun i' k g hg' P=>?_,fun q t h1=>?_,fun a d g a' d' g' h1 P1 h2 P2 e=>s.fi a d g a' d' g' (fo _ _ _ h1).1 P1 (fo _ _ _ h2).1 P2 e,fun q t q' t' h1 h2 e=>?_,fun a d g q t hg' P h1 hx=>?_,fun i' p hp=>?_,fun q t h1 hx=>?_,fun a d g y hg' P hy=>?_,?_,fun q y hy=>?_,fun a d g y hg' P hy=>?_,fun q t y h1 hx hy=>?_⟩
 ·obtain⟨h1,h2⟩:=fo i' k g hg'
  rw[hbl]
  refine⟨(s.fb i' k g h1 P).1,(s.fb i' k g h1 P).2.imp id fun⟨q,sx,e1,e2⟩=>⟨q,sx,e1,?_⟩⟩
  show(if f.twin=-1 then L.zd else L.zd.set f.twin.toNat ⟨-1,0,f.body,-1⟩)[q]?=_
  split
  ·exact e2
  ·rename_i hft
   rw[List.getElem?_set_ne]
   ·exact e2
   ·intro e3
    rcases(s.fb i m f hlast (yv _ _)).2 with e | ⟨j,sx',q1,q2⟩
    ·exact hft e
    ·rw[q1,Int.toNat_natCast] at e3
     subst e3
     rw[e2] at q2
     injection q2 with q2
     injection q2 with q3 q4
     exact h2 ⟨by omega,by omega⟩
 ·rw[hbl]
  rcases tw q t h1 with⟨h2,hq⟩ | ⟨_,rfl,sx,h2⟩
  ·refine⟨(s.tb q t h2).1,(s.tb q t h2).2.imp id fun⟨a,d,g,e1,e2,e3,e4⟩=>⟨a,d,g,?_,e2,e3,e4⟩⟩
   rw[hfr,if_neg]
   ·exact e1
   ·rintro⟨rfl,rfl⟩
    rw[hlast] at e1
    cases e1
    exact hq e3
  ·exact⟨(s.tb q _ h2).1,.inl rfl⟩
 ·obtain⟨t1,a1,b1⟩:=tb q t h1
  obtain⟨t2,a2,b2⟩:=tb q' t' h2
  exact s.ti q t1 q' t2 a1 a2 (by rw[b1,b2];exact e)
 ·rcases tw q t h1 with⟨h2,hq⟩ | ⟨_,rfl,sx,h2⟩
  ·exact s.tf a d g q t (fo _ _ _ hg').1 P h2 hx
  ·exact fun e=>bn a d g hg' e.symm
 ·rw[hl]
  have:=hbase i'
  rw[hp] at this
  cases hq:L.za[i']? with
  | none=>rw[hq] at this;cases this
  | some p' =>
   rw[hq] at this
   have e:p.base=p'.base:=by injection this
   rw[e]
   exact s.ba i' p' hq
 ·rw[hl]
  rcases tw q t h1 with⟨h2,hq⟩ | ⟨_,rfl,sx,h2⟩
  ·exact s.se q t h2 hx
  ·exact .inl rfl
 ·rcases ju hy with⟨e,_⟩ | ⟨_,h2⟩
  ·exact absurd e (bn a d g hg')
  ·exact s.al a d g y (fo _ _ _ hg').1 P h2
 ·rw[hbl];exact List.length_set.trans s.n
 ·have hck:f.body<h.ze.length:=(List.getElem?_eq_some_iff.1 hc).1
  rcases ju hy with⟨rfl,rfl,_⟩ | ⟨hq,h2⟩
  ·refine⟨u9 c,List.getElem?_set_self hck,?_⟩
   obtain⟨c',e1,e2⟩:=s.c _ b hb
   rw[hc] at e1
   cases e1
   have e3:=e2.ext hE
   exact⟨e3.m,e3.pc,rfl,e3.zh,rfl,e3.vt,fun v hv=>by cases hv⟩
  ·obtain⟨x,e1,e2⟩:=s.c q y h2
   exact⟨x,by rw[List.getElem?_set_ne (fun e=>hq e.symm)];exact e1,e2.ext hE⟩
 ·rw[hbel a d g hg']
  exact s.fs a d g y (fo _ _ _ hg').1 P (other _ _ (bn a d g hg') hy)
 ·rcases tw q t h1 with⟨h2,hq⟩ | ⟨_,rfl,sx,h2⟩
  ·rw[wl hE (s.se q t h2 hx)]
   by_cases e:t.body=f.body
   ·exact absurd e (s.tf i m f q t hlast (yv _ _) h2 hx)
   ·exact s.ts q t y h2 hx (other _ _ e hy)
  ·rcases ju hy with⟨_,rfl,_⟩ | ⟨e,_⟩
   ·rfl
   ·exact absurd rfl e
theorem zcT {cs:List Cl} {f f':Nat} {a:Int} {l l':List Nat} (h:qh cs f a=some l) (h':qh cs f' a=some l'):l=l':=by
 have h1:=uE l f (l.length+l'.length) a h (by omega)
 have h2:=uE l' f' (l.length+l'.length) a h' (by omega)
 rw[h1] at h2
 exact Option.some.inj h2
theorem XI {cs:List Cl}:∀(l:List Nat) (f:Nat) (a:Int) (k:Nat),qh cs f a=some l->k∈l->∃(hk:k<cs.length) (f':Nat) (t:List Nat),qh cs f' cs[k].zi=some t/\t.length<l.length
 | [],_,_,_,_,hk=>by cases hk
 | x :: l,f,a,k,h,hk=>by
  by_cases ha:a<0
  ·rw[yN ha] at h;cases h
  ·obtain⟨g,n,hn,t,rfl,rfl,e,hd,ht⟩:=xi h (by omega)
   cases e
   rcases List.mem_cons.1 hk with rfl | hk
   ·exact⟨hn,g,_,ht,by simp⟩
   ·obtain⟨h1,f',t',h2,h3⟩:=XI l g _ k ht hk
    exact⟨h1,f',t',h2,by simp;omega⟩
theorem xj.noCaller {cs:List Cl} {now:Int} {l:List Nat} (h:xj cs now l) {k:Nat} (hk:k<cs.length) (hd:cs[k].zy=false):0<=now->cs[k].zi≠now:=fun h0 e=>by
 obtain⟨f,hf⟩:=h.ch
 obtain⟨_,f',t,h1,h2⟩:=XI l f now k hf (h.all k hk hd)
 rw[e] at h1
 rw[zcT hf h1] at h2
 omega
def frB (m:Mc) (i k:Int):Bool:=qy i 0 ((m.za.length:Int) - 1) && qy k 0 (((pgAt m i).zg.length:Int) - 1)
theorem zdc {m:Mc} {i:Int} (h:qy i 0 ((m.za.length:Int) - 1)=true):∃k:Nat,i=(k:Int)/\k<m.za.length:=by
 have:=zx.1 h
 obtain⟨k,rfl⟩:=Int.eq_ofNat_of_zero_le this.1
 exact⟨k,rfl,by omega⟩
theorem JK (vp vo vt vs:Value) (m:Mc) (i k:Int) (w:World) (h:yC w vp vo vt vs m) :
 Calls Tryz.prog 110 #[.agg (zu vp vo vt vs m).toArray,.int .i64 i,.int .i64 k] w fun e w'=>e=.returned (.bool (frB m i k))/\zO w w':=by
 obtain⟨ap,cp,qz,hlp,hcp⟩:=id h.p
 obtain⟨ao,co,jw,hlo,hco⟩:=id h.o
 obtain⟨at',ct,jA,hlt',hct⟩:=id h.t
 obtain⟨as',cs,jG⟩:=h.s.shape
 subst qz jw jA jG
 unfold zu
 go_enter Tryz.func110,Tryz.ntmps110
 go_upto_region 1 with fail
 refine yg (fun W=>zO w W/\Bx W w.heap.size 34 [.int .i64 m.cells,.slice ap m.za.length cp,.slice ao m.order.length co,.int .i64 m.now,.slice at' m.zd.length ct,.int .i64 m.born,.slice as' m.zm.length cs,.int .i64 m.code]) ⟨zR _ _,Bx.new w _ _⟩ ?_
 rintro W ⟨hb,hm⟩
 obtain⟨⟨m0,m1,m2,m3,m4,m5,m6,m7⟩,_⟩:=jW hm
 obtain⟨f,hf⟩:∃f,qy i 0 ((m.za.length:Int) - 1)=f:=⟨_,rfl⟩
 have HP:=zZ i m.za.length W
 rw[hf] at HP
 go_wp2_with fail
 refine HP.mono ?_
 rintro e W1 ⟨rfl,hw⟩
 obtain rfl:=hw.symm
 clear hw HP
 cases f
 ·have HE:Hid (frB m i k=false):=by show _=_;unfold frB;rw[hf];rfl
  go_wp2
  go_ret
  exact⟨zp HE.out.symm,hb⟩
 obtain⟨j,rfl,hj⟩:=zdc hf
 obtain⟨b2,o2,vf,hap,xt⟩:=hcp j hj
 subst hap
 obtain⟨af,cf,QW⟩:=xt.f.shape
 have e1:=zc hb xt.c1
 rw[QW] at e1
 have hjz:(j:Int)<(m.za.length:Int):=by omega
 have HE:Hid (frB m (j:Int) k=qy k 0 ((m.za[j].zg.length:Int) - 1)):=by show _=_;unfold frB;rw[hf,kE hj];rfl
 clear hf hcp xt QW
 go_wp2_with fail
 refine(zZ _ _ _).mono ?_
 rintro e W1 ⟨rfl,hw⟩
 obtain rfl:=hw.symm
 clear hw
 go_wp2
 go_ret
 exact⟨zp HE.out.symm,hb⟩
def kO (c:Cl):Bool:=c.m == 0 && c.pc == 0 && decide (c.zh.length=0) && decide (c.zf.length=0) && c.zi == 0 && !c.zy
theorem Ka (c:Cl) (vt vs:Value) (w:World) (ht:yi w vt c.zh) (hs:yi w vs c.zf) :
 Calls Tryz.prog 111 #[.agg #[.int .i64 c.m,.int .i64 c.pc,vt,vs,.int .i64 c.zi,.bool c.zy]] w fun e w'=>e=.returned (.bool (kO c))/\zO w w':=by
 obtain⟨a1,c1,e1,hl1,_⟩:=ht
 obtain⟨a2,c2,e2,hl2,_⟩:=hs
 subst e1 e2
 have hB:∀o,zO w (w.alloc o):=fun o=>zR _ _
 go_enter Tryz.func111,Tryz.ntmps111
 by_cases h0:c.m=0
 case neg =>
  have HE:Hid (kO c=false):=by show _=_;unfold kO;simp[h0]
  have e:(c.m == 0)=false:=by simpa using h0
  go_wp2
  go_ret
  exact⟨zp HE.out.symm,hB _⟩
 by_cases h1:c.pc=0
 case neg =>
  have HE:Hid (kO c=false):=by show _=_;unfold kO;simp[h1]
  have e:(c.pc == 0)=false:=by simpa using h1
  go_wp2
  go_ret
  exact⟨zp HE.out.symm,hB _⟩
 by_cases h2:c.zh.length=0
 case neg =>
  have HE:Hid (kO c=false):=by show _=_;unfold kO;simp[h2]
  go_wp2
  go_ret
  exact⟨zp HE.out.symm,hB _⟩
 by_cases h3:c.zf.length=0
 case neg =>
  have HE:Hid (kO c=false):=by show _=_;unfold kO;simp[h3]
  go_wp2
  go_ret
  exact⟨zp HE.out.symm,hB _⟩
 by_cases h4:c.zi=0
 case neg =>
  have HE:Hid (kO c=false):=by show _=_;unfold kO;simp[h4]
  have e:(c.zi == 0)=false:=by simpa using h4
  go_wp2
  go_ret
  exact⟨zp HE.out.symm,hB _⟩
 have HE:Hid (kO c=!c.zy):=by show _=_;unfold kO;simp[h0,h1,h2,h3,h4]
 go_wp2
 go_ret
 exact⟨zp HE.out.symm,hB _⟩
def Tw.none:Tw:=⟨-1,0,⟨0,0,[],[],0,false⟩⟩
def uU (m:Mc) (i:Int):Tw:=m.zd.getD i.toNat Tw.none
theorem ut {m:Mc} {k:Nat} (h:k<m.zd.length):uU m (k:Int)=m.zd[k]:=by simp[uU,h]
theorem zdi {m:Mc} {i:Int} (h:qy i 0 ((m.zd.length:Int) - 1)=true):∃k:Nat,i=(k:Int)/\k<m.zd.length:=by
 have:=zx.1 h
 obtain⟨k,rfl⟩:=Int.eq_ofNat_of_zero_le this.1
 exact⟨k,rfl,by omega⟩
def uk (m:Mc) (p:Pg):Bool :=
 p.base == -1 || (decide (p.zg.length≠0) && qy p.base 0 ((m.zd.length:Int) - 1) && ((uU m p.base).page == -1 || (qy (uU m p.base).page 0 ((m.za.length:Int) - 1) && (uU m p.base).place == ((pgAt m (uU m p.base).page).zg.length:Int) - 1)))
theorem zbP (vp vo vt vs:Value) (m:Mc) (p:Pg) (af:Option Addr) (cf:Nat) (w:World) (h:yC w vp vo vt vs m) (hsm:∀i,(hi:i<m.za.length)->m.za[i].zg.length<=1099511627776) :
 Calls Tryz.prog 109 #[.agg (zu vp vo vt vs m).toArray,.agg #[.int .i64 p.base,.slice af p.zg.length cf]] w fun e w'=>e=.returned (.bool (uk m p))/\zO w w':=by
 obtain⟨ap,cp,qz,hlp,hcp⟩:=id h.p
 obtain⟨ao,co,jw,hlo,hco⟩:=id h.o
 obtain⟨at',ct,jA,hlt',hct⟩:=id h.t
 obtain⟨as',cs,jG⟩:=h.s.shape
 subst qz jw jA jG
 unfold zu
 have HSM:Hid (∀i,(hi:i<m.za.length)->m.za[i].zg.length<=1099511627776):=hsm
 clear hsm
 go_enter Tryz.func109,Tryz.ntmps109
 go_upto_region 1 with fail
 refine yg (fun W=>zO w W/\Bx W w.heap.size 34 [.int .i64 m.cells,.slice ap m.za.length cp,.slice ao m.order.length co,.int .i64 m.now,.slice at' m.zd.length ct,.int .i64 m.born,.slice as' m.zm.length cs,.int .i64 m.code]/\Bx W (w.heap.size+1) 78 [.int .i64 p.base,.slice af p.zg.length cf]) ⟨(zR _ _).alloc (by simp) _,(Bx.new w _ _).alloc _,Bx.newAt _ _ _ (by simp)⟩ ?_
 rintro W ⟨hb,hm,hx⟩
 obtain⟨⟨m0,m1,m2,m3,m4,m5,m6,m7⟩,_⟩:=jW hm
 have x0:=hx.cell 0 rfl
 have x1:=hx.cell 1 rfl
 by_cases qk:p.base=-1
 ·have HE:Hid (uk m p=true):=by show _=_;unfold uk;rw[qk];rfl
  rw[qk] at x0
  go_wp2
  go_ret
  exact⟨zp HE.out.symm,hb⟩
 have hbe:(p.base == -1)=false:=by simpa using qk
 by_cases hf0:p.zg.length=0
 ·have HE:Hid (uk m p=false):=by show _=_;unfold uk;rw[hbe,hf0];rfl
  rw[hf0] at x1
  go_wp2
  go_ret
  exact⟨zp HE.out.symm,hb⟩
 have hfz:¬((p.zg.length:Int)=0):=by omega
 obtain⟨f,hf⟩:∃f,qy p.base 0 ((m.zd.length:Int) - 1)=f:=⟨_,rfl⟩
 have HP:=zZ p.base m.zd.length W
 rw[hf] at HP
 go_wp2_with fail
 refine HP.mono ?_
 rintro e W1 ⟨rfl,hw⟩
 obtain rfl:=hw.symm
 clear hw HP
 cases f
 ·have HE:Hid (uk m p=false):=by show _=_;unfold uk;rw[hbe,hf];simp
  go_wp2
  go_ret
  exact⟨zp HE.out.symm,hb⟩
 obtain⟨j,hj,hjl⟩:=zdi hf
 have HB0:Hid (uk m p=((uU m p.base).page == -1 || (qy (uU m p.base).page 0 ((m.za.length:Int) - 1) && (uU m p.base).place == ((pgAt m (uU m p.base).page).zg.length:Int) - 1))):=by show _=_;unfold uk;rw[hbe,hf];simp[hf0]
 rw[hj] at x0 HB0 hbe
 rw[ut hjl] at HB0
 obtain⟨b,o,vt,vs,hat,ZT⟩:=hct j hjl
 subst hat
 obtain⟨d0,d1,d2,d3,d4,d5,d6,d7,dt,ds⟩:=ZT.below hb
 obtain⟨a1,k1,e1⟩:=dt.shape
 obtain⟨a2,k2,e2⟩:=ds.shape
 rw[e1] at d4
 rw[e2] at d5
 have hjz:(j:Int)<(m.zd.length:Int):=by omega
 have zb:=hb.size
 have lm:=hm.lt
 clear hf hct ZT dt ds e1 e2 hj qk
 obtain⟨T,hT⟩:∃T,m.zd[j]=T:=⟨_,rfl⟩
 rw[hT] at d0 d1 d2 d3 d4 d5 d6 d7 HB0
 clear hT
 go_upto_region 6 with fail
 refine yg (fun W'=>zO W W'/\Bx W' W.heap.size 124 [.int .i64 T.page,.int .i64 T.place,.int .i64 T.left.m,.int .i64 T.left.pc,.slice a1 T.left.zh.length k1,.slice a2 T.left.zf.length k2,.int .i64 T.left.zi,.bool T.left.zy]) ⟨zR _ _,Bx.new _ _ _⟩ ?_
 rintro W2 ⟨t2,y2⟩
 have yE:=hb.trans (t2.mono zb)
 have ww:=hm.below t2
 clear hb hm hx t2 zb lm d0 d1 d2 d3 d4 d5 d6 d7 m0 m1 m2 m3 m4 m5 m6 m7 x0 x1
 obtain⟨⟨m0,m1,m2,m3,m4,m5,m6,m7⟩,_⟩:=jW ww
 have y0:=y2.cell 0 rfl
 have y1:=y2.cell 1 rfl
 by_cases hpn:T.page=-1
 ·have HE:Hid (uk m p=true):=by rw[HB0.out,hpn];rfl
  rw[hpn] at y0
  go_wp2
  go_ret
  exact⟨zp HE.out.symm,yE⟩
 have hpe:(T.page == -1)=false:=by simpa using hpn
 obtain⟨f,hf⟩:∃f,qy T.page 0 ((m.za.length:Int) - 1)=f:=⟨_,rfl⟩
 have HP:=fun W=>zZ T.page m.za.length W
 rw[hf] at HP
 cases f
 ·have HE:Hid (uk m p=false):=by rw[HB0.out,hpe,hf];rfl
  clear HB0 hf
  go_wp2_with fail
  go_quiet ((go_at_call 58;exact Calls.quiet_of_same (HP _)))
  go_wp2
  go_ret
  exact⟨zp HE.out.symm,Qe yE _⟩
 obtain⟨i,hi,hil⟩:=zdc hf
 rw[hi] at HB0 y0 HP hf hpe
 rw[kE hil,hf,hpe] at HB0
 obtain⟨b2,o2,vf,hap,xt⟩:=hcp i hil
 subst hap
 obtain⟨ag,cg,QW⟩:=xt.f.shape
 have g1:=zc yE xt.c1
 rw[QW] at g1
 have hnb:=HSM.out i hil
 obtain⟨nf,hnf⟩:∃nf,m.za[i].zg.length=nf:=⟨_,rfl⟩
 rw[hnf] at g1 HB0 hnb
 have hiz:(i:Int)<(m.za.length:Int):=by omega
 have hwn:IntKind.i64.wrap ((nf:Int) - 1)=(nf:Int) - 1:=by rw[IntKind.wrap_i64];omega
 have HE:Hid (uk m p=(T.place == (nf:Int) - 1)):=by rw[HB0.out];rfl
 clear HB0 hf hcp xt QW hnf hi hpn
 go_wp2_with fail
 go_quiet ((go_at_call 58;exact Calls.quiet_of_same (HP _)))
 go_wp2
 go_ret
 exact⟨zp HE.out.symm,Qe yE _⟩
end Go.Proofs.YtbjgjjkgfnfejaaGreatDoor

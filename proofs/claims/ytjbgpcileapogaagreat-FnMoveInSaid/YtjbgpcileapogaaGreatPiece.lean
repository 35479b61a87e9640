/-
  A piece of a row of values; one operation of a heap, case by case.
-/
import Derived.Test.YtjbgpcileapogaaGreatVSpec
namespace Go.Proofs.YtjbgpcileapogaaGreat
open Go.RowKit
theorem UZ {h:Hp} {j:Nat} (hn:h.now=j) (c:Cl):jw h c={h with za:=h.za.set j c}:=by
 unfold jw
 rw[hn,Int.toNat_natCast]
theorem zcM (w:World) (a:Option Addr) (n zp k:Nat) (hk:k<=n):(Instr.slice 27 (.slice a n zp) (some (.int .i64 (k:Int))) none none).run Tryz.prog w=.ok (sliced a k n zp 2) w:=by
 have hs:∀w,(sizeOf (Tryz.prog.elem 27)).run Tryz.prog w=.ok 2 w:=fun w=>by kernel_rfl
 rw[run_slice_l w 27 a n zp (by kernel_rfl) .i64 k (by omega) (by omega)]
 simp[hs,Result.andThen]
theorem zdW (w:World) (a:Option Addr) (n zp k:Nat) (hk:k<=zp):(Instr.slice 27 (.slice a n zp) none (some (.int .i64 (k:Int))) none).run Tryz.prog w=.ok (sliced a 0 k zp 2) w:=by
 have hs:∀w,(sizeOf (Tryz.prog.elem 27)).run Tryz.prog w=.ok 2 w:=fun w=>by kernel_rfl
 rw[run_slice_h w 27 a n zp (by kernel_rfl) .i64 k (by omega) (by omega)]
 simp[hs,Result.andThen]
theorem zj.piece {B:Nat} {w:World} {a:Option Addr} {n zp:Nat} {xs:zL} (h:zj B w (.slice a n zp) xs) {l k:Nat} (hl:l<=k) (hk:k<=xs.length):zR w (sliced a l k zp 2) ((xs.take k).drop l)/\k<=zp:=by
 rcases h with⟨h0,rfl⟩ | ⟨g,off,cp,hv,hB,hg,hlc,hc,hsp,hx⟩
 ·injection h0 with e1 e2 e3
  subst e1 e2 e3
  obtain rfl:k=0:=by simpa using hk
  obtain rfl:l=0:=by omega
  exact⟨⟨_,_,rfl,by simp,fun i hi=>absurd hi (by simp)⟩,Nat.le_refl _⟩
 ·injection hv with e1 e2 e3
  subst e1 e2 e3
  refine⟨?_,by omega⟩
  have hlen:((xs.take k).drop l).length=k - l:=by simp;omega
  by_cases e:l=zp
  ·have hkl:k - l=0:=by omega
   have hn:(xs.take k).drop l=[]:=List.eq_nil_of_length_eq_zero (by omega)
   rw[hn]
   unfold sliced
   exact⟨_,_,by rw[List.length_nil,<-hkl],by simp,fun i hi=>absurd hi (by simp)⟩
  ·unfold sliced
   refine⟨_,_,by rw[hlen],by rw[hlen];unfold maxLen at *;omega,fun i hi=>?_⟩
   rw[hlen] at hi
   have hi2:l+i<xs.length:=by omega
   obtain⟨y0,y1⟩:=hx (l+i) hi2
   refine⟨g,off+l * 2,?_,?_,?_⟩
   ·rw[if_neg (by omega)]
    simp[Addr.add]
   ·rw[show off+l * 2+i * 2=off+(l+i) * 2 by omega,y0]
    simp
   ·rw[show off+l * 2+i * 2+1=off+(l+i) * 2+1 by omega,y1]
    simp
theorem U3 {ms:Ms} (hp:yt ms=true) (kk a:Int):(0<=(yI ms kk a).1/\(yI ms kk a).1<=2)/\0<=(yI ms kk a).2/\(yI ms kk a).2<=1:=by
 unfold yI
 split
 ·split
  ·rename_i q
   rw[zH] at q
   have hq:a.toNat<ms.length:=by omega
   rw[yi hq]
   have:=(vE hp hq).args
   simp only[]
   omega
  ·decide
 ·simp only[]
  unfold tk lv
  refine⟨?_,?_⟩
  ·split
   ·decide
   ·split <;> decide
  ·split <;> decide
theorem zal {ms:Ms} {h:Hp} {j m pc:Nat} (hn:h.now=j) (hj:j<h.za.length) (hm:h.za[j].m=m) (hpc:h.za[j].pc=pc) (ZU:m<ms.length) (hl:ms[m].2.2.length<=pc):qU ms h={h with code:=2}:=by
 unfold qU
 simp only[xC hn hj,hm,hpc,Int.toNat_natCast,yi ZU]
 rw[if_pos (by omega)]
 rfl
theorem KO {ms:Ms} {h:Hp} {j m pc:Nat} (hj:j<h.za.length) (hm:h.za[j].m=m) (hpc:h.za[j].pc=pc) (ZU:m<ms.length) (hpl:pc<ms[m].2.2.length):xR ms h.za[j]=ms[m].2.2[pc]:=by
 unfold xR
 rw[hm,hpc,Int.toNat_natCast,Int.toNat_natCast,yi ZU,yi hpl]
theorem U2 {ms:Ms} {h:Hp} {j m pc:Nat} (hn:h.now=j) (hj:j<h.za.length) (hm:h.za[j].m=m) (hpc:h.za[j].pc=pc) (ZU:m<ms.length) (hpl:pc<ms[m].2.2.length) {kk a t l:Int} (ho:ms[m].2.2[pc]=(kk,a)) (ht:yI ms kk a=(t,l)) :
 qU ms h=if(h.za[j].ze.length:Int) - t<0\/6<(h.za[j].ze.length:Int) - t+l then {h with code:=2}
  else if xJ kk (h.za[j].ze.drop ((h.za[j].ze.length:Int) - t).toNat)=false then {h with code:=2}
  else uv ms {h with za:=h.za.set j {h.za[j] with ze:=h.za[j].ze.take ((h.za[j].ze.length:Int) - t).toNat,pc:=(pc:Int)+1}} kk a (h.za[j].ze.drop ((h.za[j].ze.length:Int) - t).toNat):=by
 unfold qU
 simp only[xC hn hj,KO hj hm hpc ZU hpl,ho,ht]
 rw[hm,Int.toNat_natCast,yi ZU,if_neg (by rw[hpc];omega),UZ hn,hpc]
 rfl
theorem zbF {ms:Ms} {h:Hp} {j m pc:Nat} (hg:Good ms h) (hc:h.code=0) (hn:h.now=j) (hj:j<h.za.length) (hm:h.za[j].m=m) (hpc:h.za[j].pc=pc) (ZU:m<ms.length) (hpl:pc<ms[m].2.2.length) {kk a t l:Int} (ho:ms[m].2.2[pc]=(kk,a)) (ht:yI ms kk a=(t,l))
 (h2:¬((h.za[j].ze.length:Int) - t<0\/6<(h.za[j].ze.length:Int) - t+l)) (h3:xJ kk (h.za[j].ze.drop ((h.za[j].ze.length:Int) - t).toNat)=true) :
 jb ms {h with za:=h.za.set j {h.za[j] with ze:=h.za[j].ze.take ((h.za[j].ze.length:Int) - t).toNat,pc:=(pc:Int)+1}} j kk a (h.za[j].ze.drop ((h.za[j].ze.length:Int) - t).toNat):=by
 have h1:¬((ms.getD (qC h).m.toNat (0,0,[])).2.2.length:Int)<=(qC h).pc:=by
  rw[xC hn hj,hm,Int.toNat_natCast,yi ZU,hpc]
  omega
 have e:xR ms (qC h)=(kk,a):=by rw[xC hn hj,KO hj hm hpc ZU hpl,ho]
 obtain⟨j',d⟩:=hg.doing hc h1 (by rw[e];simp only[];rw[ht,xC hn hj];exact h2) (by rw[e];simp only[];rw[ht,xC hn hj];exact h3)
 rw[e] at d
 simp only[] at d
 rw[ht,xC hn hj,UZ hn,hpc] at d
 have hjj:j'=j:=by have:=d.now;simp only[] at this;omega
 subst hjj
 exact d
set_option maxRecDepth 100000 in
set_option maxHeartbeats 1000000 in
theorem wu (v:Value) (xs:zL) (w:World) (h:zR w v xs) (hl:xs.length<=1000) :
 Calls Tryz.prog 53 #[v] w fun e w'=>∃v',e=.returned v'/\zj w.heap.size w' v' xs/\Below w.heap.size w w':=by
 obtain⟨a,c,rfl,hlm,hc⟩:=id h
 have hnil:∀(W:World) (a:Option Addr) (n c:Nat),(binOp .eql 27 (.slice a n c) (.slice none 0 0)).run Tryz.prog W=.ok (.bool a.isNone) W:=fun W a n c=>Lib.run_eql_slice_nil W _ _ a n c 0 0 Tryz.underlying27
 cases a with
 | none =>
  have hx:xs=[]:=by
   cases xs with
   | nil=>rfl
   | cons y t=>obtain⟨b,o,e,_⟩:=hc 0 (by simp);cases e
  subst hx
  go_enter Tryz.func53,Tryz.ntmps53
  go_wp2
  go_ret
  exact⟨_,rfl,zj.nil _ _,zC⟩
 | some ad =>
  have N1:=zB w (.cells #[] 98)
  have mk:=zj.made (B:=w.heap.size) (w:=w) (e:=98) zD
  have h1:=h.below N1
  go_enter Tryz.func53,Tryz.ntmps53
  go_wp2_with (at_builtin;refine qM _ (by rfl) _ _ (by rfl) w.heap.size _ _ [] xs (by rfl) (by rfl) mk h1 (by simp;omega) N1.size ?_;intro v2 w2 hrow2 hg2 hb2;rw[List.nil_append] at hrow2)
  have B2:=N1.grown hg2 N1.size (fun q e=>(mk.lt q e).1)
  clear hg2 hb2
  go_ret
  exact⟨_,rfl,hrow2,B2⟩
theorem zj.set1 {B:Nat} {w:World} {g off n zp:Nat} {xs:zL} (h:zj B w (.slice (some ⟨g,off,none⟩) n zp) xs) (i:Nat) (hi:i<xs.length) (y:Int) :
 zj B (w.setCell ⟨g,off+i * 2+1,none⟩ (.int .i64 y)) (.slice (some ⟨g,off,none⟩) n zp) (xs.set i (xs[i].1,y)):=by
 obtain⟨⟨hc,hd⟩,_⟩:=h.cell hi
 rcases h with⟨h,_⟩ | ⟨g',off',cap',hv,hB,hg,hl,hm,hsp,hx⟩
 ·cases h
 ·cases hv
  refine .inr ⟨g,off,zp,by simp,hB,by simp[World.setCell];exact hg,by simpa using hl,hm,fun j hj=>?_,fun j hj=>?_⟩
  ·rw[World.frozen?_setCell]
   refine⟨?_,(hsp j hj).2⟩
   by_cases e:j=i * 2+1
   ·subst e;rw[show off+(i * 2+1)=off+i * 2+1 by omega,World.cell?_setCell_same _ _ _ hd];rfl
   ·rw[World.cell?_setCell_other _ _ _ _ (fun q=>by have:=congrArg Addr.off q;simp at this;omega)];exact(hsp j hj).1
  ·rw[List.length_set] at hj
   by_cases e:j=i
   ·subst e
    rw[List.getElem_set_self]
    refine⟨?_,World.cell?_setCell_same _ _ _ hd⟩
    rw[World.cell?_setCell_other _ _ _ _ (fun q=>by have:=congrArg Addr.off q;simp at this)];exact hc
   ·rw[List.getElem_set_ne (Ne.symm e),World.cell?_setCell_other _ _ _ _ (fun q=>by have:=congrArg Addr.off q;simp at this;omega),World.cell?_setCell_other _ _ _ _ (fun q=>by have:=congrArg Addr.off q;simp at this;omega)]
    exact hx j hj
theorem Qs.below {A:Nat->Prop} {B bo n:Nat} {ps:List Nat} {vp vn:Value} {w w':World} (h:Qs A B bo n ps vp vn w) (hb:Below w.heap.size w w'):Qs A B bo n ps vp vn w' :=
 ⟨h.le,zz hb h.box,h.p.below hb,h.n.below hb,h.pb,h.nb,h.pn,fun g hg=>⟨(h.av g hg).1,Nat.lt_of_lt_of_le (h.av g hg).2.1 hb.size,(h.av g hg).2.2⟩⟩
theorem Qs.set {A:Nat->Prop} {B bo n:Nat} {ps:List Nat} {vp vn:Value} {w:World} (h:Qs A B bo n ps vp vn w) {p:Addr} (u:Value) (h1:bo≠p.block) (h2:vp.ownBlock≠some p.block) (h3:vn.ownBlock≠some p.block):Qs A B bo n ps vp vn (w.setCell p u) :=
 ⟨h.le,h.box.of_block (Below.heap_setCell _ _ _ _ h1),h.p.set_other u h2,h.n.set_other u h3,h.pb,h.nb,h.pn,fun g hg=>⟨(h.av g hg).1,by simp[World.setCell];exact(h.av g hg).2.1,(h.av g hg).2.2⟩⟩
set_option maxRecDepth 100000 in
set_option maxHeartbeats 2000000 in
theorem uM (A:Nat->Prop) (B bo n:Nat) (ps:List Nat) (vp vn vl:Value) (vals:zL) (w:World) (h:Qs A B bo n ps vp vn w) (hps:jc n ps) (hn:n<=1000) (hl:zR w vl vals) (hll:vals.length<=1000) :
 Calls Tryz.prog 144 #[vl,.func (.func 141) #[.pointer (some ⟨bo,0,none⟩)] #[]] w fun e w'=>∃v,e=.returned v/\zj w.heap.size w' v (vals.map (VH ps))/\Below w.heap.size w w':=by
 obtain⟨al,cl,rfl,_,_⟩:=id hl
 go_enter Tryz.func144,Tryz.ntmps144
 go_wp2_with fail
 refine(wu _ vals _ hl hll).mono ?_
 rintro e w1 ⟨v1,rfl,hr1,hb1⟩
 obtain⟨a1,c1,hv1,_⟩:=hr1.slice
 subst hv1
 have hO1:=h.below hb1
 have hz1:=hb1.size
 have HLT:Hid (bo<w.heap.size/\(∀g,vp.ownBlock=some g->g<w.heap.size)/\(∀g,vn.ownBlock=some g->g<w.heap.size)):=⟨h.box.lt,fun g e=>(h.p.lt g e).2,fun g e=>(h.n.lt g e).2⟩
 go_wp2
 go_loopg [12] vals.length (fun g i wr=>∃(k:Nat) (ys:zL),k<=vals.length/\g=vals.length - k/\i=.int .i64 k/\ys.length=vals.length/\zj w.heap.size wr (.slice a1 vals.length c1) ys/\(∀q,(hq:q<ys.length)->(hq':q<vals.length)->(q<k->ys[q]=VH ps vals[q])/\(k<=q->ys[q]=vals[q]))/\Qs A B bo n ps vp vn wr/\Below w.heap.size w wr)
 case atStart=>exact⟨0,vals,Nat.zero_le _,rfl,rfl,rfl,hr1,fun q _ _=>⟨fun hq=>absurd hq zF,fun _=>rfl⟩,hO1,hb1⟩
 case round =>
  obtain⟨k,ys,hk,rfl,rfl,hyl,hr,hys,hO,hb⟩:=hrel
  have HY:Hid (∀q,(hq:q<ys.length)->(hq':q<vals.length)->(q<k->ys[q]=VH ps vals[q])/\(k<=q->ys[q]=vals[q])):=hys
  clear hys
  by_cases hlt:k<vals.length
  ·obtain⟨g1,o1,c2,e1,hgB,hgl⟩:=hr.form (by omega)
   obtain rfl:a1=some ⟨g1,o1,none⟩:=by injection e1
   clear e1
   have hky:k<ys.length:=by omega
   have hyk:ys[k]=vals[k]:=(HY.out k hky hlt).2 zD
   obtain⟨⟨d0,d1⟩,f0,f1⟩:=hr.cell hky
   have hkz:(k:Int)<(vals.length:Int):=by omega
   have N1:=zB wr (.cells #[.int .i64 vals[k].1,.int .i64 vals[k].2] 98)
   have VW:=hr.below N1
   have hOA:=hO.below N1
   have Wy:=hb.trans (N1.mono hb.size)
   have zdy:=hr.set1 k hky (qg ps vals[k].2)
   have hset:=zdy.below (zB _ (.cells #[.int .i64 vals[k].1,.int .i64 vals[k].2] 98))
   clear zdy
   have d1A:=zc N1 d1
   have f1A:(wr.alloc (.cells #[.int .i64 vals[k].1,.int .i64 vals[k].2] 98)).frozen? ⟨g1,o1+k * 2+1,none⟩=false:=(World.frozen?_of_block (a:=⟨g1,o1+k * 2+1,none⟩) (N1.block g1 hgl)).trans f1
   rw[hyk] at d0 d1 d1A hset
   have hren:vals[k].1=2->VH ps vals[k]=(vals[k].1,qg ps vals[k].2):=fun e=>by unfold VH;rw[if_pos e,e]
   have zdx:¬vals[k].1=2->VH ps vals[k]=vals[k]:=fun e=>by unfold VH;rw[if_neg e]
   have HREN:Hid _:=hren
   have HREN2:Hid _:=zdx
   have HB3:=HLT.out
   have hOS:=(hO.set (p:=⟨g1,o1+k * 2+1,none⟩) (.int .i64 (qg ps vals[k].2)) (by show bo≠g1;omega) (fun e=>by have h1:g1<w.heap.size:=HB3.2.1 _ e;omega) (fun e=>by have h1:g1<w.heap.size:=HB3.2.2 _ e;omega)).alloc (.cells #[.int .i64 vals[k].1,.int .i64 vals[k].2] 98)
   have hbS0:=hb.setCell (p:=⟨g1,o1+k * 2+1,none⟩) hgB (.int .i64 (qg ps vals[k].2))
   have hbS:=hbS0.alloc hbS0.size (.cells #[.int .i64 vals[k].1,.int .i64 vals[k].2] 98)
   clear hren zdx hr hO hb HLT hbS0
   by_cases hkd:vals[k].1=2
   ·have hE:=HREN.out hkd
    have HE:Hid (VH ps vals[k]=(vals[k].1,qg ps vals[k].2)):=hE
    clear hE
    have hds:∀x0:Int,x0=vals[k].1->x0=2:=fun x0 e=>by rw[e];exact hkd
    clear hds
    have HYK:Hid (ys[k]=vals[k]):=hyk
    clear hyk
    have hd02:wr.cell? ⟨g1,o1+k * 2,none⟩=some (.int .i64 2):=by rw[d0,hkd]
    clear d0
    rw[hkd] at hset hOS hbS hOA d1A f1A
    go_wp2_with (go_at_call 141;refine(Qb A B bo n ps vp vn _ _ hOA hps hn).mono ?_;rintro e w' ⟨rfl,hw⟩;obtain rfl:=hw.symm)
    go_roundg (vals.length - (k+1))
    case measure=>omega
    case rel=>exact⟨k+1,_,by omega,rfl,by go_num,by rw[List.length_set];exact hyl,hset,fun q h1 h2=>by
     rw[List.length_set] at h1
     refine⟨fun hq=>?_,fun hq=>?_⟩
     ·by_cases e:q=k
      ·subst e;rw[List.getElem_set_self,HE.out,hkd]
      ·rw[List.getElem_set_ne (fun x=>e x.symm)];exact(HY.out q h1 h2).1 (by omega)
     ·rw[List.getElem_set_ne (by omega)];exact(HY.out q h1 h2).2 (by omega),hOS,hbS⟩
   ·have hE:=HREN2.out hkd
    have HE:Hid (VH ps vals[k]=vals[k]):=hE
    have HYK:Hid (ys[k]=vals[k]):=hyk
    clear hE hyk hset hOS hbS
    go_wp2
    go_roundg (vals.length - (k+1))
    case measure=>omega
    case rel=>exact⟨k+1,ys,by omega,rfl,by go_num,hyl,VW,fun q h1 h2=>by
     refine⟨fun hq=>?_,fun hq=>(HY.out q h1 h2).2 (by omega)⟩
     by_cases e:q=k
     ·subst e;rw[HYK.out,HE.out]
     ·exact(HY.out q h1 h2).1 (by omega),hOA,Wy⟩
  ·obtain rfl:k=vals.length:=by omega
   have hE:ys=vals.map (VH ps):=List.ext_getElem (by simpa using hyl) fun q h1 h2=>by rw[(HY.out q h1 (by simpa using h2)).1 (by simpa using h2)];simp
   subst hE
   go_wp2
   go_ret
   exact⟨_,rfl,hr,hb⟩
def Uj (m:Mc) (i k:Int):Bool:=yO i 0 ((m.zd.length:Int) - 1) && yO k 0 (((uK m i).zk.length:Int) - 1)
theorem zaI {m:Mc} {i:Int} (h:yO i 0 ((m.zd.length:Int) - 1)=true):∃k:Nat,i=(k:Int)/\k<m.zd.length:=by
 have:=zH.1 h
 obtain⟨k,rfl⟩:=Int.eq_ofNat_of_zero_le this.1
 exact⟨k,rfl,by omega⟩
set_option maxRecDepth 100000 in
set_option maxHeartbeats 4000000 in
theorem Xe (vp vo vt vs:Value) (m:Mc) (i k:Int) (w:World) (h:yF w vp vo vt vs m) :
 Calls Tryz.prog 134 #[.agg (zI vp vo vt vs m).toArray,.int .i64 i,.int .i64 k] w fun e w'=>e=.returned (.bool (Uj m i k))/\Below w.heap.size w w':=by
 obtain⟨ap,cp,hvp,hlp,hcp⟩:=id h.p
 obtain⟨ao,co,xz,hlo,hco⟩:=id h.o
 obtain⟨at',ct,xZ,hlt',hct⟩:=id h.t
 obtain⟨as',cs,hvs⟩:=h.s.shape
 subst hvp xz xZ hvs
 unfold zI
 go_enter Tryz.func134,Tryz.ntmps134
 go_upto_region 1 with fail
 refine ye (fun W=>Below w.heap.size w W/\Bx W w.heap.size 42 [.int .i64 m.cells,.slice ap m.zd.length cp,.slice ao m.order.length co,.int .i64 m.now,.slice at' m.zh.length ct,.int .i64 m.born,.slice as' m.zl.length cs,.int .i64 m.code]) ⟨zB _ _,Bx.new w _ _⟩ ?_
 rintro W ⟨hb,hm⟩
 obtain⟨⟨m0,m1,m2,m3,m4,m5,m6,m7⟩,_⟩:=xy hm
 obtain⟨f,hf⟩:∃f,yO i 0 ((m.zd.length:Int) - 1)=f:=⟨_,rfl⟩
 have HP:=yd i m.zd.length W
 rw[hf] at HP
 go_wp2_with fail
 refine HP.mono ?_
 rintro e W1 ⟨rfl,hw⟩
 obtain rfl:=hw.symm
 clear hw HP
 cases f
 ·have HE:Hid (Uj m i k=false):=by show _=_;unfold Uj;rw[hf];rfl
  go_wp2
  go_ret
  exact⟨zm HE.out.symm,hb⟩
 obtain⟨j,rfl,hj⟩:=zaI hf
 obtain⟨b2,o2,vf,hap,jN⟩:=hcp j hj
 subst hap
 obtain⟨af,cf,Z4⟩:=jN.f.shape
 have e1:=zc hb jN.c1
 rw[Z4] at e1
 have hjz:(j:Int)<(m.zd.length:Int):=by omega
 have HE:Hid (Uj m (j:Int) k=yO k 0 ((m.zd[j].zk.length:Int) - 1)):=by show _=_;unfold Uj;rw[hf,kB hj];rfl
 clear hf hcp jN Z4
 go_wp2_with fail
 refine(yd _ _ _).mono ?_
 rintro e W1 ⟨rfl,hw⟩
 obtain rfl:=hw.symm
 clear hw
 go_wp2
 go_ret
 exact⟨zm HE.out.symm,hb⟩
def js (c:Cl):Bool:=c.m == 0 && c.pc == 0 && decide (c.zg.length=0) && decide (c.ze.length=0) && c.zf == 0 && !c.zv
set_option maxRecDepth 100000 in
set_option maxHeartbeats 4000000 in
theorem XI (c:Cl) (vt vs:Value) (w:World) (ht:zR w vt c.zg) (hs:zR w vs c.ze) :
 Calls Tryz.prog 135 #[.agg #[.int .i64 c.m,.int .i64 c.pc,vt,vs,.int .i64 c.zf,.bool c.zv]] w fun e w'=>e=.returned (.bool (js c))/\Below w.heap.size w w':=by
 obtain⟨a1,c1,e1,hl1,_⟩:=ht
 obtain⟨a2,c2,e2,hl2,_⟩:=hs
 subst e1 e2
 have hB:∀o,Below w.heap.size w (w.alloc o):=fun o=>zB _ _
 go_enter Tryz.func135,Tryz.ntmps135
 by_cases h0:c.m=0
 case neg =>
  have HE:Hid (js c=false):=by show _=_;unfold js;simp[h0]
  have e:(c.m == 0)=false:=by simpa using h0
  go_wp2
  go_ret
  exact⟨zm HE.out.symm,hB _⟩
 by_cases h1:c.pc=0
 case neg =>
  have HE:Hid (js c=false):=by show _=_;unfold js;simp[h1]
  have e:(c.pc == 0)=false:=by simpa using h1
  go_wp2
  go_ret
  exact⟨zm HE.out.symm,hB _⟩
 by_cases h2:c.zg.length=0
 case neg =>
  have HE:Hid (js c=false):=by show _=_;unfold js;simp[h2]
  go_wp2
  go_ret
  exact⟨zm HE.out.symm,hB _⟩
 by_cases h3:c.ze.length=0
 case neg =>
  have HE:Hid (js c=false):=by show _=_;unfold js;simp[h3]
  go_wp2
  go_ret
  exact⟨zm HE.out.symm,hB _⟩
 by_cases h4:c.zf=0
 case neg =>
  have HE:Hid (js c=false):=by show _=_;unfold js;simp[h4]
  have e:(c.zf == 0)=false:=by simpa using h4
  go_wp2
  go_ret
  exact⟨zm HE.out.symm,hB _⟩
 have HE:Hid (js c=!c.zv):=by show _=_;unfold js;simp[h0,h1,h2,h3,h4]
 go_wp2
 go_ret
 exact⟨zm HE.out.symm,hB _⟩
def Tw.none:Tw:=⟨-1,0,⟨0,0,[],[],0,false⟩⟩
def jM (m:Mc) (i:Int):Tw:=m.zh.getD i.toNat Tw.none
theorem vQ {m:Mc} {k:Nat} (h:k<m.zh.length):jM m (k:Int)=m.zh[k]:=by simp[jM,h]
theorem zaL {m:Mc} {i:Int} (h:yO i 0 ((m.zh.length:Int) - 1)=true):∃k:Nat,i=(k:Int)/\k<m.zh.length:=by
 have:=zH.1 h
 obtain⟨k,rfl⟩:=Int.eq_ofNat_of_zero_le this.1
 exact⟨k,rfl,by omega⟩
def kj (m:Mc) (p:Pg):Bool :=
 p.base == -1 || (decide (p.zk.length≠0) && yO p.base 0 ((m.zh.length:Int) - 1) && ((jM m p.base).page == -1 || (yO (jM m p.base).page 0 ((m.zd.length:Int) - 1) && (jM m p.base).place == ((uK m (jM m p.base).page).zk.length:Int) - 1)))
set_option maxRecDepth 100000 in
set_option maxHeartbeats 4000000 in
theorem Wo (vp vo vt vs:Value) (m:Mc) (p:Pg) (af:Option Addr) (cf:Nat) (w:World) (h:yF w vp vo vt vs m) (hsm:∀i,(hi:i<m.zd.length)->m.zd[i].zk.length<=1099511627776) :
 Calls Tryz.prog 133 #[.agg (zI vp vo vt vs m).toArray,.agg #[.int .i64 p.base,.slice af p.zk.length cf]] w fun e w'=>e=.returned (.bool (kj m p))/\Below w.heap.size w w':=by
 obtain⟨ap,cp,hvp,hlp,hcp⟩:=id h.p
 obtain⟨ao,co,xz,hlo,hco⟩:=id h.o
 obtain⟨at',ct,xZ,hlt',hct⟩:=id h.t
 obtain⟨as',cs,hvs⟩:=h.s.shape
 subst hvp xz xZ hvs
 unfold zI
 have HSM:Hid (∀i,(hi:i<m.zd.length)->m.zd[i].zk.length<=1099511627776):=hsm
 clear hsm
 go_enter Tryz.func133,Tryz.ntmps133
 go_upto_region 1 with fail
 refine ye (fun W=>Below w.heap.size w W/\Bx W w.heap.size 42 [.int .i64 m.cells,.slice ap m.zd.length cp,.slice ao m.order.length co,.int .i64 m.now,.slice at' m.zh.length ct,.int .i64 m.born,.slice as' m.zl.length cs,.int .i64 m.code]/\Bx W (w.heap.size+1) 101 [.int .i64 p.base,.slice af p.zk.length cf]) ⟨(zB _ _).alloc (by simp) _,(Bx.new w _ _).alloc _,Bx.newAt _ _ _ (by simp)⟩ ?_
 rintro W ⟨hb,hm,hx⟩
 obtain⟨⟨m0,m1,m2,m3,m4,m5,m6,m7⟩,_⟩:=xy hm
 have x0:=hx.cell 0 rfl
 have x1:=hx.cell 1 rfl
 by_cases hb1:p.base=-1
 ·have HE:Hid (kj m p=true):=by show _=_;unfold kj;rw[hb1];rfl
  rw[hb1] at x0
  go_wp2
  go_ret
  exact⟨zm HE.out.symm,hb⟩
 have hbe:(p.base == -1)=false:=by simpa using hb1
 by_cases hf0:p.zk.length=0
 ·have HE:Hid (kj m p=false):=by show _=_;unfold kj;rw[hbe,hf0];rfl
  rw[hf0] at x1
  go_wp2
  go_ret
  exact⟨zm HE.out.symm,hb⟩
 have hfz:¬((p.zk.length:Int)=0):=by omega
 obtain⟨f,hf⟩:∃f,yO p.base 0 ((m.zh.length:Int) - 1)=f:=⟨_,rfl⟩
 have HP:=yd p.base m.zh.length W
 rw[hf] at HP
 go_wp2_with fail
 refine HP.mono ?_
 rintro e W1 ⟨rfl,hw⟩
 obtain rfl:=hw.symm
 clear hw HP
 cases f
 ·have HE:Hid (kj m p=false):=by show _=_;unfold kj;rw[hbe,hf];simp
  go_wp2
  go_ret
  exact⟨zm HE.out.symm,hb⟩
 obtain⟨j,hj,hjl⟩:=zaL hf
 have HB0:Hid (kj m p=((jM m p.base).page == -1 || (yO (jM m p.base).page 0 ((m.zd.length:Int) - 1) && (jM m p.base).place == ((uK m (jM m p.base).page).zk.length:Int) - 1))):=by show _=_;unfold kj;rw[hbe,hf];simp[hf0]
 rw[hj] at x0 HB0 hbe
 rw[vQ hjl] at HB0
 obtain⟨b,o,vt,vs,hat,Z3⟩:=hct j hjl
 subst hat
 obtain⟨d0,d1,d2,d3,d4,d5,d6,d7,dt,ds⟩:=Z3.below hb
 obtain⟨a1,k1,e1⟩:=dt.shape
 obtain⟨a2,k2,e2⟩:=ds.shape
 rw[e1] at d4
 rw[e2] at d5
 have hjz:(j:Int)<(m.zh.length:Int):=by omega
 have zb:=hb.size
 have lm:=hm.lt
 clear hf hct Z3 dt ds e1 e2 hj hb1
 obtain⟨T,hT⟩:∃T,m.zh[j]=T:=⟨_,rfl⟩
 rw[hT] at d0 d1 d2 d3 d4 d5 d6 d7 HB0
 clear hT
 go_upto_region 6 with fail
 refine ye (fun W'=>Below W.heap.size W W'/\Bx W' W.heap.size 90 [.int .i64 T.page,.int .i64 T.place,.int .i64 T.left.m,.int .i64 T.left.pc,.slice a1 T.left.zg.length k1,.slice a2 T.left.ze.length k2,.int .i64 T.left.zf,.bool T.left.zv]) ⟨zB _ _,Bx.new _ _ _⟩ ?_
 rintro W2 ⟨t2,y2⟩
 have hb2:=hb.trans (t2.mono zb)
 have hm2:=hm.below t2
 clear hb hm hx t2 zb lm d0 d1 d2 d3 d4 d5 d6 d7 m0 m1 m2 m3 m4 m5 m6 m7 x0 x1
 obtain⟨⟨m0,m1,m2,m3,m4,m5,m6,m7⟩,_⟩:=xy hm2
 have y0:=y2.cell 0 rfl
 have y1:=y2.cell 1 rfl
 by_cases hpn:T.page=-1
 ·have HE:Hid (kj m p=true):=by rw[HB0.out,hpn];rfl
  rw[hpn] at y0
  go_wp2
  go_ret
  exact⟨zm HE.out.symm,hb2⟩
 have hpe:(T.page == -1)=false:=by simpa using hpn
 obtain⟨f,hf⟩:∃f,yO T.page 0 ((m.zd.length:Int) - 1)=f:=⟨_,rfl⟩
 have HP:=fun W=>yd T.page m.zd.length W
 rw[hf] at HP
 cases f
 ·have HE:Hid (kj m p=false):=by rw[HB0.out,hpe,hf];rfl
  clear HB0 hf
  go_wp2_with fail
  go_quiet ((go_at_call 61;exact Calls.quiet_of_same (HP _)))
  go_wp2
  go_ret
  exact⟨zm HE.out.symm,ZJ hb2 _⟩
 obtain⟨i,hi,hil⟩:=zaI hf
 rw[hi] at HB0 y0 HP hf hpe
 rw[kB hil,hf,hpe] at HB0
 obtain⟨b2,o2,vf,hap,jN⟩:=hcp i hil
 subst hap
 obtain⟨ag,cg,Z4⟩:=jN.f.shape
 have g1:=zc hb2 jN.c1
 rw[Z4] at g1
 have hnb:=HSM.out i hil
 obtain⟨nf,hnf⟩:∃nf,m.zd[i].zk.length=nf:=⟨_,rfl⟩
 rw[hnf] at g1 HB0 hnb
 have hiz:(i:Int)<(m.zd.length:Int):=by omega
 have hwn:IntKind.i64.wrap ((nf:Int) - 1)=(nf:Int) - 1:=by rw[IntKind.wrap_i64];omega
 have HE:Hid (kj m p=(T.place == (nf:Int) - 1)):=by rw[HB0.out];rfl
 clear HB0 hf hcp jN Z4 hnf hi hpn
 go_wp2_with fail
 go_quiet ((go_at_call 61;exact Calls.quiet_of_same (HP _)))
 go_wp2
 go_ret
 exact⟨zm HE.out.symm,ZJ hb2 _⟩
def Uk (f:Fr):Cl:=⟨f.m,f.pc,f.zg,f.ze,-1,false⟩
def xP (ms:zM) (m:Mc) (i k:Nat) (f:Fr):Bool :=
 yT ms m.zh.length (Uk f) && (f.twin == -1 || (yO f.twin 0 ((m.zh.length:Int) - 1) && ((jM m f.twin).page == (i:Int) && (jM m f.twin).place == (k:Int))))
set_option maxRecDepth 100000 in
set_option maxHeartbeats 4000000 in
theorem Ul (vq:Value) (ms:zM) (vp vo vt vs:Value) (m:Mc) (i k:Nat) (w:World) (hq:yy w vq ms) (h:yF w vp vo vt vs m) (hops:∀i,(h:i<ms.length)->ms[i].2.2.length<=1000000) (hi:i<m.zd.length) (hk:k<m.zd[i].zk.length) (F:Fr) (hF0:m.zd[i].zk[k]=F) :
 Calls Tryz.prog 131 #[.agg #[vq],.agg (zI vp vo vt vs m).toArray,.int .i64 (i:Int),.int .i64 (k:Int)] w fun e w'=>e=.returned (.bool (xP ms m i k F))/\Below w.heap.size w w':=by
 have HF:Hid (m.zd[i].zk[k]=F):=hF0
 clear hF0
 have HOPS:Hid (∀i,(h:i<ms.length)->ms[i].2.2.length<=1000000):=hops
 clear hops
 have htm:m.zh.length<=maxLen:=by obtain⟨_,_,_,hl,_⟩:=id h.t;exact hl
 obtain⟨aq,cq,hvq,hlq,hcq⟩:=id hq
 subst hvq
 obtain⟨ap,cp,hvp,hlp,hcp⟩:=id h.p
 obtain⟨ao,co,xz,hlo,hco⟩:=id h.o
 obtain⟨at',ct,xZ,hlt',hct⟩:=id h.t
 obtain⟨as',cs,hvs⟩:=h.s.shape
 subst hvp xz xZ hvs
 unfold zI
 go_enter Tryz.func131,Tryz.ntmps131
 go_upto_region 1 with fail
 refine ye (fun W=>Below w.heap.size w W/\Bx W w.heap.size 25 [.slice aq ms.length cq]/\Bx W (w.heap.size+1) 42 [.int .i64 m.cells,.slice ap m.zd.length cp,.slice ao m.order.length co,.int .i64 m.now,.slice at' m.zh.length ct,.int .i64 m.born,.slice as' m.zl.length cs,.int .i64 m.code]) ⟨(zB _ _).alloc (by simp) _,(Bx.new w _ _).alloc _,Bx.newAt _ _ _ (by simp)⟩ ?_
 rintro W ⟨hb,hx,hm⟩
 have x0:=hx.cell 0 rfl
 obtain⟨⟨m0,m1,m2,m3,m4,m5,m6,m7⟩,_⟩:=xy hm
 obtain⟨bp,op,vf,hap,jN⟩:=hcp i hi
 subst hap
 obtain⟨af,cf,Z4,_,hcf⟩:=id jN.f
 obtain⟨bf,of,vt1,vs1,haf,hfr⟩:=hcf k hk
 subst haf
 have g1:=zc hb jN.c1
 rw[Z4] at g1
 obtain⟨nf,hnf⟩:∃nf,m.zd[i].zk.length=nf:=⟨_,rfl⟩
 rw[HF.out] at hfr
 rw[hnf] at g1
 obtain⟨d0,d1,d2,d3,d4,dt,ds⟩:=hfr.below hb
 obtain⟨a1,k1,e1⟩:=dt.shape
 obtain⟨a2,k2,e2⟩:=ds.shape
 rw[e1] at d3 dt
 rw[e2] at d4 ds
 have hiz:(i:Int)<(m.zd.length:Int):=by omega
 have hkz:(k:Int)<(nf:Int):=by omega
 have hkn:k<nf:=by omega
 have zb:=hb.size
 clear hcp jN Z4 hcf hfr HF e1 e2
 have HK0:Hid (m.zd[i].zk.length=nf):=hnf
 clear hnf hk
 go_upto_region 2 with fail
 refine ye (fun W'=>Below W.heap.size W W'/\Bx W' W.heap.size 103 [.int .i64 F.m,.int .i64 F.pc,.int .i64 F.twin,.slice a1 F.zg.length k1,.slice a2 F.ze.length k2]) ⟨zB _ _,Bx.new _ _ _⟩ ?_
 rintro W2 ⟨t2,y2⟩
 have hb2:=hb.trans (t2.mono zb)
 have hm2:=hm.below t2
 have hx2:=hx.below t2
 have z2:=hb2.size
 have dt2:=dt.below t2
 have ds2:=ds.below t2
 clear hb hm hx t2 zb d0 d1 d2 d3 d4 dt ds m0 m1 m2 m3 m4 m5 m6 m7 x0 g1
 obtain⟨⟨m0,m1,m2,m3,m4,m5,m6,m7⟩,_⟩:=xy hm2
 have x0:=hx2.cell 0 rfl
 have y0:=y2.cell 0 rfl
 have y1:=y2.cell 1 rfl
 have y2':=y2.cell 2 rfl
 have y3:=y2.cell 3 rfl
 have y4:=y2.cell 4 rfl
 obtain⟨f,hf⟩:∃f,yT ms m.zh.length (Uk F)=f:=⟨_,rfl⟩
 have HC:=uE _ _ _ ms (Uk F) m.zh.length W2 (hq.below hb2) (show zR W2 (.slice a1 F.zg.length k1) (Uk F).zg from dt2) (show zR W2 (.slice a2 F.ze.length k2) (Uk F).ze from ds2) htm HOPS.out
 rw[hf] at HC
 unfold qt Uk at HC
 go_wp2_with fail
 refine HC.mono ?_
 rintro e W3 ⟨rfl,t3⟩
 have hb3:=hb2.trans (t3.mono z2)
 have Xc:=hm2.below t3
 have y3r:=y2.below t3
 clear HC t3 hm2 hx2 y2 hb2 z2 dt2 ds2 m0 m1 m2 m3 m4 m5 m6 m7 x0 y0 y1 y2' y3 y4
 cases f
 ·have HE:Hid (xP ms m i k F=false):=by show _=_;unfold xP;rw[hf];rfl
  go_wp2
  go_ret
  exact⟨zm HE.out.symm,hb3⟩
 have HE0:Hid (xP ms m i k F=(F.twin == -1 || (yO F.twin 0 ((m.zh.length:Int) - 1) && ((jM m F.twin).page == (i:Int) && (jM m F.twin).place == (k:Int))))):=by show _=_;unfold xP;rw[hf];rfl
 clear hf
 have y2':=y3r.cell 2 rfl
 obtain⟨⟨m0,m1,m2,m3,m4,m5,m6,m7⟩,_⟩:=xy Xc
 by_cases htw1:F.twin=-1
 ·have HE:Hid (xP ms m i k F=true):=by rw[HE0.out,htw1];rfl
  rw[htw1] at y2'
  go_wp2
  go_ret
  exact⟨zm HE.out.symm,hb3⟩
 have hte:(F.twin == -1)=false:=by simpa using htw1
 obtain⟨f,hf⟩:∃f,yO F.twin 0 ((m.zh.length:Int) - 1)=f:=⟨_,rfl⟩
 have HP:=yd F.twin m.zh.length W3
 rw[hf] at HP
 go_wp2_with fail
 refine HP.mono ?_
 rintro e W4 ⟨rfl,hw⟩
 obtain rfl:=hw.symm
 clear hw HP
 cases f
 ·have HE:Hid (xP ms m i k F=false):=by rw[HE0.out,hte,hf];rfl
  go_wp2
  go_ret
  exact⟨zm HE.out.symm,hb3⟩
 obtain⟨j,hj,hjl⟩:=zaL hf
 rw[hte,hf,hj,vQ hjl] at HE0
 rw[hj] at y2' hte
 obtain⟨b,o,vt,vs,hat,Z3⟩:=hct j hjl
 subst hat
 obtain⟨c0,c1,_,_,_,_,_,_,_,_⟩:=Z3.below hb3
 have hjz:(j:Int)<(m.zh.length:Int):=by omega
 have HE1:Hid (xP ms m i k F=(m.zh[j].page == (i:Int) && m.zh[j].place == (k:Int))):=by rw[HE0.out];rfl
 clear HE0 hf hct Z3 hj htw1
 obtain⟨pgv,hpgv⟩:∃x,m.zh[j].page=x:=⟨_,rfl⟩
 obtain⟨plv,hplv⟩:∃x,m.zh[j].place=x:=⟨_,rfl⟩
 rw[hpgv] at c0 HE1
 rw[hplv] at c1 HE1
 clear hpgv hplv
 by_cases hpp:pgv=(i:Int)
 ·rw[hpp] at c0
  have HE:Hid (xP ms m i k F=(plv == (k:Int))):=by show _=_;rw[HE1.out,hpp];simp
  go_wp2
  go_ret
  exact⟨zm HE.out.symm,hb3⟩
 ·have hpf:(pgv == (i:Int))=false:=by simpa using hpp
  have HE:Hid (xP ms m i k F=false):=by rw[HE1.out,hpf];rfl
  go_wp2
  go_ret
  exact⟨zm HE.out.symm,hb3⟩
def Fr.none:Fr:=⟨0,0,-1,[],[]⟩
def Wx (m:Mc) (i k:Int):Fr:=(uK m i).zk.getD k.toNat Fr.none
theorem zaB {m:Mc} {i k:Nat} (hi:i<m.zd.length) (hk:k<m.zd[i].zk.length):Wx m (i:Int) (k:Int)=m.zd[i].zk[k]:=by unfold Wx;rw[kB hi];simp[hk]
theorem zdm {m:Mc} {i k:Int} (h:Uj m i k=true):∃(a b:Nat) (ha:a<m.zd.length),i=(a:Int)/\k=(b:Int)/\b<m.zd[a].zk.length:=by
 unfold Uj at h
 obtain⟨h1,h2⟩:=Bool.and_eq_true_iff.1 h
 obtain⟨a,rfl,ha⟩:=zaI h1
 rw[kB ha] at h2
 have h3:=zH.1 h2
 obtain⟨b,rfl⟩:=Int.eq_ofNat_of_zero_le h3.1
 exact⟨a,b,ha,rfl,rfl,by omega⟩
def qW (ms:zM) (m:Mc) (j:Nat) (t:Tw):Bool :=
 if t.page=-1 then t.place == 0 && yT ms m.zh.length t.left else Uj m t.page t.place && ((Wx m t.page t.place).twin == (j:Int) && js t.left)
set_option maxRecDepth 100000 in
set_option maxHeartbeats 4000000 in
theorem zap (vq:Value) (ms:zM) (vp vo vt vs:Value) (m:Mc) (j:Nat) (w:World) (hq:yy w vq ms) (h:yF w vp vo vt vs m) (hops:∀i,(h:i<ms.length)->ms[i].2.2.length<=1000000) (hj:j<m.zh.length) (T:Tw) (hT0:m.zh[j]=T) :
 Calls Tryz.prog 78 #[.agg #[vq],.agg (zI vp vo vt vs m).toArray,.int .i64 (j:Int)] w fun e w'=>e=.returned (.bool (qW ms m j T))/\Below w.heap.size w w':=by
 have HT:Hid (m.zh[j]=T):=hT0
 clear hT0
 have HOPS:Hid (∀i,(h:i<ms.length)->ms[i].2.2.length<=1000000):=hops
 clear hops
 have htm:m.zh.length<=maxLen:=by obtain⟨_,_,_,hl,_⟩:=id h.t;exact hl
 obtain⟨aq,cq,hvq,hlq,hcq⟩:=id hq
 subst hvq
 obtain⟨ap,cp,hvp,hlp,hcp⟩:=id h.p
 obtain⟨ao,co,xz,hlo,hco⟩:=id h.o
 obtain⟨at',ct,xZ,hlt',hct⟩:=id h.t
 obtain⟨as',cs,hvs⟩:=h.s.shape
 subst hvp xz xZ hvs
 unfold zI
 go_enter Tryz.func78,Tryz.ntmps78
 go_upto_region 1 with fail
 refine ye (fun W=>Below w.heap.size w W/\Bx W w.heap.size 25 [.slice aq ms.length cq]/\Bx W (w.heap.size+1) 42 [.int .i64 m.cells,.slice ap m.zd.length cp,.slice ao m.order.length co,.int .i64 m.now,.slice at' m.zh.length ct,.int .i64 m.born,.slice as' m.zl.length cs,.int .i64 m.code]) ⟨(zB _ _).alloc (by simp) _,(Bx.new w _ _).alloc _,Bx.newAt _ _ _ (by simp)⟩ ?_
 rintro W ⟨hb,hx,hm⟩
 have x0:=hx.cell 0 rfl
 obtain⟨⟨m0,m1,m2,m3,m4,m5,m6,m7⟩,_⟩:=xy hm
 obtain⟨b,o,vt,vs,hat,Z3⟩:=hct j hj
 subst hat
 rw[HT.out] at Z3
 obtain⟨d0,d1,d2,d3,d4,d5,d6,d7,dt,ds⟩:=Z3.below hb
 obtain⟨a1,k1,e1⟩:=dt.shape
 obtain⟨a2,k2,e2⟩:=ds.shape
 rw[e1] at d4 dt
 rw[e2] at d5 ds
 have hjz:(j:Int)<(m.zh.length:Int):=by omega
 have zb:=hb.size
 clear hct Z3 e1 e2 HT
 go_upto_region 2 with fail
 refine ye (fun W'=>Below W.heap.size W W'/\Bx W' W.heap.size 90 [.int .i64 T.page,.int .i64 T.place,.int .i64 T.left.m,.int .i64 T.left.pc,.slice a1 T.left.zg.length k1,.slice a2 T.left.ze.length k2,.int .i64 T.left.zf,.bool T.left.zv]) ⟨zB _ _,Bx.new _ _ _⟩ ?_
 rintro W2 ⟨t2,y2⟩
 have hb2:=hb.trans (t2.mono zb)
 have hm2:=hm.below t2
 have hx2:=hx.below t2
 have z2:=hb2.size
 have dt2:=dt.below t2
 have ds2:=ds.below t2
 clear hb hm hx t2 zb d0 d1 d2 d3 d4 d5 d6 d7 dt ds m0 m1 m2 m3 m4 m5 m6 m7 x0
 obtain⟨⟨m0,m1,m2,m3,m4,m5,m6,m7⟩,_⟩:=xy hm2
 obtain⟨⟨y0,y1,y2',y3,y4,y5,y6,y7⟩,_⟩:=xy y2
 have x0:=hx2.cell 0 rfl
 by_cases hp:T.page=-1
 ·have HE0:Hid (qW ms m j T=(T.place == 0 && yT ms m.zh.length T.left)):=by show _=_;unfold qW;rw[if_pos hp]
  rw[hp] at y0
  by_cases hz:T.place=0
  ·have HE:Hid (qW ms m j T=yT ms m.zh.length T.left):=by rw[HE0.out,hz];rfl
   rw[hz] at y1
   have HC:=uE _ _ _ ms T.left m.zh.length W2 (hq.below hb2) dt2 ds2 htm HOPS.out
   unfold qt at HC
   go_wp2_with fail
   refine HC.mono ?_
   rintro e W3 ⟨rfl,t3⟩
   have hb3:=hb2.trans (t3.mono z2)
   go_wp2
   go_ret
   exact⟨zm HE.out.symm,hb3⟩
  ·have hze:(T.place == 0)=false:=by simpa using hz
   have HE:Hid (qW ms m j T=false):=by rw[HE0.out,hze];rfl
   go_wp2
   go_ret
   exact⟨zm HE.out.symm,hb2⟩
 have hpe:(T.page == -1)=false:=by simpa using hp
 have HE0:Hid (qW ms m j T=(Uj m T.page T.place && ((Wx m T.page T.place).twin == (j:Int) && js T.left))):=by show _=_;unfold qW;rw[if_neg hp]
 go_upto_region 4 with fail
 have L0:=Gr.cell m0
 have L1:=Gr.cell m1
 have L2:=Gr.cell m2
 have L3:=Gr.cell m3
 have L4:=Gr.cell m4
 have L5:=Gr.cell m5
 have L6:=Gr.cell m6
 have L7:=Gr.cell m7
 have Y0:=Gr.cell y0
 have Y1:=Gr.cell y1
 have Y2:=Gr.cell y2'
 have Y3:=Gr.cell y3
 have Y4:=Gr.cell y4
 have Y5:=Gr.cell y5
 have Y6:=Gr.cell y6
 have Y7:=Gr.cell y7
 obtain⟨f,hf⟩:∃f,Uj m T.page T.place=f:=⟨_,rfl⟩
 have HI:=qe (W:=W2) fun W' (hW:Below W2.heap.size W2 W')=>Xe _ _ _ _ m T.page T.place W' ((h.below hb2).below hW)
 rw[hf] at HI
 unfold zI at HI
 cases f
 ·have HE:Hid (qW ms m j T=false):=by rw[HE0.out,hf];rfl
  clear HE0 hf
  refine WQ.region (by kernel_rfl) (by kernel_rfl) ?_
  iterate 28 (refine WQ.step (fun K hK=>?_);go_simp;first
   | (with_reducible refine hK _ ?_;clear hK K)
   | (with_reducible refine yH ?_;refine hK _ ?_;clear hK K)
   | (simp(contextual:=true) only [L0,L1,L2,L3,L4,L5,L6,L7,Y0,Y1,Result.andThen_ok,true_and];with_reducible refine yH ?_;refine hK _ ?_;clear hK K)
   | (with_reducible refine yp HI ?_;refine hK _ ?_;clear hK K))
  refine WQ.nil ?_
  intro W3 hG3
  have hb3:=hb2.trans (hG3.to.mono z2)
  clear hG3 HI L0 L1 L2 L3 L4 L5 L6 L7 Y0 Y1 Y2 Y3 Y4 Y5 Y6 Y7
  go_wp2
  go_ret
  exact⟨zm HE.out.symm,hb3⟩
 obtain⟨i,k,hi,hie,hke,hk⟩:=zdm hf
 obtain⟨bp,op,vf,hap,jN⟩:=hcp i hi
 subst hap
 obtain⟨af,cf,Z4,_,hcf⟩:=id jN.f
 obtain⟨bf,of,vt1,vs1,haf,hfr⟩:=hcf k hk
 subst haf
 have g1:=Gr.cell (zc hb2 jN.c1)
 rw[Z4] at g1
 have q2:=Gr.cell (zc hb2 hfr.c2)
 rw[hie,hke,zaB hi hk] at HE0
 rw[hie,hke] at hf HI
 rw[hie] at Y0 hpe
 rw[hke] at Y1
 have hiz:(i:Int)<(m.zd.length:Int):=by omega
 have hkz:(k:Int)<(m.zd[i].zk.length:Int):=by omega
 obtain⟨nf,hnf⟩:∃nf,m.zd[i].zk.length=nf:=⟨_,rfl⟩
 rw[hnf] at g1 hkz
 have hkn:k<nf:=by omega
 obtain⟨tv,htv⟩:∃tv,m.zd[i].zk[k].twin=tv:=⟨_,rfl⟩
 rw[htv] at q2 HE0
 clear hcp jN Z4 hcf hfr hnf hie hke htv hk y0 y1 y2' y3 y4 y5 y6 y7 m0 m1 m2 m3 m4 m5 m6 m7
 by_cases htj:tv=(j:Int)
 ·have HE:Hid (qW ms m j T=js T.left):=by show _=_;rw[HE0.out,hf,htj];simp
  rw[htj] at q2
  have HM:=qe (W:=W2) fun W' (hW:Below W2.heap.size W2 W')=>XI T.left _ _ W' (dt2.below hW) (ds2.below hW)
  clear HE0 hf
  refine WQ.region (by kernel_rfl) (by kernel_rfl) ?_
  iterate 28 (refine WQ.step (fun K hK=>?_);go_simp;first
   | (with_reducible refine hK _ ?_;clear hK K)
   | (with_reducible refine yH ?_;refine hK _ ?_;clear hK K)
   | (simp(contextual:=true) only [L0,L1,L2,L3,L4,L5,L6,L7,Y0,Y1,Y2,Y3,Y4,Y5,Y6,Y7,g1,q2,Result.andThen_ok,true_and];with_reducible refine yH ?_;refine hK _ ?_;clear hK K)
   | (with_reducible refine yp HI ?_;refine hK _ ?_;clear hK K)
   | (with_reducible refine yp HM ?_;refine hK _ ?_;clear hK K))
  refine WQ.nil ?_
  intro W3 hG3
  have hb3:=hb2.trans (hG3.to.mono z2)
  clear hG3 HI HM L0 L1 L2 L3 L4 L5 L6 L7 Y0 Y1 Y2 Y3 Y4 Y5 Y6 Y7 g1 q2
  go_wp2
  go_ret
  exact⟨zm HE.out.symm,hb3⟩
 ·have hte:(tv == (j:Int))=false:=by simpa using htj
  have HE:Hid (qW ms m j T=false):=by show _=_;rw[HE0.out,hte];simp
  clear HE0 hf
  refine WQ.region (by kernel_rfl) (by kernel_rfl) ?_
  iterate 28 (refine WQ.step (fun K hK=>?_);go_simp;first
   | (with_reducible refine hK _ ?_;clear hK K)
   | (with_reducible refine yH ?_;refine hK _ ?_;clear hK K)
   | (simp(contextual:=true) only [L0,L1,L2,L3,L4,L5,L6,L7,Y0,Y1,g1,q2,Result.andThen_ok,true_and];with_reducible refine yH ?_;refine hK _ ?_;clear hK K)
   | (with_reducible refine yp HI ?_;refine hK _ ?_;clear hK K))
  refine WQ.nil ?_
  intro W3 hG3
  have hb3:=hb2.trans (hG3.to.mono z2)
  clear hG3 HI L0 L1 L2 L3 L4 L5 L6 L7 Y0 Y1 Y2 Y3 Y4 Y5 Y6 Y7 g1 q2
  go_wp2
  go_ret
  exact⟨zm HE.out.symm,hb3⟩
def uc (B:Nat) (w:World) (d:Nat) (vt vs:Value) (c:Cl):Prop :=
 w.rowIs d 218 5 (jQ (.int .i64 c.m) (.int .i64 c.pc) vt vs (.bool c.zv))/\zj B w vt c.zg/\zj B w vs c.ze/\B<=d /\
 (∀g,vt.ownBlock=some g->g≠d/\vs.ownBlock≠some g)/\(∀g,vs.ownBlock=some g->g≠d)
set_option maxRecDepth 100000 in
set_option maxHeartbeats 4000000 in
theorem Vy (c:Cl) (vt vs:Value) (w:World) (ht:zR w vt c.zg) (hs:zR w vs c.ze) (hl:c.zg.length<=1000/\c.ze.length<=1000) :
 Calls Tryz.prog 116 #[.agg #[.int .i64 c.m,.int .i64 c.pc,vt,vs,.int .i64 c.zf,.bool c.zv]] w fun e w'=>∃(d:Nat) (Ku vs':Value),e=.returned (.pointer (some ⟨d,0,none⟩))/\uc w.heap.size w' d Ku vs' c/\Below w.heap.size w w':=by
 obtain⟨at_,ct,xZ⟩:=ht.shape
 obtain⟨as_,cs,hvs⟩:=hs.shape
 subst xZ hvs
 have hA:Below w.heap.size w (w.alloc (.cells #[.int .i64 c.m,.int .i64 c.pc,.slice at_ c.zg.length ct,.slice as_ c.ze.length cs,.int .i64 c.zf,.bool c.zv] 37)):=zB _ _
 have r1:=jx w 37 (.int .i64 c.m) (.int .i64 c.pc) (.slice at_ c.zg.length ct) (.slice as_ c.ze.length cs) (.int .i64 c.zf) (.bool c.zv)
 have HT:Hid (zR w (.slice at_ c.zg.length ct) c.zg/\zR w (.slice as_ c.ze.length cs) c.ze):=⟨ht,hs⟩
 have hzA:w.heap.size<(w.alloc (.cells #[.int .i64 c.m,.int .i64 c.pc,.slice at_ c.zg.length ct,.slice as_ c.ze.length cs,.int .i64 c.zf,.bool c.zv] 37)).heap.size:=by simp
 clear ht hs
 go_enter Tryz.func116,Tryz.ntmps116
 go_upto_region 1 with fail
 generalize w.alloc (.cells #[.int .i64 c.m,.int .i64 c.pc,.slice at_ c.zg.length ct,.slice as_ c.ze.length cs,.int .i64 c.zf,.bool c.zv] 37)=W at *
 obtain⟨⟨x0,x1,x2,x3,x4,x5⟩,_⟩:=zZ r1
 have HS:∀w':World,Below W.heap.size W w'->((w'.cell? ⟨w.heap.size,0,none⟩=some (.int .i64 c.m)/\w'.cell? ⟨w.heap.size,1,none⟩=some (.int .i64 c.pc)/\w'.cell? ⟨w.heap.size,2,none⟩=some (.slice at_ c.zg.length ct)/\w'.cell? ⟨w.heap.size,3,none⟩=some (.slice as_ c.ze.length cs)/\w'.cell? ⟨w.heap.size,5,none⟩=some (.bool c.zv))/\Below W.heap.size W w'):=fun w' hb=>⟨⟨zc hb x0,zc hb x1,zc hb x2,zc hb x3,zc hb x5⟩,hb⟩
 have HCT:Hid (∀W',Below W.heap.size W W'->Calls Tryz.prog 53 #[.slice at_ c.zg.length ct] W' fun e w'=>∃v',e=.returned v'/\zj W'.heap.size w' v' c.zg/\Below W'.heap.size W' w'):=fun W' hb=>wu _ _ _ (HT.out.1.below (hA.trans (hb.mono hA.size))) hl.1
 have HCS:Hid (∀W',Below W.heap.size W W'->Calls Tryz.prog 53 #[.slice as_ c.ze.length cs] W' fun e w'=>∃v',e=.returned v'/\zj W'.heap.size w' v' c.ze/\Below W'.heap.size W' w'):=fun W' hb=>wu _ _ _ (HT.out.2.below (hA.trans (hb.mono hA.size))) hl.2
 clear x0 x1 x2 x3 x4 x5 r1
 go_region_held3 (fun w'=>(w'.cell? ⟨w.heap.size,0,none⟩=some (.int .i64 c.m)/\w'.cell? ⟨w.heap.size,1,none⟩=some (.int .i64 c.pc)/\w'.cell? ⟨w.heap.size,2,none⟩=some (.slice at_ c.zg.length ct)/\w'.cell? ⟨w.heap.size,3,none⟩=some (.slice as_ c.ze.length cs)/\w'.cell? ⟨w.heap.size,5,none⟩=some (.bool c.zv))/\Below W.heap.size W w')
  ((refine HS _ ?_;first
   | (with_reducible exact(‹(_/\_/\_/\_/\_)/\Below W.heap.size W _›).2)
   | (with_reducible exact zC.drew)
   | (with_reducible exact Vj)
   | (with_reducible exact hBS)
   | (with_reducible exact Vj.alloc Vj.size _)
   | (with_reducible exact hBS.alloc hBS.size _)))
  (first
   | (go_at_call 53;refine(HCT.out _ (‹(_/\_/\_/\_/\_)/\Below W.heap.size W _›).2).mono ?_;rintro e wT ⟨vT,rfl,Vm,Wi⟩;have Vj:=Below.trans (‹(_/\_/\_/\_/\_)/\Below W.heap.size W _›).2 (Wi.mono ((‹(_/\_/\_/\_/\_)/\Below W.heap.size W _›).2).size);obtain⟨aT,kT,hvT,_⟩:=Vm.slice;subst hvT)
   | (go_at_call 53;refine(HCS.out _ (‹(_/\_/\_/\_/\_)/\Below W.heap.size W _›).2).mono ?_;rintro e wS ⟨vS,rfl,hrS,hbS⟩;have hBS:=Below.trans (‹(_/\_/\_/\_/\_)/\Below W.heap.size W _›).2 (hbS.mono ((‹(_/\_/\_/\_/\_)/\Below W.heap.size W _›).2).size);obtain⟨aS,kS,hvS,_⟩:=hrS.slice;subst hvS))
 all_goals first
  | (have hbXY:Below wT.heap.size wT wS:=hbS;have hzX:w.heap.size<=W.heap.size:=hA.size;have hzW:W.heap.size<=wT.heap.size:=Vj.size;have hzY:=hbS.size;have N9:=zB wS (.cells #[.int .i64 c.m,.int .i64 c.pc,.slice aT c.zg.length kT,.slice aS c.ze.length kS,.bool c.zv] 218);have r9:=qG wS 218 (.int .i64 c.m) (.int .i64 c.pc) (.slice aT c.zg.length kT) (.slice aS c.ze.length kS) (.bool c.zv);have pX:=(Vm.below hbXY).below N9;have pY:=hrS.below N9;have B9:=(hA.trans (hBS.mono hA.size)).trans (N9.mono (Nat.le_trans hzX (Nat.le_trans hzW hzY)));have HFIN:Hid (uc w.heap.size (wS.alloc (.cells #[.int .i64 c.m,.int .i64 c.pc,.slice aT c.zg.length kT,.slice aS c.ze.length kS,.bool c.zv] 218)) wS.heap.size (.slice aT c.zg.length kT) (.slice aS c.ze.length kS) c):=⟨r9,pX.mono (by first | exact hzX | exact Nat.le_trans hzX hzW),pY.mono (by first | exact hzX | exact Nat.le_trans hzX hzW),by omega,fun g e=>⟨by have:=(Vm.lt g e).2;omega,fun e2=>by have q1:=Vm.lt g e;have q2:=hrS.lt g e2;omega⟩,fun g e=>by have:=(hrS.lt g e).2;omega⟩;clear HS HCT HCS;go_wp2;go_ret;exact⟨_,_,_,rfl,HFIN.out,B9⟩)
  | (have hbXY:Below wS.heap.size wS wT:=Wi;have hzX:w.heap.size<=W.heap.size:=hA.size;have hzW:W.heap.size<=wS.heap.size:=hBS.size;have hzY:=Wi.size;have N9:=zB wT (.cells #[.int .i64 c.m,.int .i64 c.pc,.slice aT c.zg.length kT,.slice aS c.ze.length kS,.bool c.zv] 218);have r9:=qG wT 218 (.int .i64 c.m) (.int .i64 c.pc) (.slice aT c.zg.length kT) (.slice aS c.ze.length kS) (.bool c.zv);have pX:=(hrS.below hbXY).below N9;have pY:=Vm.below N9;have B9:=(hA.trans (Vj.mono hA.size)).trans (N9.mono (Nat.le_trans hzX (Nat.le_trans hzW hzY)));have HFIN:Hid (uc w.heap.size (wT.alloc (.cells #[.int .i64 c.m,.int .i64 c.pc,.slice aT c.zg.length kT,.slice aS c.ze.length kS,.bool c.zv] 218)) wT.heap.size (.slice aT c.zg.length kT) (.slice aS c.ze.length kS) c):=⟨r9,pY.mono (by first | exact hzX | exact Nat.le_trans hzX hzW),pX.mono (by first | exact hzX | exact Nat.le_trans hzX hzW),by omega,fun g e=>⟨by have:=(Vm.lt g e).2;omega,fun e2=>by have q1:=Vm.lt g e;have q2:=hrS.lt g e2;omega⟩,fun g e=>by have:=(hrS.lt g e).2;omega⟩;clear HS HCT HCS;go_wp2;go_ret;exact⟨_,_,_,rfl,HFIN.out,B9⟩)
end Go.Proofs.YtjbgpcileapogaaGreat

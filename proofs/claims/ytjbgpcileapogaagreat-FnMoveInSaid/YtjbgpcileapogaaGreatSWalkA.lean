/-
  The model's heap at work, walked: l11Anew.
-/
import Derived.Test.YtjbgpcileapogaaGreatSWalkD
namespace Go.Proofs.YtjbgpcileapogaaGreat
open Go.RowKit
theorem yu.lower {B B':Nat} {w:World} {v:Value} {cs:List Cl} {V:Nat->Value × Value} (h:yu B w v cs V) (hB:B'<=B):yu B' w v cs V:=by
 refine⟨?_,fun i hi=>⟨(h.lists i hi).1.mono hB,(h.lists i hi).2.mono hB⟩,h.apart⟩
 rcases h.row with h0 | ⟨g,off,zp,hv,hg,r⟩
 ·exact .inl h0
 ·exact .inr ⟨g,off,zp,hv,by omega,r⟩
set_option maxRecDepth 100000 in
set_option maxHeartbeats 8000000 in
theorem Uu (vc vs:Value) (h:Hp) (w:World) (hh:qa w vc vs h) (hn:h.za.length<=1000) (hsh:∀i,(hi:i<h.za.length)->h.za[i].zg.length<=1000/\h.za[i].ze.length<=1000) (hsd:h.zl.length<=2900000) :
 Calls Tryz.prog 160 #[.agg (yn vc vs h)] w fun e w'=>(∃vm vs' V',e=.returned (.agg (yn vm vs' h))/\yJ w.heap.size w' vm vs' h V')/\Below w.heap.size w w':=by
 unfold yn
 obtain⟨ac,kc,Yq⟩:=hh.c.shape
 obtain⟨aD,kD,hvs⟩:=hh.s.shape
 subst Yq hvs
 have hA:Below w.heap.size w ((((w.alloc (.cells #[.slice ac h.za.length kc,.int .i64 h.now,.int .i64 h.born,.slice aD h.zl.length kD,.int .i64 h.code] 29)).alloc (.cells #[.slice none 0 0,.int .i64 0,.int .i64 0,.slice none 0 0,.int .i64 0] 29)).alloc (.cells #[.slice (some ⟨w.heap.size+1+1+1,0,none⟩) 0 0,.int .i64 h.now,.int .i64 h.born,.slice aD h.zl.length kD,.int .i64 h.code] 29)).alloc (.cells #[] 37)):=(((zB _ _).alloc (by simp) _).alloc (by simp;omega) _).alloc (by simp;omega) _
 have bh:((((w.alloc (.cells #[.slice ac h.za.length kc,.int .i64 h.now,.int .i64 h.born,.slice aD h.zl.length kD,.int .i64 h.code] 29)).alloc (.cells #[.slice none 0 0,.int .i64 0,.int .i64 0,.slice none 0 0,.int .i64 0] 29)).alloc (.cells #[.slice (some ⟨w.heap.size+1+1+1,0,none⟩) 0 0,.int .i64 h.now,.int .i64 h.born,.slice aD h.zl.length kD,.int .i64 h.code] 29)).alloc (.cells #[] 37)).rowIs w.heap.size 29 5 (jQ (.slice ac h.za.length kc) (.int .i64 h.now) (.int .i64 h.born) (.slice aD h.zl.length kD) (.int .i64 h.code)):=(((qG w _ _ _ _ _ _).alloc _).alloc _).alloc _
 have br:=((qG (w.alloc (.cells #[.slice ac h.za.length kc,.int .i64 h.now,.int .i64 h.born,.slice aD h.zl.length kD,.int .i64 h.code] 29)) 29 (.slice none 0 0) (.int .i64 0) (.int .i64 0) (.slice none 0 0) (.int .i64 0)).alloc (.cells #[.slice (some ⟨w.heap.size+1+1+1,0,none⟩) 0 0,.int .i64 h.now,.int .i64 h.born,.slice aD h.zl.length kD,.int .i64 h.code] 29)).alloc (.cells #[] 37)
 have bo:=(qG ((w.alloc (.cells #[.slice ac h.za.length kc,.int .i64 h.now,.int .i64 h.born,.slice aD h.zl.length kD,.int .i64 h.code] 29)).alloc (.cells #[.slice none 0 0,.int .i64 0,.int .i64 0,.slice none 0 0,.int .i64 0] 29)) 29 (.slice (some ⟨w.heap.size+1+1+1,0,none⟩) 0 0) (.int .i64 h.now) (.int .i64 h.born) (.slice aD h.zl.length kD) (.int .i64 h.code)).alloc (.cells #[] 37)
 have mk:yz (w.heap.size+3) ((((w.alloc (.cells #[.slice ac h.za.length kc,.int .i64 h.now,.int .i64 h.born,.slice aD h.zl.length kD,.int .i64 h.code] 29)).alloc (.cells #[.slice none 0 0,.int .i64 0,.int .i64 0,.slice none 0 0,.int .i64 0] 29)).alloc (.cells #[.slice (some ⟨w.heap.size+1+1+1,0,none⟩) 0 0,.int .i64 h.now,.int .i64 h.born,.slice aD h.zl.length kD,.int .i64 h.code] 29)).alloc (.cells #[] 37)) (.slice (some ⟨w.heap.size+1+1+1,0,none⟩) 0 0) []:=by
  have:=yz.made (B:=w.heap.size+3) (w:=(((w.alloc (.cells #[.slice ac h.za.length kc,.int .i64 h.now,.int .i64 h.born,.slice aD h.zl.length kD,.int .i64 h.code] 29)).alloc (.cells #[.slice none 0 0,.int .i64 0,.int .i64 0,.slice none 0 0,.int .i64 0] 29)).alloc (.cells #[.slice (some ⟨w.heap.size+1+1+1,0,none⟩) 0 0,.int .i64 h.now,.int .i64 h.born,.slice aD h.zl.length kD,.int .i64 h.code] 29))) (e:=37) (by simp)
  simpa using this
 have hz4:((((w.alloc (.cells #[.slice ac h.za.length kc,.int .i64 h.now,.int .i64 h.born,.slice aD h.zl.length kD,.int .i64 h.code] 29)).alloc (.cells #[.slice none 0 0,.int .i64 0,.int .i64 0,.slice none 0 0,.int .i64 0] 29)).alloc (.cells #[.slice (some ⟨w.heap.size+1+1+1,0,none⟩) 0 0,.int .i64 h.now,.int .i64 h.born,.slice aD h.zl.length kD,.int .i64 h.code] 29)).alloc (.cells #[] 37)).heap.size=w.heap.size+4:=by simp
 simp only[World.size_alloc] at br bo
 go_enter Tryz.func160,Tryz.ntmps160
 go_upto_region 3 with fail
 generalize ((((w.alloc (.cells #[.slice ac h.za.length kc,.int .i64 h.now,.int .i64 h.born,.slice aD h.zl.length kD,.int .i64 h.code] 29)).alloc (.cells #[.slice none 0 0,.int .i64 0,.int .i64 0,.slice none 0 0,.int .i64 0] 29)).alloc (.cells #[.slice (some ⟨w.heap.size+1+1+1,0,none⟩) 0 0,.int .i64 h.now,.int .i64 h.born,.slice aD h.zl.length kD,.int .i64 h.code] 29)).alloc (.cells #[] 37))=W4 at *
 go_wp2
 go_loopg [4] h.za.length (fun d i wr=>∃(k:Nat) (L:List (Cl × Value × Value)) (o:Value),k<=h.za.length/\d=h.za.length - k/\i=.int .i64 k/\L.map (·.1)=h.za.take k/\yz (w.heap.size+3) wr o L/\(∀j,(hj:j<L.length)->zj (w.heap.size+3) wr L[j].2.1 L[j].1.zg/\zj (w.heap.size+3) wr L[j].2.2 L[j].1.ze)/\uw L o/\wr.rowIs (w.heap.size+1+1) 29 5 (jQ o (.int .i64 h.now) (.int .i64 h.born) (.slice aD h.zl.length kD) (.int .i64 h.code))/\wr.rowIs w.heap.size 29 5 (jQ (.slice ac h.za.length kc) (.int .i64 h.now) (.int .i64 h.born) (.slice aD h.zl.length kD) (.int .i64 h.code))/\wr.rowIs (w.heap.size+1) 29 5 (jQ (.slice none 0 0) (.int .i64 0) (.int .i64 0) (.slice none 0 0) (.int .i64 0))/\Below w.heap.size w wr)
 case atStart=>exact⟨0,[],_,Nat.zero_le _,rfl,rfl,rfl,mk,fun j hj=>absurd hj zF,fun q hq=>absurd hq zF,bo,bh,br,hA⟩
 case round =>
  obtain⟨k,L,o,hk,rfl,rfl,hmap,zS,hls,hap,ro,rh,rr,hb⟩:=hrel
  have HMAP:Hid (L.map (·.1)=h.za.take k):=hmap
  have HLS:Hid (∀j,(hj:j<L.length)->zj (w.heap.size+3) wr L[j].2.1 L[j].1.zg/\zj (w.heap.size+3) wr L[j].2.2 L[j].1.ze):=hls
  have YJ:L.length=k:=by have:=congrArg List.length hmap;simp at this;omega
  have HLL:Hid (L.length=k):=YJ
  obtain⟨ao,co,xz,_⟩:=zS.slice
  subst xz
  have HAP:Hid (uw L (.slice ao L.length co)):=hap
  clear hmap hls hap YJ
  have hzw:=hb.size
  have Wj:=ro.lt
  obtain⟨⟨x0,x1,x2,x3,x4⟩,_⟩:=zJ rh
  obtain⟨⟨o0,o1,o2,o3,o4⟩,of0,of1,of2,of3,of4⟩:=zJ ro
  by_cases hlt:k<h.za.length
  ·have hkz:(k:Int)<(h.za.length:Int):=by omega
   obtain⟨b,o',vt,vs',hac,hc⟩:=hh.c.cl hlt
   subst hac
   obtain⟨at',XD,xZ⟩:=hc.t.shape
   obtain⟨as',cs',hvs⟩:=hc.s.shape
   subst xZ hvs
   have q0:=zc hb hc.c0
   have q1:=zc hb hc.c1
   have q2:=zc hb hc.c2
   have q3:=zc hb hc.c3
   have q4:=zc hb hc.c4
   have q5:=zc hb hc.c5
   have hCp:=Xf _ _ h.za[k] wr.drew ((hc.t.below hb).below zC.drew) ((hc.s.below hb).below zC.drew) (hsh k hlt)
   unfold qt at hCp
   have HTK:Hid (h.za.take (k+1)=h.za.take k ++ [h.za[k]]):=List.take_succ_eq_append_getElem hlt
   have HLT:=UD HLS.out
   have hLb:L.length<=900000:=by rw[HLL.out];omega
   generalize h.za[k]=c at *
   clear hc
   have H5:Hid (∀(w5:World) (XC XB:Option Addr) (XK XJ:Nat),Below wr.drew.heap.size wr.drew w5->zj wr.drew.heap.size w5 (.slice XC c.zg.length XK) c.zg->zj wr.drew.heap.size w5 (.slice XB c.ze.length XJ) c.ze->(∀q,(Value.slice XC c.zg.length XK).ownBlock=some q->(Value.slice XB c.ze.length XJ).ownBlock≠some q) ->
    (w5.cell? ⟨w.heap.size+1+1,0,none⟩=some (.slice ao L.length co)/\w.heap.size+1+1<w5.heap.size)/\yz (w.heap.size+3) (w5.alloc (.cells #[.int .i64 c.m,.int .i64 c.pc,.slice XC c.zg.length XK,.slice XB c.ze.length XJ,.int .i64 c.zf,.bool c.zv] 37)) (.slice ao L.length co) L /\
    (∀j u,(kY (c,Value.slice XC c.zg.length XK,Value.slice XB c.ze.length XJ))[j]?=some u->(w5.alloc (.cells #[.int .i64 c.m,.int .i64 c.pc,.slice XC c.zg.length XK,.slice XB c.ze.length XJ,.int .i64 c.zf,.bool c.zv] 37)).cell? ⟨w5.heap.size,j,none⟩=some u)/\w.heap.size+3<=(w5.alloc (.cells #[.int .i64 c.m,.int .i64 c.pc,.slice XC c.zg.length XK,.slice XB c.ze.length XJ,.int .i64 c.zf,.bool c.zv] 37)).heap.size /\
    (∀v' w',yz (w.heap.size+3) w' v' (L ++ [(c,Value.slice XC c.zg.length XK,Value.slice XB c.ze.length XJ)])->(w5.alloc (.cells #[.int .i64 c.m,.int .i64 c.pc,.slice XC c.zg.length XK,.slice XB c.ze.length XJ,.int .i64 c.zf,.bool c.zv] 37)).grownBy w' (Value.slice ao L.length co).ownBlock->(v'.ownBlock=(Value.slice ao L.length co).ownBlock\/v'.ownBlock=some (w5.alloc (.cells #[.int .i64 c.m,.int .i64 c.pc,.slice XC c.zg.length XK,.slice XB c.ze.length XJ,.int .i64 c.zf,.bool c.zv] 37)).heap.size) ->
     (w'.cell? ⟨w.heap.size+1+1,0,none⟩=some (.slice ao L.length co)/\w'.frozen? ⟨w.heap.size+1+1,0,none⟩=false) /\
     ((L ++ [(c,Value.slice XC c.zg.length XK,Value.slice XB c.ze.length XJ)]).map (·.1)=h.za.take (k+1)/\yz (w.heap.size+3) (w'.setCell ⟨w.heap.size+1+1,0,none⟩ v') v' (L ++ [(c,Value.slice XC c.zg.length XK,Value.slice XB c.ze.length XJ)])/\(∀j,(hj:j<(L ++ [(c,Value.slice XC c.zg.length XK,Value.slice XB c.ze.length XJ)]).length)->zj (w.heap.size+3) (w'.setCell ⟨w.heap.size+1+1,0,none⟩ v') (L ++ [(c,Value.slice XC c.zg.length XK,Value.slice XB c.ze.length XJ)])[j].2.1 (L ++ [(c,Value.slice XC c.zg.length XK,Value.slice XB c.ze.length XJ)])[j].1.zg/\zj (w.heap.size+3) (w'.setCell ⟨w.heap.size+1+1,0,none⟩ v') (L ++ [(c,Value.slice XC c.zg.length XK,Value.slice XB c.ze.length XJ)])[j].2.2 (L ++ [(c,Value.slice XC c.zg.length XK,Value.slice XB c.ze.length XJ)])[j].1.ze)/\uw (L ++ [(c,Value.slice XC c.zg.length XK,Value.slice XB c.ze.length XJ)]) v'/\(w'.setCell ⟨w.heap.size+1+1,0,none⟩ v').rowIs (w.heap.size+1+1) 29 5 (jQ v' (.int .i64 h.now) (.int .i64 h.born) (.slice aD h.zl.length kD) (.int .i64 h.code))/\(w'.setCell ⟨w.heap.size+1+1,0,none⟩ v').rowIs w.heap.size 29 5 (jQ (.slice (some ⟨b,o',none⟩) h.za.length kc) (.int .i64 h.now) (.int .i64 h.born) (.slice aD h.zl.length kD) (.int .i64 h.code))/\(w'.setCell ⟨w.heap.size+1+1,0,none⟩ v').rowIs (w.heap.size+1) 29 5 (jQ (.slice none 0 0) (.int .i64 0) (.int .i64 0) (.slice none 0 0) (.int .i64 0))/\Below w.heap.size w (w'.setCell ⟨w.heap.size+1+1,0,none⟩ v')))):=fun w5 XC XB XK XJ hb5 hp5 hq5 hap5=>by
    have wC:Below wr.heap.size wr w5:=(Below.refl wr.heap.size wr).drew.trans hb5
    have hz5:=wC.size
    have N:=zB w5 (.cells #[.int .i64 c.m,.int .i64 c.pc,.slice XC c.zg.length XK,.slice XB c.ze.length XJ,.int .i64 c.zf,.bool c.zv] 37)
    have hX:Below wr.heap.size wr (w5.alloc (.cells #[.int .i64 c.m,.int .i64 c.pc,.slice XC c.zg.length XK,.slice XB c.ze.length XJ,.int .i64 c.zf,.bool c.zv] 37)):=wC.trans (N.mono hz5)
    have hzX:=hX.size
    have hz1:(w5.alloc (.cells #[.int .i64 c.m,.int .i64 c.pc,.slice XC c.zg.length XK,.slice XB c.ze.length XJ,.int .i64 c.zf,.bool c.zv] 37)).heap.size=w5.heap.size+1:=by simp
    refine⟨⟨zc wC o0,by omega⟩,zS.below hX,Qw (jx w5 37 _ _ _ _ _ _),by omega,fun v' w' hr hg hv'=>?_⟩
    have hzg:=hg.size
    have hbl:∀q,q<wr.heap.size->(Value.slice ao L.length co).ownBlock≠some q->w'.heap[q]?=wr.heap[q]?:=fun q h1 h2=>(hg.block q (by omega) (fun e=>h2 e.symm)).trans (hX.block q h1)
    have hno:∀q,q<w.heap.size+3->(Value.slice ao L.length co).ownBlock≠some q:=fun q hq e=>by have:=(zS.lt q e).1;omega
    have XG:∀q,v'.ownBlock=some q->(Value.slice ao L.length co).ownBlock=some q\/w5.heap.size+1<=q:=fun q e=>by
     rcases hv' with x | x
     ·exact .inl (by rw[<-x];exact e)
     ·rw[x] at e;cases e;exact .inr (by omega)
    have hv3:∀q,v'.ownBlock=some q->w.heap.size+3<=q:=fun q e=>(hr.lt q e).1
    have ro':=ro.of_block (hbl _ ro.lt (hno _ (by omega)))
    have rh':=rh.of_block (hbl _ rh.lt (hno _ (by omega)))
    have rr':=rr.of_block (hbl _ rr.lt (hno _ (by omega)))
    obtain⟨⟨z0,_⟩,zf0,_⟩:=zJ ro'
    have hsb:∀q,q≠w.heap.size+1+1->(w'.setCell ⟨w.heap.size+1+1,0,none⟩ v').heap[q]?=w'.heap[q]?:=fun q hq=>Below.heap_setCell _ _ _ _ hq
    have hP:∀{v:Value} {xs:zL},zj (w.heap.size+3) w' v xs->zj (w.heap.size+3) (w'.setCell ⟨w.heap.size+1+1,0,none⟩ v') v xs:=fun hp=>hp.set_other _ (fun e=>by have:=(hp.lt _ e).1;simp at this;omega)
    refine⟨⟨z0,zf0⟩,?_,hr.kept (by simp[World.setCell]) (fun q e=>hsb q (by have:=(hr.lt q e).1;omega)),fun j hj=>?_,?_,jj ro' v',rh'.of_block (hsb _ (by omega)),rr'.of_block (hsb _ (by omega)),?_⟩
    ·rw[List.map_append,HMAP.out,HTK.out]
     rfl
    ·by_cases e:j<L.length
     ·rw[List.getElem_append_left e]
      obtain⟨p1,p2⟩:=HLS.out j e
      have a0:=HAP.out (j * 2) (by omega)
      have a1:=HAP.out (j * 2+1) (by omega)
      have hget:L.getD j (Cl.none,.slice none 0 0,.slice none 0 0)=L[j]:=by simp[e]
      rw[vz,hget] at a0
      rw[vg,hget] at a1
      exact⟨hP (p1.kept (by omega) fun q h1=>hbl q (p1.lt q h1).2 (a0 q h1).1),hP (p2.kept (by omega) fun q h1=>hbl q (p2.lt q h1).2 (a1 q h1).1)⟩
     ·rw[List.getElem_append_right (by omega)]
      simp only[List.getElem_singleton]
      have hd:wr.drew.heap.size=wr.heap.size:=rfl
      have hnb:∀q,wr.heap.size<=q->q<w5.heap.size->w'.heap[q]?=w5.heap[q]?:=fun q h1 h2=>(hg.block q (by omega) (fun e=>by have:=(zS.lt q e.symm).2;omega)).trans (N.block q h2)
      exact⟨hP ((hp5.kept (by omega) fun q e=>hnb q (hp5.lt q e).1 (hp5.lt q e).2).mono (by omega)),hP ((hq5.kept (by omega) fun q e=>hnb q (hq5.lt q e).1 (hq5.lt q e).2).mono (by omega))⟩
    ·exact Yb (S:=wr.heap.size) (S':=w5.heap.size+1) HAP.out HLT (fun q e=>⟨(hp5.lt q e).1,by have:=(hp5.lt q e).2;omega⟩) (fun q e=>⟨(hq5.lt q e).1,by have:=(hq5.lt q e).2;omega⟩) hap5 (fun q e=>(zS.lt q e).2) XG (by omega)
    ·have bX:Below w.heap.size w (w5.alloc (.cells #[.int .i64 c.m,.int .i64 c.pc,.slice XC c.zg.length XK,.slice XB c.ze.length XJ,.int .i64 c.zf,.bool c.zv] 37)):=hb.trans (hX.mono hzw)
     exact(bX.grown hg (by omega) (fun q e=>by have:=(zS.lt q e).1;omega)).setCell (p:=⟨w.heap.size+1+1,0,none⟩) (by simp;omega) v'
   clear HTK HLT
   go_wp2_with fail
   go_region_law (first
    | (refine KX _ (by rfl) _ _ (by rfl) (w.heap.size+3) _ L (c,Value.slice XC c.zg.length XK,Value.slice XB c.ze.length XJ) (by rfl) w5.heap.size 1 (by rfl) yo rfl rfl hcell5 hLb hB5 ?_;intro v' w' hr hg hbk;obtain⟨a',c',hv',_⟩:=hr.slice;simp only[List.length_append,List.length_cons,List.length_nil,Nat.zero_add] at hv';subst hv';obtain⟨⟨z0,zf0⟩,hINV⟩:=HE.out _ w' hr hg hbk)
    | (go_simp;go_at_call 65;refine hCp.mono ?_;rintro e w5 ⟨vt5,vs5,rfl,hp5,hq5,hap5,hb5⟩;obtain⟨XC,XK,hvt5,_⟩:=hp5.slice;obtain⟨XB,XJ,hvs5,_⟩:=hq5.slice;subst hvt5 hvs5;obtain⟨⟨w50,w5b⟩,yo,hcell5,hB5,hE5⟩:=H5.out w5 XC XB XK XJ hb5 hp5 hq5 hap5;have HE:Hid _:=hE5;clear hE5 hp5 hq5 hap5 hb5))
   all_goals
    obtain⟨i1,i2,i3,i4,i5,i6,i7,i8⟩:=hINV
    clear z0 zf0 hr hg hbk HE
    generalize w'.setCell ⟨w.heap.size+1+1,0,none⟩ (.slice a' (L.length+1) c')=W9 at *
    go_wp2
    go_roundg (h.za.length - (k+1))
    case measure=>omega
    case rel=>exact⟨k+1,_,_,by omega,rfl,by go_num,i1,i2,i3,i4,i5,i6,i7,i8⟩
  ·obtain rfl:k=h.za.length:=by omega
   have hoc:=zS.own HLS.out HAP.out
   rw[HMAP.out,List.take_length] at hoc
   have hlz:L.length=h.za.length:=HLL.out
   have N6:Below wr.heap.size wr (wr.alloc (.cells #[] 98)):=zB _ _
   have mk6:=zj.made (B:=wr.heap.size) (w:=wr) (e:=98) zD
   have hS6:=(hh.s.below hb).below N6
   have hzh:=rh.lt
   have hzq:=rr.lt
   clear hlt
   go_upto_region 7 with fail
   go_upto_region 8 with(at_builtin;refine qM _ (by rfl) _ _ (by rfl) wr.heap.size _ _ [] h.zl (by rfl) (by rfl) mk6 hS6 (by simp;omega) (by simp) ?_;intro v6 w6 yD jf hb6;rw[List.nil_append] at yD;obtain⟨a6,c6,hv6,_⟩:=yD.slice;subst hv6;have b6:Below wr.heap.size wr w6:=N6.grown jf N6.size (fun q e=>(mk6.lt q e).1);obtain⟨⟨y0,y1,y2,y3,y4⟩,yf0,yf1,yf2,yf3,yf4⟩:=zJ (zz b6 ro))
   have hz6:=b6.size
   have ro7:=jD (zz b6 ro) (.slice a6 h.zl.length c6)
   have rr7:=(zz b6 rr).of_block (Below.heap_setCell w6 ⟨w.heap.size+1+1,3,none⟩ (.slice a6 h.zl.length c6) _ (by simp))
   have hs7:=yD.set_other (p:=⟨w.heap.size+1+1,3,none⟩) (.slice a6 h.zl.length c6) (fun e=>by have:=(yD.lt _ e).1;simp at this;omega)
   have b7:=(hb.trans (b6.mono hzw)).setCell (p:=⟨w.heap.size+1+1,3,none⟩) (by simp;omega) (.slice a6 h.zl.length c6)
   have ho7:=(hoc.below b6).kept (w':=w6.setCell ⟨w.heap.size+1+1,3,none⟩ (.slice a6 h.zl.length c6)) (by simp[World.setCell]) (fun q e=>Below.heap_setCell _ _ _ _ (fun e2=>by have:=(hoc.lt e).1;have e3:q=w.heap.size+1+1:=e2;omega))
   have HLTc:Hid (∀q,yE (.slice ao L.length co) h.za.length (fun i=>(L.getD i (Cl.none,.slice none 0 0,.slice none 0 0)).2) q->w.heap.size+3<=q/\q<wr.heap.size):=fun q e=>hoc.lt e
   clear yD jf hb6 y0 y1 y2 y3 y4 yf0 yf1 yf2 yf3 yf4 hoc
   generalize w6.setCell ⟨w.heap.size+1+1,3,none⟩ (.slice a6 h.zl.length c6)=W7 at *
   obtain⟨⟨y0,y1,y2,y3,y4⟩,_⟩:=zJ ro7
   obtain⟨⟨r0,r1,r2,r3,r4⟩,g0,g1,g2,g3,g4⟩:=zJ rr7
   go_wp2
   have hz1:w.heap.size<=w.heap.size+1:=Nat.le_succ _
   rw[hlz] at ho7
   have HLT2:∀q,yE (.slice ao h.za.length co) h.za.length (fun i=>(L.getD i (Cl.none,Value.slice none 0 0,Value.slice none 0 0)).2) q->q<wr.heap.size:=fun q e=>(HLTc.out q (by rw[hlz];exact e)).2
   have nP:(Value.slice a6 h.zl.length c6).ownBlock≠some (w.heap.size+1):=fun e=>by have:=(hs7.lt _ e).1;omega
   have RF:=(j9 (jD (jC (j8 (jj rr7 (.slice ao h.za.length co)) (.int .i64 h.now)) (.int .i64 h.born)) (.slice a6 h.zl.length c6)) (.int .i64 h.code))
   have BF:=(((((b7.setCell (p:=⟨w.heap.size+1,0,none⟩) hz1 (.slice ao h.za.length co)).setCell (p:=⟨w.heap.size+1,1,none⟩) hz1 (.int .i64 h.now)).setCell (p:=⟨w.heap.size+1,2,none⟩) hz1 (.int .i64 h.born)).setCell (p:=⟨w.heap.size+1,3,none⟩) hz1 (.slice a6 h.zl.length c6)).setCell (p:=⟨w.heap.size+1,4,none⟩) hz1 (.int .i64 h.code))
   have PF:=zj.mono (B':=w.heap.size) (((((hs7.set_other (p:=⟨w.heap.size+1,0,none⟩) (.slice ao h.za.length co) nP).set_other (p:=⟨w.heap.size+1,1,none⟩) (.int .i64 h.now) nP).set_other (p:=⟨w.heap.size+1,2,none⟩) (.int .i64 h.born) nP).set_other (p:=⟨w.heap.size+1,3,none⟩) (.slice a6 h.zl.length c6) nP).set_other (p:=⟨w.heap.size+1,4,none⟩) (.int .i64 h.code) nP) (by omega)
   have OF:=yu.lower (ho7.kept (w':=(((((W7.setCell ⟨w.heap.size+1,0,none⟩ (.slice ao h.za.length co)).setCell ⟨w.heap.size+1,1,none⟩ (.int .i64 h.now)).setCell ⟨w.heap.size+1,2,none⟩ (.int .i64 h.born)).setCell ⟨w.heap.size+1,3,none⟩ (.slice a6 h.zl.length c6)).setCell ⟨w.heap.size+1,4,none⟩ (.int .i64 h.code))) (by simp[World.setCell]) (fun g e=>by
    have hne:g≠w.heap.size+1:=by have:=(ho7.lt e).1;omega
    rw[Below.heap_setCell _ _ _ _ hne,Below.heap_setCell _ _ _ _ hne,Below.heap_setCell _ _ _ _ hne,Below.heap_setCell _ _ _ _ hne,Below.heap_setCell _ _ _ _ hne])) (B':=w.heap.size) (by omega)
   have hapF:∀g,(Value.slice a6 h.zl.length c6).ownBlock=some g->¬yE (.slice ao h.za.length co) h.za.length (fun i=>(L.getD i (Cl.none,Value.slice none 0 0,Value.slice none 0 0)).2) g:=fun g e e2=>by have h1:=(hs7.lt g e).1;have h2:=HLT2 g e2;omega
   generalize (((((W7.setCell ⟨w.heap.size+1,0,none⟩ (.slice ao h.za.length co)).setCell ⟨w.heap.size+1,1,none⟩ (.int .i64 h.now)).setCell ⟨w.heap.size+1,2,none⟩ (.int .i64 h.born)).setCell ⟨w.heap.size+1,3,none⟩ (.slice a6 h.zl.length c6)).setCell ⟨w.heap.size+1,4,none⟩ (.int .i64 h.code))=WF at *
   obtain⟨⟨q0,q1,q2,q3,q4⟩,_⟩:=zJ RF
   exact bodyPost_ret (v:=.agg #[.slice ao h.za.length co,.int .i64 h.now,.int .i64 h.born,.slice a6 h.zl.length c6,.int .i64 h.code]) (by simp[results,Tryz.results160,go_sem,q0,q1,q2,q3,q4]) rfl ⟨⟨.slice ao h.za.length co,.slice a6 h.zl.length c6,(fun i=>(L.getD i (Cl.none,Value.slice none 0 0,Value.slice none 0 0)).2),rfl,⟨OF,PF,hapF⟩⟩,BF⟩
set_option maxRecDepth 100000 in
set_option maxHeartbeats 8000000 in
theorem XS (vp vc vs:Value) (ms:Ms) (h:Hp) (n:Int) (w:World) (hp:yy w vp ms) (hh:qa w vc vs h) (hn:h.za.length<=1048576) (hsd:h.zl.length<=1048576) :
 Calls Tryz.prog 110 #[.agg #[vp],.agg (yn vc vs h),.int .i64 n] w fun e w'=>(∃vm vs' V',e=.returned (.tuple #[.agg (yn vm vs' (qX ms h n)),.bool (ym ms h && yO n 0 400)])/\yJ w.heap.size w' vm vs' (qX ms h n) V')/\Below w.heap.size w w':=by
 obtain⟨ac,kc,Yq⟩:=hh.c.shape
 obtain⟨aD,kD,hvs⟩:=hh.s.shape
 obtain⟨ap,cp,hvp,hlp,_⟩:=id hp
 subst Yq hvs hvp
 unfold yn
 have hA:Below w.heap.size w (((w.alloc (.cells #[.slice ap ms.length cp] 25)).alloc (.cells #[.slice ac h.za.length kc,.int .i64 h.now,.int .i64 h.born,.slice aD h.zl.length kD,.int .i64 h.code] 29)).alloc (.cells #[.slice none 0 0,.int .i64 0,.int .i64 0,.slice none 0 0,.int .i64 0] 29)):=((zB _ _).alloc (by simp) _).alloc (by simp;omega) _
 have bp:(((w.alloc (.cells #[.slice ap ms.length cp] 25)).alloc (.cells #[.slice ac h.za.length kc,.int .i64 h.now,.int .i64 h.born,.slice aD h.zl.length kD,.int .i64 h.code] 29)).alloc (.cells #[.slice none 0 0,.int .i64 0,.int .i64 0,.slice none 0 0,.int .i64 0] 29)).cell? ⟨w.heap.size,0,none⟩=some (.slice ap ms.length cp):=by simp[go_sem]
 have bh:(((w.alloc (.cells #[.slice ap ms.length cp] 25)).alloc (.cells #[.slice ac h.za.length kc,.int .i64 h.now,.int .i64 h.born,.slice aD h.zl.length kD,.int .i64 h.code] 29)).alloc (.cells #[.slice none 0 0,.int .i64 0,.int .i64 0,.slice none 0 0,.int .i64 0] 29)).rowIs (w.heap.size+1) 29 5 (jQ (.slice ac h.za.length kc) (.int .i64 h.now) (.int .i64 h.born) (.slice aD h.zl.length kD) (.int .i64 h.code)):=by
  have:=(qG (w.alloc (.cells #[.slice ap ms.length cp] 25)) 29 (.slice ac h.za.length kc) (.int .i64 h.now) (.int .i64 h.born) (.slice aD h.zl.length kD) (.int .i64 h.code)).alloc (.cells #[.slice none 0 0,.int .i64 0,.int .i64 0,.slice none 0 0,.int .i64 0] 29)
  simpa only [World.size_alloc] using this
 have bz:(((w.alloc (.cells #[.slice ap ms.length cp] 25)).alloc (.cells #[.slice ac h.za.length kc,.int .i64 h.now,.int .i64 h.born,.slice aD h.zl.length kD,.int .i64 h.code] 29)).alloc (.cells #[.slice none 0 0,.int .i64 0,.int .i64 0,.slice none 0 0,.int .i64 0] 29)).rowIs (w.heap.size+1+1) 29 5 (jQ (.slice none 0 0) (.int .i64 0) (.int .i64 0) (.slice none 0 0) (.int .i64 0)):=by
  have:=qG ((w.alloc (.cells #[.slice ap ms.length cp] 25)).alloc (.cells #[.slice ac h.za.length kc,.int .i64 h.now,.int .i64 h.born,.slice aD h.zl.length kD,.int .i64 h.code] 29)) 29 (.slice none 0 0) (.int .i64 0) (.int .i64 0) (.slice none 0 0) (.int .i64 0)
  simpa only [World.size_alloc] using this
 have hz0:(((w.alloc (.cells #[.slice ap ms.length cp] 25)).alloc (.cells #[.slice ac h.za.length kc,.int .i64 h.now,.int .i64 h.born,.slice aD h.zl.length kD,.int .i64 h.code] 29)).alloc (.cells #[.slice none 0 0,.int .i64 0,.int .i64 0,.slice none 0 0,.int .i64 0] 29)).heap.size=w.heap.size+3:=by simp
 go_enter Tryz.func110,Tryz.ntmps110
 go_upto_region 1 with fail
 generalize (((w.alloc (.cells #[.slice ap ms.length cp] 25)).alloc (.cells #[.slice ac h.za.length kc,.int .i64 h.now,.int .i64 h.born,.slice aD h.zl.length kD,.int .i64 h.code] 29)).alloc (.cells #[.slice none 0 0,.int .i64 0,.int .i64 0,.slice none 0 0,.int .i64 0] 29))=W0 at *
 obtain⟨⟨x0,x1,x2,x3,x4⟩,_⟩:=zJ bh
 have zA:=hA.size
 go_wp2_with fail
 refine(ZE _ _ _ ms h _ (hp.below hA) (hh.below hA) hn).mono ?_
 rintro e w1 ⟨rfl,hb1⟩
 have hB1:Below w.heap.size w w1:=hA.trans (hb1.mono zA)
 have bp1:=zc hb1 bp
 have bh1:=zz hb1 bh
 have Wq:=zz hb1 bz
 have z1:=hb1.size
 clear hA bp bh bz x0 x1 x2 x3 x4
 obtain⟨⟨x0,x1,x2,x3,x4⟩,_⟩:=zJ bh1
 obtain⟨⟨t0,t1,t2,t3,t4⟩,j0,j1,j2,j3,j4⟩:=zJ Wq
 have hz2:w.heap.size<=w.heap.size+1+1:=by omega
 have RF:=(j9 (jD (jC (j8 (jj Wq (.slice none 0 0)) (.int .i64 0)) (.int .i64 0)) (.slice none 0 0)) (.int .i64 0))
 have BF:=(((((hB1.setCell (p:=⟨w.heap.size+1+1,0,none⟩) hz2 (.slice none 0 0)).setCell (p:=⟨w.heap.size+1+1,1,none⟩) hz2 (.int .i64 0)).setCell (p:=⟨w.heap.size+1+1,2,none⟩) hz2 (.int .i64 0)).setCell (p:=⟨w.heap.size+1+1,3,none⟩) hz2 (.slice none 0 0)).setCell (p:=⟨w.heap.size+1+1,4,none⟩) hz2 (.int .i64 0))
 cases h1:ym ms h
 ·have hR:Hid (qX ms h n=⟨[],0,0,[],0⟩):=by show _=_;simp[qX,h1]
  have hE:Hid ((ym ms h && yO n 0 400)=false):=by show _=_;simp[h1]
  go_wp2
  generalize (((((w1.setCell ⟨w.heap.size+1+1,0,none⟩ (.slice none 0 0)).setCell ⟨w.heap.size+1+1,1,none⟩ (.int .i64 0)).setCell ⟨w.heap.size+1+1,2,none⟩ (.int .i64 0)).setCell ⟨w.heap.size+1+1,3,none⟩ (.slice none 0 0)).setCell ⟨w.heap.size+1+1,4,none⟩ (.int .i64 0))=WF at *
  obtain⟨⟨q0,q1,q2,q3,q4⟩,_⟩:=zJ RF
  exact bodyPost_ret (v:=.tuple #[.agg #[.slice none 0 0,.int .i64 0,.int .i64 0,.slice none 0 0,.int .i64 0],.bool false]) (by simp[results,Tryz.results110,go_sem,q0,q1,q2,q3,q4]) rfl ⟨⟨.slice none 0 0,.slice none 0 0,_,by rw[hR.out,hE.out],by rw[hR.out];exact yJ.none _ _⟩,BF⟩
 cases h2:yO n 0 400
 ·have hR:Hid (qX ms h n=⟨[],0,0,[],0⟩):=by show _=_;simp[qX,h2]
  have hE:Hid ((ym ms h && yO n 0 400)=false):=by show _=_;simp[h2]
  go_wp2_with (go_at_call 57;refine(yv _ _ _ _).mono ?_;rintro e w' ⟨rfl,hw⟩;obtain rfl:=hw.symm)
  generalize (((((w1.setCell ⟨w.heap.size+1+1,0,none⟩ (.slice none 0 0)).setCell ⟨w.heap.size+1+1,1,none⟩ (.int .i64 0)).setCell ⟨w.heap.size+1+1,2,none⟩ (.int .i64 0)).setCell ⟨w.heap.size+1+1,3,none⟩ (.slice none 0 0)).setCell ⟨w.heap.size+1+1,4,none⟩ (.int .i64 0))=WF at *
  obtain⟨⟨q0,q1,q2,q3,q4⟩,_⟩:=zJ RF
  exact bodyPost_ret (v:=.tuple #[.agg #[.slice none 0 0,.int .i64 0,.int .i64 0,.slice none 0 0,.int .i64 0],.bool false]) (by simp[results,Tryz.results110,go_sem,q0,q1,q2,q3,q4]) rfl ⟨⟨.slice none 0 0,.slice none 0 0,_,by rw[hR.out,hE.out],by rw[hR.out];exact yJ.none _ _⟩,BF⟩
 clear RF BF
 have hR:Hid (qX ms h n=xM ms n.toNat h):=by show _=_;simp[qX,h1,h2]
 have hE:Hid ((ym ms h && yO n 0 400)=true):=by show _=_;simp[h1,h2]
 have hg:=kx.1 h1
 have hn':=zH.1 h2
 obtain⟨N,rfl⟩:=Int.eq_ofNat_of_zero_le hn'.1
 have hN:N<=400:=by omega
 have hl:=hg.lens
 go_upto_region 2 with(go_at_call 57;refine(yv _ _ _ _).mono ?_;rintro e w' ⟨rfl,hw⟩;obtain rfl:=hw.symm)
 have hD:Below w1.heap.size w1 w1.drew:=zC.drew
 have hAn:=Uu _ _ h w1.drew ((hh.below hB1).below hD) (by omega) (fun i hi=>by have:=hl.2 i hi;omega) (by omega)
 have hdz:w1.drew.heap.size=w1.heap.size:=rfl
 rw[hdz] at hAn
 unfold yn at hAn
 have H2:Hid (∀w2 vc2 vs2 V2,yJ w1.heap.size w2 vc2 vs2 h V2->Below w1.heap.size w1.drew w2 ->
  (w2.cell? ⟨w.heap.size,0,none⟩=some (.slice ap ms.length cp))/\Hid (SM (fun _=>False) w1.heap.size (w2.alloc (.cells #[.slice ap ms.length cp,vc2,.int .i64 h.now,.int .i64 h.born,vs2,.int .i64 h.code] 216)) w2.heap.size (.slice ap ms.length cp) vc2 vs2 ms h V2/\Below w1.heap.size w1 (w2.alloc (.cells #[.slice ap ms.length cp,vc2,.int .i64 h.now,.int .i64 h.born,vs2,.int .i64 h.code] 216)))):=by
  intro w2 vc2 vs2 V2 ho2 hb2
  have hb2':=hD.trans hb2
  have hal:Below w2.heap.size w2 (w2.alloc (.cells #[.slice ap ms.length cp,vc2,.int .i64 h.now,.int .i64 h.born,vs2,.int .i64 h.code] 216)):=zB _ _
  have hB3:=hb2'.trans (hal.mono hb2'.size)
  exact⟨zc hb2' bp1,⟨jx _ _ _ _ _ _ _ _,hb2'.size,ho2.below hal,fun e=>by have:=(ho2.lt e).2;omega,fun q hq=>hq.elim,w1,hp.below hB1,Nat.le_refl _,hB3⟩,hB3⟩
 clear hD hdz
 go_region_law (go_simp;go_at_call 160;refine hAn.mono ?_;rintro e w2 ⟨⟨vc2,vs2,V2,rfl,ho2⟩,hb2⟩;obtain⟨a2,c2,hv2⟩:=ho2.at.c.shape;obtain⟨a3,c3,hv3⟩:=ho2.at.s.shape;subst hv2 hv3;obtain⟨bp2,HS⟩:=H2.out w2 _ _ V2 ho2 hb2;clear ho2 hb2)
 all_goals
  obtain⟨k3,hb3⟩:=HS.out
  clear h1 h2 HS bp2 H2 hAn
  have hlt2:w2.heap.size<(w2.alloc (.cells #[.slice ap ms.length cp,.slice a2 h.za.length c2,.int .i64 h.now,.int .i64 h.born,.slice a3 h.zl.length c3,.int .i64 h.code] 216)).heap.size:=k3.box.lt
  generalize w2.alloc (.cells #[.slice ap ms.length cp,.slice a2 h.za.length c2,.int .i64 h.now,.int .i64 h.born,.slice a3 h.zl.length c3,.int .i64 h.code] 216)=W3 at *
  generalize w2.heap.size=bo at *
  go_wp2
  go_loopg [9] N (fun d i wr=>∃(k:Nat) (vm vs':Value) (V':Nat->Value × Value),k<=N/\d=N - k/\i=.int .i64 k/\SM (fun _=>False) w1.heap.size wr bo (.slice ap ms.length cp) vm vs' ms (xM ms k h) V'/\Below w1.heap.size w1 wr)
  case atStart=>exact⟨0,_,_,_,Nat.zero_le _,rfl,rfl,k3,hb3⟩
  case round =>
   obtain⟨k,vm,vs',V',hk,rfl,rfl,kk,hbr⟩:=hrel
   have hgk:=Good.run k h hg
   have hsk:=JW ms k h
   have HSN:Hid ((xM ms k h).code=0->xM ms (k+1) h=qU ms (xM ms k h)):=UW ms k h
   have HST:Hid ((xM ms k h).code≠0->xM ms N h=xM ms k h):=UX ms N k h hk
   have HKN:Hid (k=N->xM ms N h=xM ms k h):=fun e=>by rw[e]
   generalize xM ms k h=H at *
   obtain⟨a5,c5,hv5⟩:=kk.own.at.c.shape
   obtain⟨a6,c6,hv6⟩:=kk.own.at.s.shape
   subst hv5 hv6
   obtain⟨⟨y0,y1,y2,y3,y4,y5⟩,_⟩:=zZ kk.box
   have Wj:=hbr.size
   have HEND:Hid (xM ms N h=H->∃WF:World,WF=(((((wr.setCell ⟨w.heap.size+1+1,0,none⟩ (.slice a5 H.za.length c5)).setCell ⟨w.heap.size+1+1,1,none⟩ (.int .i64 H.now)).setCell ⟨w.heap.size+1+1,2,none⟩ (.int .i64 H.born)).setCell ⟨w.heap.size+1+1,3,none⟩ (.slice a6 H.zl.length c6)).setCell ⟨w.heap.size+1+1,4,none⟩ (.int .i64 H.code))/\WF.rowIs (w.heap.size+1+1) 29 5 (jQ (.slice a5 H.za.length c5) (.int .i64 H.now) (.int .i64 H.born) (.slice a6 H.zl.length c6) (.int .i64 H.code))/\yJ w.heap.size WF (.slice a5 H.za.length c5) (.slice a6 H.zl.length c6) H V'/\Below w.heap.size w WF):=by
    intro _
    have hne:∀g,kC (.slice a5 H.za.length c5) (.slice a6 H.zl.length c6) H.za.length V' g->g≠w.heap.size+1+1:=fun g e=>by have:=(kk.own.lt e).1;omega
    have hBr:=hB1.trans (hbr.mono hB1.size)
    refine⟨_,rfl,(j9 (jD (jC (j8 (jj (Wq.of_block (hbr.block _ Wq.lt)) (.slice a5 H.za.length c5)) (.int .i64 H.now)) (.int .i64 H.born)) (.slice a6 H.zl.length c6)) (.int .i64 H.code)),?_,(((((hBr.setCell (p:=⟨w.heap.size+1+1,0,none⟩) hz2 (.slice a5 H.za.length c5)).setCell (p:=⟨w.heap.size+1+1,1,none⟩) hz2 (.int .i64 H.now)).setCell (p:=⟨w.heap.size+1+1,2,none⟩) hz2 (.int .i64 H.born)).setCell (p:=⟨w.heap.size+1+1,3,none⟩) hz2 (.slice a6 H.zl.length c6)).setCell (p:=⟨w.heap.size+1+1,4,none⟩) hz2 (.int .i64 H.code))⟩
    have OK:=kk.own.kept (w':=(((((wr.setCell ⟨w.heap.size+1+1,0,none⟩ (.slice a5 H.za.length c5)).setCell ⟨w.heap.size+1+1,1,none⟩ (.int .i64 H.now)).setCell ⟨w.heap.size+1+1,2,none⟩ (.int .i64 H.born)).setCell ⟨w.heap.size+1+1,3,none⟩ (.slice a6 H.zl.length c6)).setCell ⟨w.heap.size+1+1,4,none⟩ (.int .i64 H.code))) (by simp[World.setCell]) (fun g e=>by
     have hne':=hne g e
     rw[Below.heap_setCell _ _ _ _ hne',Below.heap_setCell _ _ _ _ hne',Below.heap_setCell _ _ _ _ hne',Below.heap_setCell _ _ _ _ hne',Below.heap_setCell _ _ _ _ hne'])
    exact⟨OK.c.lower hB1.size,OK.s.mono hB1.size,OK.apart⟩
   by_cases hlt:k<N
   ·have hkz:(k:Int)<(N:Int):=by omega
    by_cases hc:H.code=0
    ·have hst:=zcI kk Wj hgk hc (by omega)
     rw[<-HSN.out hc] at hst
     go_wp2_with (go_at_call 161;refine hst.mono ?_;rintro e w' ⟨rfl,⟨vc3,vs3,V3,k4⟩,cm4⟩)
     go_roundg (N - (k+1))
     case measure=>omega
     case rel=>exact⟨k+1,_,_,_,by omega,rfl,by go_num,k4,hbr.trans cm4.b⟩
    ·have hcb:(H.code == 0)=false:=by simp[hc]
     have HH:=HST.out hc
     obtain⟨WF,hWF,RF,OF,BF⟩:=HEND.out HH
     obtain⟨⟨z0,z1',z2,z3,z4⟩,g0,g1,g2,g3,g4⟩:=zJ (Wq.of_block (hbr.block _ Wq.lt))
     go_wp2
     rw[<-hWF]
     obtain⟨⟨q0,q1,q2,q3,q4⟩,_⟩:=zJ RF
     exact bodyPost_ret (v:=.tuple #[.agg #[.slice a5 H.za.length c5,.int .i64 H.now,.int .i64 H.born,.slice a6 H.zl.length c6,.int .i64 H.code],.bool true]) (by simp[results,Tryz.results110,go_sem,q0,q1,q2,q3,q4]) rfl (by first | exact⟨⟨.slice a5 H.za.length c5,.slice a6 H.zl.length c6,V',by rw[hR.out,hE.out,Int.toNat_natCast,HH],by rw[hR.out,Int.toNat_natCast,HH];exact OF⟩,BF⟩ | exact⟨⟨.slice a5 H.za.length c5,.slice a6 H.zl.length c6,by rw[hR.out,hE.out,Int.toNat_natCast,HH],V',by rw[hR.out,Int.toNat_natCast,HH];exact OF⟩,BF⟩)
   ·have hkz:¬((k:Int)<(N:Int)):=by omega
    have HH:=HKN.out (by omega)
    obtain⟨WF,hWF,RF,OF,BF⟩:=HEND.out HH
    obtain⟨⟨z0,z1',z2,z3,z4⟩,g0,g1,g2,g3,g4⟩:=zJ (Wq.of_block (hbr.block _ Wq.lt))
    go_wp2
    rw[<-hWF]
    obtain⟨⟨q0,q1,q2,q3,q4⟩,_⟩:=zJ RF
    exact bodyPost_ret (v:=.tuple #[.agg #[.slice a5 H.za.length c5,.int .i64 H.now,.int .i64 H.born,.slice a6 H.zl.length c6,.int .i64 H.code],.bool true]) (by simp[results,Tryz.results110,go_sem,q0,q1,q2,q3,q4]) rfl (by first | exact⟨⟨.slice a5 H.za.length c5,.slice a6 H.zl.length c6,V',by rw[hR.out,hE.out,Int.toNat_natCast,HH],by rw[hR.out,Int.toNat_natCast,HH];exact OF⟩,BF⟩ | exact⟨⟨.slice a5 H.za.length c5,.slice a6 H.zl.length c6,by rw[hR.out,hE.out,Int.toNat_natCast,HH],V',by rw[hR.out,Int.toNat_natCast,HH];exact OF⟩,BF⟩)
end Go.Proofs.YtjbgpcileapogaaGreat

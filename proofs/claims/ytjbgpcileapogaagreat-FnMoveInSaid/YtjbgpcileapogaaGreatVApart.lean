/-
  Rows of values of their own: values are appended to them; l11None and l11Call of the model.
-/
import Derived.Test.YtjbgpcileapogaaGreatCRow
import Derived.Test.YtjbgpcileapogaaGreatHCopy2
namespace Go.Proofs.YtjbgpcileapogaaGreat
open Go.RowKit
def jX (ops:zL):List Value:=ops.flatMap fun o=>[.int .i64 o.1,.int .i64 o.2]
theorem Z8 (a b:zL):jX (a ++ b)=jX a ++ jX b:=by simp[jX]
theorem ky (a:zL):(jX a).length=a.length * 2:=by
 induction a with
 | nil=>rfl
 | cons x l ih=>simp[jX] at ih ⊢;omega
theorem QL (a:zL):∀(i:Nat) (h:i<a.length),(jX a)[i * 2]?=some (.int .i64 a[i].1)/\(jX a)[i * 2+1]?=some (.int .i64 a[i].2):=by
 induction a with
 | nil=>intro i h;exact absurd h zF
 | cons x l ih =>
  intro i h
  cases i with
  | zero=>exact⟨rfl,rfl⟩
  | succ i =>
   have:=ih i (by simpa using h)
   rw[show(i+1) * 2=i * 2+2 by omega]
   exact this
theorem zaf (M:zL):∀u∈jX M,u.oneCell'=true:=by
 intro u hu
 simp only[jX,List.mem_flatMap] at hu
 obtain⟨x,_,hx⟩:=hu
 simp at hx
 rcases hx with rfl | rfl <;> rfl
theorem zj.crow {B:Nat} {w:World} {v:Value} {ops:zL} (h:zj B w v ops):yl B 2 w v ops.length (jX ops):=by
 refine⟨ky ops,?_⟩
 rcases h with⟨rfl,rfl⟩ | ⟨g,off,zp,rfl,hB,hg,hl,hc,hsp,hx⟩
 ·exact .inl ⟨rfl,rfl⟩
 ·refine .inr ⟨g,off,zp,rfl,hB,hg,hl,hc,hsp,fun i hi=>?_⟩
  rw[ky] at hi
  have h2:=QL ops (i / 2) (by omega)
  have h3:=hx (i / 2) (by omega)
  rcases Nat.mod_two_eq_zero_or_one i with hm | hm
  ·rw[show i / 2 * 2=i by omega] at h2
   rw[show off+i / 2 * 2=off+i by omega] at h3
   rw[h3.1,<-h2.1,List.getElem?_eq_getElem]
  ·rw[show i / 2 * 2+1=i by omega] at h2
   rw[show off+i / 2 * 2+1=off+i by omega] at h3
   rw[h3.2,<-h2.2,List.getElem?_eq_getElem]
theorem yl.pair {B:Nat} {w:World} {v:Value} {n:Nat} {ops:zL} (hn:n=ops.length) (h:yl B 2 w v n (jX ops)):zj B w v ops:=by
 subst hn
 rcases h.2 with⟨rfl,e⟩ | ⟨g,off,zp,rfl,hB,hg,hl,hc,hsp,hx⟩
 ·exact .inl ⟨rfl,List.eq_nil_of_length_eq_zero e⟩
 ·refine .inr ⟨g,off,zp,rfl,hB,hg,hl,hc,hsp,fun i hi=>?_⟩
  have h2:=QL ops i hi
  have hp:=ky ops
  have h3:=hx (i * 2) (by omega)
  have h4:=hx (i * 2+1) (by omega)
  rw[<-Nat.add_assoc] at h4
  rw[h3,h4,<-List.getElem?_eq_getElem,<-List.getElem?_eq_getElem,h2.1,h2.2]
  exact⟨rfl,rfl⟩
theorem U1 {P:Program} {tx e':TypeId} (hk:P.underlying tx=some (.slice e')) {w:World} {v:Value} {ops:zL} (h:zR w v ops):Src P 2 tx v ops.length (jX ops) w:=by
 obtain⟨a,zp,rfl,hl,hc⟩:=h
 cases a with
 | none =>
  cases ops with
  | nil=>exact Src.ofNil w hk zp
  | cons x l =>
   obtain⟨b,o,e,_⟩:=hc 0 (by simp)
   cases e
 | some ad =>
  refine Src.ofSlice w hk ad _ zp _ (ky _) (fun j u hu=>?_) (zaf _)
  have hj:j<(jX ops).length:=by
   by_cases h:j<(jX ops).length
   ·exact h
   ·rw[List.getElem?_eq_none (by omega)] at hu;cases hu
  rw[ky] at hj
  obtain⟨b,o,e,h0,h1⟩:=hc (j / 2) (by omega)
  obtain rfl:ad=⟨b,o,none⟩:=by injection e
  rw[Addr.add_lit]
  have h2:=QL ops (j / 2) (by omega)
  rcases Nat.mod_two_eq_zero_or_one j with hm | hm
  ·rw[show o+j / 2 * 2=o+j by omega] at h0
   rw[show j / 2 * 2=j by omega] at h2
   rw[h0,<-h2.1];exact hu
  ·rw[show o+j / 2 * 2+1=o+j by omega] at h1
   rw[show j / 2 * 2+1=j by omega] at h2
   rw[h1,<-h2.2];exact hu
theorem wZ {ty:TypeId} {B:Nat} {w:World} {v xv:Value} {L M:zL} (zx:zj B w v L) (hM:zR w xv M) (hL:L.length+M.length<=3000000) (hB:B<=w.heap.size) :
 ∃v' w',(Builtin.append_ #[27,27] ty #[v,xv]).run Tryz.prog w=.ok v' w'/\zj B w' v' (L ++ M)/\w.grownBy w' v.ownBlock/\(v'.ownBlock=v.ownBlock\/v'.ownBlock=some w.heap.size):=by
 obtain⟨i0,hi,hz0,hz1,hz2⟩:=info_parts Tryz.infoVal
 have h1:=zx.crow
 have h2:=U1 (P:=Tryz.prog) Tryz.underlying27 hM
 rw[<-hz1] at h1 h2
 obtain⟨v',w',hr,hc,hg,hb⟩:=ul (P:=Tryz.prog) (ty:=ty) Tryz.underlying27 hi hz0 (by rw[hz1];rfl) (by rw[hz2];omega) h1 xv M.length (jX M) h2 hL hB
 refine⟨v',w',hr,?_,hg,hb⟩
 rw[hz1,<-Z8] at hc
 exact hc.pair (by simp)
theorem qM {ops:Array Oper} {rest:List Oper} {o:Oper} {act:Act} {Q:Exit->Act->World->Prop} (w:World) (hgd:o.guard=none) (s x:Operand)
 (ho:o.op=.call {callee:=.builtin .append,args:=#[s,x],argTypes:=#[27,27]}) (B:Nat) (v xv:Value) (L M:zL) (hs:act.eval s=v) (hx:act.eval x=xv) (zx:zj B w v L) (hM:zR w xv M)
 (hL:L.length+M.length<=3000000) (hB:B<=w.heap.size)
 (h:∀v' w',zj B w' v' (L ++ M)->w.grownBy w' v.ownBlock->(v'.ownBlock=v.ownBlock\/v'.ownBlock=some w.heap.size)->wpList Tryz.prog ops Q rest (act.put o.dst v') w') :
 wpList Tryz.prog ops Q (o :: rest) act w:=by
 obtain⟨v',w',hr,h2,h3,h4⟩:=wZ (ty:=o.type) zx hM hL hB
 refine wpList_plain hgd fun K hK=>?_
 unfold Oper.wp execOp
 simp only[ho,resolve,invoke,builtin,Sem.run_bind,Sem.run_pure,Result.andThen_ok,List.map_toArray,List.map_cons,List.map_nil,hs,hx,hr]
 exact hK _ _ (h v' w' h2 h3 h4)
theorem xT {ops:Array Oper} {o:Oper} {act:Act} {K:Act->World->Prop} {Q:Exit->Act->World->Prop} {E:Prop} (w:World) (hgd:o.guard=none) (s x:Operand)
 (ho:o.op=.call {callee:=.builtin .append,args:=#[s,x],argTypes:=#[27,27]}) (B:Nat) (v xv:Value) (L M:zL) (hs:act.eval s=v) (hx:act.eval x=xv) (zx:zj B w v L) (hM:zR w xv M)
 (hL:L.length+M.length<=3000000) (hB:B<=w.heap.size)
 (h:∀v' w',zj B w' v' (L ++ M)->w.grownBy w' v.ownBlock->(v'.ownBlock=v.ownBlock\/v'.ownBlock=some w.heap.size)->K (act.put o.dst v') w') :
 if Region.wanted o (yielded ops act.tmps)=true then Oper.wp Tryz.prog o act w K Q else E:=by
 obtain⟨v',w',hr,h2,h3,h4⟩:=wZ (ty:=o.type) zx hM hL hB
 rw[if_pos (by simp[Region.wanted,hgd])]
 unfold Oper.wp execOp
 simp only[ho,resolve,invoke,builtin,Sem.run_bind,Sem.run_pure,Result.andThen_ok,List.map_toArray,List.map_cons,List.map_nil,hs,hx,hr]
 exact h v' w' h2 h3 h4
theorem zj.made {B:Nat} {w:World} {e:TypeId} (hB:B<=w.heap.size):zj B (w.alloc (.cells #[] e)) (.slice (some ⟨w.heap.size,0,none⟩) 0 0) []:=(yl.made hB).pair rfl
theorem uh (w:World) (k q:Int) (e:TypeId) (c:Nat):zR (w.alloc (.cells #[.int .i64 k,.int .i64 q] e)) (.slice (some ⟨w.heap.size,0,none⟩) 1 c) [(k,q)] :=
 ⟨_,c,rfl,by unfold maxLen;simp,fun i hi=>by
  obtain rfl:i=0:=by simpa using hi
  exact⟨w.heap.size,0,rfl,by simp[go_sem],by simp[go_sem]⟩⟩
set_option maxRecDepth 100000 in
set_option maxHeartbeats 3000000 in
theorem Ux (n:Nat) (w:World) (hn:n<=1000) :
 Calls Tryz.prog 176 #[.int .i64 (n:Int)] w fun e w'=>∃v,e=.returned v/\zj w.heap.size w' v (List.replicate n (0,0))/\Below w.heap.size w w':=by
 have mk:=zj.made (B:=w.heap.size) (w:=w) (e:=98) zD
 have hA:Below w.heap.size w (w.alloc (.cells #[] 98)):=zB _ _
 go_enter Tryz.func176,Tryz.ntmps176
 go_wp2
 go_loopg [3,4] n (fun g o i wr=>∃k:Nat,k<=n/\g=n - k/\i=.int .i64 k/\zj w.heap.size wr o (List.replicate k (0,0))/\Below w.heap.size w wr)
 case atStart=>exact⟨0,Nat.zero_le _,rfl,rfl,mk,hA⟩
 case round =>
  obtain⟨k,hk,rfl,rfl,zS,hb⟩:=hrel
  have hbz:=hb.size
  by_cases hlt:k<n
  ·have hkz:(k:Int)<(n:Int):=by omega
   go_wp2_with (at_builtin;refine qM _ (by rfl) _ _ (by rfl) w.heap.size _ _ (List.replicate k (0,0)) [(0,0)] (by rfl) (by rfl) (zS.below (zB _ _)) (uh wr 0 0 _ _) (by simp;omega) (by simp;omega) ?_;intro v2 w2 hrow2 hg2 hb2)
   rw[<-List.replicate_succ'] at hrow2
   have hb3:Below w.heap.size w w2:=(hb.alloc hb.size _).grown hg2 (by simp;omega) (fun q e=>(zS.lt q e).1)
   clear hg2 hb2
   go_roundg (n - (k+1))
   case measure=>omega
   case rel=>exact⟨k+1,by omega,rfl,by go_num,hrow2,hb3⟩
  ·obtain rfl:k=n:=by omega
   go_wp2
   go_ret
   exact⟨_,rfl,zS,hb⟩
set_option maxRecDepth 100000 in
set_option maxHeartbeats 3000000 in
theorem Zt (vp va:Value) (ms:zM) (m:Nat) (args:zL) (zf:Int) (t:Nat) (w:World) (hp:yy w vp ms) (hm:m<ms.length) (ht:ms[m].2.1=(t:Int)) (X7:t<=1000) (ha:zR w va args) (hat:args.length<=t) :
 Calls Tryz.prog 159 #[.agg #[vp],.int .i64 (m:Int),va,.int .i64 zf] w fun e w'=>∃vt vs,e=.returned (.agg (qt vt vs ⟨m,0,args ++ List.replicate (t - args.length) (0,0),[],zf,false⟩)) /\
  zj w.heap.size w' vt (args ++ List.replicate (t - args.length) (0,0))/\zj w.heap.size w' vs []/\(∀g,vt.ownBlock=some g->vs.ownBlock≠some g)/\Below w.heap.size w w':=by
 obtain⟨ap,cp,rfl,hl,hc⟩:=id hp
 obtain⟨aa,ca,hva⟩:=ha.shape
 subst hva
 obtain⟨b,o,vo,hap,d0,d1,d2,_⟩:=hc m hm
 subst hap
 rw[ht] at d1
 unfold qt
 have hl63:ms.length<=2 ^ 63 - 1:=hl
 have hA:Below w.heap.size w (((w.alloc (.cells #[.slice (some ⟨b,o,none⟩) ms.length cp] 25)).alloc (.cells #[.int .i64 0,.int .i64 0,.slice none 0 0,.slice none 0 0,.int .i64 0,.bool false] 37)).alloc (.cells #[] 98)):=((zB _ _).alloc (by simp) _).alloc (by simp;omega) _
 have mk:=zj.made (B:=w.heap.size) (w:=(w.alloc (.cells #[.slice (some ⟨b,o,none⟩) ms.length cp] 25)).alloc (.cells #[.int .i64 0,.int .i64 0,.slice none 0 0,.slice none 0 0,.int .i64 0,.bool false] 37)) (e:=98) (by simp;omega)
 have bp:(((w.alloc (.cells #[.slice (some ⟨b,o,none⟩) ms.length cp] 25)).alloc (.cells #[.int .i64 0,.int .i64 0,.slice none 0 0,.slice none 0 0,.int .i64 0,.bool false] 37)).alloc (.cells #[] 98)).cell? ⟨w.heap.size,0,none⟩=some (.slice (some ⟨b,o,none⟩) ms.length cp):=by simp[go_sem]
 have bz:=(jx (w.alloc (.cells #[.slice (some ⟨b,o,none⟩) ms.length cp] 25)) 37 (.int .i64 0) (.int .i64 0) (.slice none 0 0) (.slice none 0 0) (.int .i64 0) (.bool false)).alloc (.cells #[] 98)
 simp only[World.size_alloc] at mk bz
 have hs3:(((w.alloc (.cells #[.slice (some ⟨b,o,none⟩) ms.length cp] 25)).alloc (.cells #[.int .i64 0,.int .i64 0,.slice none 0 0,.slice none 0 0,.int .i64 0,.bool false] 37)).alloc (.cells #[] 98)).heap.size≥w.heap.size+1+1:=by simp
 have haA:=ha.below hA
 have d1A:=zc hA d1
 have hw:IntKind.i64.wrap ((t:Int) - (args.length:Int))=((t - args.length:Nat):Int):=by rw[IntKind.wrap_i64];omega
 go_enter Tryz.func159,Tryz.ntmps159
 go_upto_region 2 with(at_builtin;refine qM _ (by rfl) _ _ (by rfl) w.heap.size _ _ [] args (by rfl) (by rfl) mk haA (by simp;omega) (by simp;omega) ?_;intro v2 w2 hrow2 hg2 hb2)
 generalize ((w.alloc (.cells #[.slice (some ⟨b,o,none⟩) ms.length cp] 25)).alloc (.cells #[.int .i64 0,.int .i64 0,.slice none 0 0,.slice none 0 0,.int .i64 0,.bool false] 37)).alloc (.cells #[] 98)=W3 at *
 have B2:Below w.heap.size w w2:=hA.grown hg2 (by omega) (fun q e=>(mk.lt q e).1)
 have hg2':W3.grownBy w2 (some (w.heap.size+1+1)):=hg2
 have bp2:w2.cell? ⟨w.heap.size,0,none⟩=some (.slice (some ⟨b,o,none⟩) ms.length cp):=hg2'.cell bp (by simp;omega)
 have bz2:=bz.of_block (hg2'.block (w.heap.size+1) bz.lt (by simp))
 have d12:=zc B2 d1
 rw[List.nil_append] at hrow2
 have z2:=B2.size
 have hbb:∀g,v2.ownBlock=some g->w.heap.size+1<g:=fun g e=>by
  rcases hb2 with h2 | h2
  ·rw[h2] at e;simp[Value.ownBlock] at e;omega
  ·rw[h2] at e;simp at e;omega
 clear hg2 hg2' hb2 bp bz mk haA d1A hA hs3 d0 d1 d2 hc
 go_wp2_with fail
 refine(Ux (t - args.length) _ (by omega)).mono ?_
 rintro e w3 ⟨v3,rfl,hrow3,hb3⟩
 have B3:Below w.heap.size w w3:=B2.trans (hb3.mono z2)
 have z3:=B3.size
 have bz3:=zz hb3 bz2
 have zca:=hrow2.below hb3
 have hbz:w.heap.size+1<w2.heap.size:=bz2.lt
 have y3:=hb3.size
 clear bp2 bz2 d12 hrow2 hb3 B2
 have HW4:∀(w4:World),w3.grownBy w4 v2.ownBlock->∀e,(w4.alloc e).rowIs (w.heap.size+1) 37 6 (Qi (.int .i64 0) (.int .i64 0) (.slice none 0 0) (.slice none 0 0) (.int .i64 0) (.bool false)):=fun w4 hg e=>by
  have h1:=bz3.of_block (hg.block (w.heap.size+1) bz3.lt (fun e=>by have:=hbb _ e.symm;omega))
  exact h1.alloc e
 go_wp2_with (at_builtin;refine qM _ (by rfl) _ _ (by rfl) w.heap.size _ _ args (List.replicate (t - args.length) (0,0)) (by rfl) (by rfl) zca hrow3.at (by simp;omega) (by omega) ?_;intro v4 w4 hrow4 hg4 hb4;obtain⟨a4,c4,hv4,_⟩:=hrow4.slice;subst hv4;obtain⟨⟨q0,q1,q2,q3,q4,q5⟩,k0,k1,k2,k3,k4,k5⟩:=zZ (HW4 w4 hg4 (.cells #[] 98)))
 have hlen:(args ++ List.replicate (t - args.length) ((0:Int),(0:Int))).length=t:=by simp;omega
 rw[hlen] at hrow4 hb4
 have hz4:=hg4.size
 have za2:(Value.slice a4 t c4).ownBlock≠some (w.heap.size+1):=fun e=>by
  rcases hb4 with h4 | h4
  ·rw[h4] at e;have:=hbb _ e;omega
  ·rw[h4] at e;simp at e;omega
 have B4:Below w.heap.size w w4:=B3.grown hg4 z3 (fun q e=>(zca.lt q e).1)
 have R4:=HW4 w4 hg4 (.cells #[] 98)
 have P4:=hrow4.below (zB _ (.cells #[] 98))
 have M4:=zj.made (B:=w.heap.size) (w:=w4) (e:=98) (by omega)
 have hlt4:∀g,(Value.slice a4 t c4).ownBlock=some g->g<w4.heap.size:=fun g e=>(hrow4.lt g e).2
 have B5:=B4.alloc B4.size (.cells #[] 98)
 have za3:(Value.slice (some ⟨w4.heap.size,0,none⟩) 0 0).ownBlock≠some (w.heap.size+1):=fun e=>by simp[Value.ownBlock] at e;omega
 clear hg4 hb4 hrow4 HW4 q0 q1 q2 q3 q4 q5 k0 k1 k2 k3 k4 k5
 generalize w4.alloc (.cells #[] 98)=w5 at *
 have R9:=JY (ZD (ZC (ZB (Qj (JX R4 (.int .i64 m)) (.int .i64 0)) (.slice a4 t c4)) (.slice (some ⟨w4.heap.size,0,none⟩) 0 0)) (.int .i64 zf)) (.bool false)
 have P9:=(((((P4.set_other (p:=⟨w.heap.size+1,0,none⟩) (.int .i64 m) za2).set_other (p:=⟨w.heap.size+1,1,none⟩) (.int .i64 0) za2).set_other (p:=⟨w.heap.size+1,2,none⟩) (.slice a4 t c4) za2).set_other (p:=⟨w.heap.size+1,3,none⟩) (.slice (some ⟨w4.heap.size,0,none⟩) 0 0) za2).set_other (p:=⟨w.heap.size+1,4,none⟩) (.int .i64 zf) za2).set_other (p:=⟨w.heap.size+1,5,none⟩) (.bool false) za2
 have M9:=(((((M4.set_other (p:=⟨w.heap.size+1,0,none⟩) (.int .i64 m) za3).set_other (p:=⟨w.heap.size+1,1,none⟩) (.int .i64 0) za3).set_other (p:=⟨w.heap.size+1,2,none⟩) (.slice a4 t c4) za3).set_other (p:=⟨w.heap.size+1,3,none⟩) (.slice (some ⟨w4.heap.size,0,none⟩) 0 0) za3).set_other (p:=⟨w.heap.size+1,4,none⟩) (.int .i64 zf) za3).set_other (p:=⟨w.heap.size+1,5,none⟩) (.bool false) za3
 have B9:=(((((B5.setCell (p:=⟨w.heap.size+1,0,none⟩) (Nat.le_succ _) (.int .i64 m)).setCell (p:=⟨w.heap.size+1,1,none⟩) (Nat.le_succ _) (.int .i64 0)).setCell (p:=⟨w.heap.size+1,2,none⟩) (Nat.le_succ _) (.slice a4 t c4)).setCell (p:=⟨w.heap.size+1,3,none⟩) (Nat.le_succ _) (.slice (some ⟨w4.heap.size,0,none⟩) 0 0)).setCell (p:=⟨w.heap.size+1,4,none⟩) (Nat.le_succ _) (.int .i64 zf)).setCell (p:=⟨w.heap.size+1,5,none⟩) (Nat.le_succ _) (.bool false)
 generalize (((((w5.setCell ⟨w.heap.size+1,0,none⟩ (.int .i64 m)).setCell ⟨w.heap.size+1,1,none⟩ (.int .i64 0)).setCell ⟨w.heap.size+1,2,none⟩ (.slice a4 t c4)).setCell ⟨w.heap.size+1,3,none⟩ (.slice (some ⟨w4.heap.size,0,none⟩) 0 0)).setCell ⟨w.heap.size+1,4,none⟩ (.int .i64 zf)).setCell ⟨w.heap.size+1,5,none⟩ (.bool false)=W9 at *
 obtain⟨⟨q0,q1,q2,q3,q4,q5⟩,_⟩:=zZ R9
 exact bodyPost_ret (v:=.agg #[.int .i64 m,.int .i64 0,.slice a4 t c4,.slice (some ⟨w4.heap.size,0,none⟩) 0 0,.int .i64 zf,.bool false]) (by simp[results,Tryz.results159,go_sem,q0,q1,q2,q3,q4,q5]) rfl ⟨_,_,rfl,P9,M9,fun g e e2=>by have:=hlt4 g e;simp[Value.ownBlock] at e2;omega,B9⟩
def kY (x:Cl × Value × Value):List Value:=[.int .i64 x.1.m,.int .i64 x.1.pc,x.2.1,x.2.2,.int .i64 x.1.zf,.bool x.1.zv]
def uq (L:List (Cl × Value × Value)):List Value:=L.flatMap kY
theorem UV (a b:List (Cl × Value × Value)):uq (a ++ b)=uq a ++ uq b:=by simp[uq]
theorem wd (a:List (Cl × Value × Value)):(uq a).length=a.length * 6:=by
 induction a with
 | nil=>rfl
 | cons x l ih=>simp[uq,kY] at ih ⊢;omega
theorem VI (a:List (Cl × Value × Value)):∀(i:Nat) (h:i<a.length),(uq a)[i * 6]?=some (.int .i64 a[i].1.m)/\(uq a)[i * 6+1]?=some (.int .i64 a[i].1.pc)/\(uq a)[i * 6+2]?=some a[i].2.1/\(uq a)[i * 6+3]?=some a[i].2.2/\(uq a)[i * 6+4]?=some (.int .i64 a[i].1.zf)/\(uq a)[i * 6+5]?=some (.bool a[i].1.zv):=by
 induction a with
 | nil=>intro i h;exact absurd h zF
 | cons x l ih =>
  intro i h
  cases i with
  | zero=>exact⟨rfl,rfl,rfl,rfl,rfl,rfl⟩
  | succ i =>
   have:=ih i (by simpa using h)
   rw[show(i+1) * 6=i * 6+6 by omega]
   exact this
def yz (B:Nat) (w:World) (v:Value) (L:List (Cl × Value × Value)):Prop:=yl B 6 w v L.length (uq L)
theorem yz.nil (B:Nat) (w:World):yz B w (.slice none 0 0) []:=yl.nil B 6 w
theorem yz.made {B:Nat} {w:World} {e:TypeId} (hB:B<=w.heap.size):yz B (w.alloc (.cells #[] e)) (.slice (some ⟨w.heap.size,0,none⟩) 0 0) []:=yl.made hB
theorem yz.lt {B:Nat} {w:World} {v:Value} {L:List (Cl × Value × Value)} (h:yz B w v L):∀k,v.ownBlock=some k->B<=k/\k<w.heap.size:=yl.lt h
theorem yz.kept {B:Nat} {w w':World} {v:Value} {L:List (Cl × Value × Value)} (h:yz B w v L) (hsz:w.heap.size<=w'.heap.size) (hb:∀g,v.ownBlock=some g->w'.heap[g]?=w.heap[g]?):yz B w' v L:=yl.kept h hsz hb
theorem yz.below {B:Nat} {w w':World} {v:Value} {L:List (Cl × Value × Value)} (h:yz B w v L) (hb:Below w.heap.size w w'):yz B w' v L:=yl.below h hb
theorem yz.slice {B:Nat} {w:World} {v:Value} {L:List (Cl × Value × Value)} (h:yz B w v L):∃a zp,v=.slice a L.length zp/\L.length<=maxLen:=by
 rcases h.2 with⟨rfl,e⟩ | ⟨g,off,zp,hv,hB,hg,hl,hc,_⟩
 ·exact⟨none,0,by rw[e],by rw[e];omega⟩
 ·exact⟨_,zp,hv,by omega⟩
theorem uk {ty:TypeId} {B:Nat} {w:World} {v:Value} {L:List (Cl × Value × Value)} (zx:yz B w v L) (x:Cl × Value × Value) (h1:x.2.1.oneCell'=true) (h2:x.2.2.oneCell'=true) (H c:Nat)
 (hx:∀j u,(kY x)[j]?=some u->w.cell? ⟨H,j,none⟩=some u) (hL:L.length<=900000) (hB:B<=w.heap.size) :
 ∃v' w',(Builtin.append_ #[26,26] ty #[v,.slice (some ⟨H,0,none⟩) 1 c]).run Tryz.prog w=.ok v' w'/\yz B w' v' (L ++ [x])/\w.grownBy w' v.ownBlock/\(v'.ownBlock=v.ownBlock\/v'.ownBlock=some w.heap.size):=by
 obtain⟨i0,hi,hz0,hz1,hz2⟩:=info_parts Tryz.infoCall
 have hs:Src Tryz.prog 6 26 (.slice (some ⟨H,0,none⟩) 1 c) 1 (kY x) w:=Src.ofSlice w Tryz.underlying26 ⟨H,0,none⟩ 1 c (kY x) rfl (fun j u hu=>by rw[Addr.add_lit,Nat.zero_add];exact hx j u hu) (fun u hu=>by
  simp only[kY,List.mem_cons,List.not_mem_nil,or_false] at hu
  rcases hu with rfl | rfl | rfl | rfl | rfl | rfl
  ·rfl
  ·rfl
  ·exact h1
  ·exact h2
  ·rfl
  ·rfl)
 have ho:yl B 6 w v L.length (uq L):=zx
 rw[<-hz1] at hs ho
 obtain⟨v',w',hr,hc,hg,hb⟩:=ul (P:=Tryz.prog) (ty:=ty) Tryz.underlying26 hi hz0 (by rw[hz1];rfl) (by rw[hz2];omega) ho _ 1 (kY x) hs (by omega) hB
 refine⟨v',w',hr,?_,hg,hb⟩
 rw[hz1] at hc
 unfold yz
 rw[UV,List.length_append]
 simpa [uq] using hc
theorem V0 {ops:Array Oper} {rest:List Oper} {o:Oper} {act:Act} {Q:Exit->Act->World->Prop} (w:World) (hgd:o.guard=none) (s y:Operand)
 (ho:o.op=.call {callee:=.builtin .append,args:=#[s,y],argTypes:=#[26,26]}) (B:Nat) (v:Value) (L:List (Cl × Value × Value)) (x:Cl × Value × Value) (hs:act.eval s=v) (H c:Nat) (hy:act.eval y=.slice (some ⟨H,0,none⟩) 1 c) (zx:yz B w v L)
 (h1:x.2.1.oneCell'=true) (h2:x.2.2.oneCell'=true) (hx:∀j u,(kY x)[j]?=some u->w.cell? ⟨H,j,none⟩=some u) (hL:L.length<=900000) (hB:B<=w.heap.size)
 (h:∀v' w',yz B w' v' (L ++ [x])->w.grownBy w' v.ownBlock->(v'.ownBlock=v.ownBlock\/v'.ownBlock=some w.heap.size)->wpList Tryz.prog ops Q rest (act.put o.dst v') w') :
 wpList Tryz.prog ops Q (o :: rest) act w:=by
 obtain⟨v',w',hr,h3,h4,h5⟩:=uk (ty:=o.type) zx x h1 h2 H c hx hL hB
 refine wpList_plain hgd fun K hK=>?_
 unfold Oper.wp execOp
 simp only[ho,resolve,invoke,builtin,Sem.run_bind,Sem.run_pure,Result.andThen_ok,List.map_toArray,List.map_cons,List.map_nil,hs,hy,hr]
 exact hK _ _ (h v' w' h3 h4 h5)
theorem Qw {w:World} {g:Nat} {t:TypeId} {x:Cl × Value × Value} (h:w.rowIs g t 6 (Qi (.int .i64 x.1.m) (.int .i64 x.1.pc) x.2.1 x.2.2 (.int .i64 x.1.zf) (.bool x.1.zv))):∀j u,(kY x)[j]?=some u->w.cell? ⟨g,j,none⟩=some u:=by
 obtain⟨⟨q0,q1,q2,q3,q4,q5⟩,_⟩:=zZ h
 intro j u hu
 have hj:j<6:=by
  by_cases h:j<6
  ·exact h
  ·rw[List.getElem?_eq_none (by simp[kY];omega)] at hu;cases hu
 have h6:j=0\/j=1\/j=2\/j=3\/j=4\/j=5:=by omega
 rcases h6 with rfl | rfl | rfl | rfl | rfl | rfl <;> (simp[kY] at hu;subst hu;assumption)
theorem yz.at {B:Nat} {w:World} {v:Value} {L:List (Cl × Value × Value)} (h:yz B w v L) (hl:∀i,(hi:i<L.length)->zR w L[i].2.1 L[i].1.zg/\zR w L[i].2.2 L[i].1.ze):qo w v (L.map (·.1)):=by
 rcases h.2 with⟨rfl,e⟩ | ⟨g,off,zp,rfl,hB,hg,hlc,hc,hsp,hx⟩
 ·obtain rfl:=List.eq_nil_of_length_eq_zero e
  exact qo.nil w
 ·refine⟨some ⟨g,off,none⟩,zp,by simp,by simp;omega,fun i hi=>?_⟩
  have hi':i<L.length:=by simpa using hi
  obtain⟨r0,r1,r2,r3,r4,r5⟩:=VI L i hi'
  have hrl:=wd L
  have hget:∀(j:Nat) (u:Value),(uq L)[j]?=some u->w.cell? ⟨g,off+j,none⟩=some u:=fun j u hu=>by
   have hj:j<(uq L).length:=by
    by_cases h:j<(uq L).length
    ·exact h
    ·rw[List.getElem?_eq_none (by omega)] at hu;cases hu
   rw[hx j hj,<-List.getElem?_eq_getElem,hu]
  obtain⟨ht,hs⟩:=hl i hi'
  refine⟨g,off,L[i].2.1,L[i].2.2,rfl,?_,?_,?_,?_,?_,?_,?_,?_⟩
  ·simpa using hget _ _ r0
  ·simpa [Nat.add_assoc] using hget _ _ r1
  ·simpa [Nat.add_assoc] using hget _ _ r2
  ·simpa [Nat.add_assoc] using hget _ _ r3
  ·simpa [Nat.add_assoc] using hget _ _ r4
  ·simpa [Nat.add_assoc] using hget _ _ r5
  ·simpa using ht
  ·simpa using hs
def uw (L:List (Cl × Value × Value)) (o:Value):Prop:=∀q,q<L.length * 2->∀g,(Zv (fun i=>(L.getD i (Cl.none,.slice none 0 0,.slice none 0 0)).2) q).ownBlock=some g ->
 o.ownBlock≠some g/\∀q',q'<L.length * 2->q'≠q->(Zv (fun i=>(L.getD i (Cl.none,.slice none 0 0,.slice none 0 0)).2) q').ownBlock≠some g
theorem Z6 {L:List (Cl × Value × Value)} {x:Cl × Value × Value} {q:Nat} (h:q<L.length * 2):Zv (fun i=>((L ++ [x]).getD i (Cl.none,.slice none 0 0,.slice none 0 0)).2) q=Zv (fun i=>(L.getD i (Cl.none,.slice none 0 0,.slice none 0 0)).2) q:=by
 unfold Zv
 have h2:q / 2<L.length:=by omega
 simp[List.getElem?_append_left h2]
theorem JD {L:List (Cl × Value × Value)} {x:Cl × Value × Value}:Zv (fun i=>((L ++ [x]).getD i (Cl.none,.slice none 0 0,.slice none 0 0)).2) (L.length * 2)=x.2.1:=by
 rw[vz];simp
theorem JE {L:List (Cl × Value × Value)} {x:Cl × Value × Value}:Zv (fun i=>((L ++ [x]).getD i (Cl.none,.slice none 0 0,.slice none 0 0)).2) (L.length * 2+1)=x.2.2:=by
 rw[vg];simp
theorem Yb {L:List (Cl × Value × Value)} {x:Cl × Value × Value} {o o':Value} {S S':Nat} (h:uw L o) (hlt:∀q,q<L.length * 2->∀g,(Zv (fun i=>(L.getD i (Cl.none,.slice none 0 0,.slice none 0 0)).2) q).ownBlock=some g->g<S)
 (hx1:∀g,x.2.1.ownBlock=some g->S<=g/\g<S') (hx2:∀g,x.2.2.ownBlock=some g->S<=g/\g<S') (hx:∀g,x.2.1.ownBlock=some g->x.2.2.ownBlock≠some g) (ho:∀g,o.ownBlock=some g->g<S) (ho':∀g,o'.ownBlock=some g->o.ownBlock=some g\/S'<=g) (hS:S<=S') :
 uw (L ++ [x]) o':=by
 intro q hq g hg
 rw[List.length_append,List.length_singleton] at hq
 have key:∀q',q'<(L.length+1) * 2->(q'<L.length * 2/\Zv (fun i=>((L ++ [x]).getD i (Cl.none,.slice none 0 0,.slice none 0 0)).2) q'=Zv (fun i=>(L.getD i (Cl.none,.slice none 0 0,.slice none 0 0)).2) q')\/(q'=L.length * 2/\Zv (fun i=>((L ++ [x]).getD i (Cl.none,.slice none 0 0,.slice none 0 0)).2) q'=x.2.1)\/(q'=L.length * 2+1/\Zv (fun i=>((L ++ [x]).getD i (Cl.none,.slice none 0 0,.slice none 0 0)).2) q'=x.2.2):=fun q' h'=>by
  by_cases e:q'<L.length * 2
  ·exact .inl ⟨e,Z6 e⟩
  ·by_cases e2:q'=L.length * 2
   ·exact .inr (.inl ⟨e2,by rw[e2];exact JD⟩)
   ·have e3:q'=L.length * 2+1:=by omega
    exact .inr (.inr ⟨e3,by rw[e3];exact JE⟩)
 refine⟨fun eo=>?_,fun q' hq' hne e'=>?_⟩
 ·rcases key q hq with⟨k1,k2⟩ | ⟨k1,k2⟩ | ⟨k1,k2⟩
  ·rw[k2] at hg
   rcases ho' g eo with h1 | h1
   ·exact(h q k1 g hg).1 h1
   ·have:=hlt q k1 g hg;omega
  ·rw[k2] at hg
   have h2:=hx1 g hg
   rcases ho' g eo with h1 | h1
   ·have:=ho g h1;omega
   ·omega
  ·rw[k2] at hg
   have h2:=hx2 g hg
   rcases ho' g eo with h1 | h1
   ·have:=ho g h1;omega
   ·omega
 ·rw[List.length_append,List.length_singleton] at hq'
  rcases key q hq with⟨k1,k2⟩ | ⟨k1,k2⟩ | ⟨k1,k2⟩ <;> rcases key q' hq' with⟨m1,m2⟩ | ⟨m1,m2⟩ | ⟨m1,m2⟩ <;> rw[k2] at hg <;> rw[m2] at e'
  ·exact(h q k1 g hg).2 q' m1 hne e'
  ·have h1:=hlt q k1 g hg;have h2:=hx1 g e';omega
  ·have h1:=hlt q k1 g hg;have h2:=hx2 g e';omega
  ·have h1:=hlt q' m1 g e';have h2:=hx1 g hg;omega
  ·omega
  ·exact hx g hg e'
  ·have h1:=hlt q' m1 g e';have h2:=hx2 g hg;omega
  ·exact hx g e' hg
  ·omega
theorem yz.own {B:Nat} {w:World} {v:Value} {L:List (Cl × Value × Value)} (h:yz B w v L) (hl:∀j,(hj:j<L.length)->zj B w L[j].2.1 L[j].1.zg/\zj B w L[j].2.2 L[j].1.ze) (ha:uw L v) :
 yu B w v (L.map (·.1)) (fun i=>(L.getD i (Cl.none,.slice none 0 0,.slice none 0 0)).2):=by
 have hget:∀i,(hi:i<L.length)->L.getD i (Cl.none,.slice none 0 0,.slice none 0 0)=L[i]:=fun i hi=>by simp[hi]
 refine⟨?_,fun i hi=>?_,fun q hq g hg=>?_⟩
 ·rcases h.2 with⟨rfl,e⟩ | ⟨g,off,zp,rfl,hB,hg,hlc,hc,hsp,hx⟩
  ·exact .inl ⟨rfl,by rw[List.eq_nil_of_length_eq_zero e];rfl⟩
  ·refine .inr ⟨g,off,zp,by simp,hB,hg,by simpa using hlc,hc,hsp,fun i hi=>?_⟩
   have hi':i<L.length:=by simpa using hi
   obtain⟨r0,r1,r2,r3,r4,r5⟩:=VI L i hi'
   have hgt:∀(j:Nat) (u:Value),(uq L)[j]?=some u->w.cell? ⟨g,off+j,none⟩=some u:=fun j u hu=>by
    have hj:j<(uq L).length:=by
     by_cases h:j<(uq L).length
     ·exact h
     ·rw[List.getElem?_eq_none (by omega)] at hu;cases hu
    rw[hx j hj,<-List.getElem?_eq_getElem,hu]
   rw[hget i hi']
   refine⟨?_,?_,?_,?_,?_,?_⟩
   ·simpa using hgt _ _ r0
   ·simpa [Nat.add_assoc] using hgt _ _ r1
   ·simpa [Nat.add_assoc] using hgt _ _ r2
   ·simpa [Nat.add_assoc] using hgt _ _ r3
   ·simpa [Nat.add_assoc] using hgt _ _ r4
   ·simpa [Nat.add_assoc] using hgt _ _ r5
 ·have hi':i<L.length:=by simpa using hi
  rw[hget i hi']
  simpa using hl i hi'
 ·rw[List.length_map] at hq ⊢
  exact ha q hq g hg
theorem UD {B:Nat} {w:World} {L:List (Cl × Value × Value)} (hl:∀j,(hj:j<L.length)->zj B w L[j].2.1 L[j].1.zg/\zj B w L[j].2.2 L[j].1.ze):∀q,q<L.length * 2->∀g,(Zv (fun i=>(L.getD i (Cl.none,.slice none 0 0,.slice none 0 0)).2) q).ownBlock=some g->g<w.heap.size:=fun q hq g hg=>by
 have hi:q / 2<L.length:=by omega
 have hget:L.getD (q / 2) (Cl.none,.slice none 0 0,.slice none 0 0)=L[q / 2]:=by simp[hi]
 rcases Nat.mod_two_eq_zero_or_one q with hm | hm
 ·rw[show q=q / 2 * 2 by omega,vz,hget] at hg
  exact((hl _ hi).1.lt g hg).2
 ·rw[show q=q / 2 * 2+1 by omega,vg,hget] at hg
  exact((hl _ hi).2.lt g hg).2
def yC (ps:List Pg) (k:Nat):Nat:=((ps.take k).map fun p=>p.zk.length).sum
def zY (ps:List Pg):Nat:=yC ps ps.length
def jT (ps:List Pg) (k:Nat):List Int:=(List.range k).map fun i=>(yC ps i:Int)
def xl (ps:List Pg):List Int:=jT ps ps.length
theorem wj (ps:List Pg):yC ps 0=0:=by simp[yC]
theorem xn {ps:List Pg} {k:Nat} (h:k<ps.length):yC ps (k+1)=yC ps k+ps[k].zk.length:=by
 unfold yC
 rw[List.take_add_one,List.getElem?_eq_getElem h,List.map_append,List.sum_append]
 simp
theorem Um (ps:List Pg):∀k j,k<=j->j<=ps.length->yC ps k<=yC ps j:=by
 intro k j hkj
 induction hkj with
 | refl=>intro _;exact Nat.le_refl _
 | @step j hk ih =>
  intro hl
  rw[xn (show j<ps.length from hl)]
  have:=ih (by omega)
  omega
theorem ka (ps:List Pg) {k:Nat} (h:k<=ps.length):yC ps k<=zY ps:=Um ps k ps.length h zD
theorem UF (ps:List Pg) (k:Nat):jT ps (k+1)=jT ps k ++ [(yC ps k:Int)]:=by simp[jT,List.range_succ]
theorem Z5 (ps:List Pg) (k:Nat):(jT ps k).length=k:=by simp[jT]
theorem UG (ps:List Pg):(xl ps).length=ps.length:=Z5 _ _
theorem zc2 (ps:List Pg) (i:Nat) (h:i<(xl ps).length):(xl ps)[i]=(yC ps i:Int):=by simp[xl,jT]
theorem Tryz.infoIntM:(Tryz.prog.info? 3).map (fun i=>(i.zero,i.size,i.bytes))=some (some (.int .i64 0),1,8):=by kernel_rfl
set_option maxRecDepth 100000 in
set_option maxHeartbeats 4000000 in
theorem wg (vp vo vt vs:Value) (m:Mc) (w:World) (h:yF w vp vo vt vs m) (hn:m.zd.length<=1048576) (hf:zY m.zd<=1099511627776) :
 Calls Tryz.prog 83 #[.agg (zI vp vo vt vs m).toArray] w fun e w'=>∃vl,e=.returned (.agg (zI vp vo vt vs m ++ [vl,.int .i64 (zY m.zd:Int)]).toArray)/\zO w.heap.size w' vl (xl m.zd)/\Below w.heap.size w w':=by
 obtain⟨ap,cp,hvp,hlp,hcp⟩:=id h.p
 obtain⟨ao,co,xz⟩:=h.o.shape
 obtain⟨at',ct,xZ⟩:=h.t.shape
 obtain⟨as',cs,hvs⟩:=h.s.shape
 subst hvp xz xZ hvs
 unfold zI
 obtain⟨i0,hi,hz0,hz1,hz2⟩:=info_parts Tryz.infoIntM
 go_enter Tryz.func83,Tryz.ntmps83
 go_upto_region 2 with fail
 refine ye (fun W=>Below w.heap.size w W/\Bx W w.heap.size 42 [.int .i64 m.cells,.slice ap m.zd.length cp,.slice ao m.order.length co,.int .i64 m.now,.slice at' m.zh.length ct,.int .i64 m.born,.slice as' m.zl.length cs,.int .i64 m.code]
  /\ Bx W (w.heap.size+1) 128 [.int .i64 0,.slice none 0 0,.slice none 0 0,.int .i64 0,.slice none 0 0,.int .i64 0,.slice none 0 0,.int .i64 0,.slice none 0 0,.int .i64 0]
  /\ Bx W (w.heap.size+1+1) 128 [.int .i64 m.cells,.slice ap m.zd.length cp,.slice ao m.order.length co,.int .i64 m.now,.slice at' m.zh.length ct,.int .i64 m.born,.slice as' m.zl.length cs,.int .i64 m.code,.slice none 0 0,.int .i64 0]
  /\ w.heap.size+1+1+1=W.heap.size) ⟨((zB _ _).alloc (by simp) _).alloc (by simp;omega) _,((Bx.new w _ _).alloc _).alloc _,(Bx.newAt _ _ _ (by simp)).alloc _,Bx.newAt _ _ _ (by simp),by simp⟩ ?_
 rintro W ⟨hb,hm,hr,hx,hW⟩
 have hW3:w.heap.size+1+1<W.heap.size:=by omega
 clear hW
 obtain⟨⟨_,m1,_,_,_,_,_,_⟩,_⟩:=xy hm
 go_wp2_with fail
 go_loopg [5,11] m.zd.length (fun g _ i wr=>∃(k:Nat) (vl:Value),k<=m.zd.length/\g=m.zd.length - k/\i=.int .i64 k/\zO W.heap.size wr vl (jT m.zd k)/\Below w.heap.size w wr/\W.heap.size<=wr.heap.size/\Bx wr (w.heap.size+1) 128 [.int .i64 0,.slice none 0 0,.slice none 0 0,.int .i64 0,.slice none 0 0,.int .i64 0,.slice none 0 0,.int .i64 0,.slice none 0 0,.int .i64 0]
  /\ Bx wr (w.heap.size+1+1) 128 [.int .i64 m.cells,.slice ap m.zd.length cp,.slice ao m.order.length co,.int .i64 m.now,.slice at' m.zh.length ct,.int .i64 m.born,.slice as' m.zl.length cs,.int .i64 m.code,vl,.int .i64 (yC m.zd k:Int)])
 case atStart=>exact⟨0,.slice none 0 0,Nat.zero_le _,rfl,rfl,zO.nil _ _,hb,Nat.le_refl _,hr,by rw[wj];exact hx⟩
 case round =>
  clear m1 hm hr hx hb
  obtain⟨k,vl,hk,rfl,rfl,zS,hb,hz,hr,hx⟩:=hrel
  obtain⟨al,cl,hvl,_⟩:=zS.slice
  subst hvl
  obtain⟨⟨x0,x1,x2,x3,x4,x5,x6,x7,x8,x9⟩,⟨f0,f1,f2,f3,f4,f5,f6,f7,f8,f9⟩⟩:=Zc hx
  by_cases hlt:k<m.zd.length
  ·obtain⟨b,o,vf,rfl,jN⟩:=hcp k hlt
   obtain⟨af,cf,Z4⟩:=jN.f.shape
   have d0:=zc hb jN.c0
   have d1:=zc hb jN.c1
   rw[Z4] at d1
   have hkz:(k:Int)<(m.zd.length:Int):=by omega
   have hft:yC m.zd (k+1)=yC m.zd k+m.zd[k].zk.length:=xn hlt
   have hfl:=ka m.zd (k:=k+1) hlt
   have HLS:Hid (jT m.zd (k+1)=jT m.zd k ++ [(yC m.zd k:Int)]):=UF _ _
   have hll:(jT m.zd k).length<=2900000:=by rw[Z5];omega
   obtain⟨nf,hnf⟩:∃nf,m.zd[k].zk.length=nf:=⟨_,rfl⟩
   obtain⟨ft,hft0⟩:∃ft,yC m.zd k=ft:=⟨_,rfl⟩
   obtain⟨L,hL⟩:∃L,jT m.zd k=L:=⟨_,rfl⟩
   rw[hnf] at d1 hft
   rw[hft0] at hft HLS hx x9
   rw[hL] at hll HLS zS x8 hx
   have hfb:ft+nf<=1099511627776:=by omega
   have HFT:Hid (yC m.zd (k+1)=ft+nf):=hft
   have hzb:b<w.heap.size:=World.block_lt_of_cell? _ _ jN.c0
   clear hnf hft0 hL jN Z4 hft hfl hcp x0 x1 x2 x3 x4 x5 x6 x7 f0 f1 f2 f3 f4 f5 f6 f7
   go_upto_region 5 with fail
   refine ye (fun W'=>Below wr.heap.size wr W'/\Bx W' wr.heap.size 101 [.int .i64 m.zd[k].base,.slice af nf cf]) ⟨zB _ _,Bx.new _ _ _⟩ ?_
   rintro w1 ⟨hb1,hp1⟩
   have hrl:∀q,(Value.slice al L.length cl).ownBlock=some q->W.heap.size<=q/\q<wr.heap.size:=zS.lt
   have r1:=zS.below hb1
   have hx1:=hx.below hb1
   have hr1:=hr.below hb1
   have hB1:=hb.trans (hb1.mono hb.size)
   have hW1:W.heap.size<=w1.heap.size:=Nat.le_trans hz hb1.size
   have hzp:=hp1.lt
   clear zS hx hr hb hb1 d0 d1 x8 x9 f8 f9
   obtain⟨⟨_,_,_,_,_,_,_,_,x8,x9⟩,⟨_,_,_,_,_,_,_,_,f8,f9⟩⟩:=Zc hx1
   have y1:=hp1.cell 1 rfl
   go_upto_region 6 with(at_builtin;refine Q4 Tryz.underlying39 hi hz0 hz1 hz2 _ (by rfl) _ _ (by rfl) _ L (by rfl) r1 _ _ _ rfl (by rfl) hll hW1 ?_;intro g2 Yv cp2 w2 hrow2 hg2 hor2 hlt2;have hx2:=hx1.grown hg2 (fun e=>by have:=(r1.lt _ e).1;omega);have x8':=hx2.cell 8 rfl;have f8':=hx2.frozen 8)
   refine ye (fun W'=>Below w.heap.size w W'/\zO W.heap.size W' (.slice (some ⟨g2,Yv,none⟩) (L.length+1) cp2) (L ++ [(ft:Int)])/\W.heap.size<=W'.heap.size/\Bx W' (w.heap.size+1) 128 [.int .i64 0,.slice none 0 0,.slice none 0 0,.int .i64 0,.slice none 0 0,.int .i64 0,.slice none 0 0,.int .i64 0,.slice none 0 0,.int .i64 0]
    /\ Bx W' wr.heap.size 101 [.int .i64 m.zd[k].base,.slice af nf cf]
    /\ Bx W' (w.heap.size+1+1) 128 [.int .i64 m.cells,.slice (some ⟨b,o,none⟩) m.zd.length cp,.slice ao m.order.length co,.int .i64 m.now,.slice at' m.zh.length ct,.int .i64 m.born,.slice as' m.zl.length cs,.int .i64 m.code,.slice (some ⟨g2,Yv,none⟩) (L.length+1) cp2,.int .i64 (ft:Int)])
    ⟨(hB1.grown hg2 hB1.size (fun q e=>by have:=(r1.lt _ e).1;omega)).setCell (p:=⟨w.heap.size+1+1,8,none⟩) (Nat.le_trans (Nat.le_succ _) (Nat.le_succ _)) _,?_,?_,(hr1.grown hg2 (fun e=>by have:=(r1.lt _ e).1;omega)).other (by omega) _,?_,hx2.set 8 _⟩ ?_
   ·refine hrow2.set_other (p:=⟨w.heap.size+1+1,8,none⟩) _ (fun e=>?_)
    have h9:g2=w.heap.size+1+1:=by injection e
    rcases hor2 with e2 | e2
    ·have:=(hrl _ e2).1
     omega
    ·omega
   ·rw[World.size_setCell];exact Nat.le_trans hW1 hg2.size
   ·exact(hp1.grown hg2 (fun e=>by have:=(hrl _ e).2;omega)).other (by omega) _
   rintro w3 ⟨hb3,hrow3,hz3,hr3,hp3,hx3⟩
   clear hx2 x8' f8' hrow2 hg2 hor2 hlt2 hrl r1 hx1 hr1 hB1 hp1 x8 x9 f8 f9 y1 hW1
   have x9:=hx3.cell 9 rfl
   have f9:=hx3.frozen 9
   have y1:=hp3.cell 1 rfl
   go_wp2
   go_roundg (m.zd.length - (k+1))
   case measure=>omega
   case rel=>exact⟨k+1,_,by omega,rfl,by go_num,by rw[HLS.out];exact hrow3.set_other (p:=⟨w.heap.size+1+1,9,none⟩) _ (fun e=>by have h9:W.heap.size<=w.heap.size+1+1:=(hrow3.lt _ e).1;omega),hb3.setCell (p:=⟨w.heap.size+1+1,9,none⟩) (Nat.le_trans (Nat.le_succ _) (Nat.le_succ _)) _,by rw[World.size_setCell];exact hz3,hr3.other (by omega) _,by rw[HFT.out];have:=hx3.set 9 (.int .i64 ((ft+nf:Nat):Int));simpa using this⟩
  ·obtain rfl:k=m.zd.length:=by omega
   have hkz:¬((m.zd.length:Int)<(m.zd.length:Int)):=by omega
   have hr2:=hr
   obtain⟨⟨r0,r1,r2,r3,r4,r5,r6,r7,r8,r9⟩,⟨g0,g1,g2,g3,g4,g5,g6,g7,g8,g9⟩⟩:=Zc hr2
   go_wp2
   refine jh (fun W'=>Below w.heap.size w W'/\zO w.heap.size W' (.slice al (jT m.zd m.zd.length).length cl) (jT m.zd m.zd.length)/\Bx W' (w.heap.size+1) 128 [.int .i64 m.cells,.slice ap m.zd.length cp,.slice ao m.order.length co,.int .i64 m.now,.slice at' m.zh.length ct,.int .i64 m.born,.slice as' m.zl.length cs,.int .i64 m.code,.slice al (jT m.zd m.zd.length).length cl,.int .i64 (yC m.zd m.zd.length:Int)]) ?_ ?_
   ·have HW:=(((((((((((Wr.refl1 (w.heap.size+1) wr).set1 (o:=0) (.int .i64 m.cells)).set1 (o:=1) (.slice ap m.zd.length cp)).set1 (o:=2) (.slice ao m.order.length co)).set1 (o:=3) (.int .i64 m.now)).set1 (o:=4) (.slice at' m.zh.length ct)).set1 (o:=5) (.int .i64 m.born)).set1 (o:=6) (.slice as' m.zl.length cs)).set1 (o:=7) (.int .i64 m.code)).set1 (o:=8) (.slice al (jT m.zd m.zd.length).length cl)).set1 (o:=9) (.int .i64 (yC m.zd m.zd.length:Int)))
    exact⟨HW.below1 hb zD (Nat.le_succ _),(HW.ints zS fun g e e2=>by have h9:W.heap.size<=g:=(zS.lt _ e).1;omega).mono (by omega),(((((((((hr2.set 0 _).set 1 _).set 2 _).set 3 _).set 4 _).set 5 _).set 6 _).set 7 _).set 8 _).set 9 _⟩
   rintro W9 ⟨hb9,kO,hx9⟩
   obtain⟨⟨q0,q1,q2,q3,q4,q5,q6,q7,q8,q9⟩,_⟩:=Zc hx9
   exact bodyPost_ret (v:=.agg #[.int .i64 m.cells,.slice ap m.zd.length cp,.slice ao m.order.length co,.int .i64 m.now,.slice at' m.zh.length ct,.int .i64 m.born,.slice as' m.zl.length cs,.int .i64 m.code,.slice al (jT m.zd m.zd.length).length cl,.int .i64 (yC m.zd m.zd.length:Int)]) (by simp[results,Tryz.results83,go_sem,q0,q1,q2,q3,q4,q5,q6,q7,q8,q9]) rfl ⟨_,rfl,kO,hb9⟩
set_option maxRecDepth 100000 in
theorem uG (vp vo vt vs:Value) (m:Mc) (w:World) (h:yF w vp vo vt vs m) (hn:m.zd.length<=1048576) (hf:zY m.zd<=1099511627776) :
 Calls Tryz.prog 27 #[.agg (zI vp vo vt vs m).toArray] w fun e w'=>e=.returned (.int .i64 (zY m.zd:Int))/\Below w.heap.size w w':=by
 obtain⟨ap,cp,hvp⟩:=h.p.shape
 obtain⟨ao,co,xz⟩:=h.o.shape
 obtain⟨at',ct,xZ⟩:=h.t.shape
 obtain⟨as',cs,hvs⟩:=h.s.shape
 subst hvp xz xZ hvs
 have HB:∀o,Below w.heap.size w (w.alloc o):=fun o=>zB _ _
 have HC:=fun o=>wg _ _ _ _ m _ (h.below (HB o)) hn hf
 unfold zI at HC ⊢
 simp only[List.cons_append,List.nil_append] at HC
 have hfd:∀(x0 x1 x2 x3 x4 x5 x6 x7 x8 x9:Value) (w:World),(Instr.field 128 (.agg #[x0,x1,x2,x3,x4,x5,x6,x7,x8,x9]) 2).run Tryz.prog w=.ok x9 w:=fun _ _ _ _ _ _ _ _ _ _ _=>by kernel_rfl
 go_enter Tryz.func27,Tryz.ntmps27
 go_wp2_with fail
 refine(HC _).mono ?_
 rintro e w1 ⟨vl,rfl,zS,hb⟩
 obtain⟨al,cl,hvl,_⟩:=zS.slice
 subst hvl
 go_wp2
 go_ret
 exact⟨rfl,(HB _).trans (hb.mono (by simp))⟩
end Go.Proofs.YtjbgpcileapogaaGreat

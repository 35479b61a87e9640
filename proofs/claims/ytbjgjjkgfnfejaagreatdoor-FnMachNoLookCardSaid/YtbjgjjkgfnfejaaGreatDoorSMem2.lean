/-
  Rows of values of their own: values are appended to them; l11None and l11Call of the model.
-/
import Derived.Test.YtbjgjjkgfnfejaaGreatDoorMLive
import Derived.Test.YtbjgjjkgfnfejaaGreatDoorHCopy
namespace Go.Proofs.YtbjgjjkgfnfejaaGreatDoor
set_option maxHeartbeats 4000000
set_option maxRecDepth 100000
open Go.RowKit
def ja (ops:yH):List Value:=ops.flatMap fun o=>[zI o.1,zI o.2]
theorem QE (a b:yH):ja (a ++ b)=ja a ++ ja b:=by simp[ja]
theorem xD (a:yH):(ja a).length=a.length * 2:=by
 induction a with
 | nil=>rfl
 | cons x l ih=>simp[ja] at ih ⊢;omega
theorem Qn (a:yH):∀(i:Nat) (h:i<a.length),(ja a)[i * 2]?=some (zI a[i].1)/\(ja a)[i * 2+1]?=some (zI a[i].2):=by
 induction a with
 | nil=>intro i h;exact absurd h yB
 | cons x l ih =>
  intro i h
  cases i with
  | zero=>exact⟨rfl,rfl⟩
  | succ i =>
   have:=ih i (by simpa using h)
   rw[show(i+1) * 2=i * 2+2 by omega]
   exact this
theorem Vs (M:yH):∀u∈ja M,u.oneCell'=true:=by
 intro u hu
 simp only[ja,List.mem_flatMap] at hu
 obtain⟨x,_,hx⟩:=hu
 simp at hx
 rcases hx with rfl | rfl <;> rfl
theorem zl.crow {B:Nat} {w:World} {v:Value} {ops:yH} (h:zl B w v ops):ym B 2 w v ops.length (ja ops):=by
 refine⟨xD ops,?_⟩
 rcases h with⟨rfl,rfl⟩ | ⟨g,off,cap,rfl,hB,hg,hl,hc,hsp,hx⟩
 ·exact .inl ⟨rfl,rfl⟩
 ·refine .inr ⟨g,off,cap,rfl,hB,hg,hl,hc,hsp,fun i hi=>?_⟩
  rw[xD] at hi
  have h2:=Qn ops (i / 2) (by omega)
  have h3:=hx (i / 2) (by omega)
  rcases Nat.mod_two_eq_zero_or_one i with hm | hm
  ·rw[show i / 2 * 2=i by omega] at h2
   rw[show off+i / 2 * 2=off+i by omega] at h3
   rw[h3.1,<-h2.1,List.getElem?_eq_getElem]
  ·rw[show i / 2 * 2+1=i by omega] at h2
   rw[show off+i / 2 * 2+1=off+i by omega] at h3
   rw[h3.2,<-h2.2,List.getElem?_eq_getElem]
theorem ym.pair {B:Nat} {w:World} {v:Value} {n:Nat} {ops:yH} (hn:n=ops.length) (h:ym B 2 w v n (ja ops)):zl B w v ops:=by
 subst hn
 rcases h.2 with⟨rfl,e⟩ | ⟨g,off,cap,rfl,hB,hg,hl,hc,hsp,hx⟩
 ·exact .inl ⟨rfl,List.eq_nil_of_length_eq_zero e⟩
 ·refine .inr ⟨g,off,cap,rfl,hB,hg,hl,hc,hsp,fun i hi=>?_⟩
  have h2:=Qn ops i hi
  have hp:=xD ops
  have h3:=hx (i * 2) (by omega)
  have h4:=hx (i * 2+1) (by omega)
  rw[<-Nat.add_assoc] at h4
  rw[h3,h4,<-List.getElem?_eq_getElem,<-List.getElem?_eq_getElem,h2.1,h2.2]
  exact⟨rfl,rfl⟩
theorem zbq {P:Program} {tx e':TypeId} (hk:P.underlying tx=some (.slice e')) {w:World} {v:Value} {ops:yH} (h:yi w v ops):Src P 2 tx v ops.length (ja ops) w:=by
 obtain⟨a,cap,rfl,hl,hc⟩:=h
 cases a with
 | none =>
  cases ops with
  | nil=>exact Src.ofNil w hk cap
  | cons x l =>
   obtain⟨b,o,e,_⟩:=hc 0 (by simp)
   cases e
 | some ad =>
  refine Src.ofSlice w hk ad _ cap _ (xD _) (fun j u hu=>?_) (Vs _)
  have hj:j<(ja ops).length:=by
   by_cases h:j<(ja ops).length
   ·exact h
   ·rw[List.getElem?_eq_none (by omega)] at hu;cases hu
  rw[xD] at hj
  obtain⟨b,o,e,h0,h1⟩:=hc (j / 2) (by omega)
  obtain rfl:ad=⟨b,o,none⟩:=by injection e
  rw[Addr.add_lit]
  have h2:=Qn ops (j / 2) (by omega)
  rcases Nat.mod_two_eq_zero_or_one j with hm | hm
  ·rw[show o+j / 2 * 2=o+j by omega] at h0
   rw[show j / 2 * 2=j by omega] at h2
   rw[h0,<-h2.1];exact hu
  ·rw[show o+j / 2 * 2+1=o+j by omega] at h1
   rw[show j / 2 * 2+1=j by omega] at h2
   rw[h1,<-h2.2];exact hu
theorem Yl {ty:TypeId} {B:Nat} {w:World} {v xv:Value} {L M:yH} (zE:zl B w v L) (hM:yi w xv M) (hL:L.length+M.length<=3000000) (hB:B<=w.heap.size) :
 ∃v' w',(Builtin.append_ #[32,32] ty #[v,xv]).run Tryz.prog w=.ok v' w'/\zl B w' v' (L ++ M)/\w.grownBy w' v.ownBlock/\(v'.ownBlock=v.ownBlock\/v'.ownBlock=some w.heap.size):=by
 obtain⟨i0,hi,jM,xP,vJ⟩:=info_parts Tryz.infoVal
 have h1:=zE.crow
 have h2:=zbq (P:=Tryz.prog) Tryz.underlying32 hM
 rw[<-xP] at h1 h2
 obtain⟨v',w',hr,hc,hg,hb⟩:=vK (P:=Tryz.prog) (ty:=ty) Tryz.underlying32 hi jM (by rw[xP];rfl) (by rw[vJ];omega) h1 xv M.length (ja M) h2 hL hB
 refine⟨v',w',hr,?_,hg,hb⟩
 rw[xP,<-QE] at hc
 exact hc.pair (by simp)
theorem Zd {ops:Array Oper} {rest:List Oper} {o:Oper} {act:Act} {Q:Exit->Act->World->Prop} (w:World) (hgd:o.guard=none) (s x:Operand)
 (ho:o.op=.call {callee:=.builtin .append,args:=#[s,x],argTypes:=#[32,32]}) (B:Nat) (v xv:Value) (L M:yH) (hs:act.eval s=v) (hx:act.eval x=xv) (zE:zl B w v L) (hM:yi w xv M)
 (hL:L.length+M.length<=3000000) (hB:B<=w.heap.size)
 (h:∀v' w',zl B w' v' (L ++ M)->w.grownBy w' v.ownBlock->(v'.ownBlock=v.ownBlock\/v'.ownBlock=some w.heap.size)->wpList Tryz.prog ops Q rest (act.put o.dst v') w') :
 wpList Tryz.prog ops Q (o :: rest) act w:=by
 obtain⟨v',w',hr,h2,h3,h4⟩:=Yl (ty:=o.type) zE hM hL hB
 refine wpList_plain hgd fun K hK=>?_
 unfold Oper.wp execOp
 simp only[ho,resolve,invoke,builtin,Sem.run_bind,Sem.run_pure,Result.andThen_ok,List.map_toArray,List.map_cons,List.map_nil,hs,hx,hr]
 exact hK _ _ (h v' w' h2 h3 h4)
theorem Jp {ops:Array Oper} {o:Oper} {act:Act} {K:Act->World->Prop} {Q:Exit->Act->World->Prop} {E:Prop} (w:World) (hgd:o.guard=none) (s x:Operand)
 (ho:o.op=.call {callee:=.builtin .append,args:=#[s,x],argTypes:=#[32,32]}) (B:Nat) (v xv:Value) (L M:yH) (hs:act.eval s=v) (hx:act.eval x=xv) (zE:zl B w v L) (hM:yi w xv M)
 (hL:L.length+M.length<=3000000) (hB:B<=w.heap.size)
 (h:∀v' w',zl B w' v' (L ++ M)->w.grownBy w' v.ownBlock->(v'.ownBlock=v.ownBlock\/v'.ownBlock=some w.heap.size)->K (act.put o.dst v') w') :
 if Region.wanted o (yielded ops act.tmps)=true then Oper.wp Tryz.prog o act w K Q else E:=by
 obtain⟨v',w',hr,h2,h3,h4⟩:=Yl (ty:=o.type) zE hM hL hB
 rw[if_pos (by simp[Region.wanted,hgd])]
 unfold Oper.wp execOp
 simp only[ho,resolve,invoke,builtin,Sem.run_bind,Sem.run_pure,Result.andThen_ok,List.map_toArray,List.map_cons,List.map_nil,hs,hx,hr]
 exact h v' w' h2 h3 h4
theorem zl.made {B:Nat} {w:World} {e:TypeId} (hB:B<=w.heap.size):zl B (w.alloc (.cells #[] e)) (.slice (some ⟨w.heap.size,0,none⟩) 0 0) []:=(ym.made hB).pair rfl
theorem zfx (w:World) (k q:Int) (e:TypeId) (c:Nat):yi (w.alloc (.cells #[.int .i64 k,.int .i64 q] e)) (.slice (some ⟨w.heap.size,0,none⟩) 1 c) [(k,q)] :=
 ⟨_,c,rfl,by unfold maxLen;simp,fun i hi=>by
  obtain rfl:i=0:=by simpa using hi
  exact⟨w.heap.size,0,rfl,by simp[go_sem],by simp[go_sem]⟩⟩
theorem zaK (n:Nat) (w:World) (hn:n<=1000) :
 Calls Tryz.prog 126 #[zI (n:Int)] w fun e w'=>∃v,e=.returned v/\zl w.heap.size w' v (List.replicate n (0,0))/\zO w w':=by
 have mk:=zl.made (B:=w.heap.size) (w:=w) (e:=86) zD
 have hA:zO w (w.alloc (.cells #[] 86)):=zR _ _
 go_enter Tryz.func126,Tryz.ntmps126
 go_wp2
 go_loopg [3,4] n (fun g o i wr=>∃k:Nat,k<=n/\g=n - k/\i=zI k/\zl w.heap.size wr o (List.replicate k (0,0))/\zO w wr)
 case atStart=>exact⟨0,Nat.zero_le _,rfl,rfl,mk,hA⟩
 case round =>
  obtain⟨k,hk,rfl,rfl,yd,hb⟩:=hrel
  have hbz:=hb.size
  by_cases yt:k<n
  ·have v7:(k:Int)<(n:Int):=by omega
   go_wp2_with (at_builtin;refine Zd _ (by rfl) _ _ (by rfl) w.heap.size _ _ (List.replicate k (0,0)) [(0,0)] (by rfl) (by rfl) (yd.below (zR _ _)) (zfx wr 0 0 _ _) (by simp;omega) (by simp;omega) ?_;intro v2 w2 yO qF yE)
   rw[<-List.replicate_succ'] at yO
   have qR:zO w w2:=(hb.alloc hb.size _).grown qF (by simp;omega) (fun q e=>(yd.lt q e).1)
   clear qF yE
   go_roundg (n - (k+1))
   case measure=>omega
   case rel=>exact⟨k+1,by omega,rfl,by go_num,yO,qR⟩
  ·obtain rfl:k=n:=by omega
   go_wp2
   go_ret
   exact⟨_,rfl,yd,hb⟩
theorem zaJ (vp va:Value) (ms:zM) (m:Nat) (args:yH) (zi:Int) (t:Nat) (w:World) (hp:yD w vp ms) (hm:m<ms.length) (ht:ms[m].2.1=(t:Int)) (K0:t<=1000) (ha:yi w va args) (hat:args.length<=t) :
 Calls Tryz.prog 83 #[.agg #[vp],zI (m:Int),va,zI zi] w fun e w'=>∃vt vs,e=.returned (.agg (kC vt vs ⟨m,0,args ++ List.replicate (t - args.length) (0,0),[],zi,false⟩)) /\
  zl w.heap.size w' vt (args ++ List.replicate (t - args.length) (0,0))/\zl w.heap.size w' vs []/\(∀g,vt.ownBlock=some g->vs.ownBlock≠some g)/\zO w w':=by
 obtain⟨ap,cp,rfl,hl,hc⟩:=id hp
 obtain⟨aa,ca,hva⟩:=ha.shape
 subst hva
 obtain⟨b,o,vo,hap,d0,d1,d2,_⟩:=hc m hm
 subst hap
 rw[ht] at d1
 unfold kC
 have hl63:ms.length<=2 ^ 63 - 1:=hl
 have hA:zO w (((w.alloc (.cells #[.slice (some ⟨b,o,none⟩) ms.length cp] 25)).alloc (.cells #[.int .i64 0,.int .i64 0,.slice none 0 0,.slice none 0 0,.int .i64 0,.bool false] 96)).alloc (.cells #[] 86)):=((zR _ _).alloc (by simp) _).alloc (by simp;omega) _
 have mk:=zl.made (B:=w.heap.size) (w:=(w.alloc (.cells #[.slice (some ⟨b,o,none⟩) ms.length cp] 25)).alloc (.cells #[.int .i64 0,.int .i64 0,.slice none 0 0,.slice none 0 0,.int .i64 0,.bool false] 96)) (e:=86) (by simp;omega)
 have bp:(((w.alloc (.cells #[.slice (some ⟨b,o,none⟩) ms.length cp] 25)).alloc (.cells #[.int .i64 0,.int .i64 0,.slice none 0 0,.slice none 0 0,.int .i64 0,.bool false] 96)).alloc (.cells #[] 86)).cell? (zH w.heap.size 0)=some (.slice (some ⟨b,o,none⟩) ms.length cp):=by simp[go_sem]
 have bz:=(Z7 (w.alloc (.cells #[.slice (some ⟨b,o,none⟩) ms.length cp] 25)) 96 (.int .i64 0) (.int .i64 0) (.slice none 0 0) (.slice none 0 0) (.int .i64 0) (.bool false)).alloc (.cells #[] 86)
 simp only[World.size_alloc] at mk bz
 have hs3:(((w.alloc (.cells #[.slice (some ⟨b,o,none⟩) ms.length cp] 25)).alloc (.cells #[.int .i64 0,.int .i64 0,.slice none 0 0,.slice none 0 0,.int .i64 0,.bool false] 96)).alloc (.cells #[] 86)).heap.size≥w.heap.size+1+1:=by simp
 have haA:=ha.below hA
 have d1A:=zc hA d1
 have hw:IntKind.i64.wrap ((t:Int) - (args.length:Int))=((t - args.length:Nat):Int):=by rw[IntKind.wrap_i64];omega
 go_enter Tryz.func83,Tryz.ntmps83
 go_upto_region 2 with(at_builtin;refine Zd _ (by rfl) _ _ (by rfl) w.heap.size _ _ [] args (by rfl) (by rfl) mk haA (by simp;omega) (by simp;omega) ?_;intro v2 w2 yO qF yE)
 generalize ((w.alloc (.cells #[.slice (some ⟨b,o,none⟩) ms.length cp] 25)).alloc (.cells #[.int .i64 0,.int .i64 0,.slice none 0 0,.slice none 0 0,.int .i64 0,.bool false] 96)).alloc (.cells #[] 86)=W3 at *
 have B2:zO w w2:=hA.grown qF (by omega) (fun q e=>(mk.lt q e).1)
 have hg2':W3.grownBy w2 (some (w.heap.size+1+1)):=qF
 have bp2:w2.cell? (zH w.heap.size 0)=some (zK b o ms.length cp):=hg2'.cell bp (by simp;omega)
 have bz2:=bz.of_block (hg2'.block (w.heap.size+1) bz.lt (by simp))
 have d12:=zc B2 d1
 rw[List.nil_append] at yO
 have z2:=B2.size
 have hbb:∀g,v2.ownBlock=some g->w.heap.size+1<g:=fun g e=>by
  rcases yE with h2 | h2
  ·rw[h2] at e;simp[Value.ownBlock] at e;omega
  ·rw[h2] at e;simp at e;omega
 clear qF hg2' yE bp bz mk haA d1A hA hs3 d0 d1 d2 hc
 go_wp2_with fail
 refine(zaK (t - args.length) _ (by omega)).mono ?_
 rintro e w3 ⟨v3,rfl,qf,qR⟩
 have B3:zO w w3:=B2.trans (qR.mono z2)
 have z3:=B3.size
 have bz3:=yU qR bz2
 have zfb:=yO.below qR
 have hbz:w.heap.size+1<w2.heap.size:=bz2.lt
 have y3:=qR.size
 clear bp2 bz2 d12 yO qR B2
 have HW4:∀(w4:World),w3.grownBy w4 v2.ownBlock->∀e,(w4.alloc e).rowIs (w.heap.size+1) 96 6 (six (zI 0) (zI 0) (zQ) (zQ) (zI 0) (.bool false)):=fun w4 hg e=>by
  have h1:=bz3.of_block (hg.block (w.heap.size+1) bz3.lt (fun e=>by have:=hbb _ e.symm;omega))
  exact h1.alloc e
 go_wp2_with (at_builtin;refine Zd _ (by rfl) _ _ (by rfl) w.heap.size _ _ args (List.replicate (t - args.length) (0,0)) (by rfl) (by rfl) zfb qf.at (by simp;omega) (by omega) ?_;intro v4 w4 qd uy Za;obtain⟨a4,c4,hv4,_⟩:=qd.slice;subst hv4;obtain⟨⟨q0,q1,q2,q3,q4,q5⟩,k0,k1,k2,k3,k4,k5⟩:=xu (HW4 w4 uy (.cells #[] 86)))
 have hlen:(args ++ List.replicate (t - args.length) ((0:Int),(0:Int))).length=t:=by simp;omega
 rw[hlen] at qd Za
 have hz4:=uy.size
 have zdQ:(Value.slice a4 t c4).ownBlock≠some (w.heap.size+1):=fun e=>by
  rcases Za with h4 | h4
  ·rw[h4] at e;have:=hbb _ e;omega
  ·rw[h4] at e;simp at e;omega
 have B4:zO w w4:=B3.grown uy z3 (fun q e=>(zfb.lt q e).1)
 have R4:=HW4 w4 uy (.cells #[] 86)
 have P4:=qd.below (zR _ (.cells #[] 86))
 have M4:=zl.made (B:=w.heap.size) (w:=w4) (e:=86) (by omega)
 have hlt4:∀g,(Value.slice a4 t c4).ownBlock=some g->g<w4.heap.size:=fun g e=>(qd.lt g e).2
 have B5:=B4.alloc B4.size (.cells #[] 86)
 have zdR:(zK w4.heap.size 0 0 0).ownBlock≠some (w.heap.size+1):=fun e=>by simp[Value.ownBlock] at e;omega
 clear uy Za qd HW4 q0 q1 q2 q3 q4 q5 k0 k1 k2 k3 k4 k5
 generalize w4.alloc (.cells #[] 86)=w5 at *
 have R9:=zbo (VD (VC (VB (zbn (zbm R4 (zI m)) (zI 0)) (.slice a4 t c4)) (zK w4.heap.size 0 0 0)) (zI zi)) (.bool false)
 have P9:=(((((P4.set_other (p:=zH (w.heap.size+1) 0) (zI m) zdQ).set_other (p:=zH (w.heap.size+1) 1) (zI 0) zdQ).set_other (p:=zH (w.heap.size+1) 2) (.slice a4 t c4) zdQ).set_other (p:=zH (w.heap.size+1) 3) (zK w4.heap.size 0 0 0) zdQ).set_other (p:=zH (w.heap.size+1) 4) (zI zi) zdQ).set_other (p:=zH (w.heap.size+1) 5) (.bool false) zdQ
 have M9:=(((((M4.set_other (p:=zH (w.heap.size+1) 0) (zI m) zdR).set_other (p:=zH (w.heap.size+1) 1) (zI 0) zdR).set_other (p:=zH (w.heap.size+1) 2) (.slice a4 t c4) zdR).set_other (p:=zH (w.heap.size+1) 3) (zK w4.heap.size 0 0 0) zdR).set_other (p:=zH (w.heap.size+1) 4) (zI zi) zdR).set_other (p:=zH (w.heap.size+1) 5) (.bool false) zdR
 have B9:=(((((B5.setCell (p:=zH (w.heap.size+1) 0) (Nat.le_succ _) (zI m)).setCell (p:=zH (w.heap.size+1) 1) (Nat.le_succ _) (zI 0)).setCell (p:=zH (w.heap.size+1) 2) (Nat.le_succ _) (.slice a4 t c4)).setCell (p:=zH (w.heap.size+1) 3) (Nat.le_succ _) (zK w4.heap.size 0 0 0)).setCell (p:=zH (w.heap.size+1) 4) (Nat.le_succ _) (zI zi)).setCell (p:=zH (w.heap.size+1) 5) (Nat.le_succ _) (.bool false)
 generalize (((((w5.setCell (zH (w.heap.size+1) 0) (zI m)).setCell (zH (w.heap.size+1) 1) (zI 0)).setCell (zH (w.heap.size+1) 2) (.slice a4 t c4)).setCell (zH (w.heap.size+1) 3) (zK w4.heap.size 0 0 0)).setCell (zH (w.heap.size+1) 4) (zI zi)).setCell (zH (w.heap.size+1) 5) (.bool false)=W9 at *
 obtain⟨⟨q0,q1,q2,q3,q4,q5⟩,_⟩:=xu R9
 exact bodyPost_ret (v:=.agg #[zI m,zI 0,.slice a4 t c4,zK w4.heap.size 0 0 0,zI zi,.bool false]) (by simp[results,Tryz.results83,go_sem,q0,q1,q2,q3,q4,q5]) rfl ⟨_,_,rfl,P9,M9,fun g e e2=>by have:=hlt4 g e;simp[Value.ownBlock] at e2;omega,B9⟩
def wE (x:Cl × Value × Value):List Value:=[zI x.1.m,zI x.1.pc,x.2.1,x.2.2,zI x.1.zi,.bool x.1.zy]
def ZC (L:List (Cl × Value × Value)):List Value:=L.flatMap wE
theorem zbc (a b:List (Cl × Value × Value)):ZC (a ++ b)=ZC a ++ ZC b:=by simp[ZC]
theorem zbd (a:List (Cl × Value × Value)):(ZC a).length=a.length * 6:=by
 induction a with
 | nil=>rfl
 | cons x l ih=>simp[ZC,wE] at ih ⊢;omega
theorem zdf (a:List (Cl × Value × Value)):∀(i:Nat) (h:i<a.length),(ZC a)[i * 6]?=some (zI a[i].1.m)/\(ZC a)[i * 6+1]?=some (zI a[i].1.pc)/\(ZC a)[i * 6+2]?=some a[i].2.1/\(ZC a)[i * 6+3]?=some a[i].2.2/\(ZC a)[i * 6+4]?=some (zI a[i].1.zi)/\(ZC a)[i * 6+5]?=some (.bool a[i].1.zy):=by
 induction a with
 | nil=>intro i h;exact absurd h yB
 | cons x l ih =>
  intro i h
  cases i with
  | zero=>exact⟨rfl,rfl,rfl,rfl,rfl,rfl⟩
  | succ i =>
   have:=ih i (by simpa using h)
   rw[show(i+1) * 6=i * 6+6 by omega]
   exact this
def qX (B:Nat) (w:World) (v:Value) (L:List (Cl × Value × Value)):Prop:=ym B 6 w v L.length (ZC L)
theorem qX.nil (B:Nat) (w:World):qX B w (zQ) []:=ym.nil B 6 w
theorem qX.lt {B:Nat} {w:World} {v:Value} {L:List (Cl × Value × Value)} (h:qX B w v L):∀k,v.ownBlock=some k->B<=k/\k<w.heap.size:=ym.lt h
theorem qX.kept {B:Nat} {w w':World} {v:Value} {L:List (Cl × Value × Value)} (h:qX B w v L) (un:w.heap.size<=w'.heap.size) (hb:∀g,v.ownBlock=some g->w'.heap[g]?=w.heap[g]?):qX B w' v L:=ym.kept h un hb
theorem qX.below {B:Nat} {w w':World} {v:Value} {L:List (Cl × Value × Value)} (h:qX B w v L) (hb:zO w w'):qX B w' v L:=ym.below h hb
theorem qX.slice {B:Nat} {w:World} {v:Value} {L:List (Cl × Value × Value)} (h:qX B w v L):∃a cap,v=.slice a L.length cap/\L.length<=maxLen:=by
 rcases h.2 with⟨rfl,e⟩ | ⟨g,off,cap,hv,hB,hg,hl,hc,_⟩
 ·exact⟨none,0,by rw[e],by rw[e];omega⟩
 ·exact⟨_,cap,hv,by omega⟩
theorem Yk {ty:TypeId} {B:Nat} {w:World} {v:Value} {L:List (Cl × Value × Value)} (zE:qX B w v L) (x:Cl × Value × Value) (h1:x.2.1.oneCell'=true) (h2:x.2.2.oneCell'=true) (H c:Nat)
 (hx:∀j u,(wE x)[j]?=some u->w.cell? (zH H j)=some u) (hL:L.length<=900000) (hB:B<=w.heap.size) :
 ∃v' w',(Builtin.append_ #[39,39] ty #[v,zK H 0 1 c]).run Tryz.prog w=.ok v' w'/\qX B w' v' (L ++ [x])/\w.grownBy w' v.ownBlock/\(v'.ownBlock=v.ownBlock\/v'.ownBlock=some w.heap.size):=by
 obtain⟨i0,hi,jM,xP,vJ⟩:=info_parts Tryz.infoCall
 have hs:Src Tryz.prog 6 39 (zK H 0 1 c) 1 (wE x) w:=Src.ofSlice w Tryz.underlying39 ⟨H,0,none⟩ 1 c (wE x) rfl (fun j u hu=>by rw[Addr.add_lit,Nat.zero_add];exact hx j u hu) (fun u hu=>by
  simp only[wE,List.mem_cons,List.not_mem_nil,or_false] at hu
  rcases hu with rfl | rfl | rfl | rfl | rfl | rfl
  ·rfl
  ·rfl
  ·exact h1
  ·exact h2
  ·rfl
  ·rfl)
 have ho:ym B 6 w v L.length (ZC L):=zE
 rw[<-xP] at hs ho
 obtain⟨v',w',hr,hc,hg,hb⟩:=vK (P:=Tryz.prog) (ty:=ty) Tryz.underlying39 hi jM (by rw[xP];rfl) (by rw[vJ];omega) ho _ 1 (wE x) hs (by omega) hB
 refine⟨v',w',hr,?_,hg,hb⟩
 rw[xP] at hc
 unfold qX
 rw[zbc,List.length_append]
 simpa [ZC] using hc
theorem zah {ops:Array Oper} {rest:List Oper} {o:Oper} {act:Act} {Q:Exit->Act->World->Prop} (w:World) (hgd:o.guard=none) (s y:Operand)
 (ho:o.op=.call {callee:=.builtin .append,args:=#[s,y],argTypes:=#[39,39]}) (B:Nat) (v:Value) (L:List (Cl × Value × Value)) (x:Cl × Value × Value) (hs:act.eval s=v) (H c:Nat) (hy:act.eval y=zK H 0 1 c) (zE:qX B w v L)
 (h1:x.2.1.oneCell'=true) (h2:x.2.2.oneCell'=true) (hx:∀j u,(wE x)[j]?=some u->w.cell? (zH H j)=some u) (hL:L.length<=900000) (hB:B<=w.heap.size)
 (h:∀v' w',qX B w' v' (L ++ [x])->w.grownBy w' v.ownBlock->(v'.ownBlock=v.ownBlock\/v'.ownBlock=some w.heap.size)->wpList Tryz.prog ops Q rest (act.put o.dst v') w') :
 wpList Tryz.prog ops Q (o :: rest) act w:=by
 obtain⟨v',w',hr,h3,h4,h5⟩:=Yk (ty:=o.type) zE x h1 h2 H c hx hL hB
 refine wpList_plain hgd fun K hK=>?_
 unfold Oper.wp execOp
 simp only[ho,resolve,invoke,builtin,Sem.run_bind,Sem.run_pure,Result.andThen_ok,List.map_toArray,List.map_cons,List.map_nil,hs,hy,hr]
 exact hK _ _ (h v' w' h3 h4 h5)
theorem zdq {w:World} {g:Nat} {t:TypeId} {x:Cl × Value × Value} (h:w.rowIs g t 6 (six (zI x.1.m) (zI x.1.pc) x.2.1 x.2.2 (zI x.1.zi) (.bool x.1.zy))):∀j u,(wE x)[j]?=some u->w.cell? (zH g j)=some u:=by
 obtain⟨⟨q0,q1,q2,q3,q4,q5⟩,_⟩:=xu h
 intro j u hu
 have hj:j<6:=by
  by_cases h:j<6
  ·exact h
  ·rw[List.getElem?_eq_none (by simp[wE];omega)] at hu;cases hu
 have h6:j=0\/j=1\/j=2\/j=3\/j=4\/j=5:=by omega
 rcases h6 with rfl | rfl | rfl | rfl | rfl | rfl <;> (simp[wE] at hu;subst hu;assumption)
theorem qX.at {B:Nat} {w:World} {v:Value} {L:List (Cl × Value × Value)} (h:qX B w v L) (hl:∀i,(hi:i<L.length)->yi w L[i].2.1 L[i].1.zh/\yi w L[i].2.2 L[i].1.zf):xz w v (L.map (·.1)):=by
 rcases h.2 with⟨rfl,e⟩ | ⟨g,off,cap,rfl,hB,hg,hlc,hc,hsp,hx⟩
 ·obtain rfl:=List.eq_nil_of_length_eq_zero e
  exact xz.nil w
 ·refine⟨some ⟨g,off,none⟩,cap,by simp,by simp;omega,fun i hi=>?_⟩
  have hi':i<L.length:=by simpa using hi
  obtain⟨r0,r1,r2,r3,r4,r5⟩:=zdf L i hi'
  have hrl:=zbd L
  have hget:∀(j:Nat) (u:Value),(ZC L)[j]?=some u->w.cell? (zH g (off+j))=some u:=fun j u hu=>by
   have hj:j<(ZC L).length:=by
    by_cases h:j<(ZC L).length
    ·exact h
    ·rw[List.getElem?_eq_none (by omega)] at hu;cases hu
   rw[hx j hj,<-List.getElem?_eq_getElem,hu]
  obtain⟨ht,hs⟩:=hl i hi'
  refine⟨g,off,L[i].2.1,L[i].2.2,rfl,?_,?_,?_,?_,?_,?_,?_,?_⟩
  ·simpa using hget _ _ r0
  ·simpa [Nat.add_assoc] using hget _ _ r1
  ·simpa [Nat.add_assoc] using hget _ _ r2
  ·simpa [Nat.add_assoc] using hget _ _ r3
  ·simpa [Nat.add_assoc] using hget _ _ r4
  ·simpa [Nat.add_assoc] using hget _ _ r5
  ·simpa using ht
  ·simpa using hs
def XO (L:List (Cl × Value × Value)) (o:Value):Prop:=∀q,q<L.length * 2->∀g,(UH (fun i=>(L.getD i (Cl.none,zQ,zQ)).2) q).ownBlock=some g ->
 o.ownBlock≠some g/\∀q',q'<L.length * 2->q'≠q->(UH (fun i=>(L.getD i (Cl.none,zQ,zQ)).2) q').ownBlock≠some g
theorem Uf {L:List (Cl × Value × Value)} {x:Cl × Value × Value} {q:Nat} (h:q<L.length * 2):UH (fun i=>((L ++ [x]).getD i (Cl.none,zQ,zQ)).2) q=UH (fun i=>(L.getD i (Cl.none,zQ,zQ)).2) q:=by
 unfold UH
 have h2:q / 2<L.length:=by omega
 simp[List.getElem?_append_left h2]
theorem zco {L:List (Cl × Value × Value)} {x:Cl × Value × Value}:UH (fun i=>((L ++ [x]).getD i (Cl.none,zQ,zQ)).2) (L.length * 2)=x.2.1:=by
 rw[zaV];simp
theorem zcp {L:List (Cl × Value × Value)} {x:Cl × Value × Value}:UH (fun i=>((L ++ [x]).getD i (Cl.none,zQ,zQ)).2) (L.length * 2+1)=x.2.2:=by
 rw[zaW];simp
theorem zbM {L:List (Cl × Value × Value)} {x:Cl × Value × Value} {o o':Value} {S S':Nat} (h:XO L o) (yt:∀q,q<L.length * 2->∀g,(UH (fun i=>(L.getD i (Cl.none,zQ,zQ)).2) q).ownBlock=some g->g<S)
 (ZH:∀g,x.2.1.ownBlock=some g->S<=g/\g<S') (uW:∀g,x.2.2.ownBlock=some g->S<=g/\g<S') (hx:∀g,x.2.1.ownBlock=some g->x.2.2.ownBlock≠some g) (ho:∀g,o.ownBlock=some g->g<S) (ho':∀g,o'.ownBlock=some g->o.ownBlock=some g\/S'<=g) (hS:S<=S') :
 XO (L ++ [x]) o':=by
 intro q hq g hg
 rw[List.length_append,List.length_singleton] at hq
 have key:∀q',q'<(L.length+1) * 2->(q'<L.length * 2/\UH (fun i=>((L ++ [x]).getD i (Cl.none,zQ,zQ)).2) q'=UH (fun i=>(L.getD i (Cl.none,zQ,zQ)).2) q')\/(q'=L.length * 2/\UH (fun i=>((L ++ [x]).getD i (Cl.none,zQ,zQ)).2) q'=x.2.1)\/(q'=L.length * 2+1/\UH (fun i=>((L ++ [x]).getD i (Cl.none,zQ,zQ)).2) q'=x.2.2):=fun q' h'=>by
  by_cases e:q'<L.length * 2
  ·exact .inl ⟨e,Uf e⟩
  ·by_cases e2:q'=L.length * 2
   ·exact .inr (.inl ⟨e2,by rw[e2];exact zco⟩)
   ·have e3:q'=L.length * 2+1:=by omega
    exact .inr (.inr ⟨e3,by rw[e3];exact zcp⟩)
 refine⟨fun eo=>?_,fun q' hq' xp e'=>?_⟩
 ·rcases key q hq with⟨k1,k2⟩ | ⟨k1,k2⟩ | ⟨k1,k2⟩
  ·rw[k2] at hg
   rcases ho' g eo with h1 | h1
   ·exact(h q k1 g hg).1 h1
   ·have:=yt q k1 g hg;omega
  ·rw[k2] at hg
   have h2:=ZH g hg
   rcases ho' g eo with h1 | h1
   ·have:=ho g h1;omega
   ·omega
  ·rw[k2] at hg
   have h2:=uW g hg
   rcases ho' g eo with h1 | h1
   ·have:=ho g h1;omega
   ·omega
 ·rw[List.length_append,List.length_singleton] at hq'
  rcases key q hq with⟨k1,k2⟩ | ⟨k1,k2⟩ | ⟨k1,k2⟩ <;> rcases key q' hq' with⟨m1,m2⟩ | ⟨m1,m2⟩ | ⟨m1,m2⟩ <;> rw[k2] at hg <;> rw[m2] at e'
  ·exact(h q k1 g hg).2 q' m1 xp e'
  ·have h1:=yt q k1 g hg;have h2:=ZH g e';omega
  ·have h1:=yt q k1 g hg;have h2:=uW g e';omega
  ·have h1:=yt q' m1 g e';have h2:=ZH g hg;omega
  ·omega
  ·exact hx g hg e'
  ·have h1:=yt q' m1 g e';have h2:=uW g hg;omega
  ·exact hx g e' hg
  ·omega
theorem qX.own {B:Nat} {w:World} {v:Value} {L:List (Cl × Value × Value)} (h:qX B w v L) (hl:∀j,(hj:j<L.length)->zl B w L[j].2.1 L[j].1.zh/\zl B w L[j].2.2 L[j].1.zf) (ha:XO L v) :
 qq B w v (L.map (·.1)) (fun i=>(L.getD i (Cl.none,zQ,zQ)).2):=by
 have hget:∀i,(hi:i<L.length)->L.getD i (Cl.none,zQ,zQ)=L[i]:=fun i hi=>by simp[hi]
 refine⟨?_,fun i hi=>?_,fun q hq g hg=>?_⟩
 ·rcases h.2 with⟨rfl,e⟩ | ⟨g,off,cap,rfl,hB,hg,hlc,hc,hsp,hx⟩
  ·exact .inl ⟨rfl,by rw[List.eq_nil_of_length_eq_zero e];rfl⟩
  ·refine .inr ⟨g,off,cap,by simp,hB,hg,by simpa using hlc,hc,hsp,fun i hi=>?_⟩
   have hi':i<L.length:=by simpa using hi
   obtain⟨r0,r1,r2,r3,r4,r5⟩:=zdf L i hi'
   have hgt:∀(j:Nat) (u:Value),(ZC L)[j]?=some u->w.cell? (zH g (off+j))=some u:=fun j u hu=>by
    have hj:j<(ZC L).length:=by
     by_cases h:j<(ZC L).length
     ·exact h
     ·rw[List.getElem?_eq_none (by omega)] at hu;cases hu
    rw[hx j hj,<-List.getElem?_eq_getElem,hu]
   rw[hget i hi']
   refine⟨?_,?_,?_,?_,?_,?_⟩
   ·simpa using hgt _ _ r0
   ·simpa [Nat.add_assoc] using hgt _ _ r1
   ·simpa [Nat.add_assoc] using hgt _ _ r2
   ·simpa [Nat.add_assoc] using hgt _ _ r3
   ·simpa [Nat.add_assoc] using hgt _ _ r4
   ·simpa [Nat.add_assoc] using hgt _ _ r5
 ·have hi':i<L.length:=by simpa using hi
  rw[hget i hi']
  simpa using hl i hi'
 ·rw[List.length_map] at hq ⊢
  exact ha q hq g hg
theorem zfn {B:Nat} {w:World} {L:List (Cl × Value × Value)} (hl:∀j,(hj:j<L.length)->zl B w L[j].2.1 L[j].1.zh/\zl B w L[j].2.2 L[j].1.zf):∀q,q<L.length * 2->∀g,(UH (fun i=>(L.getD i (Cl.none,zQ,zQ)).2) q).ownBlock=some g->g<w.heap.size:=fun q hq g hg=>by
 have hi:q / 2<L.length:=by omega
 have hget:L.getD (q / 2) (Cl.none,zQ,zQ)=L[q / 2]:=by simp[hi]
 rcases Nat.mod_two_eq_zero_or_one q with hm | hm
 ·rw[show q=q / 2 * 2 by omega,zaV,hget] at hg
  exact((hl _ hi).1.lt g hg).2
 ·rw[show q=q / 2 * 2+1 by omega,zaW,hget] at hg
  exact((hl _ hi).2.lt g hg).2
def wi (V:Nat->Value × Value) (j:Nat) (x:Value × Value):Nat->Value × Value:=fun i=>if i=j then x else V i
theorem ks (V:Nat->Value × Value) (j:Nat) (x:Value × Value):wi V j x j=x:=if_pos rfl
theorem jL (V:Nat->Value × Value) {j i:Nat} (x:Value × Value) (h:i≠j):wi V j x i=V i:=if_neg h
theorem qq.cells {B:Nat} {w:World} {g off cap n:Nat} {cs:List Cl} {V:Nat->Value × Value} (h:qq B w (zK g off n cap) cs V) {j:Nat} (hj:j<cs.length) :
 (w.cell? (zH g (off+j * 6))=some (zI cs[j].m)/\w.cell? (zH g (off+j * 6+1))=some (zI cs[j].pc)/\w.cell? (zH g (off+j * 6+2))=some (V j).1/\w.cell? (zH g (off+j * 6+3))=some (V j).2/\w.cell? (zH g (off+j * 6+4))=some (zI cs[j].zi)/\w.cell? (zH g (off+j * 6+5))=some (.bool cs[j].zy)) /\
 ∀f,f<6->w.frozen? (zH g (off+j * 6+f))=false:=by
 rcases h.row with⟨h0,_⟩ | ⟨g',off',cap',hv,hB,hg,hl,hc,hsp,hx⟩
 ·cases h0
 ·cases hv
  refine⟨hx j hj,fun f hf=>?_⟩
  have:=(hsp (j * 6+f) (by omega)).2
  rwa [show off+(j * 6+f)=off+j * 6+f by omega] at this
structure Cm (A:Nat->Prop) (B:Nat) (w w':World):Prop where
 b:Below B w w'
 a:∀q,A q->w'.heap[q]?=w.heap[q]?
theorem Cm.row {A:Nat->Prop} {B:Nat} {x y:World} (h:Cm A B x y) {g:Nat} {t:TypeId} {n:Nat} {f:Nat->Value} (hr:x.rowIs g t n f) (hg:A g):y.rowIs g t n f:=hr.of_block (h.a g hg)
def qc (ps:List Pg) (k:Nat):Nat:=((ps.take k).map fun p=>p.zg.length).sum
def yc (ps:List Pg):Nat:=qc ps ps.length
def kX (ps:List Pg) (k:Nat):List Int:=(List.range k).map fun i=>(qc ps i:Int)
def xY (ps:List Pg):List Int:=kX ps ps.length
theorem uH (ps:List Pg):qc ps 0=0:=by simp[qc]
theorem xB {ps:List Pg} {k:Nat} (h:k<ps.length):qc ps (k+1)=qc ps k+ps[k].zg.length:=by
 unfold qc
 rw[List.take_add_one,List.getElem?_eq_getElem h,List.map_append,List.sum_append]
 simp
theorem zaz (ps:List Pg):∀k j,k<=j->j<=ps.length->qc ps k<=qc ps j:=by
 intro k j hkj
 induction hkj with
 | refl=>intro _;exact Nat.le_refl _
 | @step j hk ih =>
  intro hl
  rw[xB (show j<ps.length from hl)]
  have:=ih (by omega)
  omega
theorem vw (ps:List Pg) {k:Nat} (h:k<=ps.length):qc ps k<=yc ps:=zaz ps k ps.length h zD
theorem zaT (ps:List Pg) (k:Nat):kX ps (k+1)=kX ps k ++ [(qc ps k:Int)]:=by simp[kX,List.range_succ]
theorem QD (ps:List Pg) (k:Nat):(kX ps k).length=k:=by simp[kX]
theorem zaU (ps:List Pg):(xY ps).length=ps.length:=QD _ _
theorem zgc (ps:List Pg) (i:Nat) (h:i<(xY ps).length):(xY ps)[i]=(qc ps i:Int):=by simp[xY,kX]
theorem Tryz.infoIntM:(Tryz.prog.info? 3).map (fun i=>(i.zero,i.size,i.bytes))=some (some (zI 0),1,8):=by kernel_rfl
theorem Zq (vp vo vt vs:Value) (m:Mc) (w:World) (h:yC w vp vo vt vs m) (hn:m.za.length<=1048576) (hf:yc m.za<=1099511627776) :
 Calls Tryz.prog 92 #[.agg (zu vp vo vt vs m).toArray] w fun e w'=>∃vl,e=.returned (.agg (zu vp vo vt vs m ++ [vl,zI (yc m.za:Int)]).toArray)/\zL w.heap.size w' vl (xY m.za)/\zO w w':=by
 obtain⟨ap,cp,qz,hlp,hcp⟩:=id h.p
 obtain⟨ao,co,jw⟩:=h.o.shape
 obtain⟨at',ct,jA⟩:=h.t.shape
 obtain⟨as',cs,jG⟩:=h.s.shape
 subst qz jw jA jG
 unfold zu
 obtain⟨i0,hi,jM,xP,vJ⟩:=info_parts Tryz.infoIntM
 go_enter Tryz.func92,Tryz.ntmps92
 go_upto_region 2 with fail
 refine yg (fun W=>zO w W/\Bx W w.heap.size 34 [zI m.cells,.slice ap m.za.length cp,.slice ao m.order.length co,zI m.now,.slice at' m.zd.length ct,zI m.born,.slice as' m.zm.length cs,zI m.code]
  /\ Bx W (w.heap.size+1) 152 [zI 0,zQ,zQ,zI 0,zQ,zI 0,zQ,zI 0,zQ,zI 0]
  /\ Bx W (w.heap.size+1+1) 152 [zI m.cells,.slice ap m.za.length cp,.slice ao m.order.length co,zI m.now,.slice at' m.zd.length ct,zI m.born,.slice as' m.zm.length cs,zI m.code,zQ,zI 0]
  /\ w.heap.size+1+1+1=W.heap.size) ⟨((zR _ _).alloc (by simp) _).alloc (by simp;omega) _,((Bx.new w _ _).alloc _).alloc _,(Bx.newAt _ _ _ (by simp)).alloc _,Bx.newAt _ _ _ (by simp),by simp⟩ ?_
 rintro W ⟨hb,hm,hr,hx,hW⟩
 have hW3:w.heap.size+1+1<W.heap.size:=by omega
 clear hW
 obtain⟨⟨_,m1,_,_,_,_,_,_⟩,_⟩:=jW hm
 go_wp2_with fail
 go_loopg [5,11] m.za.length (fun g _ i wr=>∃(k:Nat) (vl:Value),k<=m.za.length/\g=m.za.length - k/\i=zI k/\zL W.heap.size wr vl (kX m.za k)/\zO w wr/\W.heap.size<=wr.heap.size/\Bx wr (w.heap.size+1) 152 [zI 0,zQ,zQ,zI 0,zQ,zI 0,zQ,zI 0,zQ,zI 0]
  /\ Bx wr (w.heap.size+1+1) 152 [zI m.cells,.slice ap m.za.length cp,.slice ao m.order.length co,zI m.now,.slice at' m.zd.length ct,zI m.born,.slice as' m.zm.length cs,zI m.code,vl,zI (qc m.za k:Int)])
 case atStart=>exact⟨0,zQ,Nat.zero_le _,rfl,rfl,zL.nil _ _,hb,Nat.le_refl _,hr,by rw[uH];exact hx⟩
 case round =>
  clear m1 hm hr hx hb
  obtain⟨k,vl,hk,rfl,rfl,yd,hb,hz,hr,hx⟩:=hrel
  obtain⟨al,cl,Ja,_⟩:=yd.slice
  subst Ja
  obtain⟨⟨x0,x1,x2,x3,x4,x5,x6,x7,x8,x9⟩,⟨f0,f1,f2,f3,f4,f5,f6,f7,f8,f9⟩⟩:=Ys hx
  by_cases yt:k<m.za.length
  ·obtain⟨b,o,vf,rfl,xt⟩:=hcp k yt
   obtain⟨af,cf,QW⟩:=xt.f.shape
   have d0:=zc hb xt.c0
   have d1:=zc hb xt.c1
   rw[QW] at d1
   have v7:(k:Int)<(m.za.length:Int):=by omega
   have hft:qc m.za (k+1)=qc m.za k+m.za[k].zg.length:=xB yt
   have hfl:=vw m.za (k:=k+1) yt
   have HLS:Hid (kX m.za (k+1)=kX m.za k ++ [(qc m.za k:Int)]):=zaT _ _
   have hll:(kX m.za k).length<=2900000:=by rw[QD];omega
   obtain⟨nf,hnf⟩:∃nf,m.za[k].zg.length=nf:=⟨_,rfl⟩
   obtain⟨ft,hft0⟩:∃ft,qc m.za k=ft:=⟨_,rfl⟩
   obtain⟨L,hL⟩:∃L,kX m.za k=L:=⟨_,rfl⟩
   rw[hnf] at d1 hft
   rw[hft0] at hft HLS hx x9
   rw[hL] at hll HLS yd x8 hx
   have Wq:ft+nf<=1099511627776:=by omega
   have HFT:Hid (qc m.za (k+1)=ft+nf):=hft
   have hzb:b<w.heap.size:=World.block_lt_of_cell? _ _ xt.c0
   clear hnf hft0 hL xt QW hft hfl hcp x0 x1 x2 x3 x4 x5 x6 x7 f0 f1 f2 f3 f4 f5 f6 f7
   go_upto_region 5 with fail
   refine yg (fun W'=>zO wr W'/\Bx W' wr.heap.size 78 [.int .i64 m.za[k].base,.slice af nf cf]) ⟨zR _ _,Bx.new _ _ _⟩ ?_
   rintro w1 ⟨qk,hp1⟩
   have hrl:∀q,(Value.slice al L.length cl).ownBlock=some q->W.heap.size<=q/\q<wr.heap.size:=yd.lt
   have r1:=yd.below qk
   have ZH:=hx.below qk
   have X8:=hr.below qk
   have hB1:=hb.trans (qk.mono hb.size)
   have hW1:W.heap.size<=w1.heap.size:=Nat.le_trans hz qk.size
   have hzp:=hp1.lt
   clear yd hx hr hb qk d0 d1 x8 x9 f8 f9
   obtain⟨⟨_,_,_,_,_,_,_,_,x8,x9⟩,⟨_,_,_,_,_,_,_,_,f8,f9⟩⟩:=Ys ZH
   have y1:=hp1.cell 1 rfl
   go_upto_region 6 with(at_builtin;refine Jy Tryz.underlying30 hi jM xP vJ _ (by rfl) _ _ (by rfl) _ L (by rfl) r1 _ _ _ rfl (by rfl) hll hW1 ?_;intro g2 Xw cp2 w2 yO qF X7 X6;have uW:=ZH.grown qF (fun e=>by have:=(r1.lt _ e).1;omega);have x8':=uW.cell 8 rfl;have f8':=uW.frozen 8)
   refine yg (fun W'=>zO w W'/\zL W.heap.size W' (zK g2 Xw (L.length+1) cp2) (L ++ [(ft:Int)])/\W.heap.size<=W'.heap.size/\Bx W' (w.heap.size+1) 152 [zI 0,zQ,zQ,zI 0,zQ,zI 0,zQ,zI 0,zQ,zI 0]
    /\ Bx W' wr.heap.size 78 [zI m.za[k].base,.slice af nf cf]
    /\ Bx W' (w.heap.size+1+1) 152 [zI m.cells,zK b o m.za.length cp,.slice ao m.order.length co,zI m.now,.slice at' m.zd.length ct,zI m.born,.slice as' m.zm.length cs,zI m.code,zK g2 Xw (L.length+1) cp2,zI (ft:Int)])
    ⟨(hB1.grown qF hB1.size (fun q e=>by have:=(r1.lt _ e).1;omega)).setCell (p:=zH (w.heap.size+1+1) 8) (Nat.le_trans (Nat.le_succ _) (Nat.le_succ _)) _,?_,?_,(X8.grown qF (fun e=>by have:=(r1.lt _ e).1;omega)).other (by omega) _,?_,uW.set 8 _⟩ ?_
   ·refine yO.set_other (p:=zH (w.heap.size+1+1) 8) _ (fun e=>?_)
    have h9:g2=w.heap.size+1+1:=by injection e
    rcases X7 with e2 | e2
    ·have:=(hrl _ e2).1
     omega
    ·omega
   ·rw[World.size_setCell];exact Nat.le_trans hW1 qF.size
   ·exact(hp1.grown qF (fun e=>by have:=(hrl _ e).2;omega)).other (by omega) _
   rintro w3 ⟨qR,qf,hz3,XL,hp3,QX⟩
   clear uW x8' f8' yO qF X7 X6 hrl r1 ZH X8 hB1 hp1 x8 x9 f8 f9 y1 hW1
   have x9:=QX.cell 9 rfl
   have f9:=QX.frozen 9
   have y1:=hp3.cell 1 rfl
   go_wp2
   go_roundg (m.za.length - (k+1))
   case measure=>omega
   case rel=>exact⟨k+1,_,by omega,rfl,by go_num,by rw[HLS.out];exact qf.set_other (p:=zH (w.heap.size+1+1) 9) _ (fun e=>by have h9:W.heap.size<=w.heap.size+1+1:=(qf.lt _ e).1;omega),qR.setCell (p:=zH (w.heap.size+1+1) 9) (Nat.le_trans (Nat.le_succ _) (Nat.le_succ _)) _,by rw[World.size_setCell];exact hz3,XL.other (by omega) _,by rw[HFT.out];have:=QX.set 9 (zI ((ft+nf:Nat):Int));simpa using this⟩
  ·obtain rfl:k=m.za.length:=by omega
   have v7:¬((m.za.length:Int)<(m.za.length:Int)):=by omega
   have Qo:=hr
   obtain⟨⟨r0,r1,r2,r3,r4,r5,r6,r7,r8,r9⟩,⟨g0,g1,g2,g3,g4,g5,g6,g7,g8,g9⟩⟩:=Ys Qo
   go_wp2
   refine xW (fun W'=>zO w W'/\zL w.heap.size W' (.slice al (kX m.za m.za.length).length cl) (kX m.za m.za.length)/\Bx W' (w.heap.size+1) 152 [zI m.cells,.slice ap m.za.length cp,.slice ao m.order.length co,zI m.now,.slice at' m.zd.length ct,zI m.born,.slice as' m.zm.length cs,zI m.code,.slice al (kX m.za m.za.length).length cl,zI (qc m.za m.za.length:Int)]) ?_ ?_
   ·have HW:=(((((((((((Wr.refl1 (w.heap.size+1) wr).set1 (o:=0) (zI m.cells)).set1 (o:=1) (.slice ap m.za.length cp)).set1 (o:=2) (.slice ao m.order.length co)).set1 (o:=3) (zI m.now)).set1 (o:=4) (.slice at' m.zd.length ct)).set1 (o:=5) (zI m.born)).set1 (o:=6) (.slice as' m.zm.length cs)).set1 (o:=7) (zI m.code)).set1 (o:=8) (.slice al (kX m.za m.za.length).length cl)).set1 (o:=9) (zI (qc m.za m.za.length:Int)))
    exact⟨HW.below1 hb zD (Nat.le_succ _),(HW.ints yd fun g e e2=>by have h9:W.heap.size<=g:=(yd.lt _ e).1;omega).mono (by omega),(((((((((Qo.set 0 _).set 1 _).set 2 _).set 3 _).set 4 _).set 5 _).set 6 _).set 7 _).set 8 _).set 9 _⟩
   rintro W9 ⟨hb9,wN,hx9⟩
   obtain⟨⟨q0,q1,q2,q3,q4,q5,q6,q7,q8,q9⟩,_⟩:=Ys hx9
   exact bodyPost_ret (v:=.agg #[zI m.cells,.slice ap m.za.length cp,.slice ao m.order.length co,zI m.now,.slice at' m.zd.length ct,zI m.born,.slice as' m.zm.length cs,zI m.code,.slice al (kX m.za m.za.length).length cl,zI (qc m.za m.za.length:Int)]) (by simp[results,Tryz.results92,go_sem,q0,q1,q2,q3,q4,q5,q6,q7,q8,q9]) rfl ⟨_,rfl,wN,hb9⟩
theorem QY (vp vo vt vs:Value) (m:Mc) (w:World) (h:yC w vp vo vt vs m) (hn:m.za.length<=1048576) (hf:yc m.za<=1099511627776) :
 Calls Tryz.prog 105 #[.agg (zu vp vo vt vs m).toArray] w fun e w'=>e=.returned (zI (yc m.za:Int))/\zO w w':=by
 obtain⟨ap,cp,qz⟩:=h.p.shape
 obtain⟨ao,co,jw⟩:=h.o.shape
 obtain⟨at',ct,jA⟩:=h.t.shape
 obtain⟨as',cs,jG⟩:=h.s.shape
 subst qz jw jA jG
 have HB:∀o,zO w (w.alloc o):=fun o=>zR _ _
 have HC:=fun o=>Zq _ _ _ _ m _ (h.below (HB o)) hn hf
 unfold zu at HC ⊢
 simp only[List.cons_append,List.nil_append] at HC
 have hfd:∀(x0 x1 x2 x3 x4 x5 x6 x7 x8 x9:Value) (w:World),(Instr.field 152 (.agg #[x0,x1,x2,x3,x4,x5,x6,x7,x8,x9]) 2).run Tryz.prog w=.ok x9 w:=fun _ _ _ _ _ _ _ _ _ _ _=>by kernel_rfl
 go_enter Tryz.func105,Tryz.ntmps105
 go_wp2_with fail
 refine(HC _).mono ?_
 rintro e w1 ⟨vl,rfl,yd,hb⟩
 obtain⟨al,cl,Ja,_⟩:=yd.slice
 subst Ja
 go_wp2
 go_ret
 exact⟨rfl,(HB _).trans (hb.mono (by simp))⟩
end Go.Proofs.YtbjgjjkgfnfejaaGreatDoor

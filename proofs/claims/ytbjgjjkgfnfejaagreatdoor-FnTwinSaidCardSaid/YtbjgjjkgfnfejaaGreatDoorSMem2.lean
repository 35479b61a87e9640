/-
  Rows of values of their own: values are appended to them; l11None and l11Call of the model.
-/
import Derived.Test.YtbjgjjkgfnfejaaGreatDoorMLive
import Derived.Test.YtbjgjjkgfnfejaaGreatDoorHCopy
namespace Go.Proofs.YtbjgjjkgfnfejaaGreatDoor
set_option maxHeartbeats 4000000
set_option maxRecDepth 100000
open Go.RowKit
def xW (ops:yH):List Value:=ops.flatMap fun o=>[zI o.1,zI o.2]
theorem Ql (a b:yH):xW (a ++ b)=xW a ++ xW b:=by simp[xW]
theorem xA (a:yH):(xW a).length=a.length * 2:=by
 induction a with
 | nil=>rfl
 | cons x l ih=>simp[xW] at ih ⊢;omega
theorem YV (a:yH):∀(i:Nat) (h:i<a.length),(xW a)[i * 2]?=some (zI a[i].1)/\(xW a)[i * 2+1]?=some (zI a[i].2):=by
 induction a with
 | nil=>intro i h;exact absurd h yB
 | cons x l ih =>
  intro i h
  cases i with
  | zero=>exact⟨rfl,rfl⟩
  | succ i =>
   have:=ih i (by simpa using h)
   rw[show(i+1) * 2=i * 2+2 by omega]
   exact this
theorem KD (M:yH):∀u∈xW M,u.oneCell'=true:=by
 intro u hu
 simp only[xW,List.mem_flatMap] at hu
 obtain⟨x,_,hx⟩:=hu
 simp at hx
 rcases hx with rfl | rfl <;> rfl
theorem zk.crow {B:Nat} {w:World} {v:Value} {ops:yH} (h:zk B w v ops):yg B 2 w v ops.length (xW ops):=by
 refine⟨xA ops,?_⟩
 rcases h with⟨rfl,rfl⟩ | ⟨g,off,cap,rfl,hB,hg,hl,hc,hsp,hx⟩
 ·exact .inl ⟨rfl,rfl⟩
 ·refine .inr ⟨g,off,cap,rfl,hB,hg,hl,hc,hsp,fun i hi=>?_⟩
  rw[xA] at hi
  have h2:=YV ops (i / 2) (by omega)
  have h3:=hx (i / 2) (by omega)
  rcases Nat.mod_two_eq_zero_or_one i with hm | hm
  ·rw[show i / 2 * 2=i by omega] at h2
   rw[show off+i / 2 * 2=off+i by omega] at h3
   rw[h3.1,<-h2.1,List.getElem?_eq_getElem]
  ·rw[show i / 2 * 2+1=i by omega] at h2
   rw[show off+i / 2 * 2+1=off+i by omega] at h3
   rw[h3.2,<-h2.2,List.getElem?_eq_getElem]
theorem yg.pair {B:Nat} {w:World} {v:Value} {n:Nat} {ops:yH} (hn:n=ops.length) (h:yg B 2 w v n (xW ops)):zk B w v ops:=by
 subst hn
 rcases h.2 with⟨rfl,e⟩ | ⟨g,off,cap,rfl,hB,hg,hl,hc,hsp,hx⟩
 ·exact .inl ⟨rfl,List.eq_nil_of_length_eq_zero e⟩
 ·refine .inr ⟨g,off,cap,rfl,hB,hg,hl,hc,hsp,fun i hi=>?_⟩
  have h2:=YV ops i hi
  have hp:=xA ops
  have h3:=hx (i * 2) (by omega)
  have h4:=hx (i * 2+1) (by omega)
  rw[<-Nat.add_assoc] at h4
  rw[h3,h4,<-List.getElem?_eq_getElem,<-List.getElem?_eq_getElem,h2.1,h2.2]
  exact⟨rfl,rfl⟩
theorem zat {P:Program} {tx e':TypeId} (hk:P.underlying tx=some (.slice e')) {w:World} {v:Value} {ops:yH} (h:yo w v ops):Src P 2 tx v ops.length (xW ops) w:=by
 obtain⟨a,cap,rfl,hl,hc⟩:=h
 cases a with
 | none =>
  cases ops with
  | nil=>exact Src.ofNil w hk cap
  | cons x l =>
   obtain⟨b,o,e,_⟩:=hc 0 (by simp)
   cases e
 | some ad =>
  refine Src.ofSlice w hk ad _ cap _ (xA _) (fun j u hu=>?_) (KD _)
  have hj:j<(xW ops).length:=by
   by_cases h:j<(xW ops).length
   ·exact h
   ·rw[List.getElem?_eq_none (by omega)] at hu;cases hu
  rw[xA] at hj
  obtain⟨b,o,e,h0,h1⟩:=hc (j / 2) (by omega)
  obtain rfl:ad=⟨b,o,none⟩:=by injection e
  rw[Addr.add_lit]
  have h2:=YV ops (j / 2) (by omega)
  rcases Nat.mod_two_eq_zero_or_one j with hm | hm
  ·rw[show o+j / 2 * 2=o+j by omega] at h0
   rw[show j / 2 * 2=j by omega] at h2
   rw[h0,<-h2.1];exact hu
  ·rw[show o+j / 2 * 2+1=o+j by omega] at h1
   rw[show j / 2 * 2+1=j by omega] at h2
   rw[h1,<-h2.2];exact hu
theorem Z9 {ty:TypeId} {B:Nat} {w:World} {v xv:Value} {L M:yH} (zy:zk B w v L) (hM:yo w xv M) (hL:L.length+M.length<=3000000) (hB:B<=w.heap.size) :
 ∃v' w',(Builtin.append_ #[32,32] ty #[v,xv]).run Tryz.prog w=.ok v' w'/\zk B w' v' (L ++ M)/\w.grownBy w' v.ownBlock/\(v'.ownBlock=v.ownBlock\/v'.ownBlock=some w.heap.size):=by
 obtain⟨i0,hi,jT,xF,kf⟩:=info_parts Tryz.infoVal
 have h1:=zy.crow
 have h2:=zat (P:=Tryz.prog) Tryz.underlying32 hM
 rw[<-xF] at h1 h2
 obtain⟨v',w',hr,hc,hg,hb⟩:=j7 (P:=Tryz.prog) (ty:=ty) Tryz.underlying32 hi jT (by rw[xF];rfl) (by rw[kf];omega) h1 xv M.length (xW M) h2 hL hB
 refine⟨v',w',hr,?_,hg,hb⟩
 rw[xF,<-Ql] at hc
 exact hc.pair (by simp)
theorem Za {ops:Array Oper} {rest:List Oper} {o:Oper} {act:Act} {Q:Exit->Act->World->Prop} (w:World) (hgd:o.guard=none) (s x:Operand)
 (ho:o.op=.call {callee:=.builtin .append,args:=#[s,x],argTypes:=#[32,32]}) (B:Nat) (v xv:Value) (L M:yH) (hs:act.eval s=v) (hx:act.eval x=xv) (zy:zk B w v L) (hM:yo w xv M)
 (hL:L.length+M.length<=3000000) (hB:B<=w.heap.size)
 (h:∀v' w',zk B w' v' (L ++ M)->w.grownBy w' v.ownBlock->(v'.ownBlock=v.ownBlock\/v'.ownBlock=some w.heap.size)->wpList Tryz.prog ops Q rest (act.put o.dst v') w') :
 wpList Tryz.prog ops Q (o :: rest) act w:=by
 obtain⟨v',w',hr,h2,h3,h4⟩:=Z9 (ty:=o.type) zy hM hL hB
 refine wpList_plain hgd fun K hK=>?_
 unfold Oper.wp execOp
 simp only[ho,resolve,invoke,builtin,Sem.run_bind,Sem.run_pure,Result.andThen_ok,List.map_toArray,List.map_cons,List.map_nil,hs,hx,hr]
 exact hK _ _ (h v' w' h2 h3 h4)
theorem wn {ops:Array Oper} {o:Oper} {act:Act} {K:Act->World->Prop} {Q:Exit->Act->World->Prop} {E:Prop} (w:World) (hgd:o.guard=none) (s x:Operand)
 (ho:o.op=.call {callee:=.builtin .append,args:=#[s,x],argTypes:=#[32,32]}) (B:Nat) (v xv:Value) (L M:yH) (hs:act.eval s=v) (hx:act.eval x=xv) (zy:zk B w v L) (hM:yo w xv M)
 (hL:L.length+M.length<=3000000) (hB:B<=w.heap.size)
 (h:∀v' w',zk B w' v' (L ++ M)->w.grownBy w' v.ownBlock->(v'.ownBlock=v.ownBlock\/v'.ownBlock=some w.heap.size)->K (act.put o.dst v') w') :
 if Region.wanted o (yielded ops act.tmps)=true then Oper.wp Tryz.prog o act w K Q else E:=by
 obtain⟨v',w',hr,h2,h3,h4⟩:=Z9 (ty:=o.type) zy hM hL hB
 rw[if_pos (by simp[Region.wanted,hgd])]
 unfold Oper.wp execOp
 simp only[ho,resolve,invoke,builtin,Sem.run_bind,Sem.run_pure,Result.andThen_ok,List.map_toArray,List.map_cons,List.map_nil,hs,hx,hr]
 exact h v' w' h2 h3 h4
theorem zk.made {B:Nat} {w:World} {e:TypeId} (hB:B<=w.heap.size):zk B (w.alloc (.cells #[] e)) (.slice (some ⟨w.heap.size,0,none⟩) 0 0) []:=(yg.made hB).pair rfl
theorem zec (w:World) (k q:Int) (e:TypeId) (c:Nat):yo (w.alloc (.cells #[.int .i64 k,.int .i64 q] e)) (.slice (some ⟨w.heap.size,0,none⟩) 1 c) [(k,q)] :=
 ⟨_,c,rfl,by unfold maxLen;simp,fun i hi=>by
  obtain rfl:i=0:=by simpa using hi
  exact⟨w.heap.size,0,rfl,by simp[go_sem],by simp[go_sem]⟩⟩
theorem WM (n:Nat) (w:World) (hn:n<=1000) :
 Calls Tryz.prog 126 #[zI (n:Int)] w fun e w'=>∃v,e=.returned v/\zk w.heap.size w' v (List.replicate n (0,0))/\zO w w':=by
 have mk:=zk.made (B:=w.heap.size) (w:=w) (e:=86) zD
 have hA:zO w (w.alloc (.cells #[] 86)):=zR _ _
 go_enter Tryz.func126,Tryz.ntmps126
 go_wp2
 go_loopg [3,4] n (fun g o i wr=>∃k:Nat,k<=n/\g=n - k/\i=zI k/\zk w.heap.size wr o (List.replicate k (0,0))/\zO w wr)
 case atStart=>exact⟨0,Nat.zero_le _,rfl,rfl,mk,hA⟩
 case round =>
  obtain⟨k,hk,rfl,rfl,zT,hb⟩:=hrel
  have hbz:=hb.size
  by_cases yz:k<n
  ·have uW:(k:Int)<(n:Int):=by omega
   go_wp2_with (at_builtin;refine Za _ (by rfl) _ _ (by rfl) w.heap.size _ _ (List.replicate k (0,0)) [(0,0)] (by rfl) (by rfl) (zT.below (zR _ _)) (zec wr 0 0 _ _) (by simp;omega) (by simp;omega) ?_;intro v2 w2 yN qA yL)
   rw[<-List.replicate_succ'] at yN
   have xn:zO w w2:=(hb.alloc hb.size _).grown qA (by simp;omega) (fun q e=>(zT.lt q e).1)
   clear qA yL
   go_roundg (n - (k+1))
   case measure=>omega
   case rel=>exact⟨k+1,by omega,rfl,by go_num,yN,xn⟩
  ·obtain rfl:k=n:=by omega
   go_wp2
   go_ret
   exact⟨_,rfl,zT,hb⟩
theorem WL (vp va:Value) (ms:zM) (m:Nat) (args:yH) (zi:Int) (t:Nat) (w:World) (hp:yD w vp ms) (hm:m<ms.length) (ht:ms[m].2.1=(t:Int)) (JU:t<=1000) (ha:yo w va args) (hat:args.length<=t) :
 Calls Tryz.prog 83 #[.agg #[vp],zI (m:Int),va,zI zi] w fun e w'=>∃vt vs,e=.returned (.agg (ZO vt vs ⟨m,0,args ++ List.replicate (t - args.length) (0,0),[],zi,false⟩)) /\
  zk w.heap.size w' vt (args ++ List.replicate (t - args.length) (0,0))/\zk w.heap.size w' vs []/\(∀g,vt.ownBlock=some g->vs.ownBlock≠some g)/\zO w w':=by
 obtain⟨ap,cp,rfl,hl,hc⟩:=id hp
 obtain⟨aa,ca,hva⟩:=ha.shape
 subst hva
 obtain⟨b,o,vo,hap,d0,d1,d2,_⟩:=hc m hm
 subst hap
 rw[ht] at d1
 unfold ZO
 have hl63:ms.length<=2 ^ 63 - 1:=hl
 have hA:zO w (((w.alloc (.cells #[.slice (some ⟨b,o,none⟩) ms.length cp] 25)).alloc (.cells #[.int .i64 0,.int .i64 0,.slice none 0 0,.slice none 0 0,.int .i64 0,.bool false] 96)).alloc (.cells #[] 86)):=((zR _ _).alloc (by simp) _).alloc (by simp;omega) _
 have mk:=zk.made (B:=w.heap.size) (w:=(w.alloc (.cells #[.slice (some ⟨b,o,none⟩) ms.length cp] 25)).alloc (.cells #[.int .i64 0,.int .i64 0,.slice none 0 0,.slice none 0 0,.int .i64 0,.bool false] 96)) (e:=86) (by simp;omega)
 have bp:(((w.alloc (.cells #[.slice (some ⟨b,o,none⟩) ms.length cp] 25)).alloc (.cells #[.int .i64 0,.int .i64 0,.slice none 0 0,.slice none 0 0,.int .i64 0,.bool false] 96)).alloc (.cells #[] 86)).cell? (zH w.heap.size 0)=some (.slice (some ⟨b,o,none⟩) ms.length cp):=by simp[go_sem]
 have bz:=(wb (w.alloc (.cells #[.slice (some ⟨b,o,none⟩) ms.length cp] 25)) 96 (.int .i64 0) (.int .i64 0) (.slice none 0 0) (.slice none 0 0) (.int .i64 0) (.bool false)).alloc (.cells #[] 86)
 simp only[World.size_alloc] at mk bz
 have hs3:(((w.alloc (.cells #[.slice (some ⟨b,o,none⟩) ms.length cp] 25)).alloc (.cells #[.int .i64 0,.int .i64 0,.slice none 0 0,.slice none 0 0,.int .i64 0,.bool false] 96)).alloc (.cells #[] 86)).heap.size≥w.heap.size+1+1:=by simp
 have haA:=ha.below hA
 have d1A:=zc hA d1
 have hw:IntKind.i64.wrap ((t:Int) - (args.length:Int))=((t - args.length:Nat):Int):=by rw[IntKind.wrap_i64];omega
 go_enter Tryz.func83,Tryz.ntmps83
 go_upto_region 2 with(at_builtin;refine Za _ (by rfl) _ _ (by rfl) w.heap.size _ _ [] args (by rfl) (by rfl) mk haA (by simp;omega) (by simp;omega) ?_;intro v2 w2 yN qA yL)
 generalize ((w.alloc (.cells #[.slice (some ⟨b,o,none⟩) ms.length cp] 25)).alloc (.cells #[.int .i64 0,.int .i64 0,.slice none 0 0,.slice none 0 0,.int .i64 0,.bool false] 96)).alloc (.cells #[] 86)=W3 at *
 have B2:zO w w2:=hA.grown qA (by omega) (fun q e=>(mk.lt q e).1)
 have hg2':W3.grownBy w2 (some (w.heap.size+1+1)):=qA
 have bp2:w2.cell? (zH w.heap.size 0)=some (zK b o ms.length cp):=hg2'.cell bp (by simp;omega)
 have bz2:=bz.of_block (hg2'.block (w.heap.size+1) bz.lt (by simp))
 have d12:=zc B2 d1
 rw[List.nil_append] at yN
 have z2:=B2.size
 have hbb:∀g,v2.ownBlock=some g->w.heap.size+1<g:=fun g e=>by
  rcases yL with h2 | h2
  ·rw[h2] at e;simp[Value.ownBlock] at e;omega
  ·rw[h2] at e;simp at e;omega
 clear qA hg2' yL bp bz mk haA d1A hA hs3 d0 d1 d2 hc
 go_wp2_with fail
 refine(WM (t - args.length) _ (by omega)).mono ?_
 rintro e w3 ⟨v3,rfl,yT,xn⟩
 have B3:zO w w3:=B2.trans (xn.mono z2)
 have z3:=B3.size
 have bz3:=yp xn bz2
 have zdW:=yN.below xn
 have hbz:w.heap.size+1<w2.heap.size:=bz2.lt
 have y3:=xn.size
 clear bp2 bz2 d12 yN xn B2
 have HW4:∀(w4:World),w3.grownBy w4 v2.ownBlock->∀e,(w4.alloc e).rowIs (w.heap.size+1) 96 6 (six (zI 0) (zI 0) (zQ) (zQ) (zI 0) (.bool false)):=fun w4 hg e=>by
  have h1:=bz3.of_block (hg.block (w.heap.size+1) bz3.lt (fun e=>by have:=hbb _ e.symm;omega))
  exact h1.alloc e
 go_wp2_with (at_builtin;refine Za _ (by rfl) _ _ (by rfl) w.heap.size _ _ args (List.replicate (t - args.length) (0,0)) (by rfl) (by rfl) zdW yT.at (by simp;omega) (by omega) ?_;intro v4 w4 yU wj Yg;obtain⟨a4,c4,hv4,_⟩:=yU.slice;subst hv4;obtain⟨⟨q0,q1,q2,q3,q4,q5⟩,k0,k1,k2,k3,k4,k5⟩:=jS (HW4 w4 wj (.cells #[] 86)))
 have hlen:(args ++ List.replicate (t - args.length) ((0:Int),(0:Int))).length=t:=by simp;omega
 rw[hlen] at yU Yg
 have hz4:=wj.size
 have zcG:(Value.slice a4 t c4).ownBlock≠some (w.heap.size+1):=fun e=>by
  rcases Yg with h4 | h4
  ·rw[h4] at e;have:=hbb _ e;omega
  ·rw[h4] at e;simp at e;omega
 have B4:zO w w4:=B3.grown wj z3 (fun q e=>(zdW.lt q e).1)
 have R4:=HW4 w4 wj (.cells #[] 86)
 have P4:=yU.below (zR _ (.cells #[] 86))
 have M4:=zk.made (B:=w.heap.size) (w:=w4) (e:=86) (by omega)
 have hlt4:∀g,(Value.slice a4 t c4).ownBlock=some g->g<w4.heap.size:=fun g e=>(yU.lt g e).2
 have B5:=B4.alloc B4.size (.cells #[] 86)
 have zcH:(zK w4.heap.size 0 0 0).ownBlock≠some (w.heap.size+1):=fun e=>by simp[Value.ownBlock] at e;omega
 clear wj Yg yU HW4 q0 q1 q2 q3 q4 q5 k0 k1 k2 k3 k4 k5
 generalize w4.alloc (.cells #[] 86)=w5 at *
 have R9:=zar (zaq (zap (zao (zan (zam R4 (zI m)) (zI 0)) (.slice a4 t c4)) (zK w4.heap.size 0 0 0)) (zI zi)) (.bool false)
 have P9:=(((((P4.set_other (p:=zH (w.heap.size+1) 0) (zI m) zcG).set_other (p:=zH (w.heap.size+1) 1) (zI 0) zcG).set_other (p:=zH (w.heap.size+1) 2) (.slice a4 t c4) zcG).set_other (p:=zH (w.heap.size+1) 3) (zK w4.heap.size 0 0 0) zcG).set_other (p:=zH (w.heap.size+1) 4) (zI zi) zcG).set_other (p:=zH (w.heap.size+1) 5) (.bool false) zcG
 have M9:=(((((M4.set_other (p:=zH (w.heap.size+1) 0) (zI m) zcH).set_other (p:=zH (w.heap.size+1) 1) (zI 0) zcH).set_other (p:=zH (w.heap.size+1) 2) (.slice a4 t c4) zcH).set_other (p:=zH (w.heap.size+1) 3) (zK w4.heap.size 0 0 0) zcH).set_other (p:=zH (w.heap.size+1) 4) (zI zi) zcH).set_other (p:=zH (w.heap.size+1) 5) (.bool false) zcH
 have B9:=(((((B5.setCell (p:=zH (w.heap.size+1) 0) (Nat.le_succ _) (zI m)).setCell (p:=zH (w.heap.size+1) 1) (Nat.le_succ _) (zI 0)).setCell (p:=zH (w.heap.size+1) 2) (Nat.le_succ _) (.slice a4 t c4)).setCell (p:=zH (w.heap.size+1) 3) (Nat.le_succ _) (zK w4.heap.size 0 0 0)).setCell (p:=zH (w.heap.size+1) 4) (Nat.le_succ _) (zI zi)).setCell (p:=zH (w.heap.size+1) 5) (Nat.le_succ _) (.bool false)
 generalize (((((w5.setCell (zH (w.heap.size+1) 0) (zI m)).setCell (zH (w.heap.size+1) 1) (zI 0)).setCell (zH (w.heap.size+1) 2) (.slice a4 t c4)).setCell (zH (w.heap.size+1) 3) (zK w4.heap.size 0 0 0)).setCell (zH (w.heap.size+1) 4) (zI zi)).setCell (zH (w.heap.size+1) 5) (.bool false)=W9 at *
 obtain⟨⟨q0,q1,q2,q3,q4,q5⟩,_⟩:=jS R9
 exact bodyPost_ret (v:=.agg #[zI m,zI 0,.slice a4 t c4,zK w4.heap.size 0 0 0,zI zi,.bool false]) (by simp[results,Tryz.results83,go_sem,q0,q1,q2,q3,q4,q5]) rfl ⟨_,_,rfl,P9,M9,fun g e e2=>by have:=hlt4 g e;simp[Value.ownBlock] at e2;omega,B9⟩
def uQ (x:Cl × Value × Value):List Value:=[zI x.1.m,zI x.1.pc,x.2.1,x.2.2,zI x.1.zi,.bool x.1.zv]
def Zt (L:List (Cl × Value × Value)):List Value:=L.flatMap uQ
theorem zac (a b:List (Cl × Value × Value)):Zt (a ++ b)=Zt a ++ Zt b:=by simp[Zt]
theorem zad (a:List (Cl × Value × Value)):(Zt a).length=a.length * 6:=by
 induction a with
 | nil=>rfl
 | cons x l ih=>simp[Zt,uQ] at ih ⊢;omega
theorem zcd (a:List (Cl × Value × Value)):∀(i:Nat) (h:i<a.length),(Zt a)[i * 6]?=some (zI a[i].1.m)/\(Zt a)[i * 6+1]?=some (zI a[i].1.pc)/\(Zt a)[i * 6+2]?=some a[i].2.1/\(Zt a)[i * 6+3]?=some a[i].2.2/\(Zt a)[i * 6+4]?=some (zI a[i].1.zi)/\(Zt a)[i * 6+5]?=some (.bool a[i].1.zv):=by
 induction a with
 | nil=>intro i h;exact absurd h yB
 | cons x l ih =>
  intro i h
  cases i with
  | zero=>exact⟨rfl,rfl,rfl,rfl,rfl,rfl⟩
  | succ i =>
   have:=ih i (by simpa using h)
   rw[show(i+1) * 6=i * 6+6 by omega]
   exact this
def qr (B:Nat) (w:World) (v:Value) (L:List (Cl × Value × Value)):Prop:=yg B 6 w v L.length (Zt L)
theorem qr.nil (B:Nat) (w:World):qr B w (zQ) []:=yg.nil B 6 w
theorem qr.lt {B:Nat} {w:World} {v:Value} {L:List (Cl × Value × Value)} (h:qr B w v L):∀k,v.ownBlock=some k->B<=k/\k<w.heap.size:=yg.lt h
theorem qr.kept {B:Nat} {w w':World} {v:Value} {L:List (Cl × Value × Value)} (h:qr B w v L) (vJ:w.heap.size<=w'.heap.size) (hb:∀g,v.ownBlock=some g->w'.heap[g]?=w.heap[g]?):qr B w' v L:=yg.kept h vJ hb
theorem qr.below {B:Nat} {w w':World} {v:Value} {L:List (Cl × Value × Value)} (h:qr B w v L) (hb:zO w w'):qr B w' v L:=yg.below h hb
theorem qr.slice {B:Nat} {w:World} {v:Value} {L:List (Cl × Value × Value)} (h:qr B w v L):∃a cap,v=.slice a L.length cap/\L.length<=maxLen:=by
 rcases h.2 with⟨rfl,e⟩ | ⟨g,off,cap,hv,hB,hg,hl,hc,_⟩
 ·exact⟨none,0,by rw[e],by rw[e];omega⟩
 ·exact⟨_,cap,hv,by omega⟩
theorem Z8 {ty:TypeId} {B:Nat} {w:World} {v:Value} {L:List (Cl × Value × Value)} (zy:qr B w v L) (x:Cl × Value × Value) (h1:x.2.1.oneCell'=true) (h2:x.2.2.oneCell'=true) (H c:Nat)
 (hx:∀j u,(uQ x)[j]?=some u->w.cell? (zH H j)=some u) (hL:L.length<=900000) (hB:B<=w.heap.size) :
 ∃v' w',(Builtin.append_ #[39,39] ty #[v,zK H 0 1 c]).run Tryz.prog w=.ok v' w'/\qr B w' v' (L ++ [x])/\w.grownBy w' v.ownBlock/\(v'.ownBlock=v.ownBlock\/v'.ownBlock=some w.heap.size):=by
 obtain⟨i0,hi,jT,xF,kf⟩:=info_parts Tryz.infoCall
 have hs:Src Tryz.prog 6 39 (zK H 0 1 c) 1 (uQ x) w:=Src.ofSlice w Tryz.underlying39 ⟨H,0,none⟩ 1 c (uQ x) rfl (fun j u hu=>by rw[Addr.add_lit,Nat.zero_add];exact hx j u hu) (fun u hu=>by
  simp only[uQ,List.mem_cons,List.not_mem_nil,or_false] at hu
  rcases hu with rfl | rfl | rfl | rfl | rfl | rfl
  ·rfl
  ·rfl
  ·exact h1
  ·exact h2
  ·rfl
  ·rfl)
 have ho:yg B 6 w v L.length (Zt L):=zy
 rw[<-xF] at hs ho
 obtain⟨v',w',hr,hc,hg,hb⟩:=j7 (P:=Tryz.prog) (ty:=ty) Tryz.underlying39 hi jT (by rw[xF];rfl) (by rw[kf];omega) ho _ 1 (uQ x) hs (by omega) hB
 refine⟨v',w',hr,?_,hg,hb⟩
 rw[xF] at hc
 unfold qr
 rw[zac,List.length_append]
 simpa [Zt] using hc
theorem zcl {w:World} {g:Nat} {t:TypeId} {x:Cl × Value × Value} (h:w.rowIs g t 6 (six (zI x.1.m) (zI x.1.pc) x.2.1 x.2.2 (zI x.1.zi) (.bool x.1.zv))):∀j u,(uQ x)[j]?=some u->w.cell? (zH g j)=some u:=by
 obtain⟨⟨q0,q1,q2,q3,q4,q5⟩,_⟩:=jS h
 intro j u hu
 have hj:j<6:=by
  by_cases h:j<6
  ·exact h
  ·rw[List.getElem?_eq_none (by simp[uQ];omega)] at hu;cases hu
 have h6:j=0\/j=1\/j=2\/j=3\/j=4\/j=5:=by omega
 rcases h6 with rfl | rfl | rfl | rfl | rfl | rfl <;> (simp[uQ] at hu;subst hu;assumption)
theorem qr.at {B:Nat} {w:World} {v:Value} {L:List (Cl × Value × Value)} (h:qr B w v L) (hl:∀i,(hi:i<L.length)->yo w L[i].2.1 L[i].1.zg/\yo w L[i].2.2 L[i].1.zf):jD w v (L.map (·.1)):=by
 rcases h.2 with⟨rfl,e⟩ | ⟨g,off,cap,rfl,hB,hg,hlc,hc,hsp,hx⟩
 ·obtain rfl:=List.eq_nil_of_length_eq_zero e
  exact jD.nil w
 ·refine⟨some ⟨g,off,none⟩,cap,by simp,by simp;omega,fun i hi=>?_⟩
  have hi':i<L.length:=by simpa using hi
  obtain⟨r0,r1,r2,r3,r4,r5⟩:=zcd L i hi'
  have hrl:=zad L
  have hget:∀(j:Nat) (u:Value),(Zt L)[j]?=some u->w.cell? (zH g (off+j))=some u:=fun j u hu=>by
   have hj:j<(Zt L).length:=by
    by_cases h:j<(Zt L).length
    ·exact h
    ·rw[List.getElem?_eq_none (by omega)] at hu;cases hu
   rw[hx j hj,<-List.getElem?_eq_getElem,hu]
  obtain⟨ht,hs⟩:=hl i hi'
  refine⟨g,off,L[i].2.1,L[i].2.2,rfl,?_,?_,?_,?_,?_,?_,?_,?_⟩
  ·simpa using hget _ _ r0
  ·simpa [Nat.add_assoc] using hget _ _ r1
  ·simpa [Nat.add_assoc] using hget _ _ r2
  ·simpa [Nat.add_assoc] using hget _ _ r3
  ·simpa [Nat.add_assoc] using hget _ _ r4
  ·simpa [Nat.add_assoc] using hget _ _ r5
  ·simpa using ht
  ·simpa using hs
def xT (V:Nat->Value × Value) (j:Nat) (x:Value × Value):Nat->Value × Value:=fun i=>if i=j then x else V i
theorem xk (V:Nat->Value × Value) (j:Nat) (x:Value × Value):xT V j x j=x:=if_pos rfl
theorem qJ (V:Nat->Value × Value) {j i:Nat} (x:Value × Value) (h:i≠j):xT V j x i=V i:=if_neg h
def yS (ps:List Pg) (k:Nat):Nat:=((ps.take k).map fun p=>p.zh.length).sum
def yd (ps:List Pg):Nat:=yS ps ps.length
def kC (ps:List Pg) (k:Nat):List Int:=(List.range k).map fun i=>(yS ps i:Int)
def xV (ps:List Pg):List Int:=kC ps ps.length
theorem uD (ps:List Pg):yS ps 0=0:=by simp[yS]
theorem xy {ps:List Pg} {k:Nat} (h:k<ps.length):yS ps (k+1)=yS ps k+ps[k].zh.length:=by
 unfold yS
 rw[List.take_add_one,List.getElem?_eq_getElem h,List.map_append,List.sum_append]
 simp
theorem Ww (ps:List Pg):∀k j,k<=j->j<=ps.length->yS ps k<=yS ps j:=by
 intro k j hkj
 induction hkj with
 | refl=>intro _;exact Nat.le_refl _
 | @step j hk ih =>
  intro hl
  rw[xy (show j<ps.length from hl)]
  have:=ih (by omega)
  omega
theorem kQ (ps:List Pg) {k:Nat} (h:k<=ps.length):yS ps k<=yd ps:=Ww ps k ps.length h zD
theorem WS (ps:List Pg) (k:Nat):kC ps (k+1)=kC ps k ++ [(yS ps k:Int)]:=by simp[kC,List.range_succ]
theorem Qk (ps:List Pg) (k:Nat):(kC ps k).length=k:=by simp[kC]
theorem WT (ps:List Pg):(xV ps).length=ps.length:=Qk _ _
theorem zeP (ps:List Pg) (i:Nat) (h:i<(xV ps).length):(xV ps)[i]=(yS ps i:Int):=by simp[xV,kC]
theorem Tryz.infoIntM:(Tryz.prog.info? 3).map (fun i=>(i.zero,i.size,i.bytes))=some (some (zI 0),1,8):=by kernel_rfl
theorem Zk (vp vo vt vs:Value) (m:Mc) (w:World) (h:ql w vp vo vt vs m) (hn:m.zd.length<=1048576) (hf:yd m.zd<=1099511627776) :
 Calls Tryz.prog 92 #[.agg (zE vp vo vt vs m).toArray] w fun e w'=>∃vl,e=.returned (.agg (zE vp vo vt vs m ++ [vl,zI (yd m.zd:Int)]).toArray)/\yf w.heap.size w' vl (xV m.zd)/\zO w w':=by
 obtain⟨ap,cp,qI,hlp,hcp⟩:=id h.p
 obtain⟨ao,co,j5⟩:=h.o.shape
 obtain⟨at',ct,jz⟩:=h.t.shape
 obtain⟨as',cs,km⟩:=h.s.shape
 subst qI j5 jz km
 unfold zE
 obtain⟨i0,hi,jT,xF,kf⟩:=info_parts Tryz.infoIntM
 go_enter Tryz.func92,Tryz.ntmps92
 go_upto_region 2 with fail
 refine ym (fun W=>zO w W/\Bx W w.heap.size 34 [zI m.cells,.slice ap m.zd.length cp,.slice ao m.order.length co,zI m.now,.slice at' m.ze.length ct,zI m.born,.slice as' m.zm.length cs,zI m.code]
  /\ Bx W (w.heap.size+1) 152 [zI 0,zQ,zQ,zI 0,zQ,zI 0,zQ,zI 0,zQ,zI 0]
  /\ Bx W (w.heap.size+1+1) 152 [zI m.cells,.slice ap m.zd.length cp,.slice ao m.order.length co,zI m.now,.slice at' m.ze.length ct,zI m.born,.slice as' m.zm.length cs,zI m.code,zQ,zI 0]
  /\ w.heap.size+1+1+1=W.heap.size) ⟨((zR _ _).alloc (by simp) _).alloc (by simp;omega) _,((Bx.new w _ _).alloc _).alloc _,(Bx.newAt _ _ _ (by simp)).alloc _,Bx.newAt _ _ _ (by simp),by simp⟩ ?_
 rintro W ⟨hb,hm,hr,hx,hW⟩
 have hW3:w.heap.size+1+1<W.heap.size:=by omega
 clear hW
 obtain⟨⟨_,m1,_,_,_,_,_,_⟩,_⟩:=uk hm
 go_wp2_with fail
 go_loopg [5,11] m.zd.length (fun g _ i wr=>∃(k:Nat) (vl:Value),k<=m.zd.length/\g=m.zd.length - k/\i=zI k/\yf W.heap.size wr vl (kC m.zd k)/\zO w wr/\W.heap.size<=wr.heap.size/\Bx wr (w.heap.size+1) 152 [zI 0,zQ,zQ,zI 0,zQ,zI 0,zQ,zI 0,zQ,zI 0]
  /\ Bx wr (w.heap.size+1+1) 152 [zI m.cells,.slice ap m.zd.length cp,.slice ao m.order.length co,zI m.now,.slice at' m.ze.length ct,zI m.born,.slice as' m.zm.length cs,zI m.code,vl,zI (yS m.zd k:Int)])
 case atStart=>exact⟨0,zQ,Nat.zero_le _,rfl,rfl,yf.nil _ _,hb,Nat.le_refl _,hr,by rw[uD];exact hx⟩
 case round =>
  clear m1 hm hr hx hb
  obtain⟨k,vl,hk,rfl,rfl,zT,hb,hz,hr,hx⟩:=hrel
  obtain⟨al,cl,XB,_⟩:=zT.slice
  subst XB
  obtain⟨⟨x0,x1,x2,x3,x4,x5,x6,x7,x8,x9⟩,⟨f0,f1,f2,f3,f4,f5,f6,f7,f8,f9⟩⟩:=Yf hx
  by_cases yz:k<m.zd.length
  ·obtain⟨b,o,vf,rfl,xE⟩:=hcp k yz
   obtain⟨af,cf,Q9⟩:=xE.f.shape
   have d0:=zc hb xE.c0
   have d1:=zc hb xE.c1
   rw[Q9] at d1
   have uW:(k:Int)<(m.zd.length:Int):=by omega
   have hft:yS m.zd (k+1)=yS m.zd k+m.zd[k].zh.length:=xy yz
   have hfl:=kQ m.zd (k:=k+1) yz
   have HLS:Hid (kC m.zd (k+1)=kC m.zd k ++ [(yS m.zd k:Int)]):=WS _ _
   have hll:(kC m.zd k).length<=2900000:=by rw[Qk];omega
   obtain⟨nf,hnf⟩:∃nf,m.zd[k].zh.length=nf:=⟨_,rfl⟩
   obtain⟨ft,hft0⟩:∃ft,yS m.zd k=ft:=⟨_,rfl⟩
   obtain⟨L,hL⟩:∃L,kC m.zd k=L:=⟨_,rfl⟩
   rw[hnf] at d1 hft
   rw[hft0] at hft HLS hx x9
   rw[hL] at hll HLS zT x8 hx
   have UA:ft+nf<=1099511627776:=by omega
   have HFT:Hid (yS m.zd (k+1)=ft+nf):=hft
   have hzb:b<w.heap.size:=World.block_lt_of_cell? _ _ xE.c0
   clear hnf hft0 hL xE Q9 hft hfl hcp x0 x1 x2 x3 x4 x5 x6 x7 f0 f1 f2 f3 f4 f5 f6 f7
   go_upto_region 5 with fail
   refine ym (fun W'=>zO wr W'/\Bx W' wr.heap.size 78 [.int .i64 m.zd[k].base,.slice af nf cf]) ⟨zR _ _,Bx.new _ _ _⟩ ?_
   rintro w1 ⟨qa,UD⟩
   have hrl:∀q,(Value.slice al L.length cl).ownBlock=some q->W.heap.size<=q/\q<wr.heap.size:=zT.lt
   have r1:=zT.below qa
   have Z5:=hx.below qa
   have Kn:=hr.below qa
   have hB1:=hb.trans (qa.mono hb.size)
   have hW1:W.heap.size<=w1.heap.size:=Nat.le_trans hz qa.size
   have hzp:=UD.lt
   clear zT hx hr hb qa d0 d1 x8 x9 f8 f9
   obtain⟨⟨_,_,_,_,_,_,_,_,x8,x9⟩,⟨_,_,_,_,_,_,_,_,f8,f9⟩⟩:=Yf Z5
   have y1:=UD.cell 1 rfl
   go_upto_region 6 with(at_builtin;refine XX Tryz.underlying30 hi jT xF kf _ (by rfl) _ _ (by rfl) _ L (by rfl) r1 _ _ _ rfl (by rfl) hll hW1 ?_;intro g2 Xg cp2 w2 yN qA Xz Xy;have wk:=Z5.grown qA (fun e=>by have:=(r1.lt _ e).1;omega);have x8':=wk.cell 8 rfl;have f8':=wk.frozen 8)
   refine ym (fun W'=>zO w W'/\yf W.heap.size W' (zK g2 Xg (L.length+1) cp2) (L ++ [(ft:Int)])/\W.heap.size<=W'.heap.size/\Bx W' (w.heap.size+1) 152 [zI 0,zQ,zQ,zI 0,zQ,zI 0,zQ,zI 0,zQ,zI 0]
    /\ Bx W' wr.heap.size 78 [zI m.zd[k].base,.slice af nf cf]
    /\ Bx W' (w.heap.size+1+1) 152 [zI m.cells,zK b o m.zd.length cp,.slice ao m.order.length co,zI m.now,.slice at' m.ze.length ct,zI m.born,.slice as' m.zm.length cs,zI m.code,zK g2 Xg (L.length+1) cp2,zI (ft:Int)])
    ⟨(hB1.grown qA hB1.size (fun q e=>by have:=(r1.lt _ e).1;omega)).setCell (p:=zH (w.heap.size+1+1) 8) (Nat.le_trans (Nat.le_succ _) (Nat.le_succ _)) _,?_,?_,(Kn.grown qA (fun e=>by have:=(r1.lt _ e).1;omega)).other (by omega) _,?_,wk.set 8 _⟩ ?_
   ·refine yN.set_other (p:=zH (w.heap.size+1+1) 8) _ (fun e=>?_)
    have h9:g2=w.heap.size+1+1:=by injection e
    rcases Xz with e2 | e2
    ·have:=(hrl _ e2).1
     omega
    ·omega
   ·rw[World.size_setCell];exact Nat.le_trans hW1 qA.size
   ·exact(UD.grown qA (fun e=>by have:=(hrl _ e).2;omega)).other (by omega) _
   rintro w3 ⟨xn,yT,K5,JT,hp3,YR⟩
   clear wk x8' f8' yN qA Xz Xy hrl r1 Z5 Kn hB1 UD x8 x9 f8 f9 y1 hW1
   have x9:=YR.cell 9 rfl
   have f9:=YR.frozen 9
   have y1:=hp3.cell 1 rfl
   go_wp2
   go_roundg (m.zd.length - (k+1))
   case measure=>omega
   case rel=>exact⟨k+1,_,by omega,rfl,by go_num,by rw[HLS.out];exact yT.set_other (p:=zH (w.heap.size+1+1) 9) _ (fun e=>by have h9:W.heap.size<=w.heap.size+1+1:=(yT.lt _ e).1;omega),xn.setCell (p:=zH (w.heap.size+1+1) 9) (Nat.le_trans (Nat.le_succ _) (Nat.le_succ _)) _,by rw[World.size_setCell];exact K5,JT.other (by omega) _,by rw[HFT.out];have:=YR.set 9 (zI ((ft+nf:Nat):Int));simpa using this⟩
  ·obtain rfl:k=m.zd.length:=by omega
   have uW:¬((m.zd.length:Int)<(m.zd.length:Int)):=by omega
   have YX:=hr
   obtain⟨⟨r0,r1,r2,r3,r4,r5,r6,r7,r8,r9⟩,⟨g0,g1,g2,g3,g4,g5,g6,g7,g8,g9⟩⟩:=Yf YX
   go_wp2
   refine xU (fun W'=>zO w W'/\yf w.heap.size W' (.slice al (kC m.zd m.zd.length).length cl) (kC m.zd m.zd.length)/\Bx W' (w.heap.size+1) 152 [zI m.cells,.slice ap m.zd.length cp,.slice ao m.order.length co,zI m.now,.slice at' m.ze.length ct,zI m.born,.slice as' m.zm.length cs,zI m.code,.slice al (kC m.zd m.zd.length).length cl,zI (yS m.zd m.zd.length:Int)]) ?_ ?_
   ·have HW:=(((((((((((Wr.refl1 (w.heap.size+1) wr).set1 (o:=0) (zI m.cells)).set1 (o:=1) (.slice ap m.zd.length cp)).set1 (o:=2) (.slice ao m.order.length co)).set1 (o:=3) (zI m.now)).set1 (o:=4) (.slice at' m.ze.length ct)).set1 (o:=5) (zI m.born)).set1 (o:=6) (.slice as' m.zm.length cs)).set1 (o:=7) (zI m.code)).set1 (o:=8) (.slice al (kC m.zd m.zd.length).length cl)).set1 (o:=9) (zI (yS m.zd m.zd.length:Int)))
    exact⟨HW.below1 hb zD (Nat.le_succ _),(HW.ints zT fun g e e2=>by have h9:W.heap.size<=g:=(zT.lt _ e).1;omega).mono (by omega),(((((((((YX.set 0 _).set 1 _).set 2 _).set 3 _).set 4 _).set 5 _).set 6 _).set 7 _).set 8 _).set 9 _⟩
   rintro W9 ⟨hb9,wJ,hx9⟩
   obtain⟨⟨q0,q1,q2,q3,q4,q5,q6,q7,q8,q9⟩,_⟩:=Yf hx9
   exact bodyPost_ret (v:=.agg #[zI m.cells,.slice ap m.zd.length cp,.slice ao m.order.length co,zI m.now,.slice at' m.ze.length ct,zI m.born,.slice as' m.zm.length cs,zI m.code,.slice al (kC m.zd m.zd.length).length cl,zI (yS m.zd m.zd.length:Int)]) (by simp[results,Tryz.results92,go_sem,q0,q1,q2,q3,q4,q5,q6,q7,q8,q9]) rfl ⟨_,rfl,wJ,hb9⟩
theorem QA (vp vo vt vs:Value) (m:Mc) (w:World) (h:ql w vp vo vt vs m) (hn:m.zd.length<=1048576) (hf:yd m.zd<=1099511627776) :
 Calls Tryz.prog 105 #[.agg (zE vp vo vt vs m).toArray] w fun e w'=>e=.returned (zI (yd m.zd:Int))/\zO w w':=by
 obtain⟨ap,cp,qI⟩:=h.p.shape
 obtain⟨ao,co,j5⟩:=h.o.shape
 obtain⟨at',ct,jz⟩:=h.t.shape
 obtain⟨as',cs,km⟩:=h.s.shape
 subst qI j5 jz km
 have HB:∀o,zO w (w.alloc o):=fun o=>zR _ _
 have HC:=fun o=>Zk _ _ _ _ m _ (h.below (HB o)) hn hf
 unfold zE at HC ⊢
 simp only[List.cons_append,List.nil_append] at HC
 have K2:∀(x0 x1 x2 x3 x4 x5 x6 x7 x8 x9:Value) (w:World),(Instr.field 152 (.agg #[x0,x1,x2,x3,x4,x5,x6,x7,x8,x9]) 2).run Tryz.prog w=.ok x9 w:=fun _ _ _ _ _ _ _ _ _ _ _=>by kernel_rfl
 go_enter Tryz.func105,Tryz.ntmps105
 go_wp2_with fail
 refine(HC _).mono ?_
 rintro e w1 ⟨vl,rfl,zT,hb⟩
 obtain⟨al,cl,XB,_⟩:=zT.slice
 subst XB
 go_wp2
 go_ret
 exact⟨rfl,(HB _).trans (hb.mono (by simp))⟩
end Go.Proofs.YtbjgjjkgfnfejaaGreatDoor

/-
  What draws a heap, in memory: the boxes of the program and of the heap, and what stays while they are written.
-/
import Derived.Test.YtbjgjjkgfnfejaaGreatDoorDraw7
import Derived.Test.YtbjgjjkgfnfejaaGreatDoorLWalk14
namespace Go.Proofs.YtbjgjjkgfnfejaaGreatDoor
set_option maxHeartbeats 4000000
set_option maxRecDepth 100000
open Go.RowKit
variable {w wx w':World} {b:Nat} {a:Option Addr} {len cap q B0 bp bh:Nat} {vp vc vs:Value} {ms:List MM} {h:Hp}
theorem zeo {P:Nat->Prop} {n:Nat} (h:P n) (k:∀i,i<n->P i):∀i,i<n+1->P i:=fun i hi=>by
 by_cases e:i=n
 ·rw[e];exact h
 ·exact k i (by omega)
theorem zd1 (n:Nat) (h:n<=61) (w:World):Calls Tryz.prog 165 #[.int .u64 1,.int .u64 n] w fun e w'=>e=.returned (.tuple #[.int .u64 0,.int .u64 n])/\w'=w:=by
 have key:∀i:Nat,i<62->Calls Tryz.prog 165 #[.int .u64 1,.int .u64 i] w fun e w'=>e=.returned (.tuple #[.int .u64 0,.int .u64 i])/\w'=w:=by
  iterate 62
   refine zeo ?_ ?_
   ·go_enter Tryz.func165,Tryz.ntmps165
    go_wp2
    go_ret2
    exact⟨rfl,rfl⟩
  exact fun _ h=>absurd h yB
 exact key n (by omega)
theorem zfr (n:Nat) (h:n<=61) (w:World):Calls Tryz.prog 135 #[.int .u64 1,.int .u64 n] w fun e w'=>e=.returned (.tuple #[.int .u64 0,.int .u64 n])/\w'=w:=by
 go_enter Tryz.func135,Tryz.ntmps135
 go_wp2_with (go_at_call 165;refine(zd1 n h _).mono ?_;rintro e w' ⟨rfl,hw⟩;obtain rfl:=hw.symm)
 go_ret2
 exact⟨rfl,rfl⟩
def mix (k n:Nat):List Int:=(List.range n).map fun i=>if i<k then -1 else 0
theorem jK (k n:Nat):(mix k n).length=n:=by simp[mix]
theorem Vh (k n i:Nat) (h:i<(mix k n).length):(mix k n)[i]=if i<k then -1 else 0:=by simp[mix]
theorem zfp (n:Nat):mix n n=List.replicate n (-1):=by
 refine List.ext_getElem (by simp[mix]) fun i h1 h2=>?_
 rw[Vh]
 simp at h2
 simp[h2]
theorem zfq (w:World) (n:Nat) (t:TypeId) (h:n<=1000):zL w.heap.size (w.alloc (.cells (madeCells #[zI 0] n) t)) (zK w.heap.size 0 n n) (mix 0 n):=by
 have hblk:=Go.Deep.blk_alloc_new w (.cells (madeCells #[zI 0] n) t)
 refine .inr ⟨w.heap.size,0,n,by rw[jK],Nat.le_refl _,by simp,by rw[jK];exact Nat.le_refl _,by unfold maxLen;omega,fun j hj=>⟨?_,?_⟩,fun j hj=>?_⟩
 ·rw[cell_of_row _ _ _ _ _ _ hblk]
  simp[madeCells,hj]
 ·unfold World.frozen?;rw[hblk];simp
 ·rw[cell_of_row _ _ _ _ _ _ hblk,Vh]
  rw[jK] at hj
  simp[madeCells,hj,Nat.mod_one]
theorem YX (B g:Nat) (hB:B<=g):∀(vs:List Value) (o:Nat) (W:World),Below B W (W.setCells g o vs):=by
 intro vs
 induction vs with
 | nil=>intro o W;exact zS
 | cons v r ih=>intro o W;rw[World.setCells];exact((Below.refl B W).setCell (p:=zH g o) hB v).trans (ih _ _)
theorem Vi {B g k n m:Nat} {w:World} (h:zL B w (zK g 0 n n) (mix k n)) (hm:k+m<=n):zL B (w.setCells g k (List.replicate m (zI (-1)))) (zK g 0 n n) (mix (k+m) n):=by
 rcases h with⟨h,_⟩ | ⟨g',off',cap',hv,hB,hg,hl,hc,hsp,hx⟩
 ·cases h
 ·rw[jK] at hv
  cases hv
  have hin:=World.cell?_setCells_in g (List.replicate m (.int .i64 (-1))) k w (fun j hj=>by
   simp at hj
   have:=(hsp (k+j) (by omega)).1
   rwa [Nat.zero_add] at this)
  refine .inr ⟨g,0,n,by rw[jK],hB,by rw[ku];exact hg,by rw[jK];exact Nat.le_refl _,hc,fun j hj=>?_,fun j hj=>?_⟩
  ·rw[World.frozen?_setCells]
   refine⟨?_,(hsp j hj).2⟩
   by_cases hi:k<=j/\j<k+m
   ·have:=hin (j - k) (by simp;omega)
    rw[show k+(j - k)=0+j by omega] at this
    rw[this];rfl
   ·rw[World.cell?_setCells_out g _ _ _ _ (fun _ _=>by simp;omega)]
    exact(hsp j hj).1
  ·rw[Vh]
   rw[jK] at hj
   by_cases hi:k<=j/\j<k+m
   ·have:=hin (j - k) (by simp;omega)
    rw[show k+(j - k)=0+j by omega] at this
    rw[this,if_pos hi.2]
    simp
   ·rw[World.cell?_setCells_out g _ _ _ _ (fun _ _=>by simp;omega)]
    have:=hx j (by rw[jK];exact hj)
    rw[this,Vh]
    by_cases hk:j<k
    ·rw[if_pos hk,if_pos (by omega)]
    ·rw[if_neg hk,if_neg (by omega)]
theorem Xz {P:Program} {t e ty:TypeId} (ht:P.underlying t=some (.slice e)) (hi:(P.info? e).map (·.size)=some 1) {w:World} {B:Nat} (g k n dl dc m:Nat) (a:Addr) (sl sc:Nat) (zE:zL B w (zK g 0 n n) (mix k n)) (hm:m=Nat.min sl dl) (hk:k+m<=n)
 (hsrc:∀j,j<m->w.cell? (a.add j)=some (.int .i64 (-1))) :
 (Builtin.copy_ #[t,t] ty #[zK g k dl dc,.slice (some a) sl sc]).run P w=.ok (goInt m) (w.setCells g k (List.replicate m (zI (-1)))):=by
 have hsp:∀j,j<m->(w.cell? (zH g (k+j))).isSome=true/\w.frozen? (zH g (k+j))=false:=by
  rcases zE with⟨hn,_⟩ | ⟨g',off',cap',hv,_,_,_,_,hsp,_⟩
  ·cases hn
  ·rw[jK] at hv
   cases hv
   intro j hj
   have:=hsp (k+j) (by omega)
   rwa [Nat.zero_add] at this
 have hr:=run_copy_cells (P:=P) w t t ty e g k dl dc a sl sc (List.replicate m (zI (-1))) ht hi (by simpa using hm)
  (fun j v hv=>by
   rw[List.getElem?_replicate] at hv
   split at hv
   ·rename_i hj;rw[hsrc j hj];exact hv
   ·cases hv)
  (fun j hj=>(hsp j (by simpa using hj)).1) (fun j hj=>(hsp j (by simpa using hj)).2) (fun v hv=>by rw[List.mem_replicate] at hv;rw[hv.2];rfl)
 rwa [List.length_replicate] at hr
theorem zbI {P:Program} {t e:TypeId} (ht:P.underlying t=some (.slice e)) (hi:(P.info? e).map (·.size)=some 1) {o:Oper} {act:Act} {w:World} {K:Act->World->Prop} {Q:Exit->Act->World->Prop} (d s:Operand)
 (ho:o.op=.call {callee:=.builtin .copy,args:=#[d,s],argTypes:=#[t,t]}) {B:Nat} (g k n dl dc m:Nat) (a:Addr) (sl sc:Nat) (zE:zL B w (zK g 0 n n) (mix k n)) (hm:m=Nat.min sl dl) (hk:k+m<=n)
 (hsrc:∀j,j<m->w.cell? (a.add j)=some (.int .i64 (-1))) (hd:act.eval d=.slice (some ⟨g,k,none⟩) dl dc) (hs:act.eval s=.slice (some a) sl sc)
 (h:K (act.put o.dst (goInt m)) (w.setCells g k (List.replicate m (zI (-1))))):o.wp P act w K Q:=by
 have hr:=Xz (P:=P) (ty:=o.type) ht hi g k n dl dc m a sl sc zE hm hk hsrc
 unfold Oper.wp execOp
 simp only[ho,resolve,invoke,builtin,Sem.run_bind,Sem.run_pure,Result.andThen_ok,List.map_toArray,List.map_cons,List.map_nil,hs,hd,hr]
 exact h
theorem Uq {P:Program} {t e:TypeId} (ht:P.underlying t=some (.slice e)) (hi:(P.info? e).map (·.size)=some 1) {ops:Array Oper} {o:Oper} {act:Act} {w:World} {K:Act->World->Prop} {Q:Exit->Act->World->Prop} {E:Prop} (hgd:o.guard=none) (d s:Operand)
 (ho:o.op=.call {callee:=.builtin .copy,args:=#[d,s],argTypes:=#[t,t]}) {B:Nat} (g k n dl dc m:Nat) (a:Addr) (sl sc:Nat) (zE:zL B w (zK g 0 n n) (mix k n)) (hm:m=Nat.min sl dl) (hk:k+m<=n)
 (hsrc:∀j,j<m->w.cell? (a.add j)=some (.int .i64 (-1))) (hd:act.eval d=.slice (some ⟨g,k,none⟩) dl dc) (hs:act.eval s=.slice (some a) sl sc)
 (h:K (act.put o.dst (goInt m)) (w.setCells g k (List.replicate m (zI (-1))))):if Region.wanted o (yielded ops act.tmps)=true then Oper.wp P o act w K Q else E:=by
 rw[if_pos (by simp[Region.wanted,hgd])]
 exact zbI ht hi d s ho g k n dl dc m a sl sc zE hm hk hsrc hd hs h
theorem zcW (a b:Nat) (h:a+b<=1000000):IntKind.i64.wrap ((a:Int)+(b:Int))=((a+b:Nat):Int):=by
 rw[IntKind.wrap_i64];omega
theorem zcB (w:World) (b n:Nat) (hn:n<=61) (hc:w.cell? (zH b 0)=some (.int .i64 (-1))) :
 Calls Tryz.prog 99 #[.slice (some ⟨b,0,none⟩) 1 1,.int .i64 n] w fun e w'=>zO w w'/\∃v,e=.returned v/\zL w.heap.size w' v (List.replicate n (-1)):=by
 have hblt:=World.block_lt_of_cell? _ _ hc
 obtain⟨i0,hi,jM,xP,vJ⟩:=info_parts Tryz.infoInt2
 have un:Hid ((Tryz.prog.info? 3).map (·.size)=some 1):=by show _=_;rw[hi];simp[xP]
 have hmk:∀w:World,(Instr.makeSlice 30 (zI (n:Int)) (zI (n:Int))).run Tryz.prog w=.ok (zK w.heap.size 0 n n) (w.alloc (.cells (madeCells #[zI 0] n) 3)):=by
  intro w
  have:=run_make (P:=Tryz.prog) w 30 3 i0 _ Tryz.underlying30 hi jM .i64 .i64 n n (by omega) (Int.le_refl _) (by rw[vJ];omega) (by omega)
  simpa [xP,Value.cells] using this
 obtain⟨m,hm⟩:∃m,m=Nat.min 1 n:=⟨_,rfl⟩
 have hm':m<=n/\m<=1/\(0<n->0<m):=by rw[hm];simp only[Nat.min_def];split <;> omega
 have Hm:Hid (m=Nat.min 1 n):=hm
 have zgD:=zfq w n 3 (by omega)
 have hcA:(w.alloc (.cells (madeCells #[.int .i64 0] n) 3)).cell? (zH b 0)=some (.int .i64 (-1)):=zc (zR _ _) hc
 have hcB:∀j,j<m->(w.alloc (.cells (madeCells #[.int .i64 0] n) 3)).cell? ((⟨b,0,none⟩:Addr).add j)=some (.int .i64 (-1)):=fun j hj=>by
  obtain rfl:j=0:=by omega
  rw[Addr.add_lit];exact hcA
 have hcp:=Xz (P:=Tryz.prog) (ty:=3) Tryz.underlying30 un.out w.heap.size 0 n n n m ⟨b,0,none⟩ 1 1 zgD Hm.out (by omega) hcB
 clear hi jM xP vJ hm
 go_enter Tryz.func99,Tryz.ntmps99
 go_wp2_with (go_at_call 135;refine(zfr n hn _).mono ?_;rintro e w' ⟨rfl,hw⟩;obtain rfl:=hw.symm)
 clear hmk hcp hcB hcA
 go_loopg [8] (n - m) (fun g i wr=>∃k:Nat,k<=n/\(0<n->0<k)/\g=n - k/\i=zI k/\zO w wr/\zL w.heap.size wr (zK w.heap.size 0 n n) (mix k n))
 case atStart=>exact⟨m,hm'.1,hm'.2.2,rfl,rfl,(zR _ _).trans (YX _ _ zD _ _ _),by have:=Vi (m:=m) zgD (by omega);rwa [Nat.zero_add] at this⟩
 case round =>
  obtain⟨k,hk,Wt,rfl,rfl,hb,yd⟩:=hrel
  by_cases yt:k<n
  ·have v7:(k:Int)<(n:Int):=by omega
   obtain⟨m2,ww⟩:∃m2,m2=Nat.min k (n - k):=⟨_,rfl⟩
   have hm2':k+m2<=n/\m2<=k/\0<m2:=by rw[ww];simp only[Nat.min_def];split <;> omega
   have Hm2:Hid (m2=Nat.min k (n - k)):=ww
   clear ww
   have xp:¬n=k:=by omega
   have hne':¬k=n:=by omega
   have hsrc:∀j,j<m2->wr.cell? ((⟨w.heap.size,0,none⟩:Addr).add j)=some (.int .i64 (-1)):=fun j hj=>by
    have:=(yd.cell (i:=j) (by rw[jK];omega)).1
    rw[Vh,if_pos (by omega)] at this
    rw[Addr.add_lit];exact this
   go_wp2_with fail
   go_region_law (refine Uq Tryz.underlying30 un.out (by rfl) (.tmp 41) (.tmp 44) (by rfl) w.heap.size k n (n - k) (n - k) m2 ⟨w.heap.size,0,none⟩ k n yd Hm2.out (by omega) hsrc (by simp[Act.eval,Act.put]) (by simp[Act.eval,Act.put]) ?_)
   go_wp2
   go_roundg (n - (k+m2))
   case measure=>omega
   case rel=>exact⟨k+m2,by omega,fun _=>by omega,rfl,by rw[zcW _ _ (by omega)],hb.drew.trans (YX _ _ zD _ _ _),Vi (w:=wr.drew) yd (by omega)⟩
  ·obtain rfl:k=n:=by omega
   go_wp2
   go_ret
   exact⟨hb,_,rfl,by rw[<-zfp];exact yd⟩
theorem zfO (n:Nat):Kn n []=List.replicate n (-1):=by
 refine List.ext_getElem (by simp[Kn]) fun i h1 h2=>?_
 rw[XB,kZ (fun j hj=>absurd hj yB)]
 simp
theorem XR.re {A A':Nat->Prop} {B bo n:Nat} {ps:List Nat} {vp vn:Value} {w:World} (h:XR A B bo n ps vp vn w) (hA:∀g,A' g->g≠bo/\g<w.heap.size/\vp.ownBlock≠some g/\vn.ownBlock≠some g):XR A' B bo n ps vp vn w:=⟨h.le,h.box,h.p,h.n,h.pb,h.nb,h.pn,hA⟩
theorem zfQ {w:World} {g:Nat} {t:TypeId} {x0 x1:Value} (h:w.rowIs g t 2 (UZ x0 x1)) (v:Value):(w.setCell (zH g 1) v).rowIs g t 2 (UZ x0 v) :=
 (h.set 1 v).congr fun i hi=>by match i,hi with | 0,_=>rfl | 1,_=>rfl
structure OrdV (B n:Nat) (ps:List Nat) (vp vn:Value) (w:World):Prop where
 p:zL B w vp (Kg ps)
 n:zL B w vn (Kn n ps)
 pn:∀g,vp.ownBlock=some g->vn.ownBlock≠some g
theorem za6 (vc vs:Value) (h:Hp) (w:World) (hh:Zu w vc vs h) (hn:h.ze.length<=61) :
 Calls Tryz.prog 56 #[.agg (j6 vc vs h)] w fun e w'=>(∃vp vn,e=.returned (.agg #[vp,vn])/\OrdV w.heap.size h.ze.length (found h) vp vn w'/\xV h.ze.length (found h))/\zO w w':=by
 unfold j6
 obtain⟨ac,kc,hvc⟩:=hh.c.shape
 obtain⟨aD,kD,jG⟩:=hh.s.shape
 subst hvc jG
 have hA:zO w ((w.alloc (.cells #[.slice ac h.ze.length kc,.int .i64 h.now,.int .i64 h.born,.slice aD h.zm.length kD,.int .i64 h.code] 44)).alloc (.cells #[.slice none 0 0,.slice none 0 0] 108)):=(zR _ _).alloc (by simp) _
 have bx:((w.alloc (.cells #[.slice ac h.ze.length kc,.int .i64 h.now,.int .i64 h.born,.slice aD h.zm.length kD,.int .i64 h.code] 44)).alloc (.cells #[.slice none 0 0,.slice none 0 0] 108)).rowIs w.heap.size 44 5 (ZI (.slice ac h.ze.length kc) (.int .i64 h.now) (.int .i64 h.born) (.slice aD h.zm.length kD) (.int .i64 h.code)):=(uP w 44 (.slice ac h.ze.length kc) (.int .i64 h.now) (.int .i64 h.born) (.slice aD h.zm.length kD) (.int .i64 h.code)).alloc _
 have rx:((w.alloc (.cells #[.slice ac h.ze.length kc,.int .i64 h.now,.int .i64 h.born,.slice aD h.zm.length kD,.int .i64 h.code] 44)).alloc (.cells #[.slice none 0 0,.slice none 0 0] 108)).rowIs (w.heap.size+1) 108 2 (UZ (.slice none 0 0) (.slice none 0 0)):=by
  have:=kH (w.alloc (.cells #[.slice ac h.ze.length kc,.int .i64 h.now,.int .i64 h.born,.slice aD h.zm.length kD,.int .i64 h.code] 44)) 108 (.slice none 0 0) (.slice none 0 0)
  simpa using this
 go_enter Tryz.func56,Tryz.ntmps56
 go_upto_region 1 with fail
 generalize (w.alloc (.cells #[.slice ac h.ze.length kc,.int .i64 h.now,.int .i64 h.born,.slice aD h.zm.length kD,.int .i64 h.code] 44)).alloc (.cells #[.slice none 0 0,.slice none 0 0] 108)=W1 at *
 have zA:=hA.size
 have yA:=bx.lt
 obtain⟨⟨x0,x1,x2,x3,x4⟩,xf⟩:=kP bx
 clear xf
 have HF0:Hid (found h=foundF h.ze (h.ze.length - 0) 0 (qn h.ze.length [] h.now)):=rfl
 obtain⟨F,hF⟩:∃F,F=found h:=⟨_,rfl⟩
 have HF:Hid (F=found h):=hF
 rw[<-hF] at HF0
 clear hF
 have N1:=zR W1 (.cells #[.int .i64 (-1)] 3)
 have c1:(W1.alloc (.cells #[.int .i64 (-1)] 3)).cell? (zH W1.heap.size 0)=some (.int .i64 (-1)):=by simp[go_sem]
 have x0A:=zc N1 x0
 go_upto_region 2 with(go_at_call 99;refine(zcB _ W1.heap.size h.ze.length hn c1).mono ?_;rintro e w3 ⟨qR,v3,rfl,XL⟩;obtain⟨a3,k3,hv3,_⟩:=XL.slice;rw[List.length_replicate] at hv3;subst hv3)
 have L3:zO W1 w3:=N1.trans (qR.mono N1.size)
 have N3:=zR w3 (.cells #[.slice none 0 0,.slice a3 h.ze.length k3] 108)
 have r4:=kH w3 108 (.slice none 0 0) (.slice a3 h.ze.length k3)
 have Wy:=XL.below N3
 have L4:=L3.trans (N3.mono L3.size)
 have y3:=L3.size
 have z1:=N1.size
 have O4:XR (fun _=>False) W1.heap.size w3.heap.size h.ze.length [] (.slice none 0 0) (.slice a3 h.ze.length k3) (w3.alloc (.cells #[.slice none 0 0,.slice a3 h.ze.length k3] 108)) :=
  ⟨L3.size,r4,zL.nil _ _,by rw[zfO];exact Wy.mono z1,fun e=>by simp[Value.ownBlock] at e,fun e=>by have:=(XL.lt _ e).2;omega,fun g e=>by simp[Value.ownBlock] at e,fun g e=>e.elim⟩
 generalize w3.alloc (.cells #[.slice none 0 0,.slice a3 h.ze.length k3] 108)=w4 at *
 generalize w3.heap.size=bo at *
 clear N1 c1 x0A qR XL Wy L3 N3 r4
 have bx4:=yU L4 bx
 obtain⟨⟨y0,y1,y2,y3',y4⟩,yf⟩:=kP bx4
 clear yf
 go_wp2_with fail
 refine(KG _ W1.heap.size bo _ [] _ _ h.now _ O4 (xV.nil _) (by omega)).mono ?_
 rintro e w5 ⟨rfl,⟨vp5,O5⟩,C5⟩
 have L5:=L4.trans C5.b
 have P5:xV h.ze.length (qn h.ze.length [] h.now):=(xV.nil _).come _
 clear O4 C5 L4 bx4 y0 y1 y2 y3' y4
 go_wp2
 go_loopg [4] h.ze.length (fun g i wr=>∃(j:Nat) (ps:List Nat) (vp:Value),j<=ps.length/\g=h.ze.length - j/\i=zI j/\xV h.ze.length ps/\F=foundF h.ze (h.ze.length - j) j ps/\XR (fun _=>False) W1.heap.size bo h.ze.length ps vp (.slice a3 h.ze.length k3) wr/\zO W1 wr)
 case atStart=>exact⟨0,_,vp5,Nat.zero_le _,rfl,rfl,P5,HF0.out,O5,L5⟩
 case round =>
  obtain⟨j,ps,vp,hj,rfl,rfl,hps,hFF,hO,hL⟩:=hrel
  have HFF:Hid (F=foundF h.ze (h.ze.length - j) j ps):=hFF
  clear hFF
  have hpl:=hps.len
  obtain⟨ap,cp',qz,_⟩:=hO.p.slice
  rw[uo] at qz
  subst qz
  obtain⟨⟨o0,o1⟩,of0,of1⟩:=yz hO.box
  by_cases yt:j<ps.length
  ·have hjz:(j:Int)<(ps.length:Int):=by omega
   obtain⟨gp,op,c1',e1,_⟩:=hO.p.form (by rw[uo];omega)
   obtain rfl:ap=some ⟨gp,op,none⟩:=by injection e1
   clear e1
   have d1:=(hO.p.cell (i:=j) (by rw[uo];exact yt)).1
   rw[zc8] at d1
   have hpj:ps[j]<h.ze.length:=hps.lt _ (List.getElem_mem yt)
   have HST:Hid (F=foundF h.ze (h.ze.length - (j+1)) (j+1) (comeC h.ze.length ps h.ze[ps[j]])):=by show F=_;rw[HFF.out,Zj hps yt hpj]
   generalize ps[j]=p at *
   clear HFF
   obtain⟨b,o,vt,vs',hac,hc⟩:=hh.c.cl hpj
   subst hac
   obtain⟨at',ct',jA⟩:=hc.t.shape
   obtain⟨as',ct2,jG⟩:=hc.s.shape
   subst jA jG
   have hb:zO w wr:=hA.trans (hL.mono zA)
   have q0:=zc hb hc.c0
   have q1:=zc hb hc.c1
   have q2:=zc hb hc.c2
   have q3:=zc hb hc.c3
   have q4:=zc hb hc.c4
   have q5:=zc hb hc.c5
   have hct:=hc.t
   have hcs':=hc.s
   have w0x:=(kP (yU hL bx)).1.1
   have hpz:(p:Int)<(h.ze.length:Int):=by omega
   have HSZ:Hid (∀f',bo<wr.heap.size/\(zK gp op ps.length cp').ownBlock≠some (wr.heap.size+f')/\(Value.slice a3 h.ze.length k3).ownBlock≠some (wr.heap.size+f')):=fun f'=>⟨hO.box.lt,fun e=>by have:=(hO.p.lt _ e).2;omega,fun e=>by have:=(hO.n.lt _ e).2;omega⟩
   generalize hce:h.ze[p]=cp at *
   clear hce hc
   have HS8:∀w',zO wr w'->(w'.cell? (zH bo 0)=some (.slice (some ⟨gp,op,none⟩) ps.length cp')/\w'.cell? (zH gp (op+j))=some (.int .i64 (p:Int))/\w'.cell? (zH w.heap.size 0)=some (.slice (some ⟨b,o,none⟩) h.ze.length kc)/\w'.cell? (zH b (o+p * 6))=some (.int .i64 cp.m)/\w'.cell? (zH b (o+p * 6+1))=some (.int .i64 cp.pc)/\w'.cell? (zH b (o+p * 6+2))=some (.slice at' cp.zh.length ct')/\w'.cell? (zH b (o+p * 6+3))=some (.slice as' cp.zf.length ct2)/\w'.cell? (zH b (o+p * 6+4))=some (.int .i64 cp.zi)/\w'.cell? (zH b (o+p * 6+5))=some (.bool cp.zy)):=fun w' hB=>⟨zc hB o0,zc hB d1,zc hB w0x,zc hB q0,zc hB q1,zc hB q2,zc hB q3,zc hB q4,zc hB q5⟩
   go_wp2_with fail
   go_region_held3 (fun w'=>w'.cell? (zH bo 0)=some (.slice (some ⟨gp,op,none⟩) ps.length cp')/\w'.cell? (zH gp (op+j))=some (.int .i64 (p:Int))/\w'.cell? (zH w.heap.size 0)=some (.slice (some ⟨b,o,none⟩) h.ze.length kc)/\w'.cell? (zH b (o+p * 6))=some (.int .i64 cp.m)/\w'.cell? (zH b (o+p * 6+1))=some (.int .i64 cp.pc)/\w'.cell? (zH b (o+p * 6+2))=some (.slice at' cp.zh.length ct')/\w'.cell? (zH b (o+p * 6+3))=some (.slice as' cp.zf.length ct2)/\w'.cell? (zH b (o+p * 6+4))=some (.int .i64 cp.zi)/\w'.cell? (zH b (o+p * 6+5))=some (.bool cp.zy))
    ((refine HS8 _ ?_;first | (with_reducible exact zR _ _) | (with_reducible exact(zR _ _).drew) | (with_reducible exact zS.drew.alloc zD _) | (with_reducible exact zS.drew) | (with_reducible exact Below.refl _ _)))
    (fail)
   have NN:zO wr (wr.alloc (.cells #[.int .i64 cp.m,.int .i64 cp.pc,.slice at' cp.zh.length ct',.slice as' cp.zf.length ct2,.int .i64 cp.zi,.bool cp.zy] 96)).drew:=(zR wr _).drew
   have r7:(wr.alloc (.cells #[.int .i64 cp.m,.int .i64 cp.pc,.slice at' cp.zh.length ct',.slice as' cp.zf.length ct2,.int .i64 cp.zi,.bool cp.zy] 96)).drew.rowIs wr.heap.size 96 6 (six (.int .i64 cp.m) (.int .i64 cp.pc) (.slice at' cp.zh.length ct') (.slice as' cp.zf.length ct2) (.int .i64 cp.zi) (.bool cp.zy)):=Z7 wr 96 _ _ _ _ _ _
   have O7:XR (fun g=>g=wr.heap.size) W1.heap.size bo h.ze.length ps (.slice (some ⟨gp,op,none⟩) ps.length cp') (.slice a3 h.ze.length k3) (wr.alloc (.cells #[.int .i64 cp.m,.int .i64 cp.pc,.slice at' cp.zh.length ct',.slice as' cp.zf.length ct2,.int .i64 cp.zi,.bool cp.zy] 96)).drew:=(hO.below NN).re (fun g e=>by
    subst e
    obtain⟨s1,s2,s3⟩:=HSZ.out 0
    exact⟨by omega,r7.lt,s2,s3⟩)
   have L7:=hL.trans (NN.mono hL.size)
   generalize (wr.alloc (.cells #[.int .i64 cp.m,.int .i64 cp.pc,.slice at' cp.zh.length ct',.slice as' cp.zf.length ct2,.int .i64 cp.zi,.bool cp.zy] 96)).drew=w7 at *
   clear NN HS8 q0 q1 q2 q3 q4 q5 w0x d1 o0 o1 of0 of1 hO hL HSZ hb
   generalize wr.heap.size=cb at *
   obtain⟨⟨x0',x1',x2',zfT,x4',x5'⟩,xf⟩:=xu r7
   clear xf
   go_wp2_with fail
   refine(KG _ W1.heap.size bo _ ps _ _ cp.zi _ O7 hps (by omega)).mono ?_
   rintro e w8 ⟨rfl,⟨vp8,O8⟩,C8⟩
   have r8:=r7.of_block (C8.a cb rfl)
   have L8:=L7.trans C8.b
   have P8:=hps.come cp.zi
   clear O7 C8 L7 r7 x0' x1' x2' zfT x4' x5'
   obtain⟨⟨x0',x1',x2',zfT,x4',x5'⟩,xf⟩:=xu r8
   clear xf
   go_wp2_with fail
   refine(YC _ W1.heap.size bo _ _ _ _ _ cp.zh w _ O8 P8 (by omega) hct (hA.trans (L8.mono zA)) zA).mono ?_
   rintro e w9 ⟨rfl,⟨vp9,O9⟩,C9⟩
   have r9:=r8.of_block (C9.a cb rfl)
   have L9:=L8.trans C9.b
   have P9:=P8.comeV cp.zh
   clear O8 C9 L8 r8 x0' x1' x2' zfT x4' x5'
   obtain⟨⟨x0',x1',x2',zfT,x4',x5'⟩,xf⟩:=xu r9
   clear xf
   go_wp2_with fail
   refine(YC _ W1.heap.size bo _ _ _ _ _ cp.zf w _ O9 P9 (by omega) hcs' (hA.trans (L9.mono zA)) zA).mono ?_
   rintro e vI ⟨rfl,⟨vp10,O10⟩,C10⟩
   have L10:=L9.trans C10.b
   have P10:xV h.ze.length (comeC h.ze.length ps cp):=P9.comeV cp.zf
   have O10':XR (fun _=>False) W1.heap.size bo h.ze.length (comeC h.ze.length ps cp) vp10 (.slice a3 h.ze.length k3) vI:=O10.re (fun g e=>e.elim)
   obtain⟨t,htt⟩:=Qi h.ze.length ps cp
   have hlen2:Hid (j+1<=(comeC h.ze.length ps cp).length):=by show _<=_;rw[htt,List.length_append];omega
   have HST2:Hid (F=foundF h.ze (h.ze.length - (j+1)) (j+1) (comeC h.ze.length ps cp)):=HST.out
   clear htt HST O9 C10 L9 r9 O10 P8 P9 x0' x1' x2' zfT x4' x5'
   go_wp2
   go_roundg (h.ze.length - (j+1))
   case measure=>omega
   case rel=>exact⟨j+1,_,vp10,hlen2.out,rfl,by go_num,P10,HST2.out,O10',L10⟩
  ·obtain rfl:j=ps.length:=by omega
   have hE:Hid (F=ps):=by show F=ps;rw[HFF.out,kQ _ (by omega)]
   have hFe:=hE.out
   subst hFe
   have HP:Hid (xV h.ze.length F):=hps
   have hb:zO w wr:=hA.trans (hL.mono zA)
   have HO:Hid (OrdV w.heap.size h.ze.length F (.slice ap F.length cp') (.slice a3 h.ze.length k3) wr):=⟨hO.p.mono zA,hO.n.mono zA,hO.pn⟩
   have HFd:Hid (found h=F):=HF.out.symm
   have hlr:=rx.lt
   have HO6:Hid (OrdV w.heap.size h.ze.length F (.slice ap F.length cp') (.slice a3 h.ze.length k3) ((wr.setCell (zH (w.heap.size+1) 0) (.slice ap F.length cp')).setCell (zH (w.heap.size+1) 1) (.slice a3 h.ze.length k3))) :=
    ⟨((hO.p.set_other (p:=zH (w.heap.size+1) 0) _ (fun e=>by have:=(hO.p.lt _ e).1;simp at this;omega)).set_other (p:=zH (w.heap.size+1) 1) _ (fun e=>by have:=(hO.p.lt _ e).1;simp at this;omega)).mono zA,
     ((hO.n.set_other (p:=zH (w.heap.size+1) 0) _ (fun e=>by have:=(hO.n.lt _ e).1;simp at this;omega)).set_other (p:=zH (w.heap.size+1) 1) _ (fun e=>by have:=(hO.n.lt _ e).1;simp at this;omega)).mono zA,hO.pn⟩
   have r5:=yU hL rx
   have r6:=zfQ (ZO r5 (.slice ap F.length cp')) (.slice a3 h.ze.length k3)
   have hb6:=(hb.setCell (p:=zH (w.heap.size+1) 0) (by simp) (.slice ap F.length cp')).setCell (p:=zH (w.heap.size+1) 1) (by simp) (.slice a3 h.ze.length k3)
   obtain⟨⟨t0,t1⟩,tf0,tf1⟩:=yz r5
   obtain⟨⟨s0,s1⟩,_⟩:=yz r6
   clear hE HFF hps hO HF P5 L5 O5 HF0 yt hj hL r5 r6 HO
   go_wp2
   refine bodyPost_ret (v:=.agg #[.slice ap F.length cp',.slice a3 h.ze.length k3]) (by simp[results,Tryz.results56,go_sem,s0,s1]) rfl ?_
   refine⟨⟨_,_,rfl,?_,?_⟩,hb6⟩
   ·rw[HFd.out];exact HO6.out
   ·rw[HFd.out];exact HP.out
theorem zfS (B bo:Nat) (F:List Nat) (vp vn vc vs:Value) (h:Hp) (w:World) (hh:Zu w vc vs h) (hsh:h.short) (hn:h.ze.length<=61) (hO:XR (fun _=>False) B bo h.ze.length F vp vn w) (hps:xV h.ze.length F) :
 Calls Tryz.prog 57 #[.pointer (some ⟨bo,0,none⟩),.agg (j6 vc vs h)] w fun e w'=>(∃v V,e=.returned v/\qq w.heap.size w' v (F.map fun p=>j1 F (h.ze.getD p Cl.none)) V)/\zO w w':=by
 unfold j6
 obtain⟨ac,kc,hvc⟩:=hh.c.shape
 obtain⟨aD,kD,jG⟩:=hh.s.shape
 subst hvc jG
 obtain⟨ap,cp',qz,_⟩:=hO.p.slice
 rw[uo] at qz
 subst qz
 have hpl:=hps.len
 obtain⟨⟨o0,o1⟩,of0,of1⟩:=yz hO.box
 have hA:zO w (w.alloc (.cells #[.slice ac h.ze.length kc,.int .i64 h.now,.int .i64 h.born,.slice aD h.zm.length kD,.int .i64 h.code] 44)):=zR _ _
 have bx:=uP w 44 (.slice ac h.ze.length kc) (.int .i64 h.now) (.int .i64 h.born) (.slice aD h.zm.length kD) (.int .i64 h.code)
 have o0A:=zc hA o0
 have o1A:=zc hA o1
 go_enter Tryz.func57,Tryz.ntmps57
 go_wp2
 generalize w.alloc (.cells #[.slice ac h.ze.length kc,.int .i64 h.now,.int .i64 h.born,.slice aD h.zm.length kD,.int .i64 h.code] 44)=W1 at *
 have zA:=hA.size
 have yA:=bx.lt
 clear o0A o1A
 go_loopg [5,13] F.length (fun g o i wr2=>∃(k:Nat) (L:List (Cl × Value × Value)),k<=F.length/\g=F.length - k/\i=zI k/\L.map (·.1)=(F.take k).map (fun p=>j1 F (h.ze.getD p Cl.none))/\qX w.heap.size wr2 o L /\
  (∀j,(hj:j<L.length)->zl w.heap.size wr2 L[j].2.1 L[j].1.zh/\zl w.heap.size wr2 L[j].2.2 L[j].1.zf)/\XO L o/\zO W1 wr2 /\
  (∀q,o.ownBlock=some q->W1.heap.size<=q))
 case atStart=>exact⟨0,[],Nat.zero_le _,rfl,rfl,rfl,qX.nil _ _,fun j hj=>absurd hj yB,fun q hq=>absurd hq yB,zS,fun q e=>by simp[Value.ownBlock] at e⟩
 case round =>
  obtain⟨k,L,hk,rfl,rfl,hmap,yd,hls,hap,hL2,hon⟩:=hrel
  have HMAP:Hid (L.map (·.1)=(F.take k).map (fun p=>j1 F (h.ze.getD p Cl.none))):=hmap
  have HLS:Hid (∀j,(hj:j<L.length)->zl w.heap.size wr L[j].2.1 L[j].1.zh/\zl w.heap.size wr L[j].2.2 L[j].1.zf):=hls
  have X1:L.length=k:=by have:=congrArg List.length hmap;simp at this;omega
  have HLL:Hid (L.length=k):=X1
  obtain⟨ao,co,jw,_⟩:=yd.slice
  subst jw
  have HAP:Hid (XO L (.slice ao L.length co)):=hap
  have HON:Hid (∀q,(Value.slice ao L.length co).ownBlock=some q->W1.heap.size<=q):=hon
  clear hmap hls hap X1 hon
  have hb:zO w wr:=hA.trans (hL2.mono zA)
  have hO2:=hO.below hb
  by_cases hltk:k<F.length
  ·have v7:(k:Int)<(F.length:Int):=by omega
   obtain⟨gp,op,c1',e1,_⟩:=hO2.p.form (by rw[uo];omega)
   obtain rfl:ap=some ⟨gp,op,none⟩:=by injection e1
   clear e1
   have d1:=(hO2.p.cell (i:=k) (by rw[uo];exact hltk)).1
   rw[zc8] at d1
   have hpk:F[k]<h.ze.length:=hps.lt _ (List.getElem_mem hltk)
   have HMT:=zaX (f:=fun p=>j1 F (h.ze.getD p Cl.none)) hltk
   generalize F[k]=p at *
   obtain⟨b,o,vt,vs',hac,hc⟩:=hh.c.cl hpk
   subst hac
   obtain⟨at',ct',jA⟩:=hc.t.shape
   obtain⟨as',ct2,jG⟩:=hc.s.shape
   subst jA jG
   have q0:=zc hb hc.c0
   have q1:=zc hb hc.c1
   have q2:=zc hb hc.c2
   have q3:=zc hb hc.c3
   have q4:=zc hb hc.c4
   have q5:=zc hb hc.c5
   have hlen:=hsh.2 p hpk
   have hgd:h.ze.getD p Cl.none=h.ze[p]:=by simp[hpk]
   rw[hgd] at HMT
   have hct:=hc.t.below hb
   have hcs':=hc.s.below hb
   have w0x:=(kP (yU hL2 bx)).1.1
   have hpz:(p:Int)<(h.ze.length:Int):=by omega
   have hLb:L.length<=900000:=by rw[HLL.out];omega
   have hLT:=zfn HLS.out
   have HLT:Hid _:=hLT
   generalize hce:h.ze[p]=cp at *
   clear hce hc hgd hLT
   go_wp2_with fail
   refine(Vz _ B bo _ F _ _ _ _ cp _ hO2 hps (by omega) hct hcs' hlen).mono ?_
   rintro e w8 ⟨vt8,vs8,rfl,ht8,hs8,hap8,hb8⟩
   obtain⟨at8,kt8,hv8,_⟩:=ht8.slice
   obtain⟨as8,ks8,hw8,_⟩:=hs8.slice
   rw[List.length_map] at hv8 hw8
   subst hv8 hw8
   unfold kC
   simp only[j1,zI]
   have hz8:=hb8.size
   have hwz:=hb.size
   have N15:=zR w8 (.cells #[.int .i64 cp.m,.int .i64 cp.pc,.slice at8 cp.zh.length kt8,.slice as8 cp.zf.length ks8,.int .i64 (yK F cp.zi),.bool cp.zy] 96)
   have s15:=Z7 w8 96 (.int .i64 cp.m) (.int .i64 cp.pc) (.slice at8 cp.zh.length kt8) (.slice as8 cp.zf.length ks8) (.int .i64 (yK F cp.zi)) (.bool cp.zy)
   have B15:=hb8.trans (N15.mono hz8)
   have zfa:=yd.below B15
   have hz15:(w8.alloc (.cells #[.int .i64 cp.m,.int .i64 cp.pc,.slice at8 cp.zh.length kt8,.slice as8 cp.zf.length ks8,.int .i64 (yK F cp.zi),.bool cp.zy] 96)).heap.size=w8.heap.size+1:=by simp
   go_wp2_with (at_builtin;refine zah _ (by rfl) _ _ (by rfl) w.heap.size _ L (j1 F cp,Value.slice at8 cp.zh.length kt8,Value.slice as8 cp.zf.length ks8) (by rfl) w8.heap.size 1 (by rfl) zfa rfl rfl (zdq s15) hLb (by omega) ?_;intro v16 w16 hrow16 zdP zgx)
   have hz16:=zdP.size
   have hbl:∀q,q<wr.heap.size->(Value.slice ao L.length co).ownBlock≠some q->w16.heap[q]?=wr.heap[q]?:=fun q h1 h2=>(zdP.block q (by omega) (fun e=>h2 e.symm)).trans (B15.block q h1)
   have hvn:∀q,v16.ownBlock=some q->(Value.slice ao L.length co).ownBlock=some q\/w8.heap.size+1<=q:=fun q e=>by
    rcases zgx with h1 | h1
    ·exact .inl (by rw[<-h1];exact e)
    ·exact .inr (by rw[h1] at e;simp at e;omega)
   have L16:zO W1 w16:=(hL2.trans (B15.mono hL2.size)).grown zdP (by have:=hL2.size;omega) (fun q e=>HON.out q e)
   have hon16:∀q,v16.ownBlock=some q->W1.heap.size<=q:=fun q e=>by
    rcases hvn q e with h1 | h1
    ·exact HON.out q h1
    ·have:=hL2.size;omega
   have P16:zl w.heap.size w16 (.slice at8 cp.zh.length kt8) (cp.zh.map (XN F)):=((ht8.below N15).kept hz16 fun q e=>zdP.block q (by have:=(ht8.lt q e).2;omega) (fun e2=>by have h1:=(ht8.lt q e).1;have h2:=(yd.lt q e2.symm).2;omega)).mono (by omega)
   have Q16:zl w.heap.size w16 (.slice as8 cp.zf.length ks8) (cp.zf.map (XN F)):=((hs8.below N15).kept hz16 fun q e=>zdP.block q (by have:=(hs8.lt q e).2;omega) (fun e2=>by have h1:=(hs8.lt q e).1;have h2:=(yd.lt q e2.symm).2;omega)).mono (by omega)
   have hls16:Hid (∀j,(hj:j<(L ++ [(j1 F cp,Value.slice at8 cp.zh.length kt8,Value.slice as8 cp.zf.length ks8)]).length)->zl w.heap.size w16 (L ++ [(j1 F cp,Value.slice at8 cp.zh.length kt8,Value.slice as8 cp.zf.length ks8)])[j].2.1 (L ++ [(j1 F cp,Value.slice at8 cp.zh.length kt8,Value.slice as8 cp.zf.length ks8)])[j].1.zh/\zl w.heap.size w16 (L ++ [(j1 F cp,Value.slice at8 cp.zh.length kt8,Value.slice as8 cp.zf.length ks8)])[j].2.2 (L ++ [(j1 F cp,Value.slice at8 cp.zh.length kt8,Value.slice as8 cp.zf.length ks8)])[j].1.zf):=fun j hj=>by
    by_cases e:j<L.length
    ·rw[List.getElem_append_left e]
     obtain⟨p1,p2⟩:=HLS.out j e
     have a0:=HAP.out (j * 2) (by omega)
     have a1:=HAP.out (j * 2+1) (by omega)
     have hget:L.getD j (Cl.none,zQ,zQ)=L[j]:=by simp[e]
     rw[zaV,hget] at a0
     rw[zaW,hget] at a1
     exact⟨p1.kept (by omega) fun q h1=>hbl q (p1.lt q h1).2 (a0 q h1).1,p2.kept (by omega) fun q h1=>hbl q (p2.lt q h1).2 (a1 q h1).1⟩
    ·rw[List.getElem_append_right (by omega)]
     simp only[List.getElem_singleton]
     exact⟨P16,Q16⟩
   have hap16:Hid (XO (L ++ [(j1 F cp,Value.slice at8 cp.zh.length kt8,Value.slice as8 cp.zf.length ks8)]) v16):=zbM (S:=wr.heap.size) (S':=w8.heap.size+1) HAP.out HLT.out (fun g e=>⟨(ht8.lt g e).1,by have:=(ht8.lt g e).2;omega⟩) (fun g e=>⟨(hs8.lt g e).1,by have:=(hs8.lt g e).2;omega⟩) hap8 (fun g e=>(yd.lt g e).2) hvn (by omega)
   have hmap16:Hid ((L ++ [(j1 F cp,Value.slice at8 cp.zh.length kt8,Value.slice as8 cp.zf.length ks8)]).map (·.1)=(F.take (k+1)).map (fun p=>j1 F (h.ze.getD p Cl.none))):=by
    show _=_
    rw[List.map_append,HMAP.out,<-HMT]
    rfl
   clear hbl zdP zgx hvn zfa s15 P16 Q16 HLS HAP HON HMAP HMT HLT ht8 hs8 hb8 B15 N15 yd hO2 hL2 hct hcs' q0 q1 q2 q3 q4 q5 d1 w0x
   go_wp2
   go_roundg (F.length - (k+1))
   case measure=>omega
   case rel=>exact⟨k+1,_,by omega,rfl,by go_num,hmap16.out,hrow16,hls16.out,hap16.out,L16,hon16⟩
  ·obtain rfl:k=F.length:=by omega
   have hv:=yd.own HLS.out HAP.out
   rw[HMAP.out,List.take_length] at hv
   go_wp2
   go_ret
   exact⟨⟨_,_,rfl,hv⟩,hb⟩
theorem qq.mono {B B':Nat} {w:World} {v:Value} {cs:List Cl} {V:Nat->Value × Value} (h:qq B w v cs V) (hB:B'<=B):qq B' w v cs V:=by
 refine⟨?_,fun i hi=>⟨(h.lists i hi).1.mono hB,(h.lists i hi).2.mono hB⟩,h.apart⟩
 rcases h.row with h0 | ⟨g,off,cap,hv,hg,r⟩
 ·exact .inl h0
 ·exact .inr ⟨g,off,cap,hv,by omega,r⟩
theorem J8 (vc vs:Value) (h:Hp) (w:World) (hh:Zu w vc vs h) (hsh:h.short) (hn:h.ze.length<=61) :
 Calls Tryz.prog 23 #[.agg (j6 vc vs h)] w fun e w'=>(∃v V,e=.returned v/\qq w.heap.size w' v (jq h) V)/\zO w w':=by
 have HH:Hid (Zu w vc vs h):=hh
 have hA:zO w (w.alloc (.cells (j6 vc vs h) 44)):=zR _ _
 have bx:(w.alloc (.cells (j6 vc vs h) 44)).rowIs w.heap.size 44 5 (ZI vc (.int .i64 h.now) (.int .i64 h.born) vs (.int .i64 h.code)):=uP w 44 vc (.int .i64 h.now) (.int .i64 h.born) vs (.int .i64 h.code)
 unfold j6 at *
 obtain⟨ac,kc,hvc⟩:=hh.c.shape
 obtain⟨aD,kD,jG⟩:=hh.s.shape
 subst hvc jG
 clear hh
 go_enter Tryz.func23,Tryz.ntmps23
 go_upto_region 1 with fail
 generalize w.alloc (.cells #[.slice ac h.ze.length kc,.int .i64 h.now,.int .i64 h.born,.slice aD h.zm.length kD,.int .i64 h.code] 44)=W1 at *
 have zA:=hA.size
 obtain⟨⟨x0,x1,x2,x3,x4⟩,xf⟩:=kP bx
 clear xf
 have HO:=za6 _ _ h W1 (HH.out.below hA) hn
 unfold j6 at HO
 go_wp2_with fail
 refine HO.mono ?_
 rintro e w2 ⟨⟨vp,vn,rfl,hV,hps⟩,yE⟩
 obtain⟨ap,kp,qz,_⟩:=hV.p.slice
 obtain⟨an,kn,hvn,_⟩:=hV.n.slice
 rw[uo] at qz
 rw[uT] at hvn
 subst qz hvn
 have N2:=zR w2 (.cells #[.slice ap (found h).length kp,.slice an h.ze.length kn] 108)
 have HOrd:Hid (XR (fun _=>False) W1.heap.size w2.heap.size h.ze.length (found h) (.slice ap (found h).length kp) (.slice an h.ze.length kn) (w2.alloc (.cells #[.slice ap (found h).length kp,.slice an h.ze.length kn] 108))) :=
  ⟨yE.size,kH _ _ _ _,hV.p.below N2,hV.n.below N2,fun e=>by have:=(hV.p.lt _ e).2;omega,fun e=>by have:=(hV.n.lt _ e).2;omega,hV.pn,fun g e=>e.elim⟩
 have B3:zO W1 (w2.alloc (.cells #[.slice ap (found h).length kp,.slice an h.ze.length kn] 108)):=yE.trans (N2.mono yE.size)
 have HPs:Hid (xV h.ze.length (found h)):=hps
 have bx3:=yU B3 bx
 clear x0 x1 x2 x3 x4 HO hV hps yE N2
 obtain⟨⟨x0,x1,x2,x3,x4⟩,xf⟩:=kP bx3
 clear xf bx3 bx
 generalize hF:found h=F at *
 have HF:Hid (found h=F):=hF
 clear hF
 go_upto_region 2 with fail
 generalize w2.alloc (.cells #[.slice ap F.length kp,.slice an h.ze.length kn] 108)=w3 at *
 generalize w2.heap.size=bo at *
 have HVw:=zfS W1.heap.size bo F _ _ _ _ h w3 (HH.out.below (hA.trans (B3.mono zA))) hsh hn HOrd.out HPs.out
 unfold j6 at HVw
 go_wp2_with fail
 refine HVw.mono ?_
 rintro e w4 ⟨⟨v,V,rfl,hv⟩,Za⟩
 have hz:=(hA.trans (B3.mono zA)).size
 go_wp2
 go_ret
 refine⟨⟨v,V,rfl,?_⟩,(hA.trans (B3.mono zA)).trans (Za.mono hz)⟩
 have:jq h=F.map fun p=>j1 F (h.ze.getD p Cl.none):=by rw[<-HF.out];rfl
 rw[this]
 exact hv.mono hz
variable {B:Nat} {w w':World} {bl br:Nat} {vp j9 qa:Value} {C D:Nat->Nat} {T:Nat->Value × Value} {h h':Hp}
theorem zab {P:Program} (w:World) (dT sT ty elem:TypeId) (b o dLen dCap:Nat) (a:Addr) (sLen sCap:Nat) (cs:List Value)
 (hu:P.underlying dT=some (.slice elem)) (hs:(P.info? elem).map (·.size)=some 2) (hn:cs.length=Nat.min sLen dLen * 2)
 (hsrc:∀j v,cs[j]?=some v->w.cell? (a.add j)=some v) (hc:∀j,j<cs.length->(w.cell? (zH b (o+j))).isSome=true) (hf:∀j,j<cs.length->w.frozen? (zH b (o+j))=false) (h1:∀v∈cs,v.oneCell'=true) :
 (Builtin.copy_ #[dT,sT] ty #[zK b o dLen dCap,.slice (some a) sLen sCap]).run P w=.ok (goInt (Nat.min sLen dLen)) (w.setCells b o cs):=by
 have hl:=run_loadCells_list (P:=P) w a cs hsrc
 have hst:=run_storeCells_cells (P:=P) b o cs 0 w (by simpa using hc) (by simpa using hf) h1
 cases hq:P.info? elem with
 | none=>simp[hq] at hs
 | some i =>
  have hi:i.size=2:=by simpa [hq] using hs
  simp[Builtin.copy_,run_underlying hu,Builtin.lenOf,Builtin.firstCells,sizeOf,typeInfo,hq,hi,<-hn,hl,hst]
theorem Un {P:Program} (w:World) (dT sT ty elem:TypeId) (d a:Option Addr) (dLen dCap sLen sCap:Nat) (hu:P.underlying dT=some (.slice elem)) (hs:(P.info? elem).map (·.size)=some 2) (hn:Nat.min sLen dLen=0) :
 (Builtin.copy_ #[dT,sT] ty #[.slice d dLen dCap,.slice a sLen sCap]).run P w=.ok (goInt 0) w:=by
 cases hq:P.info? elem with
 | none=>simp[hq] at hs
 | some i =>
  have hl:∀(x:Addr),(loadCells x 0).run P w=.ok #[] w:=fun x=>by simpa using run_loadCells_list (P:=P) w x [] (by simp)
  cases d <;> cases a <;> simp[Builtin.copy_,run_underlying hu,Builtin.lenOf,Builtin.firstCells,sizeOf,typeInfo,hq,hn,storeCells,hl]
theorem zl.over {B g n cap:Nat}:∀(ys pre zs:yH) {w:World},zl B w (zK g 0 n cap) (pre ++ zs)->ys.length<=zs.length->zl B (w.setCells g (pre.length * 2) (ja ys)) (zK g 0 n cap) (pre ++ ys ++ zs.drop ys.length)
 | [],pre,zs,_,h,_=>by simpa [ja,World.setCells] using h
 | (x,y) :: t,pre,zs,w,h,hl=>by
  obtain⟨z,zs',rfl⟩:∃z zs',zs=z :: zs':=by
   cases zs with
   | nil=>simp at hl
   | cons z zs'=>exact⟨z,zs',rfl⟩
  have h1:=h.set pre.length (by simp) x y
  have e:(pre ++ z :: zs').set pre.length (x,y)=(pre ++ [(x,y)]) ++ zs':=by simp
  rw[e] at h1
  have h2:=zl.over t (pre ++ [(x,y)]) zs' h1 (by simpa using hl)
  simp only[Nat.zero_add] at h2
  have e2:(pre ++ [(x,y)]).length * 2=pre.length * 2+1+1:=by simp;omega
  rw[e2] at h2
  have e3:pre ++ (x,y) :: t ++ (z :: zs').drop ((x,y) :: t).length=pre ++ [(x,y)] ++ t ++ zs'.drop t.length:=by simp
  rw[e3]
  have e4:ja ((x,y) :: t)=zI x :: zI y :: ja t:=by simp[ja]
  rw[e4]
  exact h2
theorem YW (b:Nat):∀(vs:List Value) (o:Nat) (w:World),(w.setCells b o vs).heap.size=w.heap.size
 | [],_,_=>rfl
 | v :: r,o,w=>by rw[World.setCells,YW b r];simp[World.setCell]
theorem Ym (b:Nat) {q:Nat} (hq:q≠b):∀(vs:List Value) (o:Nat) (w:World),(w.setCells b o vs).heap[q]?=w.heap[q]?
 | [],_,_=>rfl
 | v :: r,o,w=>by rw[World.setCells,Ym b hq r];exact Below.heap_setCell _ _ _ _ hq
theorem Yn {B b:Nat} {w:World}:∀(vs:List Value) (o:Nat) {W:World},Below B w W->B<=b->Below B w (W.setCells b o vs)
 | [],_,_,h,_=>h
 | v :: vs,o,_,h,hB=>Yn vs (o+1) (h.setCell (p:=zH b o) hB v) hB
theorem zdu {B:Nat} (W:World) (vt:Value) (args:yH) (hM:yi W vt args) (g nt:Nat) (yd:zl B W (zK g 0 nt nt) (List.replicate nt (0,0))) (hn:args.length<=nt) :
 ∃W',(Builtin.copy_ #[32,32] 3 #[zK g 0 nt nt,vt]).run Tryz.prog W=.ok (goInt args.length) W'/\zl B W' (zK g 0 nt nt) (args ++ List.replicate (nt - args.length) (0,0))/\W'.heap.size=W.heap.size/\(∀q,q≠g->W'.heap[q]?=W.heap[q]?)/\∀{B':Nat} {w:World},Below B' w W->B'<=g->Below B' w W':=by
 obtain⟨i0,hi,jM,xP,vJ⟩:=info_parts Tryz.infoVal
 have hs:(Tryz.prog.info? 86).map (·.size)=some 2:=by rw[hi];simp[xP]
 obtain⟨a,cap,rfl,hlm,hc⟩:=hM
 by_cases h0:args.length=0
 ·have e:args=[]:=List.eq_nil_of_length_eq_zero h0
  subst e
  refine⟨W,Un W _ _ _ _ _ _ _ _ _ _ Tryz.underlying32 hs (by simp),by simpa using yd,rfl,fun _ _=>rfl,fun h _=>h⟩
 obtain⟨b,o,rfl,_⟩:=hc 0 (by omega)
 have hc2:∀i,(hi:i<args.length)->W.cell? (zH b (o+i * 2))=some (.int .i64 args[i].1)/\W.cell? (zH b (o+i * 2+1))=some (.int .i64 args[i].2):=fun i hi=>by
  obtain⟨b',o',Kv,q0,q1⟩:=hc i hi
  obtain⟨rfl,rfl⟩:b=b'/\o=o':=by injection Kv with e;injection e with e1 e2;exact⟨e1,e2⟩
  exact⟨q0,q1⟩
 have hmin:Nat.min args.length nt=args.length:=Nat.min_eq_left hn
 have hsp:∀j,j<nt * 2->(W.cell? (zH g (0+j))).isSome=true/\W.frozen? (zH g (0+j))=false:=by
  rcases yd with⟨q,_⟩ | ⟨g',off',cap',hv,_,_,_,_,hsp,_⟩
  ·cases q
  ·injection hv with e1 e2 e3
   injection e1 with e1
   injection e1 with e1 e4 _
   subst e1 e3 e4
   exact hsp
 have hr:=zab (P:=Tryz.prog) W 32 32 3 86 g 0 nt nt ⟨b,o,none⟩ args.length cap (ja args) Tryz.underlying32 hs (by rw[xD,hmin]) (fun j v hv=>by
  have hj:j<(ja args).length:=(List.getElem?_eq_some_iff.1 hv).1
  rw[xD] at hj
  rw[Addr.add_lit]
  have hj2:j / 2<args.length:=by omega
  have hj3:j / 2 * 2<=j/\j<j / 2 * 2+2:=by omega
  have hp:=Qn args (j / 2) hj2
  have hq:=hc2 (j / 2) hj2
  generalize j / 2=i at *
  by_cases e:j=i * 2
  ·subst e
   rw[hp.1] at hv
   rw[<-hv]
   exact hq.1
  ·obtain rfl:j=i * 2+1:=by omega
   rw[hp.2] at hv
   rw[<-hv]
   exact hq.2)
  (fun j hj=>(hsp j (by rw[xD] at hj;omega)).1) (fun j hj=>(hsp j (by rw[xD] at hj;omega)).2) (Vs args)
 rw[hmin] at hr
 refine⟨_,hr,?_,YW _ _ _ _,fun q hq=>Ym g hq _ _ _,fun hb hB=>Yn _ _ hb hB⟩
 have:=zl.over args [] (List.replicate nt (0,0)) yd (by simpa using hn)
 simpa using this
variable {B:Nat} {w w':World} {bl br:Nat} {vp j9 qa:Value} {C D:Nat->Nat} {T:Nat->Value × Value} {h h':Hp}
end Go.Proofs.YtbjgjjkgfnfejaaGreatDoor
namespace Go.Proofs.YtbjgjjkgfnfejaaGreatDoor
def uZ (L:yw) (h:Hp):Prop:=(L.now=-1/\h.now=-1)\/∃i:Nat,L.now=(i:Int)/\i<L.za.length/\0<qv L i/\h.now=ue L i
def xm (L:yw):Prop:=L.order.Perm ((List.range L.za.length).map fun i:Nat=>(i:Int))
theorem xm.mem {L:yw} (h:xm L) {x:Int}:x∈L.order ↔ ∃i:Nat,x=(i:Int)/\i<L.za.length:=by
 rw[List.Perm.mem_iff h,List.mem_map]
 constructor
 ·rintro⟨i,hi,rfl⟩;exact⟨i,rfl,List.mem_range.1 hi⟩
 ·rintro⟨i,rfl,hi⟩;exact⟨i,List.mem_range.2 hi,rfl⟩
theorem xm.len {L:yw} (h:xm L):L.order.length=L.za.length:=by rw[List.Perm.length_eq h];simp
def us (L:yw) (i:Nat):yw:={L with order:=Xb L.order (L.order.idxOf (i:Int)) (i:Int),now:=(i:Int)}
theorem xE.runOn {I K:Nat} {L:yw} {h:Hp} (s:xE I K L h) (i:Nat):xE I K (us L i) h:=⟨s.fb,s.tb,s.fi,s.ti,s.tf,s.ba,s.se,s.al,s.n,s.c,s.fs,s.ts⟩
theorem zbz {xs:List Int} {i:Int} (h:i∈xs):(Xb xs (xs.idxOf i) i).Perm xs:=by
 have hk:xs.idxOf i<xs.length:=List.idxOf_lt_length_iff.2 h
 have he:xs[xs.idxOf i]=i:=List.getElem_idxOf hk
 unfold Xb
 have h1:xs=xs.take (xs.idxOf i) ++ i :: xs.drop (xs.idxOf i+1):=by
  conv=>lhs;rw[<-List.take_append_drop (xs.idxOf i) xs,List.drop_eq_getElem_cons hk,he]
 refine List.Perm.trans ?_ (List.Perm.of_eq h1.symm)
 rw[List.append_assoc]
 exact List.Perm.append_left _ (List.perm_append_comm.trans (List.Perm.of_eq rfl))
theorem xm.runOn {L:yw} (h:xm L) {i:Nat} (hi:i<L.za.length):xm (us L i):=(zbz (h.mem.2 ⟨i,rfl,hi⟩)).trans h
def xG (L:yw):yw × Nat:=match L.order.find? (fun x=>decide (qv L x.toNat=0)) with
 | some x=>(L,x.toNat)
 | none=>((jI L (L.order.getD 0 0).toNat).1,(L.order.getD 0 0).toNat)
structure Kept (L L':yw):Prop where
 pl:L'.za.length=L.za.length
 bo:L'.zj=L.zj
 ce:L'.cells=L.cells
 tw:qx L.zd L'.zd
theorem Kept.trans {a b c:yw} (h:Kept a b) (k:Kept b c):Kept a c:=⟨k.pl.trans h.pl,k.bo.trans h.bo,k.ce.trans h.ce,h.tw.trans k.tw⟩
theorem jU.kept {L L':yw} (h:jU L L'):Kept L L':=⟨h.pl,h.bo,h.ce,h.tw⟩
theorem zaB {L:yw} {h:Hp} (s:xE 0 0 L h) (ho:xm L) (hp:1<=L.za.length) :
 xE 0 0 (xG L).1 h/\Kept L (xG L).1/\(xG L).1.order=L.order/\∃hi:(xG L).2<(xG L).1.za.length,(xG L).1.za[(xG L).2].zg=[]:=by
 unfold xG
 cases hf:L.order.find? (fun x=>decide (qv L x.toNat=0)) with
 | some x =>
  obtain⟨i,rfl,hi⟩:=ho.mem.1 (List.mem_of_find?_eq_some hf)
  have h0:=List.find?_some hf
  simp only[Int.toNat_natCast,decide_eq_true_eq] at h0
  refine⟨s,⟨rfl,rfl,rfl,qx.refl _⟩,rfl,by simpa using hi,?_⟩
  show L.za[i].zg=[]
  rw[kx hi] at h0
  exact List.eq_nil_of_length_eq_zero h0
 | none =>
  have h0:0<L.order.length:=by rw[ho.len];omega
  have hx:L.order.getD 0 0∈L.order:=by
   rw[List.getD_eq_getElem?_getD,List.getElem?_eq_getElem h0,Option.getD_some]
   exact List.getElem_mem h0
  obtain⟨i,hi',hi⟩:=ho.mem.1 hx
  simp only[hi',Int.toNat_natCast]
  obtain⟨q1,q2,_,_⟩:=zdE s hi
  have Ws:i<(jI L i).1.za.length:=by rw[q2.pl];exact hi
  refine⟨q1,⟨q2.pl,q2.bo,q2.ce,q2.tw⟩,q2.ord,Ws,?_⟩
  have:=q2.gone
  rw[List.getElem?_eq_getElem Ws] at this
  injection this with this
  rw[this]
def jS (L:yw):yw:=us (yL (xG (zC L L.now.toNat (qv L L.now.toNat - 1)).1).1 (xG (zC L L.now.toNat (qv L L.now.toNat - 1)).1).2 (zC L L.now.toNat (qv L L.now.toNat - 1)).2) (xG (zC L L.now.toNat (qv L L.now.toNat - 1)).1).2
theorem vV {L:yw} (i:Nat) (x:Int):Kept L (yL L i x):=⟨by unfold yL;simp,rfl,rfl,qx.refl _⟩
theorem zcE {L:yw} (i:Nat):Kept L (us L i):=⟨rfl,rfl,rfl,qx.refl _⟩
theorem zfP {L:yw} {i:Nat} (hi:i<L.za.length) (x:Int):qv (yL L i x) i=0/\ue (yL L i x) i=Ya L.zd x:=by
 have hl:i<(yL L i x).za.length:=by unfold yL;simp;exact hi
 have e:(yL L i x).za[i]?=some ⟨x,[]⟩:=List.getElem?_set_self hi
 have h0:qv (yL L i x) i=0:=by
  unfold qv
  rw[List.getD_eq_getElem?_getD,e]
  rfl
 refine⟨h0,?_⟩
 rw[vL,h0]
 show Ya L.zd ((((yL L i x).za[i]?).map fun p:ws=>p.base).getD (-1))=_
 rw[e]
 rfl
theorem Vl {L:yw} {h:Hp} (s:xE 0 0 L h) (ho:xm L) {i:Nat} (hn:L.now=(i:Int)) (hi:i<L.za.length) (hf:0<qv L i) :
 xE 0 0 (jS L) h/\Kept L (jS L)/\xm (jS L)/\∃p:Nat,(jS L).now=(p:Int)/\p<(jS L).za.length/\qv (jS L) p=0/\ue (jS L) p=ue L i:=by
 unfold jS
 rw[hn,Int.toNat_natCast]
 obtain⟨f,hfr⟩:=vB (L:=L) (i:=i) (k:=qv L i - 1) (by omega)
 obtain⟨s1,l1,j,sx,e1,e2,e3⟩:=vN s hfr (yv _ _)
 have o1:xm (zC L i (qv L i - 1)).1:=by unfold xm;rw[l1.ord,l1.pl];exact ho
 obtain⟨s2,k2,q2,hp,he⟩:=zaB s1 o1 (by rw[l1.pl];omega)
 have o2:xm (xG (zC L i (qv L i - 1)).1).1:=by unfold xm;rw[q2,k2.pl];exact o1
 generalize hR:xG (zC L i (qv L i - 1)).1=R at *
 generalize hT:zC L i (qv L i - 1)=T at *
 rw[e1]
 have hjl:ui R.1.zd.length (j:Int):=.inr ⟨j,rfl,by have:=(List.getElem?_eq_some_iff.1 e2).1;have:=k2.tw.le;omega⟩
 have s3:=s2.base hp he hjl
 have hpl:R.2<(yL R.1 R.2 (j:Int)).za.length:=by rw[(vV _ _).pl];exact hp
 have o3:xm (yL R.1 R.2 (j:Int)):=by unfold xm;rw[(vV _ _).pl];exact o2
 obtain⟨t0,t1⟩:=zfP hp (j:Int)
 refine⟨s3.runOn _,((l1.kept.trans k2).trans (vV _ _)).trans (zcE _),o3.runOn hpl,R.2,rfl,hpl,t0,?_⟩
 refine Eq.trans (show ue (us (yL R.1 R.2 (j:Int)) R.2) R.2=ue (yL R.1 R.2 (j:Int)) R.2 from rfl) (t1.trans ?_)
 obtain⟨t',a1,a2⟩:=k2.tw.eq j _ e2
 rw[zcM a1,a2,vL]
 show(f.body:Int)=qE L i (qv L i)
 obtain⟨m,hm⟩:∃m,qv L i=m+1:=⟨qv L i - 1,by omega⟩
 rw[hm] at hfr ⊢
 rw[Nat.add_sub_cancel] at hfr
 show _=((L.fr i m).map fun f:jV=>(f.body:Int)).getD (-1)
 rw[hfr]
 rfl
def xF (n:Nat):Int:=4+(n:Int)+6
def ub (L:yw) (i:Nat):Int:=L.cells - ((L.za.getD i ⟨-1,[]⟩).zg.map fun f:jV=>xF (L.zj.getD f.body jg.none).zh.length).sum
def Zz (L:yw) (b:jg):yw:=uR (if ub L L.now.toNat<xF b.zh.length then jS L else L) (if ub L L.now.toNat<xF b.zh.length then jS L else L).now.toNat b
theorem zge {L:yw} {i:Nat} (hi:i<L.za.length) (b:jg):(uR L i b).za.length=L.za.length/\0<qv (uR L i b) i/\ue (uR L i b) i=(L.zj.length:Int):=by
 have hg:L.za.getD i ⟨-1,[]⟩=L.za[i]:=by simp[hi]
 have e:(uR L i b).za[i]?=some ⟨L.za[i].base,L.za[i].zg ++ [⟨L.zj.length,-1⟩]⟩:=by
  show(L.za.set i _)[i]?=_
  rw[List.getElem?_set_self hi,hg]
 have hn:qv (uR L i b) i=L.za[i].zg.length+1:=by
  unfold qv
  rw[List.getD_eq_getElem?_getD,e]
  simp
 refine⟨by unfold uR;simp,by omega,?_⟩
 rw[vL,hn]
 show(((uR L i b).fr i L.za[i].zg.length).map fun f:jV=>(f.body:Int)).getD (-1)=_
 unfold yw.fr
 rw[e]
 simp
theorem zdx {L:yw} {h:Hp} (s:xE 0 0 L h) (ho:xm L) (hw:uZ L h) (h0:0<=h.now) {b:jg} {c:Cl} (ha:Yy L.zd b c) (hd:b.zy=false) (hs:c.zi=h.now) (born code:Int) (zm:yH) :
 xE 0 0 (Zz L b) ⟨h.ze ++ [c],(h.ze.length:Int),born,zm,code⟩/\xm (Zz L b)/\uZ (Zz L b) ⟨h.ze ++ [c],(h.ze.length:Int),born,zm,code⟩/\qx L.zd (Zz L b).zd/\(Zz L b).zj=L.zj ++ [b]/\(Zz L b).cells=L.cells/\(Zz L b).za.length=L.za.length:=by
 rcases hw with⟨_,e⟩ | ⟨i,hn,hi,hf,ht⟩
 ·omega
 have key:∀(L1:yw),xE 0 0 L1 h->Kept L L1->xm L1->(∃p:Nat,L1.now=(p:Int)/\p<L1.za.length/\ue L1 p=h.now) ->
  xE 0 0 (uR L1 L1.now.toNat b) ⟨h.ze ++ [c],(h.ze.length:Int),born,zm,code⟩/\xm (uR L1 L1.now.toNat b)/\uZ (uR L1 L1.now.toNat b) ⟨h.ze ++ [c],(h.ze.length:Int),born,zm,code⟩/\qx L.zd (uR L1 L1.now.toNat b).zd/\(uR L1 L1.now.toNat b).zj=L.zj ++ [b]/\(uR L1 L1.now.toNat b).cells=L.cells/\(uR L1 L1.now.toNat b).za.length=L.za.length:=by
  rintro L1 s1 k1 o1 ⟨p,e1,hp,e2⟩
  rw[e1,Int.toNat_natCast]
  obtain⟨n1,n2,n3⟩:=zge hp b
  refine⟨s1.new hp (ha.ext k1.tw) hd (by rw[hs,e2]) _ _ _ _,?_,.inr ⟨p,e1,by rw[n1];exact hp,n2,?_⟩,k1.tw,by show L1.zj ++ [b]=_;rw[k1.bo],k1.ce,n1.trans k1.pl⟩
  ·show L1.order.Perm _
   rw[n1]
   exact o1
  ·show(h.ze.length:Int)=_
   rw[n3,s1.n]
 unfold Zz
 split
 ·obtain⟨s1,k1,o1,p,e1,hp,_,e2⟩:=Vl s ho hn hi hf
  exact key _ s1 k1 o1 ⟨p,e1,hp,by rw[e2,<-ht]⟩
 ·exact key _ s ⟨rfl,rfl,rfl,qx.refl _⟩ ho ⟨i,hn,hi,ht.symm⟩
def xh (L:yw) (i:Nat):yw :=
 if yu L i=-1 then {yL L i (-1) with now:=-1}
 else match (yL L i (-1)).zd[(yu L i).toNat]? with
  | some t=>if t.page=-1 then us (Kh (yL L i (-1)) i (yu L i).toNat t) i else us (yL L i (-1)) t.page.toNat
  | none=>L
def qp (L:yw):yw:=match (L.za.getD L.now.toNat ⟨-1,[]⟩).zg.getLast? with
 | some f=>if qv (xn L L.now.toNat f (L.zj.getD f.body jg.none)) L.now.toNat=0 then xh (xn L L.now.toNat f (L.zj.getD f.body jg.none)) L.now.toNat else xn L L.now.toNat f (L.zj.getD f.body jg.none)
 | none=>L
theorem UT {L:yw} {h:Hp} (s:xE 0 0 L h) {i:Nat} (hi:i<L.za.length) {f:jV} (xp:L.za[i].zg.getLast?=some f) (b:jg) :
 (xn L i f b).za.length=L.za.length/\qv (xn L i f b) i+1=qv L i/\yu (xn L i f b) i=yu L i/\qx L.zd (xn L i f b).zd/\qE (xn L i f b) i (qv (xn L i f b) i)=qE L i (qv L i - 1)/\L.fr i (qv L i - 1)=some f/\ue L i=(f.body:Int):=by
 have hg:L.za.getD i ⟨-1,[]⟩=L.za[i]:=by simp[hi]
 have hn:=kx hi
 have hpos:0<L.za[i].zg.length:=by
  cases e:L.za[i].zg with
  | nil=>rw[e] at xp;cases xp
  | cons x l=>simp
 have e1:(xn L i f b).za[i]?=some ⟨L.za[i].base,L.za[i].zg.dropLast⟩:=by
  show(L.za.set i _)[i]?=_
  rw[List.getElem?_set_self hi,hg]
 have hnf:qv (xn L i f b) i=L.za[i].zg.length - 1:=by
  unfold qv
  rw[List.getD_eq_getElem?_getD,e1]
  simp
 have hlast:L.fr i (qv L i - 1)=some f:=by
  unfold yw.fr
  rw[List.getElem?_eq_getElem hi,hn]
  show L.za[i].zg[_]?=some f
  rw[<-List.getLast?_eq_getElem?]
  exact xp
 have hE:qx L.zd (xn L i f b).zd:=by
  show qx L.zd (if f.twin=-1 then L.zd else L.zd.set f.twin.toNat ⟨-1,0,f.body,-1⟩)
  rcases(s.fb i _ f hlast (yv _ _)).2 with e | ⟨j,sx,q1,q2⟩
  ·rw[if_pos e];exact qx.refl _
  ·rw[if_neg (by omega),q1,Int.toNat_natCast]
   exact qx.set _ _ _ _ q2 rfl
 have hbs:yu (xn L i f b) i=yu L i:=by
  unfold yu
  rw[e1,List.getElem?_eq_getElem hi]
  rfl
 refine⟨by unfold xn;simp,by omega,hbs,hE,?_,hlast,?_⟩
 ·rw[show qv L i - 1=qv (xn L i f b) i by omega]
  refine j5 (L:=L) (L':=xn L i f b) hE s.ba (fun _=>?_) fun q e=>?_
  ·rw[e1,List.getElem?_eq_getElem hi]
   rfl
  ·unfold yw.fr
   rw[e1,List.getElem?_eq_getElem hi]
   show(L.za[i].zg.dropLast[q]?).map _=(L.za[i].zg[q]?).map _
   rw[List.dropLast_eq_take,List.getElem?_take_of_lt (by omega)]
 ·obtain⟨m,hm⟩:∃m,qv L i=m+1:=⟨qv L i - 1,by omega⟩
  rw[vL,hm]
  rw[hm,Nat.add_sub_cancel] at hlast
  show((L.fr i m).map fun f:jV=>(f.body:Int)).getD (-1)=_
  rw[hlast]
  rfl
theorem Jd {L:yw} {h:Hp} (s:xE 0 0 L h) (ho:xm L) {i:Nat} (hn:L.now=(i:Int)) (hi:i<L.za.length) (hf:0<qv L i) (ht:h.now=ue L i) (hW:0<=(yo h).now->∃l,xj (yo h).ze (yo h).now l) :
 xE 0 0 (qp L) (yo h)/\xm (qp L)/\uZ (qp L) (yo h)/\qx L.zd (qp L).zd/\(qp L).za.length=L.za.length/\(qp L).zj.length=L.zj.length/\(qp L).cells=L.cells:=by
 have hg:L.za.getD i ⟨-1,[]⟩=L.za[i]:=by simp[hi]
 obtain⟨f,hlf⟩:∃f,L.za[i].zg.getLast?=some f:=by
  cases e:L.za[i].zg with
  | nil=>rw[kx hi,e] at hf;cases hf
  | cons x l=>exact⟨_,List.getLast?_eq_some_getLast (by simp)⟩
 obtain⟨p1,p2,p3,p4,p5,p6,p7⟩:=UT s hi hlf (L.zj.getD f.body jg.none)
 have hbl:=(s.fb i _ f p6 (yv _ _)).1
 have hb:L.zj[f.body]?=some (L.zj.getD f.body jg.none):=by simp[hbl]
 obtain⟨c,hc,hac⟩:=s.c f.body _ hb
 have YK:h.now.toNat=f.body:=by rw[ht,p7];simp
 have YJ:qm h=c:=by unfold qm;rw[YK,List.getD_eq_getElem?_getD,hc];rfl
 have hLH:yo h=⟨h.ze.set f.body (u9 c),c.zi,h.born,h.zm,h.code⟩:=by
  unfold yo setH
  rw[YJ,YK]
 have s1:=s.pop hi hlf hb hc c.zi h.born h.code h.zm
 rw[<-hLH] at s1
 have hsd:c.zi=qE L i (qv L i - 1):=s.fs i _ f c p6 (yv _ _) hc
 have hL:qp L=if qv (xn L i f (L.zj.getD f.body jg.none)) i=0 then xh (xn L i f (L.zj.getD f.body jg.none)) i else xn L i f (L.zj.getD f.body jg.none):=by
  unfold qp
  rw[hn,Int.toNat_natCast,hg,hlf]
 generalize hP:xn L i f (L.zj.getD f.body jg.none)=P at *
 have Kv:P.zj.length=L.zj.length:=by rw[<-hP];exact List.length_set
 have hce:P.cells=L.cells:=by rw[<-hP];rfl
 have hPn:P.now=(i:Int):=by rw[<-hP];exact hn
 have hPo:P.order=L.order:=by rw[<-hP];rfl
 have oP:xm P:=by unfold xm;rw[hPo,p1];exact ho
 have hn':(yo h).now=c.zi:=by rw[hLH]
 rw[hL]
 by_cases e0:qv P i=0
 ·rw[if_pos e0]
  have Ws:i<P.za.length:=by rw[p1];exact hi
  have hemp:P.za[i].zg=[]:=by rw[kx Ws] at e0;exact List.eq_nil_of_length_eq_zero e0
  have hsd2:c.zi=Ya P.zd (yu P i):=by
   rw[hsd,<-p5,e0]
   rfl
  have s2:=s1.base Ws hemp (x:=-1) (.inl rfl)
  have k2:=vV (L:=P) i (-1)
  have o2:xm (yL P i (-1)):=by unfold xm;rw[k2.pl];exact oP
  unfold xh
  by_cases qk:yu P i=-1
  ·rw[if_pos qk]
   refine⟨⟨s2.fb,s2.tb,s2.fi,s2.ti,s2.tf,s2.ba,s2.se,s2.al,s2.n,s2.c,s2.fs,s2.ts⟩,o2,.inl ⟨rfl,?_⟩,p4,k2.pl.trans p1,Kv,hce⟩
   rw[hn',hsd2,qk]
   rfl
  ·rw[if_neg qk]
   obtain⟨j,hj,hjl⟩:∃j:Nat,yu P i=(j:Int)/\j<P.zd.length:=by
    have:=s1.ba i _ (List.getElem?_eq_getElem Ws)
    have hbs:yu P i=P.za[i].base:=by unfold yu;rw[List.getElem?_eq_getElem Ws];rfl
    rw[<-hbs] at this
    exact this.resolve_left qk
   have ZT:(yL P i (-1)).zd[j]?=some P.zd[j]:=List.getElem?_eq_getElem hjl
   rw[hj,Int.toNat_natCast,ZT]
   have htw':P.zd[j]?=some P.zd[j]:=List.getElem?_eq_getElem hjl
   have hsd3:c.zi=(P.zd[j].body:Int):=by rw[hsd2,hj,zcM htw']
   obtain⟨l,hWl⟩:=hW (by rw[hn',hsd3];omega)
   rw[hn',hsd3] at hWl
   obtain⟨hal,tl,_,hdead,_⟩:=hWl.head
   have hbd:∀b,(yL P i (-1)).zj[P.zd[j].body]?=some b->b.zy=false:=fun b hb'=>by
    obtain⟨c',e1,e2⟩:=s2.c _ b hb'
    rw[List.getElem?_eq_getElem hal] at e1
    injection e1 with e1
    rw[<-e2.zy,<-e1]
    exact hdead
   show xE 0 0 (if P.zd[j].page=-1 then _ else _) _/\xm (if P.zd[j].page=-1 then _ else _)/\uZ (if P.zd[j].page=-1 then _ else _) _/\qx L.zd (yw.zd (if P.zd[j].page=-1 then _ else _))/\(yw.za (if P.zd[j].page=-1 then _ else _)).length=_/\(yw.zj (if P.zd[j].page=-1 then _ else _)).length=_/\yw.cells (if P.zd[j].page=-1 then _ else _)=_
   by_cases xt:P.zd[j].page=-1
   ·simp only[if_pos xt]
    have hi3:i<(yL P i (-1)).za.length:=by rw[k2.pl];exact Ws
    have he3:(yL P i (-1)).za[i].zg=[]:=by
     have:=(List.getElem?_set_self (l:=P.za) (a:=(⟨-1,[]⟩:ws)) Ws)
     have e:(yL P i (-1)).za[i]?=some ⟨-1,[]⟩:=this
     rw[List.getElem?_eq_getElem hi3] at e
     injection e with e
     rw[e]
    have s3:=s2.on hi3 he3 ZT xt hbd
    have hpl:(Kh (yL P i (-1)) i j P.zd[j]).za.length=P.za.length:=by unfold Kh;simp[k2.pl]
    have o3:xm (Kh (yL P i (-1)) i j P.zd[j]):=by unfold xm;rw[hpl];exact oP
    have e3:(Kh (yL P i (-1)) i j P.zd[j]).za[i]?=some ⟨P.zd[j].zi,[⟨P.zd[j].body,(j:Int)⟩]⟩:=List.getElem?_set_self hi3
    have n3:qv (Kh (yL P i (-1)) i j P.zd[j]) i=1:=by
     unfold qv
     rw[List.getD_eq_getElem?_getD,e3]
     rfl
    refine⟨s3.runOn _,o3.runOn (by rw[hpl];exact Ws),.inr ⟨i,rfl,by show i<(Kh _ _ _ _).za.length;rw[hpl];exact Ws,by show 0<qv (Kh _ _ _ _) i;rw[n3];exact Nat.one_pos,?_⟩,p4.trans (qx.set _ _ _ _ ZT rfl),by show(Kh _ _ _ _).za.length=_;rw[hpl,p1],Kv,hce⟩
    rw[hn',hsd3]
    show _=ue (Kh (yL P i (-1)) i j P.zd[j]) i
    rw[vL,n3]
    show _=(((Kh (yL P i (-1)) i j P.zd[j]).fr i 0).map fun f:jV=>(f.body:Int)).getD (-1)
    unfold yw.fr
    rw[e3]
    rfl
   ·simp only[if_neg xt]
    rcases(s2.tb j _ ZT).2 with e | ⟨q,at',g,g1,_,g3,g4,g5,g6⟩
    ·exact absurd e xt
    ·rw[g5,Int.toNat_natCast]
     obtain⟨l1,l2⟩:=zc6 g1
     have hat:qv (yL P i (-1)) q=at'+1:=by
      rcases Nat.lt_or_ge (at'+1) (qv (yL P i (-1)) q) with yt | hge
      ·obtain⟨g',hg'⟩:=vB yt
       have hgb:=(s2.fb q _ g' hg' (yv _ _)).1
       obtain⟨c',hc',hac'⟩:=s2.c g'.body _ (List.getElem?_eq_getElem hgb)
       obtain⟨hk,rfl⟩:=List.getElem?_eq_some_iff.1 hc'
       have hs':=s2.fs q _ g' _ hg' (yv _ _) hc'
       have hd':(yo h).ze[g'.body].zy=false:=by rw[hac'.zy];exact s2.al q _ g' _ hg' (yv _ _) (List.getElem?_eq_getElem hgb)
       refine absurd ?_ (hWl.noCaller hk hd' (by omega))
       rw[hs']
       show(((yL P i (-1)).fr q at').map fun f:jV=>(f.body:Int)).getD (-1)=_
       rw[g1,<-g4]
       rfl
      ·omega
     refine⟨s2.runOn _,o2.runOn l1,.inr ⟨q,rfl,l1,by show 0<qv (yL P i (-1)) q;omega,?_⟩,p4,k2.pl.trans p1,Kv,hce⟩
     rw[hn',hsd3]
     show _=ue (yL P i (-1)) q
     rw[vL,hat]
     show _=(((yL P i (-1)).fr q at').map fun f:jV=>(f.body:Int)).getD (-1)
     rw[g1,<-g4]
     rfl
 ·rw[if_neg e0]
  refine⟨s1,oP,.inr ⟨i,hPn,by rw[p1];exact hi,by omega,?_⟩,p4,p1,Kv,hce⟩
  rw[hn',hsd,vL,p5]
def kN:Nat->yw->Nat->yw
 | 0,L,_=>L
 | n+1,L,b=>if ue L L.now.toNat=(b:Int) then L else kN n (qp L) b
theorem zak:∀(n:Nat) (L:yw) (h:Hp) (b:Nat) (l:List Nat),xE 0 0 L h->xm L->uZ L h->xj h.ze h.now l->b∈l->l.length<=n ->
 xE 0 0 (kN n L b) (qo n h b)/\xm (kN n L b)/\uZ (kN n L b) (qo n h b)/\qx L.zd (kN n L b).zd/\(kN n L b).za.length=L.za.length/\(kN n L b).zj.length=L.zj.length/\(kN n L b).cells=L.cells
 | 0,L,h,b,l,_,_,_,_,hb,hl=>by
  cases l with
  | nil=>cases hb
  | cons x l=>simp at hl
 | n+1,L,h,b,l,s,ho,hw,hW,hb,hl=>by
  rcases hw with⟨_,e⟩ | ⟨i,hn,hi,hf,ht⟩
  ·obtain⟨f,hf⟩:=hW.ch
   rw[e,yN (by omega)] at hf
   cases hf
   cases hb
  ·have hLb:kN (n+1) L b=if ue L i=(b:Int) then L else kN n (qp L) b:=by
    show(if ue L L.now.toNat=(b:Int) then L else kN n (qp L) b)=_
    rw[hn,Int.toNat_natCast]
   have hHb:qo (n+1) h b=if h.now=(b:Int) then h else qo n (yo h) b:=rfl
   rw[hLb,hHb,<-ht]
   by_cases e:h.now=(b:Int)
   ·rw[if_pos e,if_pos e]
    exact⟨s,ho,.inr ⟨i,hn,hi,hf,ht⟩,qx.refl _,rfl,rfl,rfl⟩
   ·rw[if_neg e,if_neg e]
    obtain⟨j,hj⟩:∃j:Nat,h.now=(j:Int):=by
     have hp:0<=h.now:=by
      by_cases h0:h.now<0
      ·obtain⟨f,hf⟩:=hW.ch
       rw[yN h0] at hf
       cases hf
       cases hb
      ·omega
     exact⟨h.now.toNat,by omega⟩
    rw[hj] at hW
    obtain⟨hjl,_,_,_,_⟩:=hW.head
    obtain⟨t,rfl,hWt,_⟩:=hW.leave hjl (u9 h.ze[j]) rfl
    have hLH:yo h=⟨h.ze.set j (u9 h.ze[j]),h.ze[j].zi,h.born,h.zm,h.code⟩:=by
     unfold yo setH qm
     rw[hj,Int.toNat_natCast]
     simp[hjl]
    have hbt:b∈t:=by
     rcases List.mem_cons.1 hb with rfl | hbt
     ·exact absurd hj e
     ·exact hbt
    have hW2:xj (yo h).ze (yo h).now t:=by rw[hLH];exact hWt
    obtain⟨s1,o1,w1,x1,y1,z1,c1⟩:=Jd s ho hn hi hf ht fun _=>⟨t,hW2⟩
    obtain⟨s2,o2,w2,x2,y2,z2,c2⟩:=zak n _ _ b t s1 o1 w1 hW2 hbt (by simp at hl;omega)
    exact⟨s2,o2,w2,x1.trans x2,y2.trans y1,z2.trans z1,c2.trans c1⟩
def jz (L:yw) (bs:List jg):yw:={L with zj:=bs}
def Vw (L:yw) (i k:Nat):yw:={L with za:=L.za.set i ⟨(L.za.getD i ⟨-1,[]⟩).base,(L.za.getD i ⟨-1,[]⟩).zg ++ [⟨k,-1⟩]⟩}
theorem JV (L:yw) (bs:List jg) (i k:Nat):zC (jz L bs) i k=(jz (zC L i k).1 bs,(zC L i k).2):=by
 have e:(jz L bs).fr i k=L.fr i k:=rfl
 unfold zC
 rw[e]
 cases L.fr i k with
 | none=>rfl
 | some f =>
  simp only
  split
  ·rfl
  ·rfl
theorem JE (I:Nat):∀(n k:Nat) (below:Int) (L:yw) (bs:List jg),qL I n k below (jz L bs)=(jz (qL I n k below L).1 bs,(qL I n k below L).2)
 | 0,_,_,_,_=>rfl
 | n+1,k,below,L,bs=>by
  have e:(jz L bs).fr I k=L.fr I k:=rfl
  show qL I n (k+1) (zC (jz L bs) I k).2 (vF (zC (jz L bs) I k).1 _ _ below)=_
  rw[JV,e]
  exact JE I n (k+1) _ (vF (zC L I k).1 (zC L I k).2.toNat (((L.fr I k).map fun f:jV=>f.body).getD 0) below) bs
theorem zb0 (L:yw) (I:Nat) (bs:List jg):jI (jz L bs) I=(jz (jI L I).1 bs,(jI L I).2):=by
 show(Zy (qL I (qv L I) 0 (yu L I) (jz L bs)).1 I,(qL I (qv L I) 0 (yu L I) (jz L bs)).2)=_
 rw[JE]
 rfl
theorem zdJ (L:yw) (bs:List jg):xG (jz L bs)=(jz (xG L).1 bs,(xG L).2):=by
 have e:(jz L bs).order.find? (fun x=>decide (qv (jz L bs) x.toNat=0))=L.order.find? (fun x=>decide (qv L x.toNat=0)):=rfl
 have e2:(jz L bs).order=L.order:=rfl
 unfold xG
 rw[e,e2]
 cases L.order.find? (fun x=>decide (qv L x.toNat=0)) with
 | some x=>rfl
 | none =>
  simp only
  rw[zb0]
theorem zd6 (L:yw) (bs:List jg):jS (jz L bs)=jz (jS L) bs:=by
 have e1:(jz L bs).now=L.now:=rfl
 have e2:∀i,qv (jz L bs) i=qv L i:=fun _=>rfl
 unfold jS
 rw[e1,e2,JV]
 simp only
 rw[zdJ]
 rfl
theorem zed {L:yw} {h:Hp} (s:xE 0 0 L h) (b:jg) (i:Nat):ub (jz L (L.zj ++ [b])) i=ub L i:=by
 unfold ub
 show L.cells - (((L.za.getD i ⟨-1,[]⟩).zg).map fun f:jV=>xF ((L.zj ++ [b]).getD f.body jg.none).zh.length).sum=_
 congr 2
 refine List.map_congr_left fun f hf=>?_
 obtain⟨k,hk,e⟩:=List.getElem_of_mem hf
 have hfr:L.fr i k=some f:=by
  by_cases hi:i<L.za.length
  ·have hg:L.za.getD i ⟨-1,[]⟩=L.za[i]:=by simp[hi]
   unfold yw.fr
   rw[List.getElem?_eq_getElem hi]
   show L.za[i].zg[k]?=some f
   simp only[hg] at hk e
   rw[List.getElem?_eq_getElem hk,e]
  ·have hg:L.za.getD i ⟨-1,[]⟩=⟨-1,[]⟩:=by simp[List.getD_eq_getElem?_getD,List.getElem?_eq_none (Nat.le_of_not_lt hi)]
   rw[hg] at hk
   simp at hk
 have hb:=(s.fb i k f hfr (yv _ _)).1
 rw[List.getD_eq_getElem?_getD,List.getD_eq_getElem?_getD,List.getElem?_append_left hb]
theorem zbW {L:yw} {h:Hp} (s:xE 0 0 L h) (ho:xm L) {i:Nat} (hn:L.now=(i:Int)) (hi:i<L.za.length) (hf:0<qv L i) (b:jg) :
 Zz L b=Vw (if ub (jz L (L.zj ++ [b])) i<xF b.zh.length then jS (jz L (L.zj ++ [b])) else jz L (L.zj ++ [b])) (if ub (jz L (L.zj ++ [b])) i<xF b.zh.length then jS (jz L (L.zj ++ [b])) else jz L (L.zj ++ [b])).now.toNat L.zj.length:=by
 have ek:=(Vl s ho hn hi hf).2.1.bo
 unfold Zz
 rw[zed s,hn,Int.toNat_natCast,zd6]
 by_cases hr:ub L i<xF b.zh.length
 ·simp only[if_pos hr]
  unfold uR Vw
  rw[ek]
  rfl
 ·simp only[if_neg hr]
  rfl
theorem xE.orph {L:yw} {h:Hp} (s:xE 0 0 L h) {b:jg} {c:Cl} (ha:Yy L.zd b c):xE 0 0 (jz L (L.zj ++ [b])) {h with ze:=h.ze ++ [c]} where
 fb:=fun i k f hf hp=>⟨by have:=(s.fb i k f hf hp).1;show _<(L.zj ++ [b]).length;rw[List.length_append];omega,(s.fb i k f hf hp).2⟩
 tb:=fun j t ht=>⟨by have:=(s.tb j t ht).1;show _<(L.zj ++ [b]).length;rw[List.length_append];omega,(s.tb j t ht).2⟩
 fi:=s.fi
 ti:=s.ti
 tf:=s.tf
 ba:=s.ba
 se:=s.se
 al:=fun i k f x hf hp hx=>by
  have hb:=(s.fb i k f hf hp).1
  have hx':(L.zj ++ [b])[f.body]?=some x:=hx
  rw[List.getElem?_append_left hb] at hx'
  exact s.al i k f x hf hp hx'
 n:=by
  show(h.ze ++ [c]).length=(L.zj ++ [b]).length
  rw[List.length_append,List.length_append,s.n]
  rfl
 c:=fun k x hx=>by
  rcases YZ hx with⟨e1,e2⟩ | ⟨e1,e2⟩
  ·subst e2
   refine⟨c,?_,ha⟩
   show(h.ze ++ [c])[k]?=some c
   rw[e1,<-s.n]
   simp
  ·obtain⟨c',h1,h2⟩:=s.c k x e2
   refine⟨c',?_,h2⟩
   show(h.ze ++ [c])[k]?=some c'
   rw[List.getElem?_append_left (by rw[s.n];exact e1)]
   exact h1
 fs:=fun i k f c' hf hp hc=>by
  have hb:=(s.fb i k f hf hp).1
  have hc':(h.ze ++ [c])[f.body]?=some c':=hc
  rw[List.getElem?_append_left (by rw[s.n];exact hb)] at hc'
  exact s.fs i k f c' hf hp hc'
 ts:=fun j t c' ht h0 hc=>by
  have hb:=(s.tb j t ht).1
  have hc':(h.ze ++ [c])[t.body]?=some c':=hc
  rw[List.getElem?_append_left (by rw[s.n];exact hb)] at hc'
  exact s.ts j t c' ht h0 hc'
def xI (cells:Int) (n:Nat) (ord:List Int) (b:jg):yw:=⟨cells,⟨-1,[⟨0,-1⟩]⟩ :: List.replicate n ⟨-1,[]⟩,ord,0,[],[b]⟩
theorem Y8 {cells:Int} {n:Nat} {ord:List Int} {b:jg} {i k:Nat} {f:jV} (h:(xI cells n ord b).fr i k=some f):i=0/\k=0/\f=⟨0,-1⟩:=by
 unfold yw.fr xI at h
 cases i with
 | zero =>
  cases k with
  | zero=>simp at h;exact⟨rfl,rfl,h.symm⟩
  | succ k=>simp at h
 | succ i =>
  simp only[List.getElem?_cons_succ,List.getElem?_replicate] at h
  split at h <;> simp at h
theorem zek {cells:Int} {n:Nat} {ord:List Int} {b:jg} {c:Cl} (ha:Yy [] b c) (hd:b.zy=false) (hs:c.zi=-1) (born code:Int) (zm:yH) :
 xE 0 0 (xI cells n ord b) ⟨[c],0,born,zm,code⟩/\uZ (xI cells n ord b) ⟨[c],0,born,zm,code⟩:=by
 refine⟨⟨fun i k f hf _=>?_,fun j t ht=>by simp[xI] at ht,fun i k f i' k' f' hf _ hf' _ _=>?_,fun j t j' t' ht=>by simp[xI] at ht,fun i k f j t _ _ ht=>by simp[xI] at ht,fun i p hp=>?_,fun j t ht=>by simp[xI] at ht,fun i k f x hf _ hx=>?_,rfl,fun k x hx=>?_,fun i k f x hf _ hx=>?_,fun j t x ht=>by simp[xI] at ht⟩,?_⟩
 ·obtain⟨_,_,rfl⟩:=Y8 hf
  exact⟨by simp[xI],.inl rfl⟩
 ·obtain⟨rfl,rfl,_⟩:=Y8 hf
  obtain⟨rfl,rfl,_⟩:=Y8 hf'
  exact⟨rfl,rfl⟩
 ·refine .inl ?_
  unfold xI at hp
  cases i with
  | zero=>simp at hp;rw[<-hp]
  | succ i =>
   simp only[List.getElem?_cons_succ,List.getElem?_replicate] at hp
   split at hp
   ·injection hp with hp;rw[<-hp]
   ·cases hp
 ·obtain⟨_,_,rfl⟩:=Y8 hf
  simp[xI] at hx
  rw[<-hx]
  exact hd
 ·cases k with
  | zero =>
   simp[xI] at hx
   subst hx
   exact⟨c,rfl,ha⟩
  | succ k=>simp[xI] at hx
 ·obtain⟨rfl,rfl,rfl⟩:=Y8 hf
  simp at hx
  rw[<-hx,hs]
  rfl
 ·exact .inr ⟨0,rfl,by simp[xI],by simp[qv,xI],rfl⟩
end Go.Proofs.YtbjgjjkgfnfejaaGreatDoor

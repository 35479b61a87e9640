/-
  slices.Repeat of the one number -1, at most 31 times, as the program calls it: a row of its own.
-/
import Derived.Deep.RegionLaw
import Derived.Test.YtjbgpcileapogaaGreatMOk5
namespace Go.Proofs.YtjbgpcileapogaaGreat
open Go.RowKit
set_option maxRecDepth 100000 in
set_option maxHeartbeats 4000000 in
theorem za9 (n:Nat) (h:n<=31) (w:World):Calls Tryz.prog 182 #[.int .u64 1,.int .u64 n] w fun e w'=>e=.returned (.tuple #[.int .u64 0,.int .u64 n])/\w'=w:=by
 have h31:n=0\/n=1\/n=2\/n=3\/n=4\/n=5\/n=6\/n=7\/n=8\/n=9\/n=10\/n=11\/n=12\/n=13\/n=14\/n=15\/n=16\/n=17\/n=18\/n=19\/n=20\/n=21\/n=22\/n=23\/n=24\/n=25\/n=26\/n=27\/n=28\/n=29\/n=30\/n=31:=by omega
 clear h
 rcases h31 with rfl | rfl | rfl | rfl | rfl | rfl | rfl | rfl | rfl | rfl | rfl | rfl | rfl | rfl | rfl | rfl | rfl | rfl | rfl | rfl | rfl | rfl | rfl | rfl | rfl | rfl | rfl | rfl | rfl | rfl | rfl | rfl
 all_goals
  go_enter Tryz.func182,Tryz.ntmps182
  go_wp2
  go_ret2
  exact⟨rfl,rfl⟩
theorem zco (n:Nat) (h:n<=31) (w:World):Calls Tryz.prog 170 #[.int .u64 1,.int .u64 n] w fun e w'=>e=.returned (.tuple #[.int .u64 0,.int .u64 n])/\w'=w:=by
 go_enter Tryz.func170,Tryz.ntmps170
 go_wp2_with (go_at_call 182;refine(za9 n h _).mono ?_;rintro e w' ⟨rfl,hw⟩;obtain rfl:=hw.symm)
 go_ret2
 exact⟨rfl,rfl⟩
def mix (k n:Nat):List Int:=(List.range n).map fun i=>if i<k then -1 else 0
theorem ja (k n:Nat):(mix k n).length=n:=by simp[mix]
theorem JH (k n i:Nat) (h:i<(mix k n).length):(mix k n)[i]=if i<k then -1 else 0:=by simp[mix]
theorem zcm (n:Nat):mix n n=List.replicate n (-1):=by
 refine List.ext_getElem (by simp[mix]) fun i h1 h2=>?_
 rw[JH]
 simp at h2
 simp[h2]
theorem zcn (w:World) (n:Nat) (t:TypeId) (h:n<=1000):zO w.heap.size (w.alloc (.cells (madeCells #[.int .i64 0] n) t)) (.slice (some ⟨w.heap.size,0,none⟩) n n) (mix 0 n):=by
 have hblk:=Go.Deep.blk_alloc_new w (.cells (madeCells #[.int .i64 0] n) t)
 refine .inr ⟨w.heap.size,0,n,by rw[ja],Nat.le_refl _,by simp,by rw[ja];exact Nat.le_refl _,by unfold maxLen;omega,fun j hj=>⟨?_,?_⟩,fun j hj=>?_⟩
 ·rw[cell_of_row _ _ _ _ _ _ hblk]
  simp[madeCells,hj]
 ·unfold World.frozen?;rw[hblk];simp
 ·rw[cell_of_row _ _ _ _ _ _ hblk,JH]
  rw[ja] at hj
  simp[madeCells,hj,Nat.mod_one]
theorem Zz (B g:Nat) (hB:B<=g):∀(vs:List Value) (o:Nat) (W:World),Below B W (W.setCells g o vs):=by
 intro vs
 induction vs with
 | nil=>intro o W;exact zC
 | cons v r ih=>intro o W;rw[World.setCells];exact((Below.refl B W).setCell (p:=⟨g,o,none⟩) hB v).trans (ih _ _)
theorem JI {B g k n m:Nat} {w:World} (h:zO B w (.slice (some ⟨g,0,none⟩) n n) (mix k n)) (hm:k+m<=n):zO B (w.setCells g k (List.replicate m (.int .i64 (-1)))) (.slice (some ⟨g,0,none⟩) n n) (mix (k+m) n):=by
 rcases h with⟨h,_⟩ | ⟨g',off',cap',hv,hB,hg,hl,hc,hsp,hx⟩
 ·cases h
 ·rw[ja] at hv
  cases hv
  have hin:=World.cell?_setCells_in g (List.replicate m (.int .i64 (-1))) k w (fun j hj=>by
   simp at hj
   have:=(hsp (k+j) (by omega)).1
   rwa [Nat.zero_add] at this)
  refine .inr ⟨g,0,n,by rw[ja],hB,by rw[jF];exact hg,by rw[ja];exact Nat.le_refl _,hc,fun j hj=>?_,fun j hj=>?_⟩
  ·rw[World.frozen?_setCells]
   refine⟨?_,(hsp j hj).2⟩
   by_cases hi:k<=j/\j<k+m
   ·have:=hin (j - k) (by simp;omega)
    rw[show k+(j - k)=0+j by omega] at this
    rw[this];rfl
   ·rw[World.cell?_setCells_out g _ _ _ _ (fun _ _=>by simp;omega)]
    exact(hsp j hj).1
  ·rw[JH]
   rw[ja] at hj
   by_cases hi:k<=j/\j<k+m
   ·have:=hin (j - k) (by simp;omega)
    rw[show k+(j - k)=0+j by omega] at this
    rw[this,if_pos hi.2]
    simp
   ·rw[World.cell?_setCells_out g _ _ _ _ (fun _ _=>by simp;omega)]
    have:=hx j (by rw[ja];exact hj)
    rw[this,JH]
    by_cases hk:j<k
    ·rw[if_pos hk,if_pos (by omega)]
    ·rw[if_neg hk,if_neg (by omega)]
theorem Qh {P:Program} {t e ty:TypeId} (ht:P.underlying t=some (.slice e)) (hi:(P.info? e).map (·.size)=some 1) {w:World} {B:Nat} (g k n dl dc m:Nat) (a:Addr) (sl sc:Nat) (zx:zO B w (.slice (some ⟨g,0,none⟩) n n) (mix k n)) (hm:m=Nat.min sl dl) (hk:k+m<=n)
 (hsrc:∀j,j<m->w.cell? (a.add j)=some (.int .i64 (-1))) :
 (Builtin.copy_ #[t,t] ty #[.slice (some ⟨g,k,none⟩) dl dc,.slice (some a) sl sc]).run P w=.ok (goInt m) (w.setCells g k (List.replicate m (.int .i64 (-1)))):=by
 have hsp:∀j,j<m->(w.cell? ⟨g,k+j,none⟩).isSome=true/\w.frozen? ⟨g,k+j,none⟩=false:=by
  rcases zx with⟨hn,_⟩ | ⟨g',off',cap',hv,_,_,_,_,hsp,_⟩
  ·cases hn
  ·rw[ja] at hv
   cases hv
   intro j hj
   have:=hsp (k+j) (by omega)
   rwa [Nat.zero_add] at this
 have hr:=run_copy_cells (P:=P) w t t ty e g k dl dc a sl sc (List.replicate m (.int .i64 (-1))) ht hi (by simpa using hm)
  (fun j v hv=>by
   rw[List.getElem?_replicate] at hv
   split at hv
   ·rename_i hj;rw[hsrc j hj];exact hv
   ·cases hv)
  (fun j hj=>(hsp j (by simpa using hj)).1) (fun j hj=>(hsp j (by simpa using hj)).2) (fun v hv=>by rw[List.mem_replicate] at hv;rw[hv.2];rfl)
 rwa [List.length_replicate] at hr
theorem Wf {P:Program} {t e:TypeId} (ht:P.underlying t=some (.slice e)) (hi:(P.info? e).map (·.size)=some 1) {o:Oper} {act:Act} {w:World} {K:Act->World->Prop} {Q:Exit->Act->World->Prop} (d s:Operand)
 (ho:o.op=.call {callee:=.builtin .copy,args:=#[d,s],argTypes:=#[t,t]}) {B:Nat} (g k n dl dc m:Nat) (a:Addr) (sl sc:Nat) (zx:zO B w (.slice (some ⟨g,0,none⟩) n n) (mix k n)) (hm:m=Nat.min sl dl) (hk:k+m<=n)
 (hsrc:∀j,j<m->w.cell? (a.add j)=some (.int .i64 (-1))) (hd:act.eval d=.slice (some ⟨g,k,none⟩) dl dc) (hs:act.eval s=.slice (some a) sl sc)
 (h:K (act.put o.dst (goInt m)) (w.setCells g k (List.replicate m (.int .i64 (-1))))):o.wp P act w K Q:=by
 have hr:=Qh (P:=P) (ty:=o.type) ht hi g k n dl dc m a sl sc zx hm hk hsrc
 unfold Oper.wp execOp
 simp only[ho,resolve,invoke,builtin,Sem.run_bind,Sem.run_pure,Result.andThen_ok,List.map_toArray,List.map_cons,List.map_nil,hs,hd,hr]
 exact h
theorem Kr {P:Program} {t e:TypeId} (ht:P.underlying t=some (.slice e)) (hi:(P.info? e).map (·.size)=some 1) {ops:Array Oper} {o:Oper} {act:Act} {w:World} {K:Act->World->Prop} {Q:Exit->Act->World->Prop} {E:Prop} (hgd:o.guard=none) (d s:Operand)
 (ho:o.op=.call {callee:=.builtin .copy,args:=#[d,s],argTypes:=#[t,t]}) {B:Nat} (g k n dl dc m:Nat) (a:Addr) (sl sc:Nat) (zx:zO B w (.slice (some ⟨g,0,none⟩) n n) (mix k n)) (hm:m=Nat.min sl dl) (hk:k+m<=n)
 (hsrc:∀j,j<m->w.cell? (a.add j)=some (.int .i64 (-1))) (hd:act.eval d=.slice (some ⟨g,k,none⟩) dl dc) (hs:act.eval s=.slice (some a) sl sc)
 (h:K (act.put o.dst (goInt m)) (w.setCells g k (List.replicate m (.int .i64 (-1))))):if Region.wanted o (yielded ops act.tmps)=true then Oper.wp P o act w K Q else E:=by
 rw[if_pos (by simp[Region.wanted,hgd])]
 exact Wf ht hi d s ho g k n dl dc m a sl sc zx hm hk hsrc hd hs h
theorem zaw (a b:Nat) (h:a+b<=1000000):IntKind.i64.wrap ((a:Int)+(b:Int))=((a+b:Nat):Int):=by
 rw[IntKind.wrap_i64];omega
set_option maxRecDepth 100000 in
set_option maxHeartbeats 1000000 in
theorem zag (w:World) (b n:Nat) (hn:n<=31) (hc:w.cell? ⟨b,0,none⟩=some (.int .i64 (-1))) :
 Calls Tryz.prog 138 #[.slice (some ⟨b,0,none⟩) 1 1,.int .i64 n] w fun e w'=>Below w.heap.size w w'/\∃v,e=.returned v/\zO w.heap.size w' v (List.replicate n (-1)):=by
 have hblt:=World.block_lt_of_cell? _ _ hc
 obtain⟨i0,hi,hz0,hz1,hz2⟩:=info_parts Tryz.infoInt2
 have hsz:Hid ((Tryz.prog.info? 3).map (·.size)=some 1):=by show _=_;rw[hi];simp[hz1]
 have hmk:∀w:World,(Instr.makeSlice 39 (.int .i64 (n:Int)) (.int .i64 (n:Int))).run Tryz.prog w=.ok (.slice (some ⟨w.heap.size,0,none⟩) n n) (w.alloc (.cells (madeCells #[.int .i64 0] n) 3)):=by
  intro w
  have:=run_make (P:=Tryz.prog) w 39 3 i0 _ Tryz.underlying39 hi hz0 .i64 .i64 n n (by omega) (Int.le_refl _) (by rw[hz2];omega) (by omega)
  simpa [hz1,Value.cells] using this
 obtain⟨m,hm⟩:∃m,m=Nat.min 1 n:=⟨_,rfl⟩
 have hm':m<=n/\m<=1/\(0<n->0<m):=by rw[hm];simp only[Nat.min_def];split <;> omega
 have Hm:Hid (m=Nat.min 1 n):=hm
 have zdt:=zcn w n 3 (by omega)
 have hcA:(w.alloc (.cells (madeCells #[.int .i64 0] n) 3)).cell? ⟨b,0,none⟩=some (.int .i64 (-1)):=zc (zB _ _) hc
 have hcB:∀j,j<m->(w.alloc (.cells (madeCells #[.int .i64 0] n) 3)).cell? ((⟨b,0,none⟩:Addr).add j)=some (.int .i64 (-1)):=fun j hj=>by
  obtain rfl:j=0:=by omega
  rw[Addr.add_lit];exact hcA
 have hcp:=Qh (P:=Tryz.prog) (ty:=3) Tryz.underlying39 hsz.out w.heap.size 0 n n n m ⟨b,0,none⟩ 1 1 zdt Hm.out (by omega) hcB
 clear hi hz0 hz1 hz2 hm
 go_enter Tryz.func138,Tryz.ntmps138
 go_wp2_with (go_at_call 170;refine(zco n hn _).mono ?_;rintro e w' ⟨rfl,hw⟩;obtain rfl:=hw.symm)
 clear hmk hcp hcB hcA
 go_loopg [8] (n - m) (fun g i wr=>∃k:Nat,k<=n/\(0<n->0<k)/\g=n - k/\i=.int .i64 k/\Below w.heap.size w wr/\zO w.heap.size wr (.slice (some ⟨w.heap.size,0,none⟩) n n) (mix k n))
 case atStart=>exact⟨m,hm'.1,hm'.2.2,rfl,rfl,(zB _ _).trans (Zz _ _ zD _ _ _),by have:=JI (m:=m) zdt (by omega);rwa [Nat.zero_add] at this⟩
 case round =>
  obtain⟨k,hk,hk0,rfl,rfl,hb,zS⟩:=hrel
  by_cases hlt:k<n
  ·have hkz:(k:Int)<(n:Int):=by omega
   obtain⟨m2,hm2⟩:∃m2,m2=Nat.min k (n - k):=⟨_,rfl⟩
   have hm2':k+m2<=n/\m2<=k/\0<m2:=by rw[hm2];simp only[Nat.min_def];split <;> omega
   have Hm2:Hid (m2=Nat.min k (n - k)):=hm2
   clear hm2
   have hne:¬n=k:=by omega
   have hne':¬k=n:=by omega
   have hsrc:∀j,j<m2->wr.cell? ((⟨w.heap.size,0,none⟩:Addr).add j)=some (.int .i64 (-1)):=fun j hj=>by
    have:=(zS.cell (i:=j) (by rw[ja];omega)).1
    rw[JH,if_pos (by omega)] at this
    rw[Addr.add_lit];exact this
   go_wp2_with fail
   go_region_law (refine Kr Tryz.underlying39 hsz.out (by rfl) (.tmp 41) (.tmp 44) (by rfl) w.heap.size k n (n - k) (n - k) m2 ⟨w.heap.size,0,none⟩ k n zS Hm2.out (by omega) hsrc (by simp[Act.eval,Act.put]) (by simp[Act.eval,Act.put]) ?_)
   go_wp2
   go_roundg (n - (k+m2))
   case measure=>omega
   case rel=>exact⟨k+m2,by omega,fun _=>by omega,rfl,by rw[zaw _ _ (by omega)],hb.drew.trans (Zz _ _ zD _ _ _),JI (w:=wr.drew) zS (by omega)⟩
  ·obtain rfl:k=n:=by omega
   go_wp2
   go_ret
   exact⟨hb,_,rfl,by rw[<-zcm];exact zS⟩
theorem zcJ (n:Nat):XU n []=List.replicate n (-1):=by
 refine List.ext_getElem (by simp[XU]) fun i h1 h2=>?_
 rw[Ql,wF (fun j hj=>absurd hj zF)]
 simp
theorem Qs.re {A A':Nat->Prop} {B bo n:Nat} {ps:List Nat} {vp vn:Value} {w:World} (h:Qs A B bo n ps vp vn w) (hA:∀g,A' g->g≠bo/\g<w.heap.size/\vp.ownBlock≠some g/\vn.ownBlock≠some g):Qs A' B bo n ps vp vn w:=⟨h.le,h.box,h.p,h.n,h.pb,h.nb,h.pn,hA⟩
theorem zcL {w:World} {g:Nat} {t:TypeId} {x0 x1:Value} (h:w.rowIs g t 2 (two x0 x1)) (v:Value):(w.setCell ⟨g,1,none⟩ v).rowIs g t 2 (two x0 v) :=
 (h.set 1 v).congr fun i hi=>by match i,hi with | 0,_=>rfl | 1,_=>rfl
structure OrdV (B n:Nat) (ps:List Nat) (vp vn:Value) (w:World):Prop where
 p:zO B w vp (ug ps)
 n:zO B w vn (XU n ps)
 pn:∀g,vp.ownBlock=some g->vn.ownBlock≠some g
set_option maxRecDepth 100000 in
set_option maxHeartbeats 4000000 in
theorem UP (vc vs:Value) (h:Hp) (w:World) (hh:qa w vc vs h) (hn:h.za.length<=31) :
 Calls Tryz.prog 81 #[.agg (yn vc vs h)] w fun e w'=>(∃vp vn,e=.returned (.agg #[vp,vn])/\OrdV w.heap.size h.za.length (found h) vp vn w'/\jc h.za.length (found h))/\Below w.heap.size w w':=by
 unfold yn
 obtain⟨ac,kc,Yq⟩:=hh.c.shape
 obtain⟨aD,kD,hvs⟩:=hh.s.shape
 subst Yq hvs
 have hA:Below w.heap.size w ((w.alloc (.cells #[.slice ac h.za.length kc,.int .i64 h.now,.int .i64 h.born,.slice aD h.zl.length kD,.int .i64 h.code] 29)).alloc (.cells #[.slice none 0 0,.slice none 0 0] 125)):=(zB _ _).alloc (by simp) _
 have bx:((w.alloc (.cells #[.slice ac h.za.length kc,.int .i64 h.now,.int .i64 h.born,.slice aD h.zl.length kD,.int .i64 h.code] 29)).alloc (.cells #[.slice none 0 0,.slice none 0 0] 125)).rowIs w.heap.size 29 5 (jQ (.slice ac h.za.length kc) (.int .i64 h.now) (.int .i64 h.born) (.slice aD h.zl.length kD) (.int .i64 h.code)):=(qG w 29 (.slice ac h.za.length kc) (.int .i64 h.now) (.int .i64 h.born) (.slice aD h.zl.length kD) (.int .i64 h.code)).alloc _
 have rx:((w.alloc (.cells #[.slice ac h.za.length kc,.int .i64 h.now,.int .i64 h.born,.slice aD h.zl.length kD,.int .i64 h.code] 29)).alloc (.cells #[.slice none 0 0,.slice none 0 0] 125)).rowIs (w.heap.size+1) 125 2 (two (.slice none 0 0) (.slice none 0 0)):=by
  have:=VQ (w.alloc (.cells #[.slice ac h.za.length kc,.int .i64 h.now,.int .i64 h.born,.slice aD h.zl.length kD,.int .i64 h.code] 29)) 125 (.slice none 0 0) (.slice none 0 0)
  simpa using this
 go_enter Tryz.func81,Tryz.ntmps81
 go_upto_region 1 with fail
 generalize (w.alloc (.cells #[.slice ac h.za.length kc,.int .i64 h.now,.int .i64 h.born,.slice aD h.zl.length kD,.int .i64 h.code] 29)).alloc (.cells #[.slice none 0 0,.slice none 0 0] 125)=W1 at *
 have zA:=hA.size
 have yA:=bx.lt
 obtain⟨⟨x0,x1,x2,x3,x4⟩,xf⟩:=zJ bx
 clear xf
 have HF0:Hid (found h=foundF h.za (h.za.length - 0) 0 (xm h.za.length [] h.now)):=rfl
 obtain⟨F,hF⟩:∃F,F=found h:=⟨_,rfl⟩
 have HF:Hid (F=found h):=hF
 rw[<-hF] at HF0
 clear hF
 have N1:=zB W1 (.cells #[.int .i64 (-1)] 3)
 have c1:(W1.alloc (.cells #[.int .i64 (-1)] 3)).cell? ⟨W1.heap.size,0,none⟩=some (.int .i64 (-1)):=by simp[go_sem]
 have x0A:=zc N1 x0
 go_upto_region 2 with(go_at_call 138;refine(zag _ W1.heap.size h.za.length hn c1).mono ?_;rintro e w3 ⟨hb3,v3,rfl,hr3⟩;obtain⟨a3,k3,hv3,_⟩:=hr3.slice;rw[List.length_replicate] at hv3;subst hv3)
 have L3:Below W1.heap.size W1 w3:=N1.trans (hb3.mono N1.size)
 have N3:=zB w3 (.cells #[.slice none 0 0,.slice a3 h.za.length k3] 125)
 have r4:=VQ w3 125 (.slice none 0 0) (.slice a3 h.za.length k3)
 have hr4:=hr3.below N3
 have L4:=L3.trans (N3.mono L3.size)
 have y3:=L3.size
 have z1:=N1.size
 have O4:Qs (fun _=>False) W1.heap.size w3.heap.size h.za.length [] (.slice none 0 0) (.slice a3 h.za.length k3) (w3.alloc (.cells #[.slice none 0 0,.slice a3 h.za.length k3] 125)) :=
  ⟨L3.size,r4,zO.nil _ _,by rw[zcJ];exact hr4.mono z1,fun e=>by simp[Value.ownBlock] at e,fun e=>by have:=(hr3.lt _ e).2;omega,fun g e=>by simp[Value.ownBlock] at e,fun g e=>e.elim⟩
 generalize w3.alloc (.cells #[.slice none 0 0,.slice a3 h.za.length k3] 125)=w4 at *
 generalize w3.heap.size=bo at *
 clear N1 c1 x0A hb3 hr3 hr4 L3 N3 r4
 have bx4:=zz L4 bx
 obtain⟨⟨y0,y1,y2,y3',y4⟩,yf⟩:=zJ bx4
 clear yf
 go_wp2_with fail
 refine(Jh _ W1.heap.size bo _ [] _ _ h.now _ O4 (jc.nil _) (by omega)).mono ?_
 rintro e w5 ⟨rfl,⟨vp5,O5⟩,C5⟩
 have L5:=L4.trans C5.b
 have P5:jc h.za.length (xm h.za.length [] h.now):=(jc.nil _).come _
 clear O4 C5 L4 bx4 y0 y1 y2 y3' y4
 go_wp2
 go_loopg [4] h.za.length (fun g i wr=>∃(j:Nat) (ps:List Nat) (vp:Value),j<=ps.length/\g=h.za.length - j/\i=.int .i64 j/\jc h.za.length ps/\F=foundF h.za (h.za.length - j) j ps/\Qs (fun _=>False) W1.heap.size bo h.za.length ps vp (.slice a3 h.za.length k3) wr/\Below W1.heap.size W1 wr)
 case atStart=>exact⟨0,_,vp5,Nat.zero_le _,rfl,rfl,P5,HF0.out,O5,L5⟩
 case round =>
  obtain⟨j,ps,vp,hj,rfl,rfl,hps,hFF,hO,hL⟩:=hrel
  have HFF:Hid (F=foundF h.za (h.za.length - j) j ps):=hFF
  clear hFF
  have hpl:=hps.len
  obtain⟨ap,cp',hvp,_⟩:=hO.p.slice
  rw[qP] at hvp
  subst hvp
  obtain⟨⟨o0,o1⟩,of0,of1⟩:=kh hO.box
  by_cases hlt:j<ps.length
  ·have hjz:(j:Int)<(ps.length:Int):=by omega
   obtain⟨gp,op,c1',e1,_⟩:=hO.p.form (by rw[qP];omega)
   obtain rfl:ap=some ⟨gp,op,none⟩:=by injection e1
   clear e1
   have d1:=(hO.p.cell (i:=j) (by rw[qP];exact hlt)).1
   rw[zaG] at d1
   have hpj:ps[j]<h.za.length:=hps.lt _ (List.getElem_mem hlt)
   have HST:Hid (F=foundF h.za (h.za.length - (j+1)) (j+1) (comeC h.za.length ps h.za[ps[j]])):=by show F=_;rw[HFF.out,Ui hps hlt hpj]
   generalize ps[j]=p at *
   clear HFF
   obtain⟨b,o,vt,vs',hac,hc⟩:=hh.c.cl hpj
   subst hac
   obtain⟨at',XD,xZ⟩:=hc.t.shape
   obtain⟨as',Ue,hvs⟩:=hc.s.shape
   subst xZ hvs
   have hb:Below w.heap.size w wr:=hA.trans (hL.mono zA)
   have q0:=zc hb hc.c0
   have q1:=zc hb hc.c1
   have q2:=zc hb hc.c2
   have q3:=zc hb hc.c3
   have q4:=zc hb hc.c4
   have q5:=zc hb hc.c5
   have hct:=hc.t
   have hcs':=hc.s
   have w0x:=(zJ (zz hL bx)).1.1
   have hpz:(p:Int)<(h.za.length:Int):=by omega
   have HSZ:Hid (∀f',bo<wr.heap.size/\(Value.slice (some ⟨gp,op,none⟩) ps.length cp').ownBlock≠some (wr.heap.size+f')/\(Value.slice a3 h.za.length k3).ownBlock≠some (wr.heap.size+f')):=fun f'=>⟨hO.box.lt,fun e=>by have:=(hO.p.lt _ e).2;omega,fun e=>by have:=(hO.n.lt _ e).2;omega⟩
   generalize hce:h.za[p]=cp at *
   clear hce hc
   have HS8:∀w',Below wr.heap.size wr w'->(w'.cell? ⟨bo,0,none⟩=some (.slice (some ⟨gp,op,none⟩) ps.length cp')/\w'.cell? ⟨gp,op+j,none⟩=some (.int .i64 (p:Int))/\w'.cell? ⟨w.heap.size,0,none⟩=some (.slice (some ⟨b,o,none⟩) h.za.length kc)/\w'.cell? ⟨b,o+p * 6,none⟩=some (.int .i64 cp.m)/\w'.cell? ⟨b,o+p * 6+1,none⟩=some (.int .i64 cp.pc)/\w'.cell? ⟨b,o+p * 6+2,none⟩=some (.slice at' cp.zg.length XD)/\w'.cell? ⟨b,o+p * 6+3,none⟩=some (.slice as' cp.ze.length Ue)/\w'.cell? ⟨b,o+p * 6+4,none⟩=some (.int .i64 cp.zf)/\w'.cell? ⟨b,o+p * 6+5,none⟩=some (.bool cp.zv)):=fun w' hB=>⟨zc hB o0,zc hB d1,zc hB w0x,zc hB q0,zc hB q1,zc hB q2,zc hB q3,zc hB q4,zc hB q5⟩
   go_wp2_with fail
   go_region_held3 (fun w'=>w'.cell? ⟨bo,0,none⟩=some (.slice (some ⟨gp,op,none⟩) ps.length cp')/\w'.cell? ⟨gp,op+j,none⟩=some (.int .i64 (p:Int))/\w'.cell? ⟨w.heap.size,0,none⟩=some (.slice (some ⟨b,o,none⟩) h.za.length kc)/\w'.cell? ⟨b,o+p * 6,none⟩=some (.int .i64 cp.m)/\w'.cell? ⟨b,o+p * 6+1,none⟩=some (.int .i64 cp.pc)/\w'.cell? ⟨b,o+p * 6+2,none⟩=some (.slice at' cp.zg.length XD)/\w'.cell? ⟨b,o+p * 6+3,none⟩=some (.slice as' cp.ze.length Ue)/\w'.cell? ⟨b,o+p * 6+4,none⟩=some (.int .i64 cp.zf)/\w'.cell? ⟨b,o+p * 6+5,none⟩=some (.bool cp.zv))
    ((refine HS8 _ ?_;first | (with_reducible exact zB _ _) | (with_reducible exact(zB _ _).drew) | (with_reducible exact zC.drew.alloc zD _) | (with_reducible exact zC.drew) | (with_reducible exact Below.refl _ _)))
    (fail)
   have NN:Below wr.heap.size wr (wr.alloc (.cells #[.int .i64 cp.m,.int .i64 cp.pc,.slice at' cp.zg.length XD,.slice as' cp.ze.length Ue,.int .i64 cp.zf,.bool cp.zv] 37)).drew:=(zB wr _).drew
   have r7:(wr.alloc (.cells #[.int .i64 cp.m,.int .i64 cp.pc,.slice at' cp.zg.length XD,.slice as' cp.ze.length Ue,.int .i64 cp.zf,.bool cp.zv] 37)).drew.rowIs wr.heap.size 37 6 (Qi (.int .i64 cp.m) (.int .i64 cp.pc) (.slice at' cp.zg.length XD) (.slice as' cp.ze.length Ue) (.int .i64 cp.zf) (.bool cp.zv)):=jx wr 37 _ _ _ _ _ _
   have O7:Qs (fun g=>g=wr.heap.size) W1.heap.size bo h.za.length ps (.slice (some ⟨gp,op,none⟩) ps.length cp') (.slice a3 h.za.length k3) (wr.alloc (.cells #[.int .i64 cp.m,.int .i64 cp.pc,.slice at' cp.zg.length XD,.slice as' cp.ze.length Ue,.int .i64 cp.zf,.bool cp.zv] 37)).drew:=(hO.below NN).re (fun g e=>by
    subst e
    obtain⟨s1,s2,s3⟩:=HSZ.out 0
    exact⟨by omega,r7.lt,s2,s3⟩)
   have L7:=hL.trans (NN.mono hL.size)
   generalize (wr.alloc (.cells #[.int .i64 cp.m,.int .i64 cp.pc,.slice at' cp.zg.length XD,.slice as' cp.ze.length Ue,.int .i64 cp.zf,.bool cp.zv] 37)).drew=w7 at *
   clear NN HS8 q0 q1 q2 q3 q4 q5 w0x d1 o0 o1 of0 of1 hO hL HSZ hb
   generalize wr.heap.size=cb at *
   obtain⟨⟨x0',Wl,x2',zcO,x4',x5'⟩,xf⟩:=zZ r7
   clear xf
   go_wp2_with fail
   refine(Jh _ W1.heap.size bo _ ps _ _ cp.zf _ O7 hps (by omega)).mono ?_
   rintro e w8 ⟨rfl,⟨vp8,O8⟩,C8⟩
   have r8:=r7.of_block (C8.a cb rfl)
   have L8:=L7.trans C8.b
   have P8:=hps.come cp.zf
   clear O7 C8 L7 r7 x0' Wl x2' zcO x4' x5'
   obtain⟨⟨x0',Wl,x2',zcO,x4',x5'⟩,xf⟩:=zZ r8
   clear xf
   go_wp2_with fail
   refine(Zg _ W1.heap.size bo _ _ _ _ _ cp.zg w _ O8 P8 (by omega) hct (hA.trans (L8.mono zA)) zA).mono ?_
   rintro e w9 ⟨rfl,⟨vp9,O9⟩,C9⟩
   have r9:=r8.of_block (C9.a cb rfl)
   have L9:=L8.trans C9.b
   have P9:=P8.comeV cp.zg
   clear O8 C9 L8 r8 x0' Wl x2' zcO x4' x5'
   obtain⟨⟨x0',Wl,x2',zcO,x4',x5'⟩,xf⟩:=zZ r9
   clear xf
   go_wp2_with fail
   refine(Zg _ W1.heap.size bo _ _ _ _ _ cp.ze w _ O9 P9 (by omega) hcs' (hA.trans (L9.mono zA)) zA).mono ?_
   rintro e qF ⟨rfl,⟨vp10,O10⟩,C10⟩
   have L10:=L9.trans C10.b
   have P10:jc h.za.length (comeC h.za.length ps cp):=P9.comeV cp.ze
   have O10':Qs (fun _=>False) W1.heap.size bo h.za.length (comeC h.za.length ps cp) vp10 (.slice a3 h.za.length k3) qF:=O10.re (fun g e=>e.elim)
   obtain⟨t,htt⟩:=zaV h.za.length ps cp
   have hlen2:Hid (j+1<=(comeC h.za.length ps cp).length):=by show _<=_;rw[htt,List.length_append];omega
   have HST2:Hid (F=foundF h.za (h.za.length - (j+1)) (j+1) (comeC h.za.length ps cp)):=HST.out
   clear htt HST O9 C10 L9 r9 O10 P8 P9 x0' Wl x2' zcO x4' x5'
   go_wp2
   go_roundg (h.za.length - (j+1))
   case measure=>omega
   case rel=>exact⟨j+1,_,vp10,hlen2.out,rfl,by go_num,P10,HST2.out,O10',L10⟩
  ·obtain rfl:j=ps.length:=by omega
   have hE:Hid (F=ps):=by show F=ps;rw[HFF.out,uz _ (by omega)]
   have hFe:=hE.out
   subst hFe
   have HP:Hid (jc h.za.length F):=hps
   have hb:Below w.heap.size w wr:=hA.trans (hL.mono zA)
   have HO:Hid (OrdV w.heap.size h.za.length F (.slice ap F.length cp') (.slice a3 h.za.length k3) wr):=⟨hO.p.mono zA,hO.n.mono zA,hO.pn⟩
   have HFd:Hid (found h=F):=HF.out.symm
   have hlr:=rx.lt
   have HO6:Hid (OrdV w.heap.size h.za.length F (.slice ap F.length cp') (.slice a3 h.za.length k3) ((wr.setCell ⟨w.heap.size+1,0,none⟩ (.slice ap F.length cp')).setCell ⟨w.heap.size+1,1,none⟩ (.slice a3 h.za.length k3))) :=
    ⟨((hO.p.set_other (p:=⟨w.heap.size+1,0,none⟩) _ (fun e=>by have:=(hO.p.lt _ e).1;simp at this;omega)).set_other (p:=⟨w.heap.size+1,1,none⟩) _ (fun e=>by have:=(hO.p.lt _ e).1;simp at this;omega)).mono zA,
     ((hO.n.set_other (p:=⟨w.heap.size+1,0,none⟩) _ (fun e=>by have:=(hO.n.lt _ e).1;simp at this;omega)).set_other (p:=⟨w.heap.size+1,1,none⟩) _ (fun e=>by have:=(hO.n.lt _ e).1;simp at this;omega)).mono zA,hO.pn⟩
   have r5:=zz hL rx
   have r6:=zcL (U6 r5 (.slice ap F.length cp')) (.slice a3 h.za.length k3)
   have hb6:=(hb.setCell (p:=⟨w.heap.size+1,0,none⟩) (by simp) (.slice ap F.length cp')).setCell (p:=⟨w.heap.size+1,1,none⟩) (by simp) (.slice a3 h.za.length k3)
   obtain⟨⟨t0,t1⟩,tf0,tf1⟩:=kh r5
   obtain⟨⟨s0,s1⟩,_⟩:=kh r6
   clear hE HFF hps hO HF P5 L5 O5 HF0 hlt hj hL r5 r6 HO
   go_wp2
   refine bodyPost_ret (v:=.agg #[.slice ap F.length cp',.slice a3 h.za.length k3]) (by simp[results,Tryz.results81,go_sem,s0,s1]) rfl ?_
   refine⟨⟨_,_,rfl,?_,?_⟩,hb6⟩
   ·rw[HFd.out];exact HO6.out
   ·rw[HFd.out];exact HP.out
end Go.Proofs.YtjbgpcileapogaaGreat

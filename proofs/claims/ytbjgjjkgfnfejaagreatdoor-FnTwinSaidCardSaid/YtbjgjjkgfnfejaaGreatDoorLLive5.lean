/-
  The program hands out its calls: list.
-/
import Derived.Test.YtbjgjjkgfnfejaaGreatDoorLWalk14
import Derived.Deep.DrawnRows
namespace Go.Proofs.YtbjgjjkgfnfejaaGreatDoor
set_option maxHeartbeats 8000000
set_option maxRecDepth 100000
open Go.RowKit
attribute [local go_sem ↓] Go.wp_at_zero Go.wp_at_succ
variable {B:Nat} {w w':World} {bl br:Nat} {vp vcs vsd:Value} {C D:Nat->Nat} {T:Nat->Value × Value} {h h':Hp}
def Zs (h:Hp) (T:Nat->Value × Value) (q:Nat):List (Cl × Value × Value):=(List.range q).map fun i=>(h.za.getD i Cl.none,T i)
theorem wN (h:Hp) (T:Nat->Value × Value) (q:Nat):(Zs h T q).length=q:=by simp[Zs]
theorem zcZ (h:Hp) (T:Nat->Value × Value) {q:Nat} (hq:q<h.za.length):Zs h T (q+1)=Zs h T q ++ [(h.za[q],T q)]:=by
 unfold Zs
 rw[List.range_succ,List.map_append]
 simp[hq]
theorem zeU (h:Hp) (T:Nat->Value × Value) {q i:Nat} (hi:i<q) (hq:q<=h.za.length):(Zs h T q)[i]'(by rw[wN];exact hi)=(h.za[i],T i):=by
 have:i<h.za.length:=by omega
 simp[Zs,this]
theorem zd4 (k:LV B w bl br vp vcs vsd C D T h) (hl:h.za.length<=1000) (hsd:∀i,(hi:i<h.za.length)->-1<=h.za[i].zi/\h.za[i].zi<(h.za.length:Int)) :
 Calls Tryz.prog 53 #[zJ bl 0] w fun e w'=>∃v,e=.returned v/\qr w.heap.size w' v (Zs h T h.za.length)/\zO w w':=by
 have HK:Hid (LV B w bl br vp vcs vsd C D T h):=k
 have HSD:Hid (∀i,(hi:i<h.za.length)->-1<=h.za[i].zi/\h.za[i].zi<(h.za.length:Int)):=hsd
 obtain⟨⟨x0,x1⟩,_⟩:=zZ k.hp
 obtain⟨av,cv,hv⟩:=k.row.form1
 have HV:Hid (vcs=.slice av h.za.length cv):=hv
 rw[hv] at x0
 clear k hsd hv
 go_enter Tryz.func53,Tryz.ntmps53
 go_wp2
 clear x0 x1
 go_loopg [3,11] h.za.length (fun gm o i wr=>∃q:Nat,q<=h.za.length/\gm=h.za.length - q/\i=zI q/\qr w.heap.size wr o (Zs h T q)/\zO w wr)
 case atStart=>exact⟨0,Nat.zero_le _,rfl,rfl,qr.nil _ _,zS⟩
 case round =>
  obtain⟨q,hq,rfl,rfl,zT,hb⟩:=hrel
  obtain⟨ao,co,ho,_⟩:=zT.slice
  rw[wN] at ho
  subst ho
  by_cases yz:q<h.za.length
  ·have hqz:(q:Int)<(h.za.length:Int):=by omega
   have kr:=HK.out.below hb
   obtain⟨g,off,cap,hvv,_,hx⟩:=kr.ptr (by omega)
   have hav:av=some ⟨g,off,none⟩:=by
    have:=HV.out.symm.trans hvv
    injection this
   subst hav
   have z:=hx q yz
   clear hx hvv
   obtain⟨⟨u0,u1,u2⟩,_⟩:=xu (kr.cl q yz)
   have hsq:=HSD.out q yz
   obtain⟨at_,ct,hT1,_⟩:=(kr.ts q yz).1.slice
   obtain⟨uS,J5,hT2,_⟩:=(kr.ts q yz).2.slice
   have rd:=kr.bd q yz
   rw[hT1,hT2] at rd
   have HBC:Hid (∀W,zO wr W->Calls Tryz.prog 89 #[zJ (D q) 0,zI h.za[q].zi] W fun e w'=>e=.returned (.agg #[zI h.za[q].m,zI h.za[q].pc,.slice at_ h.za[q].zg.length ct,.slice uS h.za[q].zf.length J5,zI h.za[q].zi,.bool h.za[q].zv])/\zO W w'):=fun W hW=>Ur W (D q) _ _ _ at_ uS _ ct _ J5 _ (yp hW rd)
   obtain⟨pq,hpq⟩:∃pq,jd C h.za[q].zi=.pointer pq:=by
    unfold jd
    split
    ·exact⟨_,rfl⟩
    ·exact⟨_,rfl⟩
   have HPL:Calls Tryz.prog 54 #[jd C h.za[q].zi] wr.drew fun e w'=>e=.returned (zI h.za[q].zi)/\w'=wr.drew:=by
    by_cases hs:h.za[q].zi=-1
    ·rw[hs,vr (by decide)]
     exact ZV _
    ·obtain⟨i,hi⟩:=Int.eq_ofNat_of_zero_le (show 0<=h.za[q].zi by omega)
     have hil:i<h.za.length:=by omega
     rw[hi,u9]
     exact QD (C i) i _ (xu (kr.cl i hil)).1.2.1
   rw[hpq] at u2 HPL
   have HX:Hid (T q=(.slice at_ h.za[q].zg.length ct,.slice uS h.za[q].zf.length J5)):=by
    show T q=_
    rw[<-hT1,<-hT2]
   have HFIN:Hid (∀w3:World,zO wr w3->qr w.heap.size (w3.alloc (.cells #[.int .i64 h.za[q].m,.int .i64 h.za[q].pc,.slice at_ h.za[q].zg.length ct,.slice uS h.za[q].zf.length J5,.int .i64 h.za[q].zi,.bool h.za[q].zv] 96)) (.slice ao q co) (Zs h T q)/\(∀j u,(uQ (h.za[q],.slice at_ h.za[q].zg.length ct,.slice uS h.za[q].zf.length J5))[j]?=some u->(w3.alloc (.cells #[.int .i64 h.za[q].m,.int .i64 h.za[q].pc,.slice at_ h.za[q].zg.length ct,.slice uS h.za[q].zf.length J5,.int .i64 h.za[q].zi,.bool h.za[q].zv] 96)).cell? (zH w3.heap.size j)=some u)/\zO w (w3.alloc (.cells #[.int .i64 h.za[q].m,.int .i64 h.za[q].pc,.slice at_ h.za[q].zg.length ct,.slice uS h.za[q].zf.length J5,.int .i64 h.za[q].zi,.bool h.za[q].zv] 96))):=fun w3 xn=>by
    have N:=zR w3 (.cells #[.int .i64 h.za[q].m,.int .i64 h.za[q].pc,.slice at_ h.za[q].zg.length ct,.slice uS h.za[q].zf.length J5,.int .i64 h.za[q].zi,.bool h.za[q].zv] 96)
    have hz:=xn.size
    have hzb:=hb.size
    exact⟨(zT.below xn).below N,zcl (x:=(h.za[q],.slice at_ h.za[q].zg.length ct,.slice uS h.za[q].zf.length J5)) (wb w3 96 _ _ _ _ _ _),(hb.trans (xn.mono hzb)).trans (N.mono (by omega))⟩
   have S1:wr.drew.cell? (zH (C q) 0)=some (zJ (D q) 0)/\wr.drew.cell? (zH (C q) 2)=some (.pointer pq):=⟨u0,u2⟩
   have HSX:∀w':World,w'.heap[C q]?=wr.heap[C q]?->(w'.cell? (zH (C q) 0)=some (zJ (D q) 0)/\w'.cell? (zH (C q) 2)=some (.pointer pq)):=fun w' e=>⟨(World.cell?_of_block (a:=⟨C q,0,none⟩) e).trans u0,(World.cell?_of_block (a:=⟨C q,2,none⟩) e).trans u2⟩
   have hCl:C q<wr.heap.size:=(kr.lo (.call q) yz (C q) rfl).2
   have hCo:(Value.slice ao q co).ownBlock≠some (C q):=fun e=>by
    have q1:=(zT.lt _ e).1
    have q2:=(HK.out.lo (.call q) yz (C q) rfl).2
    omega
   clear kr rd hpq hT1 hT2
   go_upto_region 5 with fail
   go_region_held3 (fun w'=>w'.cell? (zH (C q) 0)=some (zJ (D q) 0)/\w'.cell? (zH (C q) 2)=some (.pointer pq))
    (first | with_reducible exact S1 | (refine HSX _ ?_;first | (with_reducible exact hk5) | (with_reducible exact hkA) | (with_reducible exact zdJ.block _ hCl)))
    (first
     | (go_at_call 54;refine HPL.mono ?_;rintro e w2 ⟨rfl,hw⟩;obtain rfl:=hw.symm)
     | (go_at_call 89;refine(HBC.out _ zS.drew).mono ?_;rintro e w3 ⟨rfl,xn⟩;have zdJ:zO wr w3:=zS.drew.trans xn;obtain⟨row3,cells3,bA3⟩:=HFIN.out _ zdJ;have hkA:(w3.alloc (.cells #[.int .i64 h.za[q].m,.int .i64 h.za[q].pc,.slice at_ h.za[q].zg.length ct,.slice uS h.za[q].zf.length J5,.int .i64 h.za[q].zi,.bool h.za[q].zv] 96)).heap[C q]?=wr.heap[C q]?:=((zR w3 _).block _ (by have:=zdJ.size;omega)).trans (zdJ.block _ hCl))
     | (refine zbI _ (by rfl) _ _ (by rfl) w.heap.size _ (Zs h T q) (h.za[q],.slice at_ h.za[q].zg.length ct,.slice uS h.za[q].zf.length J5) (by rfl) w3.heap.size 1 (by rfl) row3 rfl rfl cells3 (by rw[wN];omega) bA3.size ?_;intro v' w5 yt wW hbk5;obtain⟨a5,c5,hv5,_⟩:=yt.slice;subst hv5;have hk5:=(wW.block _ (by have:=zdJ.size;simp;omega) (fun e=>hCo e.symm)).trans hkA))
   all_goals
    have qp:qr w.heap.size w5 (.slice a5 (Zs h T q ++ [(h.za[q],Value.slice at_ h.za[q].zg.length ct,Value.slice uS h.za[q].zf.length J5)]).length c5) (Zs h T (q+1)):=by
     rw[zcZ h T yz,HX.out]
     exact yt
    have b5:zO w w5:=bA3.grown wW bA3.size (fun g e=>(row3.lt g e).1)
    clear yt wW row3 cells3 HFIN HBC HPL
    go_wp2
    go_roundg (h.za.length - (q+1))
    case measure=>omega
    case rel=>exact⟨q+1,by omega,rfl,by go_num,by simpa using qp,b5⟩
  ·obtain rfl:q=h.za.length:=by omega
   go_wp2
   go_ret
   exact⟨_,rfl,zT,hb⟩
attribute [local go_sem ↓] Go.wp_at_zero Go.wp_at_succ
variable {B:Nat} {w w':World} {bl br:Nat} {vp vcs vsd:Value} {C D:Nat->Nat} {T:Nat->Value × Value} {cs:List Cl} {now:Int}
theorem LH.put {W1 w2 w5:World} (k:LH B W1 bl vcs C D T cs (-1)) (hB:B<=W1.heap.size) {d:Nat} {vt vs:Value} {c:Cl} (hsd:∀i,(hi:i<cs.length)->cs[i].zi=-1) (hN:YM W1.heap.size w2 d vt vs c) (hb:zO W1 w2) {v':Value}
 (hr:yg B 1 w5 v' (cs.length+1) (wY C cs.length ++ [zJ w2.heap.size 0]))
 (hg:((w2.alloc (.cells #[.pointer (some ⟨d,0,none⟩),.int .i64 cs.length,.pointer none] 159)).alloc (.cells #[.pointer (some ⟨w2.heap.size,0,none⟩)] 103)).grownBy w5 vcs.ownBlock)
 (hv:v'.ownBlock=vcs.ownBlock\/v'.ownBlock=some ((w2.alloc (.cells #[.pointer (some ⟨d,0,none⟩),.int .i64 cs.length,.pointer none] 159)).alloc (.cells #[.pointer (some ⟨w2.heap.size,0,none⟩)] 103)).heap.size) :
 (w5.cell? (zH bl 0)=some vcs/\w5.frozen? (zH bl 0)=false)/\(∀g,g<W1.heap.size->g≠bl->vcs.ownBlock≠some g->(w5.setCell (zH bl 0) v').heap[g]?=W1.heap[g]?)/\Below B W1 (w5.setCell (zH bl 0) v') /\
 LH B (w5.setCell (zH bl 0) v') bl v' (jf C cs.length w2.heap.size) (jf D cs.length d) (xT T cs.length (vt,vs)) (cs ++ [noS c]) (-1):=by
 obtain⟨rd,pt,ps,hd,h1,h2⟩:=hN
 have za7:=k.lo .heap trivial trivial bl rfl
 have hz:=hb.size
 have hdl:=rd.lt
 have N3:zO w2 (w2.alloc (.cells #[.pointer (some ⟨d,0,none⟩),.int .i64 cs.length,.pointer none] 159)):=zR _ _
 have rc3:=zaw w2 159 (zJ d 0) (zI cs.length) (.pointer none)
 have K5:(w2.alloc (.cells #[.pointer (some ⟨d,0,none⟩),.int .i64 cs.length,.pointer none] 159)).heap.size=w2.heap.size+1:=by simp
 have N4:zO w2 ((w2.alloc (.cells #[.pointer (some ⟨d,0,none⟩),.int .i64 cs.length,.pointer none] 159)).alloc (.cells #[.pointer (some ⟨w2.heap.size,0,none⟩)] 103)):=N3.alloc (by omega) _
 have rc4:=rc3.alloc (.cells #[.pointer (some ⟨w2.heap.size,0,none⟩)] 103)
 have hz4:((w2.alloc (.cells #[.pointer (some ⟨d,0,none⟩),.int .i64 cs.length,.pointer none] 159)).alloc (.cells #[.pointer (some ⟨w2.heap.size,0,none⟩)] 103)).heap.size=w2.heap.size+2:=by simp
 rw[hz4] at hv
 generalize (w2.alloc (.cells #[.pointer (some ⟨d,0,none⟩),.int .i64 cs.length,.pointer none] 159)).alloc (.cells #[.pointer (some ⟨w2.heap.size,0,none⟩)] 103)=W4 at *
 have hgz:=hg.size
 have hrl:∀g,vcs.ownBlock=some g->g<W1.heap.size/\g≠bl:=fun g e=>⟨(k.lo .row trivial trivial g e).2,fun e2=>by have:=k.ap .row .heap trivial trivial trivial trivial g e (by rw[e2];rfl);cases this⟩
 have hbw:∀g,g<W4.heap.size->vcs.ownBlock≠some g->w5.heap[g]?=W4.heap[g]?:=fun g q1 q2=>hg.block g q1 (fun e=>q2 e.symm)
 have qa:∀g,g<W1.heap.size->vcs.ownBlock≠some g->w5.heap[g]?=W1.heap[g]?:=fun g q1 q2=>(hbw g (by omega) q2).trans ((N4.block g (by omega)).trans (hb.block g q1))
 have hnr:∀g,W1.heap.size<=g->vcs.ownBlock≠some g:=fun g q1 e=>by have:=(hrl g e).1;omega
 have hblr:vcs.ownBlock≠some bl:=fun e=>(hrl bl e).2 rfl
 have hp5:=k.hp.of_block (qa bl za7.2 hblr)
 rw[vr (by decide)] at hp5
 obtain⟨⟨c0,_⟩,cf0,_⟩:=zZ hp5
 have hvb:v'.ownBlock≠some bl:=fun e=>by
  rcases hv with x | x
  ·exact hblr (by rw[<-x];exact e)
  ·rw[x] at e;injection e with e;omega
 have nv:∀g,v'.ownBlock=some g->vcs.ownBlock=some g\/(W1.heap.size<=g/\g≠w2.heap.size/\g≠d):=fun g e=>by
  rcases hv with x | x
  ·exact .inl (by rw[<-x];exact e)
  ·rw[x] at e;injection e with e;exact .inr ⟨by omega,by omega,by omega⟩
 have hvn:∀g,W1.heap.size<=g->g<w2.heap.size+2->v'.ownBlock≠some g:=fun g q1 q2 e=>by
  rcases hv with x | x
  ·exact hnr g q1 (by rw[<-x];exact e)
  ·rw[x] at e;injection e with e;omega
 have hF:∀g,g<W4.heap.size->g≠bl->vcs.ownBlock≠some g->(w5.setCell (zH bl 0) v').heap[g]?=W4.heap[g]?:=fun g q1 q2 q3=>(Below.heap_setCell _ _ _ _ (fun e=>q2 e)).trans (hbw g q1 q3)
 have hF1:∀g,g<W1.heap.size->g≠bl->vcs.ownBlock≠some g->(w5.setCell (zH bl 0) v').heap[g]?=W1.heap[g]?:=fun g q1 q2 q3=>(Below.heap_setCell _ _ _ _ (fun e=>q2 e)).trans (qa g q1 q3)
 have XA:W4.heap.size<=(w5.setCell (zH bl 0) v').heap.size:=by simp[World.setCell];omega
 have hbF:Below B W1 (w5.setCell (zH bl 0) v'):=(((hb.mono hB).trans (N4.mono (by omega))).grown hg (by omega) (fun g e=>(k.lo .row trivial trivial g e).1)).setCell (p:=zH bl 0) za7.1 v'
 have pt5:zk B (w5.setCell (zH bl 0) v') vt c.zg:=(pt.kept (by omega) fun g e=>by have q:=pt.lt g e;exact(hF g (by omega) (by omega) (hnr g (by omega))).trans (N4.block g q.2)).mono hB
 have ps5:zk B (w5.setCell (zH bl 0) v') vs c.zf:=(ps.kept (by omega) fun g e=>by have q:=ps.lt g e;exact(hF g (by omega) (by omega) (hnr g (by omega))).trans (N4.block g q.2)).mono hB
 have hrw:yg B 1 (w5.setCell (zH bl 0) v') v' (cs.length+1) (wY C cs.length ++ [zJ w2.heap.size 0]):=hr.kept (by simp[World.setCell]) fun g e=>Below.heap_setCell _ _ _ _ (fun e2=>hvb (by have e3:g=bl:=e2;rw[<-e3];exact e))
 refine⟨⟨c0,cf0⟩,hF1,hbF,k.push (cl:=noS c) rfl hsd hB (by omega) hd (by omega) (by omega) hF1 (uO hp5 v') hrw (rc4.of_block (hF _ (by omega) (by omega) (hnr _ (by omega)))) (rd.of_block ((hF d (by omega) (by omega) (hnr d hd)).trans (N4.block d hdl))) pt5 ps5 nv (fun g e=>?_) (fun g e=>?_)⟩
 ·have q:=pt.lt g e
  exact⟨q.1,by omega,(h1 g e).1,hvn g q.1 (by omega),(h1 g e).2⟩
 ·have q:=ps.lt g e
  exact⟨q.1,by omega,h2 g e,hvn g q.1 (by omega)⟩
theorem LH.lower {B':Nat} (k:LH B w bl vcs C D T cs now) (h:B'<=B):LH B' w bl vcs C D T cs now :=
 ⟨k.hp,by
  obtain⟨h0,h1⟩:=k.row
  refine⟨h0,?_⟩
  rcases h1 with h1 | ⟨g,off,cap,hv,hg,r⟩
  ·exact .inl h1
  ·exact .inr ⟨g,off,cap,hv,by omega,r⟩,k.cl,k.bd,fun i hi=>⟨(k.ts i hi).1.mono h,(k.ts i hi).2.mono h⟩,fun x mx hx g hg=>by have:=k.lo x mx hx g hg;omega,k.ap⟩
attribute [local go_sem ↓] Go.wp_at_zero Go.wp_at_succ
theorem zbs (vc vs:Value) (h:Hp) (w:World) (hh:wu w vc vs h) (hn:h.za.length<=1000) (hsh:∀i,(hi:i<h.za.length)->h.za[i].zg.length<=1000/\h.za[i].zf.length<=1000) (uZ:-1<=h.now/\h.now<(h.za.length:Int)) (hsd:∀i,(hi:i<h.za.length)->-1<=h.za[i].zi/\h.za[i].zi<(h.za.length:Int)) :
 Calls Tryz.prog 52 #[.agg (jK vc vs h)] w fun e w'=>∃(bl:Nat) (vcs:Value) (C D:Nat->Nat) (T:Nat->Value × Value),e=.returned (zJ bl 0)/\LH w.heap.size w' bl vcs C D T h.za h.now/\zO w w':=by
 unfold jK
 obtain⟨ac,kc,hvc⟩:=hh.c.shape
 obtain⟨aD,kD,km⟩:=hh.s.shape
 subst hvc km
 have hA:zO w ((w.alloc (.cells #[.slice ac h.za.length kc,.int .i64 h.now,.int .i64 h.born,.slice aD h.zm.length kD,.int .i64 h.code] 44)).alloc (.cells #[.slice none 0 0,.pointer none] 105)):=(zR _ _).alloc (by simp) _
 have bh:=(jj w 44 (.slice ac h.za.length kc) (.int .i64 h.now) (.int .i64 h.born) (.slice aD h.zm.length kD) (.int .i64 h.code)).alloc (.cells #[.slice none 0 0,.pointer none] 105)
 have bo:=xJ (w.alloc (.cells #[.slice ac h.za.length kc,.int .i64 h.now,.int .i64 h.born,.slice aD h.zm.length kD,.int .i64 h.code] 44)) 105 (.slice none 0 0) (.pointer none)
 simp only[World.size_alloc] at bo
 have hcz:(h.za.length:Int)<=1000:=by omega
 have HH:Hid (jD w (.slice ac h.za.length kc) h.za/\∀i,(hi:i<h.za.length)->h.za[i].zg.length<=1000/\h.za[i].zf.length<=1000):=⟨hh.c,hsh⟩
 have HSD:Hid (∀i,(hi:i<h.za.length)->-1<=h.za[i].zi/\h.za[i].zi<(h.za.length:Int)):=hsd
 clear hh hsh hsd
 go_enter Tryz.func52,Tryz.ntmps52
 go_upto_region 2 with fail
 generalize (w.alloc (.cells #[.slice ac h.za.length kc,.int .i64 h.now,.int .i64 h.born,.slice aD h.zm.length kD,.int .i64 h.code] 44)).alloc (.cells #[.slice none 0 0,.pointer none] 105)=W0 at *
 have L0:=LH.start (B:=w.heap.size+1) bo zD (fun _=>0) (fun _=>0) (fun _=>(zQ,zQ))
 obtain⟨⟨x0,x1,x2,x3,x4⟩,_⟩:=zq bh
 go_wp2
 go_loopg [13] h.za.length (fun gm i wr=>∃(q:Nat) (vcs:Value) (C D:Nat->Nat) (T:Nat->Value × Value),q<=h.za.length/\gm=h.za.length - q/\i=zI q/\LH (w.heap.size+1) wr (w.heap.size+1) vcs C D T ((h.za.take q).map noS) (-1)/\wr.rowIs w.heap.size 44 5 (kq (.slice ac h.za.length kc) (zI h.now) (zI h.born) (.slice aD h.zm.length kD) (zI h.code))/\zO w wr)
 case atStart=>exact⟨0,_,_,_,_,Nat.zero_le _,rfl,rfl,L0,bh,hA⟩
 case round =>
  obtain⟨q,vcs,C,D,T,hq,rfl,rfl,k,rb,hb⟩:=hrel
  clear x0 x1 x2 x3 x4 bh bo L0 hA
  by_cases yz:q<h.za.length
  ·have hqz:(q:Int)<(h.za.length:Int):=by omega
   obtain⟨_,_,hve,_,hcl⟩:=HH.out.1.below hb
   cases hve
   obtain⟨b,o,vt,vs,Xw,hcq⟩:=hcl q yz
   subst Xw
   clear hcl
   obtain⟨at_,ct,jz⟩:=hcq.t.shape
   obtain⟨uS,J5,km⟩:=hcq.s.shape
   subst jz km
   obtain⟨d0,d1,d2,d3,d4,d5,dt,ds⟩:=id hcq
   have hlen:((h.za.take q).map noS).length=q:=by simp;omega
   have N1:zO wr (wr.alloc (.cells #[.int .i64 h.za[q].m,.int .i64 h.za[q].pc,.slice at_ h.za[q].zg.length ct,.slice uS h.za[q].zf.length J5,.int .i64 h.za[q].zi,.bool h.za[q].zv] 96)):=zR _ _
   have r6:=wb wr 96 (.int .i64 h.za[q].m) (.int .i64 h.za[q].pc) (.slice at_ h.za[q].zg.length ct) (.slice uS h.za[q].zf.length J5) (.int .i64 h.za[q].zi) (.bool h.za[q].zv)
   have k1:=k.below N1
   have rb1:=yp N1 rb
   have b1:zO w (wr.alloc (.cells #[.int .i64 h.za[q].m,.int .i64 h.za[q].pc,.slice at_ h.za[q].zg.length ct,.slice uS h.za[q].zf.length J5,.int .i64 h.za[q].zi,.bool h.za[q].zv] 96)):=hb.trans (N1.mono hb.size)
   have dt1:=dt.below N1
   have ds1:=ds.below N1
   go_upto_region 5 with fail
   clear k rb hb N1 dt ds d0 d1 d2 d3 d4 d5 hcq
   generalize wr.alloc (.cells #[.int .i64 h.za[q].m,.int .i64 h.za[q].pc,.slice at_ h.za[q].zg.length ct,.slice uS h.za[q].zf.length J5,.int .i64 h.za[q].zi,.bool h.za[q].zv] 96)=W1 at *
   generalize wr.heap.size=bc at *
   obtain⟨⟨e0,e1,e2,e3,e4,e5⟩,_⟩:=jS r6
   have hB1:=b1.size
   have hbc:=r6.lt
   have uU:=k1.row
   obtain⟨av,cv,hv⟩:=uU.form1
   rw[hlen] at hv uU
   subst hv
   obtain⟨⟨y0,y1⟩,yf0,yf1⟩:=zZ k1.hp
   have za7:=(k1.lo .heap trivial trivial _ rfl).2
   have HBO:Hid (∀W',zO W1 W'->Calls Tryz.prog 86 #[.agg #[zI h.za[q].m,zI h.za[q].pc,.slice at_ h.za[q].zg.length ct,.slice uS h.za[q].zf.length J5,zI h.za[q].zi,.bool h.za[q].zv]] W' fun e w'=>∃(d:Nat) (U5 vs':Value),e=.returned (zJ d 0)/\YM W'.heap.size w' d U5 vs' h.za[q]/\zO W' w'):=fun W' hb'=>zaL h.za[q] _ _ W' (dt1.below hb') (ds1.below hb') (HH.out.2 q yz)
   have HFIN:Hid (∀(w2:World) (d:Nat) (U5 vs':Value),YM W1.heap.size w2 d U5 vs' h.za[q]->zO W1 w2->∀(v':Value) (w5:World),yg (w.heap.size+1) 1 w5 v' (q+1) (wY C q ++ [.pointer (some ⟨w2.heap.size,0,none⟩)])->((w2.alloc (.cells #[.pointer (some ⟨d,0,none⟩),.int .i64 q,.pointer none] 159)).alloc (.cells #[.pointer (some ⟨w2.heap.size,0,none⟩)] 103)).grownBy w5 (Value.slice av q cv).ownBlock->(v'.ownBlock=(Value.slice av q cv).ownBlock\/v'.ownBlock=some ((w2.alloc (.cells #[.pointer (some ⟨d,0,none⟩),.int .i64 q,.pointer none] 159)).alloc (.cells #[.pointer (some ⟨w2.heap.size,0,none⟩)] 103)).heap.size)->((w5.cell? (zH (w.heap.size+1) 0)=some (.slice av q cv)/\w5.frozen? (zH (w.heap.size+1) 0)=false)/\∃(vcs:Value) (C D:Nat->Nat) (T:Nat->Value × Value),LH (w.heap.size+1) (w5.setCell (zH (w.heap.size+1) 0) v') (w.heap.size+1) vcs C D T ((h.za.take (q+1)).map noS) (-1)/\(w5.setCell (zH (w.heap.size+1) 0) v').rowIs w.heap.size 44 5 (kq (.slice (some ⟨b,o,none⟩) h.za.length kc) (.int .i64 h.now) (.int .i64 h.born) (.slice aD h.zm.length kD) (.int .i64 h.code))/\zO w (w5.setCell (zH (w.heap.size+1) 0) v'))):=by
    intro w2 d U5 vs' hN yL v' w5 hr hg hv
    have hP:=k1.put (c:=h.za[q]) (v':=v') (w5:=w5) (by have:=rb1.lt;omega) (fun i hi=>by simp[noS]) hN yL
    rw[hlen] at hP
    obtain⟨hc5,hF1,hb5,k5⟩:=hP hr hg hv
    rw[<-zew h.za yz] at k5
    refine⟨hc5,v',_,_,_,k5,rb1.of_block (hF1 _ rb1.lt (by omega) (fun e=>by have:=(k1.lo .row trivial trivial _ e).1;omega)),b1.trans (hb5.mono (by omega))⟩
   have UF:w.heap.size+1<W1.heap.size:=za7
   clear k1 rb1 dt1 ds1 b1 r6
   go_region_law (first
    | (go_simp;go_at_call 86;refine(HBO.out _ zS.drew).mono ?_;rintro e w2 ⟨d,vt2,vs2,rfl,hN2,yL⟩;have hB2:zO W1 w2:=zS.drew.trans yL;have kf:=hB2.size;have hbl2:w.heap.size+1<w2.heap.size:=(by omega);have y02:=zc hB2 y0;have y03:(w2.alloc (.cells #[.pointer (some ⟨d,0,none⟩),.int .i64 q,.pointer none] 159)).cell? (zH (w.heap.size+1) 0)=some (.slice av q cv):=zc (zR _ _) y02;have y04:((w2.alloc (.cells #[.pointer (some ⟨d,0,none⟩),.int .i64 q,.pointer none] 159)).alloc (.cells #[.pointer (some ⟨w2.heap.size,0,none⟩)] 103)).cell? (zH (w.heap.size+1) 0)=some (.slice av q cv):=zc ((zR _ _).alloc (by simp) _) y02;have zeq:yg (w.heap.size+1) 1 ((w2.alloc (.cells #[.pointer (some ⟨d,0,none⟩),.int .i64 q,.pointer none] 159)).alloc (.cells #[.pointer (some ⟨w2.heap.size,0,none⟩)] 103)) (.slice av q cv) q (wY C q):=(uU.below hB2).below ((zR _ _).alloc (by simp) _);have s2:Src Tryz.prog 1 102 (.slice (some ⟨w2.heap.size+1,0,none⟩) 1 1) 1 [.pointer (some ⟨w2.heap.size,0,none⟩)] ((w2.alloc (.cells #[.pointer (some ⟨d,0,none⟩),.int .i64 q,.pointer none] 159)).alloc (.cells #[.pointer (some ⟨w2.heap.size,0,none⟩)] 103)):=zcf (by simp[go_sem]);have Vd:w.heap.size+1<=((w2.alloc (.cells #[.pointer (some ⟨d,0,none⟩),.int .i64 q,.pointer none] 159)).alloc (.cells #[.pointer (some ⟨w2.heap.size,0,none⟩)] 103)).heap.size:=(by simp;omega))
    | (refine Ub _ (by rfl) _ _ (by rfl) (w.heap.size+1) _ _ q (wY C q) (zJ w2.heap.size 0) (by rfl) (by rfl) zeq s2 (by omega) (by first | exact Vd | (simp;omega)) ?_;intro v' w5 zT hg hbk;obtain⟨a',c',hv'⟩:=zT.form1;subst hv';obtain⟨⟨z4,f4⟩,Wy⟩:=HFIN.out _ _ _ _ hN2 hB2 _ w5 zT hg hbk))
   all_goals
    obtain⟨vcs2,C2,D2,T2,k2,rb2,b2⟩:=Wy
    go_wp2
    go_roundg (h.za.length - (q+1))
    case measure=>omega
    case rel=>exact⟨q+1,vcs2,C2,D2,T2,by omega,rfl,by go_num,k2,rb2,b2⟩
  ·obtain rfl:q=h.za.length:=by omega
   rw[List.take_length,zbp] at k
   have HK0:Hid (LH (w.heap.size+1) wr (w.heap.size+1) vcs C D T (Ze h.za 0) (-1)/\zO w wr):=⟨k,hb⟩
   have HRB:Hid (wr.rowIs w.heap.size 44 5 (kq (.slice ac h.za.length kc) (zI h.now) (zI h.born) (.slice aD h.zm.length kD) (zI h.code))):=rb
   obtain⟨⟨x0,x1,x2,x3,x4⟩,_⟩:=zq rb
   clear k hb rb
   go_wp2
   clear x0 x1 x2 x3 x4
   go_loopg [36] h.za.length (fun gm i wr2=>∃q:Nat,q<=h.za.length/\gm=h.za.length - q/\i=zI q/\LH (w.heap.size+1) wr2 (w.heap.size+1) vcs C D T (Ze h.za q) (-1)/\wr2.rowIs w.heap.size 44 5 (kq (.slice ac h.za.length kc) (zI h.now) (zI h.born) (.slice aD h.zm.length kD) (zI h.code))/\zO w wr2)
   case atStart=>exact⟨0,Nat.zero_le _,rfl,rfl,HK0.out.1,HRB.out,HK0.out.2⟩
   case round =>
    obtain⟨q,hq,rfl,rfl,k,rb,hb⟩:=hrel
    clear HK0 HRB
    by_cases yz:q<h.za.length
    ·have hqz:(q:Int)<(h.za.length:Int):=by omega
     have hlen:=vK h.za q
     obtain⟨_,_,hve,_,hcl⟩:=HH.out.1.below hb
     cases hve
     obtain⟨b,o,vt,vs,Xw,hcq⟩:=hcl q yz
     subst Xw
     clear hcl
     obtain⟨at_,ct,jz⟩:=hcq.t.shape
     obtain⟨uS,J5,km⟩:=hcq.s.shape
     subst jz km
     obtain⟨d0,d1,d2,d3,d4,d5,dt,ds⟩:=id hcq
     have N1:zO wr (wr.alloc (.cells #[.int .i64 h.za[q].m,.int .i64 h.za[q].pc,.slice at_ h.za[q].zg.length ct,.slice uS h.za[q].zf.length J5,.int .i64 h.za[q].zi,.bool h.za[q].zv] 96)):=zR _ _
     have r6:=wb wr 96 (.int .i64 h.za[q].m) (.int .i64 h.za[q].pc) (.slice at_ h.za[q].zg.length ct) (.slice uS h.za[q].zf.length J5) (.int .i64 h.za[q].zi) (.bool h.za[q].zv)
     have k1:=k.below N1
     have rb1:=yp N1 rb
     have b1:zO w (wr.alloc (.cells #[.int .i64 h.za[q].m,.int .i64 h.za[q].pc,.slice at_ h.za[q].zg.length ct,.slice uS h.za[q].zf.length J5,.int .i64 h.za[q].zi,.bool h.za[q].zv] 96)):=hb.trans (N1.mono hb.size)
     have hCbc:C q<wr.heap.size:=(k.lo (.call q) trivial (by show q<_;omega) (C q) rfl).2
     go_upto_region 10 with fail
     clear k rb hb N1 dt ds d0 d1 d2 d3 d4 d5 hcq
     generalize wr.alloc (.cells #[.int .i64 h.za[q].m,.int .i64 h.za[q].pc,.slice at_ h.za[q].zg.length ct,.slice uS h.za[q].zf.length J5,.int .i64 h.za[q].zi,.bool h.za[q].zv] 96)=W1 at *
     generalize wr.heap.size=bc at *
     obtain⟨⟨e0,e1,e2,e3,e4,e5⟩,_⟩:=jS r6
     obtain⟨g,off,cap,hv,hl,hx⟩:=k1.ptr (by omega)
     rw[hlen] at hv hx hl
     subst hv
     have z:=hx q yz
     clear hx
     obtain⟨⟨y0,y1⟩,_⟩:=zZ k1.hp
     have hq':q<(Ze h.za q).length:=by omega
     obtain⟨⟨u0,u1,u2⟩,uf0,uf1,uf2⟩:=xu (k1.cl q hq')
     have hsq:=HSD.out q yz
     have HCA:=J3 (k1.below zS.drew) h.za[q].zi hsq.1 (by rw[hlen];exact hsq.2)
     have hns:((Ze h.za q)[q]'hq').zi=-1:=by rw[ZA h.za q yz,if_neg (Nat.lt_irrefl _)];rfl
     rw[hns,vr (by decide)] at u2
     have k2:=k1.snd hq' h.za[q].zi (jd C h.za[q].zi) rfl
     rw[zcL h.za yz] at k2
     have hCq:=k1.lo (.call q) trivial hq' (C q) rfl
     have rb2:(W1.setCell (zH (C q) 2) (jd C h.za[q].zi)).rowIs w.heap.size 44 5 (kq (zK b o h.za.length kc) (zI h.now) (zI h.born) (.slice aD h.zm.length kD) (zI h.code)):=rb1.of_block (Below.heap_setCell _ _ _ _ (by show w.heap.size≠C q;omega))
     have b2:=b1.setCell (p:=zH (C q) 2) (by show w.heap.size<=C q;omega) (jd C h.za[q].zi)
     obtain⟨pq,hpq⟩:∃pq,jd C h.za[q].zi=.pointer pq:=by
      unfold jd
      split
      ·exact⟨_,rfl⟩
      ·exact⟨_,rfl⟩
     rw[hpq] at k2 rb2 b2 HCA
     have HF:Hid (LH (w.heap.size+1) (W1.setCell (zH (C q) 2) (.pointer pq)) (w.heap.size+1) (zK g off h.za.length cap) C D T (Ze h.za (q+1)) (-1)/\(W1.setCell (zH (C q) 2) (.pointer pq)).rowIs w.heap.size 44 5 (kq (zK b o h.za.length kc) (zI h.now) (zI h.born) (.slice aD h.zm.length kD) (zI h.code))/\zO w (W1.setCell (zH (C q) 2) (.pointer pq))):=⟨k2,rb2,b2⟩
     have n1:w.heap.size+1≠C q:=fun e=>by have:=k1.ap .heap (.call q) trivial trivial trivial hq' (C q) (by rw[<-e];rfl) rfl;cases this
     have n2:g≠C q:=fun e=>by have:=k1.ap .row (.call q) trivial trivial trivial hq' (C q) (by rw[<-e];rfl) rfl;cases this
     have S2:(W1.setCell (zH (C q) 2) (.pointer pq)).drew.cell? (zH (w.heap.size+1) 0)=some (zK g off h.za.length cap)/\(W1.setCell (zH (C q) 2) (.pointer pq)).drew.cell? (zH g (off+q))=some (zJ (C q) 0)/\(W1.setCell (zH (C q) 2) (.pointer pq)).drew.cell? (zH bc 4)=some (zI h.za[q].zi) :=
      ⟨(World.cell?_of_block (a:=⟨w.heap.size+1,0,none⟩) (Below.heap_setCell _ _ _ _ n1)).trans y0,(World.cell?_of_block (a:=⟨g,off+q,none⟩) (Below.heap_setCell _ _ _ _ n2)).trans z,(World.cell?_of_block (a:=⟨bc,4,none⟩) (Below.heap_setCell _ _ _ _ (show bc≠C q by omega))).trans e4⟩
     clear k1 k2 rb1 rb2 b1 b2 r6 hns hpq
     go_region_held3 (fun w'=>w'.cell? (zH (w.heap.size+1) 0)=some (zK g off h.za.length cap)/\w'.cell? (zH g (off+q))=some (zJ (C q) 0)/\w'.cell? (zH bc 4)=some (zI h.za[q].zi))
      (first | with_reducible exact S2 | with_reducible exact⟨y0,z,e4⟩ | exact⟨y0,z,e4⟩ | go_keep)
      (first | (go_at_call 98;refine HCA.mono ?_;rintro e w2 ⟨rfl,hw⟩;obtain rfl:=hw.symm))
     all_goals
      go_wp2
      go_roundg (h.za.length - (q+1))
      case measure=>omega
      case rel=>exact⟨q+1,by omega,rfl,by go_num,HF.out.1.below zS.drew,yp zS.drew HF.out.2.1,HF.out.2.2.drew⟩
    ·obtain rfl:q=h.za.length:=by omega
     rw[zbo] at k
     obtain⟨⟨x0,x1,x2,x3,x4⟩,_⟩:=zq rb
     obtain⟨⟨y0,y1⟩,yf0,yf1⟩:=zZ k.hp
     rw[vr (by decide)] at y1
     have HCA:=J3 k h.now uZ.1 uZ.2
     have k2:=k.turnNow h.now (jd C h.now) rfl
     have b2:=hb.setCell (p:=zH (w.heap.size+1) 1) (by show w.heap.size<=w.heap.size+1;omega) (jd C h.now)
     obtain⟨pq,hpq⟩:∃pq,jd C h.now=.pointer pq:=by
      unfold jd
      split
      ·exact⟨_,rfl⟩
      ·exact⟨_,rfl⟩
     rw[hpq] at k2 b2 HCA
     have HF:Hid (LH w.heap.size (wr.setCell (zH (w.heap.size+1) 1) (.pointer pq)) (w.heap.size+1) vcs C D T h.za h.now/\zO w (wr.setCell (zH (w.heap.size+1) 1) (.pointer pq))):=⟨k2.lower (by omega),b2⟩
     clear k k2 b2 rb hb hpq
     go_wp2_with (go_at_call 98;refine HCA.mono ?_;rintro e w2 ⟨rfl,hw⟩;obtain rfl:=hw.symm)
     go_ret
     exact⟨_,_,_,_,_,rfl,HF.out.1,HF.out.2⟩
end Go.Proofs.YtbjgjjkgfnfejaaGreatDoor

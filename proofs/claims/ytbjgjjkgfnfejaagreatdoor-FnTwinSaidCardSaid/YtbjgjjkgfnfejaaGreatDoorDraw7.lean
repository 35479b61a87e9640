/-
  What draws: rows of operations, a bit more: what they look like, one of them written into; the answer of l71Method.
-/
import Derived.Test.YtbjgjjkgfnfejaaGreatDoorDraw3
import Derived.Deep.DeepCutAuto
import Derived.Deep.RegionLaw
namespace Go.Proofs.YtbjgjjkgfnfejaaGreatDoor
set_option maxHeartbeats 8000000
set_option maxRecDepth 100000
open Go.RowKit
theorem yh.shape {B:Nat} {w:World} {v:Value} {L:yH} (h:yh B w v L):∃a c,v=.slice a L.length c:=by
 obtain⟨_,h2⟩:=h
 rcases h2 with⟨rfl,hn⟩ | ⟨g,cap,cur,rfl,_⟩
 ·exact⟨none,0,by rw[hn]⟩
 ·exact⟨_,_,rfl⟩
theorem yh.shape1 {B:Nat} {w:World} {v:Value} {L:yH} (h:yh B w v L) (hn:1<=L.length):∃g c,v=zK g 0 L.length c:=by
 obtain⟨_,h2⟩:=h
 rcases h2 with⟨rfl,hn'⟩ | ⟨g,cap,cur,rfl,_⟩
 ·omega
 ·exact⟨_,_,rfl⟩
theorem zdE (L:yH):∀(i:Nat) (h:i<L.length) (x:Int),ua (L.set i (L[i].1,x))=(ua L).set (i * 2+1) (zI x):=by
 induction L with
 | nil=>intro i h;exact absurd h yB
 | cons a l ih =>
  intro i h x
  cases i with
  | zero=>rfl
  | succ i =>
   have:=ih i (by simpa using h) x
   rw[show(i+1) * 2+1=(i * 2+1)+2 by omega]
   simp only[List.set_cons_succ,List.getElem_cons_succ]
   show [Value.int .i64 a.1,zI a.2] ++ ua _=([Value.int .i64 a.1,zI a.2] ++ ua l).set (i * 2+1+2) _
   rw[this]
   rfl
theorem yh.setA {B:Nat} {w:World} {g c:Nat} {L:yH} (h:yh B w (zK g 0 L.length c) L) (i:Nat) (hi:i<L.length) (x:Int) :
 (∃y,w.cell? (zH g (i * 2+1))=some (zI y))/\w.frozen? (zH g (i * 2+1))=false/\yh B (w.setCell (zH g (i * 2+1)) (zI x)) (zK g 0 L.length c) (L.set i (L[i].1,x))/\w.grownBy (w.setCell (zH g (i * 2+1)) (zI x)) (some g):=by
 obtain⟨s1,s2⟩:=World.ownsRow.stored h (i * 2+1) (zI x)
 refine⟨⟨L[i].2,?_⟩,?_,?_,s2⟩
 ·have:=World.ownsRow.cells h (g:=g) rfl (i * 2+1) _ (Q3 L i hi).2
  rwa [Addr.add_lit,Nat.zero_add] at this
 ·rcases h.2 with⟨e,_⟩ | ⟨g',cap',cur,e,_,hg,_⟩
  ·cases e
  ·cases e
   unfold World.frozen?;rw[hg];simp
 ·show World.ownsRow _ _ _ _ _ _ _
  rw[List.length_set,zdE L i hi x]
  exact s1
namespace MS
variable {w0 w w' W:World} {b:Nat} {a:Option Addr} {len cap p q g:Nat} {A T:Int} {v v':Value} {L L':yH}
theorem opSet {gv c:Nat} (h:MS w0 w b a len cap p g A T (zK gv 0 L.length c) L) (i:Nat) (hi:i<L.length) (x:Int):MS w0 (w.setCell (zH gv (i * 2+1)) (zI x)) b a len cap p g A T (zK gv 0 L.length c) (L.set i (L[i].1,x)):=by
 obtain⟨_,_,hr,hg⟩:=h.row.setA i hi x
 have e:∀k,some gv=some k->w0.heap.size<=k:=fun k e=>by cases e;exact(h.row.lt gv rfl).1
 obtain⟨p0,h0⟩:=h.r0
 exact⟨Rd.kept h0 h.rd h.gr.size hg e,xi h.gr hg e,qk h.box hg (fun e=>YA h.box h.row (by decide) e.symm),h.own,hr,qk h.res hg (fun e=>YA h.res h.row (by decide) e.symm),h.r0⟩
theorem final (h:MS w0 w b a len cap p g A T v L) :
 let W3:=((w.setCell (zH w0.heap.size 0) (zI A)).setCell (zH w0.heap.size 1) (zI T)).setCell (zH w0.heap.size 2) v
 yh w0.heap.size W3 v L/\Rd W3 b a len cap p/\w0.grownBy W3 (some b)/\W3.cell? (zH w0.heap.size 0)=some (zI A)/\W3.cell? (zH w0.heap.size 1)=some (zI T)/\W3.cell? (zH w0.heap.size 2)=some v:=by
 intro W3
 have hk:w.grownBy W3 (some w0.heap.size):=⟨rfl,rfl,rfl,by simp[W3,World.setCell],fun k _ hk=>(Below.heap_setCell _ _ _ _ (fun e=>hk (by rw[e]))).trans ((Below.heap_setCell _ _ _ _ (fun e=>hk (by rw[e]))).trans (Below.heap_setCell _ _ _ _ (fun e=>hk (by rw[e]))))⟩
 have e:∀k,some w0.heap.size=some k->w0.heap.size<=k:=fun k e=>by cases e;exact Nat.le_refl _
 obtain⟨p0,h0⟩:=h.r0
 have hres:=((h.res.set 0 (zI A)).set 1 (zI T)).set 2 v
 refine⟨h.row.kept hk (fun q e hk=>by cases e;exact YA h.res h.row (by decide) hk),Rd.kept h0 h.rd h.gr.size hk e,xi h.gr hk e,?_,?_,?_⟩
 ·have:=hres.cell (i:=0) (by decide);simpa using this
 ·have:=hres.cell (i:=1) (by decide);simpa using this
 ·have:=hres.cell (i:=2) (by decide);simpa using this
end MS
theorem Vm (w:World) (b:Nat) (a:Option Addr) (len cap p:Nat) (ga c:Nat) (xs:List Int) (s:Nat) (hr:Rd w b a len cap p) (hp:p+70<=1000000) (hxs:∀i,(hi:i<xs.length)->w.cell? (zH ga i)=some (zI xs[i])/\0<=xs[i]/\xs[i]<=2) (hga:ga≠b)
 (hs:s<xs.length) (UB:xs.length<=4) :
 Calls Tryz.prog 122 #[zJ b 0,zK ga 0 xs.length c,zI s] w fun e w'=>∃(A T:Int) (v:Value) (L:yH) (p':Nat),e=.returned (.agg #[zI A,zI T,v])/\yh w.heap.size w' v L/\2<=L.length/\L.length<=14/\0<=A/\A<=2/\1<=T/\T<=4/\p<=p'/\p'<=p+70/\Rd w' b a len cap p'/\w.grownBy w' (some b):=by
 have hbw:b<w.heap.size:=World.block_lt_of_cell? _ _ hr.s
 obtain⟨c0,x0,x1⟩:=hxs s hs
 have hgw:ga<w.heap.size:=World.block_lt_of_cell? _ _ c0
 obtain⟨y,hy⟩:∃y,y=xs[s]:=⟨_,rfl⟩
 rw[<-hy] at c0 x0 x1
 clear hy
 have WI:(0:Int)<=(s:Int):=by omega
 have UF:(s:Int)<(xs.length:Int):=by omega
 have hga':some ga≠some b:=by simp;exact hga
 go_enter Tryz.func122,Tryz.ntmps122
 go_upto_region 1 with fail
 go_cut [7] (fun m7 wx=>∃(g:Nat) (T:Int) (v:Value),m7=zJ g 0/\1<=T/\T<=4/\MS w wx b a len cap (p+1) g y T v [])
 case first =>
  have HX:Hid (∀i,(hi:i<xs.length)->w.cell? (zH ga i)=some (zI xs[i])/\0<=xs[i]/\xs[i]<=2):=hxs
  clear hxs
  have HR:Hid (Rd w b a len cap p):=hr
  have hD1:∀(v:World) (k:Nat) (o:Obj),(v.drewN k).alloc o=(v.alloc o).drewN k:=fun _ _ _=>rfl
  have hD2:∀(v:World) (k:Nat) (q:Addr) (u:Value),(v.drewN k).setCell q u=(v.setCell q u).drewN k:=fun _ _ _ _=>rfl
  have yL:b<w.heap.size+1:=by omega
  have xn:b<w.heap.size+1+1:=by omega
  have hE1:∀o v,(w.alloc o).setCell (zH b 1) v=(w.setCell (zH b 1) v).alloc o:=fun o v=>World.setCell_alloc_past _ _ _ _ hbw
  have hE2:∀o1 o2 v,((w.alloc o1).alloc o2).setCell (zH b 1) v=((w.setCell (zH b 1) v).alloc o1).alloc o2:=fun o1 o2 v=>by rw[World.setCell_alloc_past _ _ _ _ (by simp;omega),hE1]
  have hE3:∀o1 o2 o3 v,(((w.alloc o1).alloc o2).alloc o3).setCell (zH b 1) v=(((w.setCell (zH b 1) v).alloc o1).alloc o2).alloc o3:=fun o1 o2 o3 v=>by rw[World.setCell_alloc_past _ _ _ _ (by simp;omega),hE2]
  have hA1:∀o1,(w.alloc o1).cell? (zH ga s)=some (zI y):=fun o1=>zc (zR _ _) c0
  have hA2:∀o1 o2,((w.alloc o1).alloc o2).cell? (zH ga s)=some (zI y):=fun o1 o2=>zc (zR _ _) (hA1 o1)
  have hA3:∀o1 o2 o3,(((w.alloc o1).alloc o2).alloc o3).cell? (zH ga s)=some (zI y):=fun o1 o2 o3=>zc (zR _ _) (hA2 o1 o2)
  have hS:∀v,(w.setCell (zH b 1) v).cell? (zH ga s)=some (zI y):=fun v=>by
   rw[World.cell?_setCell_other _ _ _ _ (fun e=>by have:=congrArg Addr.block e;simp at this;exact hga this.symm)];exact c0
  have hS1:∀v o1,((w.setCell (zH b 1) v).alloc o1).cell? (zH ga s)=some (zI y):=fun v o1=>zc (zR _ _) (hS v)
  have hS2:∀v o1 o2,(((w.setCell (zH b 1) v).alloc o1).alloc o2).cell? (zH ga s)=some (zI y):=fun v o1 o2=>zc (zR _ _) (hS1 v o1)
  have hS3:∀v o1 o2 o3,((((w.setCell (zH b 1) v).alloc o1).alloc o2).alloc o3).cell? (zH ga s)=some (zI y):=fun v o1 o2 o3=>zc (zR _ _) (hS2 v o1 o2)
  clear hr
  go_region_held3 (fun w'=>w'.cell? (zH ga s)=some (zI y))
   (simp[*])
   ((go_at_call 79;refine(KE _ _ a len cap p _ (by first | exact Rd.heap (HR.out.alloc _) rfl | exact Rd.heap ((HR.out.alloc _).alloc _) rfl | exact Rd.heap (((HR.out.alloc _).alloc _).alloc _) rfl) (by omega) (by omega) (by omega)).mono ?_;rintro e w1 ⟨x,m,rfl,Qi,Z5,rfl⟩))
  all_goals
   clear hD1 hD2 hE1 hE2 hE3 hA1 hA2 hA3 hS hS1 hS2 hS3
   go_wp2_with fail
  all_goals
   go_meet
   have hw:IntKind.i64.wrap (1+x)=1+x:=by rw[IntKind.wrap_i64];omega
   first
    | (refine⟨_,_,_,rfl,?_,?_,zfn HR.out _ _ _⟩ <;> omega)
    | (refine⟨_,_,_,rfl,?_,?_,zfo HR.out _ _ _⟩ <;> omega)
 case rest =>
  obtain⟨g,T,v0,rfl,hT1,hT4,hM⟩:=hcut
  go_wp2_with fail
  go_loopg [8,9] 4 (fun d sk i wr=>∃(k q:Nat) (v:Value) (L:yH) (z:Int),k<=4/\d=4 - k/\i=zI k/\sk=zI z/\(z=-1\/(0<=z/\z<(L.length:Int)))/\MS w wr b a len cap q g y T v L/\L.length<=12/\p+1<=q/\q<=p+1+13 * k)
  case atStart=>exact⟨0,p+1,v0,[],-1,by omega,rfl,rfl,rfl,.inl rfl,hM,by simp,by omega,by omega⟩
  case round =>
   obtain⟨k,q,v,L,z,hk,rfl,rfl,rfl,hz,Wz,hL,hq,hq'⟩:=hrel
   by_cases yz:k<4
   ·have uW:(k:Int)<4:=by omega
    have c1:=Wz.c1
    have HX:Hid (∀i,(hi:i<xs.length)->wr.cell? (zH ga i)=some (zI xs[i])/\0<=xs[i]/\xs[i]<=2):=fun i hi=>⟨Wz.gr.cell (hxs i hi).1 hga',(hxs i hi).2⟩
    clear hxs
    go_wp2_with fail
    refine(WO _ _ _ _ _ _ ga _ xs _ Wz.rd (by omega) HX.out hga (by omega) UB hT1 hT4).mono ?_
    rintro e wP ⟨vP,oP,pP,rfl,VN,hlP,hlP1,hpP,hpP',hrdP,hgP⟩
    have hMP:=Wz.pick hrdP hgP
    have zdY:=Wz.gr.size
    have HV:Hid (∀k,v.ownBlock=some k->k<wr.heap.size):=fun k e=>(Wz.row.lt k e).2
    have hbw':=Wz.blt
    have HG:Hid (g<wr.heap.size/\w.heap.size<g):=⟨Wz.box.lt,Wz.own⟩
    obtain⟨gP,cP,hvP⟩:=VN.shape1 (by omega)
    subst hvP
    clear HX c1 Wz hrdP hgP
    rcases hz with hz | ⟨jT,xF⟩
    ·subst hz
     go_wp2_with fail
     refine(qe _ _ _ _ _ _ _ hMP.rd (by omega) (by omega) (by omega)).mono ?_
     rintro e w3 ⟨x,rfl,Qi,Z5,jb,j9⟩
     have hM3:=hMP.pick jb j9
     have Qy:=VN.kept j9 (fun q e hk=>by cases e;have:=(VN.lt _ hk).1;omega)
     clear VN hMP jb j9
     by_cases hx:x=0
     ·subst hx
      by_cases h10:L.length+oP.length<=10
      ·have h10z:(L.length:Int)+(oP.length:Int)<=10:=by omega
       obtain⟨aV,cV,UH⟩:=hM3.row.shape
       have d2:=hM3.c2
       have d1:=hM3.c1
       have Vi:=hM3.gr.size
       subst UH
       go_wp2_with fail
       have hMd:=hM3.drew
       go_region_law (first
        | (refine Xk _ (by rfl) _ _ (by rfl) w.heap.size _ L (by rfl) (World.ownsRow.alloc Kh.row _) [(2,u),(8,0)] w4.heap.size _ (by rfl) (World.news_of_block (Go.Deep.blk_alloc_new w4 _)) (by simp) (by simp;omega) (by have:=Kh.gr.size;simp;omega) ?_;intro g5 cp5 w5 yt wW hB5 zbb;have hap:=Kh.appended (zR _ _) wW;have q2:=hap.2.2.1.cell (i:=2) (by decide);have e2:=hap.2.2.1.frozen 2)
        | (go_simp;go_at_call 79;refine(qe _ _ _ _ _ _ _ hMd.rd (by omega) (by omega) (by omega)).mono ?_;rintro e w4 ⟨u,rfl,Jx,hu1,xH,wj⟩;have Kh:=hMd.pick xH wj;have k1:=Kh.c1;have k2:=Kh.c2;have k2':=(fun o=>zc (zR _ o) k2)))
       all_goals
        have Yk:=Kh.stored (zR _ _) wW yt
        have zbd:yh wr.heap.size w4 _ oP:=yh.kept (w:=w3.drew) Qy wj (fun q e hk=>by cases e;have:=(Qy.lt _ hk).1;omega)
        have zbe:=yh.kept (World.ownsRow.alloc zbd _) wW (fun q e hk=>by have:=HV.out q e;have:=(zbd.lt _ hk).1;omega)
        have Qz:=zbe.kept (xj w5 g 2 (zK g5 0 (L.length+2) cp5)) (fun q e hk=>by cases e;have:=(zbe.lt _ hk).1;have:=HG.out.1;omega)
        clear hap q2 e2 wW yt hB5 zbb k1 k2 k2' Kh xH wj hMd hM3 Qy zbd zbe d1 d2
        generalize w5.setCell (zH g 2) (zK g5 0 (L.length+2) cp5)=w6 at *
        have c2:=Yk.c2
        have hszY:=Yk.gr.size
        have f2:=Yk.f2
        have hl2:(L ++ [(2,u),(8,0)]).length=L.length+2:=by simp
        have Wa:(L ++ [(2,u),(8,0)] ++ oP).length=L.length+2+oP.length:=by simp;omega
        by_cases h12:L.length+2+oP.length<=12
        ·have h12z:(L.length:Int)+2+(oP.length:Int)<=12:=by omega
         go_wp2_with (at_builtin;refine ut _ (by rfl) _ _ (by rfl) _ _ (L ++ [(2,u),(8,0)]) (by simp;rfl) Yk.row oP gP _ (by rfl) (World.ownsRow.cells Qz rfl) (by omega) (by simp;omega) (by omega) ?_;intro g2 cp2 w2 yN qA hB2 Xy;have hap:=Yk.appended zS qA;have q2:=hap.2.2.1.cell (i:=2) (by decide);have e2:=hap.2.2.1.frozen 2)
         have MZ:=Yk.stored zS qA yN
         rw[hl2] at MZ
         clear hap q2 e2 qA yN hB2 Xy c2 f2 Yk
         go_roundg (4 - (k+1))
         case measure=>omega
         case rel=>exact⟨k+1,_,_,_,_,by omega,rfl,by go_num,rfl,.inr ⟨by omega,by rw[Wa];omega⟩,MZ,by rw[Wa];omega,by omega,by omega⟩
        ·omega
      ·have h10z:¬(L.length:Int)+(oP.length:Int)<=10:=by omega
       obtain⟨aV,cV,UH⟩:=hM3.row.shape
       subst UH
       have Yk:=hM3
       have Qz:=Qy
       clear hM3 Qy
       have c2:=Yk.c2
       have hszY:=Yk.gr.size
       have f2:=Yk.f2
       by_cases h12:L.length+oP.length<=12
       ·have h12z:(L.length:Int)+(oP.length:Int)<=12:=by omega
        go_wp2_with (at_builtin;refine ut _ (by rfl) _ _ (by rfl) _ _ L (by rfl) Yk.row oP gP _ (by rfl) (World.ownsRow.cells Qz rfl) (by omega) (by omega) (by omega) ?_;intro g2 cp2 w2 yN qA hB2 Xy;have hap:=Yk.appended zS qA;have q2:=hap.2.2.1.cell (i:=2) (by decide);have e2:=hap.2.2.1.frozen 2)
        have MZ:=Yk.stored zS qA yN
        clear hap q2 e2 qA yN hB2 Xy c2 f2 Yk
        go_roundg (4 - (k+1))
        case measure=>omega
        case rel=>exact⟨k+1,_,_,_,_,by omega,rfl,by go_num,rfl,by first | omega | (simp;omega) | simp,MZ,by simp;omega,by omega,by omega⟩
       ·have h12z:¬(L.length:Int)+(oP.length:Int)<=12:=by omega
        go_wp2
        go_roundg (4 - (k+1))
        case measure=>omega
        case rel=>exact⟨k+1,_,_,_,_,by omega,rfl,by go_num,rfl,by omega,Yk,by omega,by omega,by omega⟩
     ·have ex:(x == 0)=false:=zG.2 hx
      have Yk:=hM3
      have Qz:=Qy
      clear hM3 Qy
      obtain⟨aY,cY,hvY⟩:=Yk.row.shape
      have c2:=Yk.c2
      have hszY:=Yk.gr.size
      have f2:=Yk.f2
      subst hvY
      by_cases h12:L.length+oP.length<=12
      ·have h12z:(L.length:Int)+(oP.length:Int)<=12:=by omega
       go_wp2_with (at_builtin;refine ut _ (by rfl) _ _ (by rfl) _ _ L (by rfl) Yk.row oP gP _ (by rfl) (World.ownsRow.cells Qz rfl) (by omega) (by omega) (by omega) ?_;intro g2 cp2 w2 yN qA hB2 Xy;have hap:=Yk.appended zS qA;have q2:=hap.2.2.1.cell (i:=2) (by decide);have e2:=hap.2.2.1.frozen 2)
       have MZ:=Yk.stored zS qA yN
       clear hap q2 e2 qA yN hB2 Xy c2 f2 Yk
       go_roundg (4 - (k+1))
       case measure=>omega
       case rel=>exact⟨k+1,_,_,_,_,by omega,rfl,by go_num,rfl,by first | omega | (simp;omega) | simp,MZ,by simp;omega,by omega,by omega⟩
      ·have h12z:¬(L.length:Int)+(oP.length:Int)<=12:=by omega
       go_wp2
       go_roundg (4 - (k+1))
       case measure=>omega
       case rel=>exact⟨k+1,_,_,_,_,by omega,rfl,by go_num,rfl,by omega,Yk,by omega,by omega,by omega⟩
    ·have kf:¬z<0:=by omega
     have Yk:=hMP
     have Qz:=VN
     clear hMP VN
     obtain⟨aY,cY,hvY⟩:=Yk.row.shape
     have c2:=Yk.c2
     have hszY:=Yk.gr.size
     have f2:=Yk.f2
     subst hvY
     by_cases h12:L.length+oP.length<=12
     ·have h12z:(L.length:Int)+(oP.length:Int)<=12:=by omega
      go_wp2_with (at_builtin;refine ut _ (by rfl) _ _ (by rfl) _ _ L (by rfl) Yk.row oP gP _ (by rfl) (World.ownsRow.cells Qz rfl) (by omega) (by omega) (by omega) ?_;intro g2 cp2 w2 yN qA hB2 Xy;have hap:=Yk.appended zS qA;have q2:=hap.2.2.1.cell (i:=2) (by decide);have e2:=hap.2.2.1.frozen 2)
      have MZ:=Yk.stored zS qA yN
      clear hap q2 e2 qA yN hB2 Xy c2 f2 Yk
      go_roundg (4 - (k+1))
      case measure=>omega
      case rel=>exact⟨k+1,_,_,_,_,by omega,rfl,by go_num,rfl,by first | omega | (simp;omega) | simp,MZ,by simp;omega,by omega,by omega⟩
     ·have h12z:¬(L.length:Int)+(oP.length:Int)<=12:=by omega
      go_wp2
      go_roundg (4 - (k+1))
      case measure=>omega
      case rel=>exact⟨k+1,_,_,_,_,by omega,rfl,by go_num,rfl,by omega,Yk,by omega,by omega,by omega⟩
   ·obtain rfl:k=4:=by omega
    clear hxs
    rcases hz with hz | ⟨jT,xF⟩
    ·subst hz
     have hMT:=Wz
     clear Wz
     have hLT:L.length<=12:=hL
     have hszT:=hMT.gr.size
     go_wp2_with fail
     refine(qe _ _ _ _ _ _ _ hMT.rd (by omega) (by omega) (by omega)).mono ?_
     rintro e w8 ⟨x,rfl,Qi,Z5,WH,hg8⟩
     have Ju:=hMT.pick WH hg8
     have hsz8:=Ju.gr.size
     clear hMT WH hg8
     obtain⟨aV,cV,UH⟩:=Ju.row.shape
     subst UH
     have c2:=Ju.c2
     have c1:=Ju.c1
     have f2:=Ju.f2
     have hgw8:=Ju.own
     by_cases hx:x=0
     ·subst hx
      go_upto_region 17 with(at_builtin;refine yq _ (by rfl) _ _ (by rfl) _ _ L (by rfl) Ju.row _ _ _ (by rfl) (by omega) (by omega) ?_;intro g9 cp9 w9 wJ QO hB9 zbc;have hap:=Ju.appended (zR _ _) QO;have q2:=hap.2.2.1.cell (i:=2) (by decide);have e2:=hap.2.2.1.frozen 2)
      have MZ:=Ju.stored (zR _ _) QO wJ
      have hszZ:=MZ.gr.size
      clear hap q2 e2 QO wJ hB9 zbc Ju c1 c2 f2
      generalize w9.setCell (zH g 2) (zK g9 0 (L.length+1) cp9)=w6 at *
      have c2:=MZ.c2
      have f2:=MZ.f2
      go_wp2_with (at_builtin;refine yq _ (by rfl) _ _ (by rfl) _ _ (L ++ [(11,0)]) (by first | rfl | (simp;rfl)) MZ.row _ _ _ (by rfl) (by simp;omega) (by omega) ?_;intro g10 Qq vB vh Qw hB10 zdS;simp only[List.length_append,List.length_cons,List.length_nil,Nat.zero_add] at vh;have MF:=MZ.stored (zR _ _) Qw vh;have jk:=MZ.appended (zR _ _) Qw;have b0:vB.cell? (zH g 0)=some (zI y):=jk.2.2.1.cell (i:=0) (by decide);have b1:vB.cell? (zH g 1)=some (zI T):=jk.2.2.1.cell (i:=1) (by decide);have b2:=jk.2.2.1.cell (i:=2) (by decide);have b3:=jk.2.2.1.frozen 2;have r0:vB.cell? (zH w.heap.size 0)=some (zI 0):=jk.2.2.2.cell (i:=0) (by decide);have r1:vB.cell? (zH w.heap.size 1)=some (zI 0):=jk.2.2.2.cell (i:=1) (by decide);have r2:vB.cell? (zH w.heap.size 2)=some (zQ):=jk.2.2.2.cell (i:=2) (by decide);have t0:=jk.2.2.2.frozen 0;have t1:=jk.2.2.2.frozen 1;have t2:=jk.2.2.2.frozen 2)
      clear jk b0 b1 b2 b3 t0 t1 t2 r0 r1 r2 Qw MZ
      have hF:=MF.final
      generalize (((vB.setCell (zH g 2) (zK g10 0 (L.length+1+1) Qq)).setCell (zH w.heap.size 0) (zI y)).setCell (zH w.heap.size 1) (zI T)).setCell (zH w.heap.size 2) (zK g10 0 (L.length+1+1) Qq)=W3 at hF ⊢
      obtain⟨h1,h2,h3,d0,d1,d2⟩:=hF
      exact bodyPost_ret (v:=.agg #[zI y,zI T,zK g10 0 (L.length+1+1) Qq]) (by simp[results,Tryz.results122,go_sem,d0,d1,d2]) rfl ⟨_,_,_,_,_,rfl,h1,by simp,by simp;omega,x0,x1,hT1,hT4,by omega,by omega,h2,h3⟩
     ·have ex:(x == 0)=false:=zG.2 hx
      go_wp2_with fail
      have hMd:=Ju.drew
      go_region_law (first
       | (refine Xk _ (by rfl) _ _ (by rfl) w.heap.size _ L (by rfl) (World.ownsRow.alloc Kh.row _) [(2,u)] w4.heap.size _ (by rfl) (World.news_of_block (Go.Deep.blk_alloc_new w4 _)) (by simp) (by simp;omega) (by have:=Kh.gr.size;simp;omega) ?_;intro g9 cp9 w9 wJ QO hB9 zbc;have hap:=Kh.appended (zR _ _) QO;have q2:=hap.2.2.1.cell (i:=2) (by decide);have e2:=hap.2.2.1.frozen 2)
       | (go_simp;go_at_call 79;refine(qe _ _ _ _ _ _ _ hMd.rd (by omega) (by omega) (by omega)).mono ?_;rintro e w4 ⟨u,rfl,Jx,hu1,xH,wj⟩;have Kh:=hMd.pick xH wj;have k1:=Kh.c1;have k2:=Kh.c2;have k2':=(fun o=>zc (zR _ o) k2)))
      all_goals
       have MZ:=Kh.stored (zR _ _) QO wJ
       have hszZ:=MZ.gr.size
       clear hap q2 e2 QO wJ hB9 zbc k1 k2 k2' Kh xH wj hMd Ju c1 c2 f2
       generalize w9.setCell (zH g 2) (zK g9 0 (L.length+1) cp9)=w6 at *
       have c2:=MZ.c2
       have f2:=MZ.f2
       go_wp2_with (at_builtin;refine yq _ (by rfl) _ _ (by rfl) _ _ (L ++ [(2,u)]) (by simp;rfl) MZ.row _ _ _ (by rfl) (by simp;omega) (by omega) ?_;intro g10 Qq vB vh Qw hB10 zdS;simp only[List.length_append,List.length_cons,List.length_nil,Nat.zero_add] at vh;have MF:=MZ.stored (zR _ _) Qw vh;have jk:=MZ.appended (zR _ _) Qw;have b0:vB.cell? (zH g 0)=some (zI y):=jk.2.2.1.cell (i:=0) (by decide);have b1:vB.cell? (zH g 1)=some (zI T):=jk.2.2.1.cell (i:=1) (by decide);have b2:=jk.2.2.1.cell (i:=2) (by decide);have b3:=jk.2.2.1.frozen 2;have r0:vB.cell? (zH w.heap.size 0)=some (zI 0):=jk.2.2.2.cell (i:=0) (by decide);have r1:vB.cell? (zH w.heap.size 1)=some (zI 0):=jk.2.2.2.cell (i:=1) (by decide);have r2:vB.cell? (zH w.heap.size 2)=some (zQ):=jk.2.2.2.cell (i:=2) (by decide);have t0:=jk.2.2.2.frozen 0;have t1:=jk.2.2.2.frozen 1;have t2:=jk.2.2.2.frozen 2)
       clear jk b0 b1 b2 b3 t0 t1 t2 r0 r1 r2 Qw MZ
       have hF:=MF.final
       generalize (((vB.setCell (zH g 2) (zK g10 0 (L.length+1+1) Qq)).setCell (zH w.heap.size 0) (zI y)).setCell (zH w.heap.size 1) (zI T)).setCell (zH w.heap.size 2) (zK g10 0 (L.length+1+1) Qq)=W3 at hF ⊢
       obtain⟨h1,h2,h3,d0,d1,d2⟩:=hF
       exact bodyPost_ret (v:=.agg #[zI y,zI T,zK g10 0 (L.length+1+1) Qq]) (by simp[results,Tryz.results122,go_sem,d0,d1,d2]) rfl ⟨_,_,_,_,_,rfl,h1,by simp,by simp;omega,x0,x1,hT1,hT4,by omega,by omega,h2,h3⟩
    ·obtain⟨zn,rfl⟩:=Int.eq_ofNat_of_zero_le jT
     have hzl:zn<L.length:=by omega
     obtain⟨gv,cv,hvv⟩:=Wz.row.shape1 (by omega)
     subst hvv
     obtain⟨⟨y0,cA⟩,fA,_,_⟩:=Wz.row.setA zn hzl 0
     have c2:=Wz.c2
     have hMT:=Wz.opSet zn hzl (L.length:Int)
     have hLT:(L.set zn (L[zn].1,(L.length:Int))).length<=12:=by simpa using hL
     have hszT:=hMT.gr.size
     clear Wz
     go_wp2_with fail
     generalize wr.setCell (zH gv (zn * 2+1)) (zI (L.length:Int))=wT at *
     generalize L.set zn (L[zn].1,(L.length:Int))=LT at hMT hLT
     generalize hvT:zK gv 0 L.length cv=vT at hMT
     clear hvT c2 cA fA
     refine(qe _ _ _ _ _ _ _ hMT.rd (by omega) (by omega) (by omega)).mono ?_
     rintro e w8 ⟨x,rfl,Qi,Z5,WH,hg8⟩
     have Ju:=hMT.pick WH hg8
     have hsz8:=Ju.gr.size
     clear hMT WH hg8
     obtain⟨aV,cV,UH⟩:=Ju.row.shape
     subst UH
     have c2:=Ju.c2
     have c1:=Ju.c1
     have f2:=Ju.f2
     have hgw8:=Ju.own
     by_cases hx:x=0
     ·subst hx
      go_upto_region 17 with(at_builtin;refine yq _ (by rfl) _ _ (by rfl) _ _ LT (by rfl) Ju.row _ _ _ (by rfl) (by omega) (by omega) ?_;intro g9 cp9 w9 wJ QO hB9 zbc;have hap:=Ju.appended (zR _ _) QO;have q2:=hap.2.2.1.cell (i:=2) (by decide);have e2:=hap.2.2.1.frozen 2)
      have MZ:=Ju.stored (zR _ _) QO wJ
      have hszZ:=MZ.gr.size
      clear hap q2 e2 QO wJ hB9 zbc Ju c1 c2 f2
      generalize w9.setCell (zH g 2) (zK g9 0 (LT.length+1) cp9)=w6 at *
      have c2:=MZ.c2
      have f2:=MZ.f2
      go_wp2_with (at_builtin;refine yq _ (by rfl) _ _ (by rfl) _ _ (LT ++ [(11,0)]) (by first | rfl | (simp;rfl)) MZ.row _ _ _ (by rfl) (by simp;omega) (by omega) ?_;intro g10 Qq vB vh Qw hB10 zdS;simp only[List.length_append,List.length_cons,List.length_nil,Nat.zero_add] at vh;have MF:=MZ.stored (zR _ _) Qw vh;have jk:=MZ.appended (zR _ _) Qw;have b0:vB.cell? (zH g 0)=some (zI y):=jk.2.2.1.cell (i:=0) (by decide);have b1:vB.cell? (zH g 1)=some (zI T):=jk.2.2.1.cell (i:=1) (by decide);have b2:=jk.2.2.1.cell (i:=2) (by decide);have b3:=jk.2.2.1.frozen 2;have r0:vB.cell? (zH w.heap.size 0)=some (zI 0):=jk.2.2.2.cell (i:=0) (by decide);have r1:vB.cell? (zH w.heap.size 1)=some (zI 0):=jk.2.2.2.cell (i:=1) (by decide);have r2:vB.cell? (zH w.heap.size 2)=some (zQ):=jk.2.2.2.cell (i:=2) (by decide);have t0:=jk.2.2.2.frozen 0;have t1:=jk.2.2.2.frozen 1;have t2:=jk.2.2.2.frozen 2)
      clear jk b0 b1 b2 b3 t0 t1 t2 r0 r1 r2 Qw MZ
      have hF:=MF.final
      generalize (((vB.setCell (zH g 2) (zK g10 0 (LT.length+1+1) Qq)).setCell (zH w.heap.size 0) (zI y)).setCell (zH w.heap.size 1) (zI T)).setCell (zH w.heap.size 2) (zK g10 0 (LT.length+1+1) Qq)=W3 at hF ⊢
      obtain⟨h1,h2,h3,d0,d1,d2⟩:=hF
      exact bodyPost_ret (v:=.agg #[zI y,zI T,zK g10 0 (LT.length+1+1) Qq]) (by simp[results,Tryz.results122,go_sem,d0,d1,d2]) rfl ⟨_,_,_,_,_,rfl,h1,by simp,by simp;omega,x0,x1,hT1,hT4,by omega,by omega,h2,h3⟩
     ·have ex:(x == 0)=false:=zG.2 hx
      go_wp2_with fail
      have hMd:=Ju.drew
      go_region_law (first
       | (refine Xk _ (by rfl) _ _ (by rfl) w.heap.size _ LT (by rfl) (World.ownsRow.alloc Kh.row _) [(2,u)] w4.heap.size _ (by rfl) (World.news_of_block (Go.Deep.blk_alloc_new w4 _)) (by simp) (by simp;omega) (by have:=Kh.gr.size;simp;omega) ?_;intro g9 cp9 w9 wJ QO hB9 zbc;have hap:=Kh.appended (zR _ _) QO;have q2:=hap.2.2.1.cell (i:=2) (by decide);have e2:=hap.2.2.1.frozen 2)
       | (go_simp;go_at_call 79;refine(qe _ _ _ _ _ _ _ hMd.rd (by omega) (by omega) (by omega)).mono ?_;rintro e w4 ⟨u,rfl,Jx,hu1,xH,wj⟩;have Kh:=hMd.pick xH wj;have k1:=Kh.c1;have k2:=Kh.c2;have k2':=(fun o=>zc (zR _ o) k2)))
      all_goals
       have MZ:=Kh.stored (zR _ _) QO wJ
       have hszZ:=MZ.gr.size
       clear hap q2 e2 QO wJ hB9 zbc k1 k2 k2' Kh xH wj hMd Ju c1 c2 f2
       generalize w9.setCell (zH g 2) (zK g9 0 (LT.length+1) cp9)=w6 at *
       have c2:=MZ.c2
       have f2:=MZ.f2
       go_wp2_with (at_builtin;refine yq _ (by rfl) _ _ (by rfl) _ _ (LT ++ [(2,u)]) (by simp;rfl) MZ.row _ _ _ (by rfl) (by simp;omega) (by omega) ?_;intro g10 Qq vB vh Qw hB10 zdS;simp only[List.length_append,List.length_cons,List.length_nil,Nat.zero_add] at vh;have MF:=MZ.stored (zR _ _) Qw vh;have jk:=MZ.appended (zR _ _) Qw;have b0:vB.cell? (zH g 0)=some (zI y):=jk.2.2.1.cell (i:=0) (by decide);have b1:vB.cell? (zH g 1)=some (zI T):=jk.2.2.1.cell (i:=1) (by decide);have b2:=jk.2.2.1.cell (i:=2) (by decide);have b3:=jk.2.2.1.frozen 2;have r0:vB.cell? (zH w.heap.size 0)=some (zI 0):=jk.2.2.2.cell (i:=0) (by decide);have r1:vB.cell? (zH w.heap.size 1)=some (zI 0):=jk.2.2.2.cell (i:=1) (by decide);have r2:vB.cell? (zH w.heap.size 2)=some (zQ):=jk.2.2.2.cell (i:=2) (by decide);have t0:=jk.2.2.2.frozen 0;have t1:=jk.2.2.2.frozen 1;have t2:=jk.2.2.2.frozen 2)
       clear jk b0 b1 b2 b3 t0 t1 t2 r0 r1 r2 Qw MZ
       have hF:=MF.final
       generalize (((vB.setCell (zH g 2) (zK g10 0 (LT.length+1+1) Qq)).setCell (zH w.heap.size 0) (zI y)).setCell (zH w.heap.size 1) (zI T)).setCell (zH w.heap.size 2) (zK g10 0 (LT.length+1+1) Qq)=W3 at hF ⊢
       obtain⟨h1,h2,h3,d0,d1,d2⟩:=hF
       exact bodyPost_ret (v:=.agg #[zI y,zI T,zK g10 0 (LT.length+1+1) Qq]) (by simp[results,Tryz.results122,go_sem,d0,d1,d2]) rfl ⟨_,_,_,_,_,rfl,h1,by simp,by simp;omega,x0,x1,hT1,hT4,by omega,by omega,h2,h3⟩
theorem Tryz.infoInt':(Tryz.prog.info? 3).map (fun i=>(i.zero,i.size,i.bytes))=some (some (zI 0),1,8):=by kernel_rfl
def xL (B:Nat) (w:World) (v:Value) (xs:List Int):Prop:=w.ownsRow B 3 1 v xs.length (xs.map fun x=>Value.int .i64 x)
theorem xL.one (w:World) (x:Int):xL w.heap.size (w.alloc (.cells #[.int .i64 x] 3)) (.slice (some ⟨w.heap.size,0,none⟩) 1 1) [x] :=
 ⟨rfl,.inr ⟨w.heap.size,1,#[zI x],rfl,Nat.le_refl _,Go.Deep.blk_alloc_new _ _,Nat.le_refl _,by unfold maxLen;omega,rfl,rfl⟩⟩
theorem xL.mono {B B':Nat} {w:World} {v:Value} {xs:List Int} (h:xL B w v xs) (hB:B'<=B):xL B' w v xs:=by
 obtain⟨h1,h2⟩:=h
 refine⟨h1,?_⟩
 rcases h2 with h2 | ⟨g,cap,cur,hv,hg,r⟩
 ·exact .inl h2
 ·exact .inr ⟨g,cap,cur,hv,by omega,r⟩
theorem xL.lt {B:Nat} {w:World} {v:Value} {xs:List Int} (h:xL B w v xs):∀k,v.ownBlock=some k->B<=k/\k<w.heap.size:=World.ownsRow.lt h
theorem xL.kept {B:Nat} {w w':World} {v:Value} {xs:List Int} {row:Option Nat} (h:xL B w v xs) (hg:w.grownBy w' row) (qF:∀g,row=some g->v.ownBlock≠some g):xL B w' v xs :=
 World.ownsRow.kept h hg (by
  cases row with
  | none=>cases hv:v.ownBlock with
   | none=>exact .inl rfl
   | some g=>exact .inr (by simp)
  | some g=>exact .inr (qF g rfl))
theorem xL.shape1 {B:Nat} {w:World} {v:Value} {xs:List Int} (h:xL B w v xs) (hn:1<=xs.length):∃g c,v=zK g 0 xs.length c:=by
 obtain⟨_,h2⟩:=h
 rcases h2 with⟨rfl,hn'⟩ | ⟨g,cap,cur,rfl,_⟩
 ·omega
 ·exact⟨_,_,rfl⟩
theorem xL.cell {B:Nat} {w:World} {g n c:Nat} {xs:List Int} (h:xL B w (zK g 0 n c) xs) (i:Nat) (hi:i<xs.length):w.cell? (zH g i)=some (zI xs[i]):=by
 have:=World.ownsRow.cells h (g:=g) rfl i (zI xs[i]) (by simp[hi])
 rwa [Addr.add_lit,Nat.zero_add] at this
theorem zaI {ops:Array Oper} {rest:List Oper} {o:Oper} {act:Act} {Q:Exit->Act->World->Prop} (w:World) (hgd:o.guard=none) (s x:Operand)
 (ho:o.op=.call {callee:=.builtin .append,args:=#[s,x],argTypes:=#[30,30]}) (B:Nat) (v:Value) (L:List Int) (hs:act.eval s=v) (zy:xL B w v L) (k:Int) (c:Nat)
 (hx:act.eval x=zK w.heap.size 0 1 c) (hL:L.length<=900) (hB:B<=w.heap.size)
 (h:∀g cap w',xL B w' (.slice (some ⟨g,0,none⟩) (L.length+1) cap) (L ++ [k])->(w.alloc (.cells #[.int .i64 k] 3)).grownBy w' v.ownBlock->B<=g->g<w'.heap.size ->
  wpList Tryz.prog ops Q rest (act.put o.dst (zK g 0 (L.length+1) cap)) w') :
 wpList Tryz.prog ops Q (o :: rest) act (w.alloc (.cells #[.int .i64 k] 3)):=by
 obtain⟨i0,hi,jT,xF,kf⟩:=info_parts Tryz.infoInt'
 refine wpList_append_lies _ hgd s x 30 ho B 3 i0 _ 1 8 Tryz.underlying30 hi jT xF kf rfl (by omega) v L.length (L.map fun x=>Value.int .i64 x) hs (World.ownsRow.alloc zy _) ⟨w.heap.size,0,none⟩ 1 c [zI k] hx rfl
  (World.news_of_block (Go.Deep.blk_alloc_new w _)) (by simp[Value.oneCell']) (by omega) (by unfold maxLen;omega) (by omega) (by simp;omega) _ rfl ?_
 intro g cap w' h1 h2 h3 h4
 refine h g cap w' ?_ h2 ?_ h4
 ·unfold xL
  simp only[List.length_append,List.map_append,List.length_cons,List.length_nil,List.map_cons,List.map_nil,Nat.zero_add]
  exact h1
 ·rcases h3 with h3 | h3
  ·exact(zy.lt g h3).1
  ·simp at h3;omega
def xQ (ms:List (Int × Int × Value)):List Value:=ms.flatMap fun m=>[zI m.1,zI m.2.1,m.2.2]
theorem Q0 (a b:List (Int × Int × Value)):xQ (a ++ b)=xQ a ++ xQ b:=by simp[xQ]
theorem Q1 (a:List (Int × Int × Value)):(xQ a).length=a.length * 3:=by
 induction a with
 | nil=>rfl
 | cons x l ih=>simp[xQ] at ih ⊢;omega
theorem zdD (a:List (Int × Int × Value)):∀(i:Nat) (h:i<a.length),(xQ a)[i * 3]?=some (zI a[i].1)/\(xQ a)[i * 3+1]?=some (zI a[i].2.1)/\(xQ a)[i * 3+2]?=some a[i].2.2:=by
 induction a with
 | nil=>intro i h;exact absurd h yB
 | cons x l ih =>
  intro i h
  cases i with
  | zero=>exact⟨rfl,rfl,rfl⟩
  | succ i =>
   have:=ih i (by simpa using h)
   rw[show(i+1) * 3=i * 3+3 by omega]
   exact this
def JO (v:Value):Prop:=∃a l c,v=.slice a l c
theorem Yr (M:List (Int × Int × Value)) (hM:∀m∈M,JO m.2.2):∀u∈xQ M,u.oneCell'=true:=by
 intro u hu
 simp only[xQ,List.mem_flatMap] at hu
 obtain⟨x,hx',hx⟩:=hu
 simp at hx
 rcases hx with rfl | rfl | rfl
 ·rfl
 ·rfl
 ·obtain⟨a,l,c,h⟩:=hM x hx'
  rw[h];rfl
def jY (B:Nat) (w:World) (v:Value) (ms:List (Int × Int × Value)):Prop:=w.ownsRow B 68 3 v ms.length (xQ ms)
theorem jY.nil (B:Nat) (w:World):jY B w (zQ) []:=World.ownsRow_nil _ _ _ _
theorem jY.mono {B B':Nat} {w:World} {v:Value} {ms:List (Int × Int × Value)} (h:jY B w v ms) (hB:B'<=B):jY B' w v ms:=by
 obtain⟨h1,h2⟩:=h
 refine⟨h1,?_⟩
 rcases h2 with h2 | ⟨g,cap,cur,hv,hg,r⟩
 ·exact .inl h2
 ·exact .inr ⟨g,cap,cur,hv,by omega,r⟩
theorem jY.lt {B:Nat} {w:World} {v:Value} {ms:List (Int × Int × Value)} (h:jY B w v ms):∀k,v.ownBlock=some k->B<=k/\k<w.heap.size:=World.ownsRow.lt h
theorem jY.kept {B:Nat} {w w':World} {v:Value} {ms:List (Int × Int × Value)} {row:Option Nat} (h:jY B w v ms) (hg:w.grownBy w' row) (qF:∀g,row=some g->v.ownBlock≠some g):jY B w' v ms :=
 World.ownsRow.kept h hg (by
  cases row with
  | none=>cases hv:v.ownBlock with
   | none=>exact .inl rfl
   | some g=>exact .inr (by simp)
  | some g=>exact .inr (qF g rfl))
theorem jY.shape {B:Nat} {w:World} {v:Value} {ms:List (Int × Int × Value)} (h:jY B w v ms):∃a c,v=.slice a ms.length c:=by
 obtain⟨_,h2⟩:=h
 rcases h2 with⟨rfl,hn⟩ | ⟨g,cap,cur,rfl,_⟩
 ·exact⟨none,0,by rw[hn]⟩
 ·exact⟨_,_,rfl⟩
theorem jY.shape1 {B:Nat} {w:World} {v:Value} {ms:List (Int × Int × Value)} (h:jY B w v ms) (hn:1<=ms.length):∃g c,v=zK g 0 ms.length c:=by
 obtain⟨_,h2⟩:=h
 rcases h2 with⟨rfl,hn'⟩ | ⟨g,cap,cur,rfl,_⟩
 ·omega
 ·exact⟨_,_,rfl⟩
theorem jY.cell {B:Nat} {w:World} {g n c:Nat} {ms:List (Int × Int × Value)} (h:jY B w (zK g 0 n c) ms) (i:Nat) (hi:i<ms.length) :
 w.cell? (zH g (i * 3))=some (zI ms[i].1)/\w.cell? (zH g (i * 3+1))=some (zI ms[i].2.1)/\w.cell? (zH g (i * 3+2))=some ms[i].2.2:=by
 have h3:=zdD ms i hi
 have k0:=World.ownsRow.cells h (g:=g) rfl _ _ h3.1
 have k1:=World.ownsRow.cells h (g:=g) rfl _ _ h3.2.1
 have k2:=World.ownsRow.cells h (g:=g) rfl _ _ h3.2.2
 rw[Addr.add_lit,Nat.zero_add] at k0 k1 k2
 exact⟨k0,k1,k2⟩
theorem zb9 {w:World} {B B':Nat} {v v':Value} {ms:List (Int × Int × Value)} {L:yH} (hr:jY B w v ms) (h:yh B' w v' L):∀g,v.ownBlock=some g->v'.ownBlock≠some g:=by
 intro g e e'
 rcases hr.2 with⟨rfl,_⟩ | ⟨g1,cap,cur,rfl,_,hh,_⟩
 ·cases e
 ·rcases h.2 with⟨rfl,_⟩ | ⟨g2,cap',cur',rfl,_,hh',_⟩
  ·cases e'
  ·simp[Value.ownBlock] at e e'
   subst e;subst e'
   rw[hh] at hh'
   simp at hh'
theorem zeS {w:World} {B B':Nat} {v v':Value} {xs:List Int} {L:yH} (hr:xL B w v xs) (h:yh B' w v' L):∀g,v.ownBlock=some g->v'.ownBlock≠some g:=by
 intro g e e'
 rcases hr.2 with⟨rfl,_⟩ | ⟨g1,cap,cur,rfl,_,hh,_⟩
 ·cases e
 ·rcases h.2 with⟨rfl,_⟩ | ⟨g2,cap',cur',rfl,_,hh',_⟩
  ·cases e'
  ·simp[Value.ownBlock] at e e'
   subst e;subst e'
   rw[hh] at hh'
   simp at hh'
theorem zea {w:World} {B B':Nat} {v v':Value} {xs:List Int} {ms:List (Int × Int × Value)} (hr:xL B w v xs) (h:jY B' w v' ms):∀g,v.ownBlock=some g->v'.ownBlock≠some g:=by
 intro g e e'
 rcases hr.2 with⟨rfl,_⟩ | ⟨g1,cap,cur,rfl,_,hh,_⟩
 ·cases e
 ·rcases h.2 with⟨rfl,_⟩ | ⟨g2,cap',cur',rfl,_,hh',_⟩
  ·cases e'
  ·simp[Value.ownBlock] at e e'
   subst e;subst e'
   rw[hh] at hh'
   simp at hh'
theorem QU {ops:Array Oper} {rest:List Oper} {o:Oper} {act:Act} {Q:Exit->Act->World->Prop} (w:World) (hgd:o.guard=none) (s x:Operand)
 (ho:o.op=.call {callee:=.builtin .append,args:=#[s,x],argTypes:=#[23,23]}) (B:Nat) (v:Value) (L:List (Int × Int × Value)) (hs:act.eval s=v) (zy:jY B w v L) (M:List (Int × Int × Value)) (hM1:∀m∈M,JO m.2.2) (ad:Addr) (c:Nat)
 (hx:act.eval x=.slice (some ad) M.length c) (hnews:∀j u,(xQ M)[j]?=some u->w.cell? (ad.add j)=some u) (hM:0<M.length) (hL:L.length+M.length<=1000) (hB:B<=w.heap.size)
 (h:∀g cap w',jY B w' (zK g 0 (L.length+M.length) cap) (L ++ M)->w.grownBy w' v.ownBlock->B<=g->g<w'.heap.size ->
  wpList Tryz.prog ops Q rest (act.put o.dst (zK g 0 (L.length+M.length) cap)) w') :
 wpList Tryz.prog ops Q (o :: rest) act w:=by
 obtain⟨i0,hi,jT,xF,kf⟩:=info_parts Tryz.infoMeth
 refine wpList_append_lies _ hgd s x 23 ho B 68 i0 _ 3 40 Tryz.underlying23 hi jT xF kf rfl (by omega) v L.length (xQ L) hs zy ad M.length c (xQ M) hx (Q1 M)
  hnews (Yr M hM1) hM (by unfold maxLen;omega) (by omega) hB w.heap.size rfl ?_
 intro g cap w' h1 h2 h3 h4
 refine h g cap w' ?_ h2 ?_ h4
 ·unfold jY
  rw[Q0,List.length_append]
  exact h1
 ·rcases h3 with h3 | h3
  ·exact(zy.lt g h3).1
  ·omega
theorem zbJ {ops:Array Oper} {o:Oper} {act:Act} {K:Act->World->Prop} {Q:Exit->Act->World->Prop} {E:Prop} (w:World) (hgd:o.guard=none) (s x:Operand)
 (ho:o.op=.call {callee:=.builtin .append,args:=#[s,x],argTypes:=#[23,23]}) (B:Nat) (v:Value) (L:List (Int × Int × Value)) (hs:act.eval s=v) (zy:jY B w v L) (M:List (Int × Int × Value)) (hM1:∀m∈M,JO m.2.2) (ad:Addr) (c:Nat)
 (hx:act.eval x=.slice (some ad) M.length c) (hnews:∀j u,(xQ M)[j]?=some u->w.cell? (ad.add j)=some u) (hM:0<M.length) (hL:L.length+M.length<=1000) (hB:B<=w.heap.size)
 (h:∀g cap w',jY B w' (zK g 0 (L.length+M.length) cap) (L ++ M)->w.grownBy w' v.ownBlock->B<=g->g<w'.heap.size ->
  K (act.put o.dst (zK g 0 (L.length+M.length) cap)) w') :
 if Region.wanted o (yielded ops act.tmps)=true then Oper.wp Tryz.prog o act w K Q else E:=by
 obtain⟨i0,hi,jT,xF,kf⟩:=info_parts Tryz.infoMeth
 refine step_append_lies _ hgd s x 23 ho B 68 i0 _ 3 40 Tryz.underlying23 hi jT xF kf rfl (by omega) v L.length (xQ L) hs zy ad M.length c (xQ M) hx (Q1 M)
  hnews (Yr M hM1) hM (by unfold maxLen;omega) (by omega) hB w.heap.size rfl ?_
 intro g cap w' h1 h2 h3 h4
 refine h g cap w' ?_ h2 ?_ h4
 ·unfold jY
  rw[Q0,List.length_append]
  exact h1
 ·rcases h3 with h3 | h3
  ·exact(zy.lt g h3).1
  ·omega
abbrev MM:=Int × Int × Value × yH
def MM.tri (m:MM):Int × Int × Value:=(m.1,m.2.1,m.2.2.1)
structure vk (B:Nat) (w:World) (v:Value) (ms:List MM):Prop where
 row:jY B w v (ms.map MM.tri)
 ops:∀m∈ms,yh B w m.2.2.1 m.2.2.2
 dis:ms.Pairwise fun m n=>∀g,m.2.2.1.ownBlock=some g->n.2.2.1.ownBlock≠some g
theorem vk.nil (B:Nat) (w:World):vk B w (zQ) []:=⟨jY.nil _ _,by simp,.nil⟩
theorem vk.shape {B:Nat} {w:World} {v:Value} {ms:List MM} (h:vk B w v ms):∃a c,v=.slice a ms.length c:=by
 obtain⟨a,c,e⟩:=h.row.shape
 exact⟨a,c,by simpa using e⟩
theorem vk.shape1 {B:Nat} {w:World} {v:Value} {ms:List MM} (h:vk B w v ms) (hn:1<=ms.length):∃g c,v=zK g 0 ms.length c:=by
 obtain⟨a,c,e⟩:=h.row.shape1 (by simpa using hn)
 exact⟨a,c,by simpa using e⟩
theorem vk.mono {B B':Nat} {w:World} {v:Value} {ms:List MM} (h:vk B w v ms) (hB:B'<=B):vk B' w v ms:=⟨h.row.mono hB,fun m hm=>(h.ops m hm).mono hB,h.dis⟩
theorem vk.kept {B:Nat} {w w':World} {v:Value} {ms:List MM} {row:Option Nat} (h:vk B w v ms) (hg:w.grownBy w' row) (qF:∀g,row=some g->v.ownBlock≠some g/\∀m∈ms,m.2.2.1.ownBlock≠some g):vk B w' v ms :=
 ⟨h.row.kept hg (fun g e=>(qF g e).1),fun m hm=>(h.ops m hm).kept hg (fun g e=>(qF g e).2 m hm),h.dis⟩
theorem vk.low {B:Nat} {w w':World} {v:Value} {ms:List MM} {b:Nat} (h:vk B w v ms) (hg:w.grownBy w' (some b)) (hb:b<B):vk B w' v ms :=
 h.kept hg fun g e=>by
  cases e
  exact⟨fun k=>by have:=(h.row.lt _ k).1;omega,fun m hm k=>by have:=((h.ops m hm).lt _ k).1;omega⟩
theorem vk.ofMap {ms:List MM} {i:Nat} (hi:i<ms.length):(ms.map MM.tri)[i]'(by simpa using hi)=(ms[i].1,ms[i].2.1,ms[i].2.2.1):=by simp[MM.tri]
theorem yh.at {B:Nat} {w:World} {v:Value} {L:yH} (h:yh B w v L) (hl:L.length<=maxLen):yo w v L:=by
 rcases h.2 with⟨rfl,hn⟩ | ⟨g,cap,cur,rfl,_⟩
 ·have:L=[]:=List.length_eq_zero_iff.1 hn
  subst this
  exact⟨none,0,rfl,Nat.zero_le _,fun i hi=>absurd hi yB⟩
 ·refine⟨some ⟨g,0,none⟩,cap,rfl,hl,fun i hi=>⟨g,0,rfl,?_,?_⟩⟩
  ·have:=World.ownsRow.cells h (g:=g) rfl _ _ (Q3 L i hi).1
   rwa [Addr.add_lit] at this
  ·have:=World.ownsRow.cells h (g:=g) rfl _ _ (Q3 L i hi).2
   rw[Addr.add_lit] at this
   simpa using this
def uE (ms:List MM):zM:=ms.map fun m=>(m.1,m.2.1,m.2.2.2)
theorem vk.meths {B:Nat} {w:World} {v:Value} {ms:List MM} (h:vk B w v ms) (hl:ms.length<=maxLen) (ho:∀m∈ms,m.2.2.2.length<=maxLen):yD w v (uE ms):=by
 rcases h.row.2 with⟨rfl,hn⟩ | ⟨g,cap,cur,hv,_⟩
 ·have:ms=[]:=by simpa using hn
  subst this
  exact⟨none,0,rfl,Nat.zero_le _,fun i hi=>absurd hi yB⟩
 ·subst hv
  refine⟨some ⟨g,0,none⟩,cap,by simp[uE],by simpa [uE] using hl,fun i hi=>?_⟩
  have hi':i<ms.length:=by simpa [uE] using hi
  have c:=h.row.cell i (by simpa using hi')
  rw[vk.ofMap hi'] at c
  refine⟨g,0,ms[i].2.2.1,rfl,?_,?_,?_,?_⟩
  ·simp only[uE,List.getElem_map,Nat.zero_add];exact c.1
  ·simp only[uE,List.getElem_map,Nat.zero_add];exact c.2.1
  ·simp only[Nat.zero_add];exact c.2.2
  ·simp only[uE,List.getElem_map];exact(h.ops _ (List.getElem_mem hi')).at (ho _ (List.getElem_mem hi'))
theorem wO (w:World) (v:Value):(w.alloc (.cells #[v] 25)).rowIs w.heap.size 25 1 (fun _=>v) :=
 ⟨_,Go.Deep.blk_alloc_new _ _,rfl,fun i hi=>by match i,hi with | 0,_=>rfl⟩
theorem ZX {w:World} {g:Nat} {t:TypeId} {n:Nat} {f:Nat->Value} {B:Nat} {v:Value} {L:yH} (hr:w.rowIs g t n f) (h:yh B w v L) (ht:t≠70):v.ownBlock≠some g:=YA hr h ht
theorem wa {w:World} {g:Nat} {t:TypeId} {n:Nat} {f:Nat->Value} {B:Nat} {v:Value} {L:List (Int × Int × Value)} (hr:w.rowIs g t n f) (h:jY B w v L) (ht:t≠68):v.ownBlock≠some g:=by
 intro e
 obtain⟨c,hc,_⟩:=hr
 rcases h.2 with⟨rfl,_⟩ | ⟨g',cap,cur,rfl,_,hh,_⟩
 ·cases e
 ·simp[Value.ownBlock] at e
  subst e
  rw[hc] at hh
  simp at hh
  exact ht hh.2
theorem Jj {w:World} {g:Nat} {t:TypeId} {n:Nat} {f:Nat->Value} {B:Nat} {v:Value} {L:List Int} (hr:w.rowIs g t n f) (h:xL B w v L) (ht:t≠3):v.ownBlock≠some g:=by
 intro e
 obtain⟨c,hc,_⟩:=hr
 rcases h.2 with⟨rfl,_⟩ | ⟨g',cap,cur,rfl,_,hh,_⟩
 ·cases e
 ·simp[Value.ownBlock] at e
  subst e
  rw[hc] at hh
  simp at hh
  exact ht hh.2
theorem Xq {w0 w w':World} {b:Nat} {a:Option Addr} {len cap p0 p:Nat} {v:Value} {L:List Int} {o:Obj} (h0:Rd w0 b a len cap p0) (hr:Rd w b a len cap p) (hg:w0.grownBy w (some b)) (zy:xL w0.heap.size w v L) {g:Nat} {f:Nat->Value} (hres:w.rowIs g 25 1 f)
 (qA:(w.alloc o).grownBy w' v.ownBlock):Rd w' b a len cap p/\w0.grownBy w' (some b)/\w'.rowIs g 25 1 f:=by
 have zT:∀g,v.ownBlock=some g->w0.heap.size<=g:=fun g e=>(zy.lt g e).1
 have hA:=World.grownBy_alloc w o v.ownBlock
 have hA2:w.grownBy w' v.ownBlock:=⟨qA.os.trans hA.os,qA.tape.trans hA.tape,qA.output.trans hA.output,Nat.le_trans hA.size qA.size,fun i hi hn=>(qA.block i (Nat.lt_of_lt_of_le hi hA.size) hn).trans (hA.block i hi hn)⟩
 exact⟨Rd.kept h0 hr hg.size hA2 zT,xi hg hA2 zT,qk hres hA2 (fun e=>Jj hres zy (by decide) e.symm)⟩
structure PS (w0 w:World) (b:Nat) (a:Option Addr) (len cap p g:Nat) (va:Value) (xs:List Int) (v:Value) (ms:List MM):Prop where
 rd:Rd w b a len cap p
 gr:w0.grownBy w (some b)
 args:xL w0.heap.size w va xs
 box:w.rowIs g 25 1 (fun _=>v)
 own:w0.heap.size<g
 row:vk w0.heap.size w v ms
 res:w.rowIs w0.heap.size 25 1 (fun _=>zQ)
 r0:∃p0,Rd w0 b a len cap p0
namespace PS
variable {w0 w w' W:World} {b:Nat} {a:Option Addr} {len cap p q g:Nat} {va:Value} {xs:List Int} {v v':Value} {ms ms':List MM}
theorem blt (h:PS w0 w b a len cap p g va xs v ms):b<w0.heap.size:=by obtain⟨_,h0⟩:=h.r0;exact World.block_lt_of_cell? _ _ h0.s
theorem c0 (h:PS w0 w b a len cap p g va xs v ms):w.cell? (zH g 0)=some v:=h.box.cell (by decide)
theorem f0 (h:PS w0 w b a len cap p g va xs v ms):w.frozen? (zH g 0)=false:=h.box.frozen 0
theorem pick (h:PS w0 w b a len cap p g va xs v ms) (hrd:Rd w' b a len cap q) (hg:w.grownBy w' (some b)):PS w0 w' b a len cap q g va xs v ms :=
 ⟨hrd,zU h.gr hg,h.args.kept hg (fun k e hk=>by cases e;have:=(h.args.lt _ hk).1;have:=h.blt;omega),qk h.box hg (by have:=h.own;have:=h.blt;simp;omega),h.own,h.row.low hg h.blt,qk h.res hg (by have:=h.blt;simp;omega),h.r0⟩
theorem drew (h:PS w0 w b a len cap p g va xs v ms):PS w0 w.drew b a len cap p g va xs v ms:=⟨Rd.heap h.rd rfl,⟨h.gr.os,h.gr.tape,h.gr.output,h.gr.size,h.gr.block⟩,h.args,h.box,h.own,⟨h.row.row,h.row.ops,h.row.dis⟩,h.res,h.r0⟩
theorem alloc (h:PS w0 w b a len cap p g va xs v ms) (o:Obj):PS w0 (w.alloc o) b a len cap p g va xs v ms:=by
 have hA:=World.grownBy_alloc w o none
 exact⟨h.rd.alloc o,qh h.gr o,World.ownsRow.alloc h.args o,qk h.box hA (by simp),h.own,h.row.kept hA (fun g e=>by cases e),qk h.res hA (by simp),h.r0⟩
theorem appended (h:PS w0 w b a len cap p g va xs v ms) (qA:w.grownBy w' v.ownBlock):Rd w' b a len cap p/\w0.grownBy w' (some b)/\xL w0.heap.size w' va xs/\w'.rowIs g 25 1 (fun _=>v)/\w'.rowIs w0.heap.size 25 1 (fun _=>zQ)/\∀u L,yh w0.heap.size w u L->yh w0.heap.size w' u L:=by
 have zT:∀k,v.ownBlock=some k->w0.heap.size<=k:=fun k e=>(h.row.row.lt k e).1
 obtain⟨p0,h0⟩:=h.r0
 exact⟨Rd.kept h0 h.rd h.gr.size qA zT,xi h.gr qA zT,h.args.kept qA (fun k e hk=>zea h.args h.row.row k hk e),qk h.box qA (fun e=>wa h.box h.row.row (by decide) e.symm),qk h.res qA (fun e=>wa h.res h.row.row (by decide) e.symm),
  fun u L hu=>hu.kept qA (fun k e hk=>zb9 h.row.row hu k e hk)⟩
theorem stored (h:PS w0 w b a len cap p g va xs v ms) (qA:w.grownBy w' v.ownBlock) {A T:Int} {vo:Value} {L:yH} (hrow':jY w0.heap.size w' v' (ms.map MM.tri ++ [(A,T,vo)])) (ho:yh w0.heap.size w vo L) (hd:∀m∈ms,∀k,m.2.2.1.ownBlock=some k->vo.ownBlock≠some k) :
 PS w0 (w'.setCell (zH g 0) v') b a len cap p g va xs v' (ms ++ [(A,T,vo,L)]):=by
 obtain⟨h1,h2,h3,h4,h5,h6⟩:=h.appended qA
 have zy:=h.own
 have k:=xj w' g 0 v'
 have e:∀k,some g=some k->w0.heap.size<=k:=fun k e=>by cases e;omega
 obtain⟨p0,h0⟩:=h.r0
 have hmr:jY w0.heap.size w' v' ((ms ++ [(A,T,vo,L)]).map MM.tri):=by simpa [MM.tri] using hrow'
 have hops:∀m∈ms ++ [((A,T,vo,L):MM)],yh w0.heap.size w' m.2.2.1 m.2.2.2:=by
  intro m hm
  rcases List.mem_append.1 hm with hm | hm
  ·exact h6 _ _ (h.row.ops m hm)
  ·simp at hm;subst hm;exact h6 _ _ ho
 refine⟨Rd.kept h0 h1 h2.size k e,xi h2 k e,h3.kept k (fun q hq hk=>by cases hq;exact Jj h4 h3 (by decide) hk),(h4.set 0 v').congr (fun i hi=>?_),zy,
  ⟨hmr.kept k (fun q hq hk=>by cases hq;exact wa h4 hmr (by decide) hk),fun m hm=>(hops m hm).kept k (fun q hq hk=>by cases hq;exact ZX h4 (hops m hm) (by decide) hk),?_⟩,qk h5 k (by simp;omega),h.r0⟩
 ·match i,hi with | 0,_=>simp
 ·exact List.pairwise_append.2 ⟨h.row.dis,by simp,fun m hm n hn=>by simp at hn;subst hn;exact hd m hm⟩
theorem final (h:PS w0 w b a len cap p g va xs v ms):vk w0.heap.size (w.setCell (zH w0.heap.size 0) v) v ms/\Rd (w.setCell (zH w0.heap.size 0) v) b a len cap p/\w0.grownBy (w.setCell (zH w0.heap.size 0) v) (some b)/\(w.setCell (zH w0.heap.size 0) v).cell? (zH w0.heap.size 0)=some v:=by
 have k:=xj w w0.heap.size 0 v
 have e:∀k,some w0.heap.size=some k->w0.heap.size<=k:=fun k e=>by cases e;exact Nat.le_refl _
 obtain⟨p0,h0⟩:=h.r0
 refine⟨h.row.kept k (fun q e=>by cases e;exact⟨wa h.res h.row.row (by decide),fun m hm=>ZX h.res (h.row.ops m hm) (by decide)⟩),Rd.kept h0 h.rd h.gr.size k e,xi h.gr k e,?_⟩
 exact World.cell?_setCell_same _ _ _ (h.res.cell (i:=0) (by decide))
end PS
def zcS (m:MM):Prop:=2<=m.2.2.2.length/\m.2.2.2.length<=14
theorem WP (w:World) (b:Nat) (a:Option Addr) (len cap p:Nat) (hr:Rd w b a len cap p) (hp:p+400<=1000000) :
 Calls Tryz.prog 78 #[zJ b 0] w fun e w'=>∃(v:Value) (ms:List MM) (p':Nat),e=.returned (.agg #[v])/\vk w.heap.size w' v ms/\2<=ms.length/\ms.length<=4/\(∀m∈ms,zcS m)/\p<=p'/\p'<=p+400/\Rd w' b a len cap p'/\w.grownBy w' (some b):=by
 have hbw:b<w.heap.size:=World.block_lt_of_cell? _ _ hr.s
 have Q7:=hr.alloc (.cells #[.slice none 0 0] 25)
 have hgA:=qh (kz w (some b)) (.cells #[.slice none 0 0] 25)
 have resA:=wO w (.slice none 0 0)
 have nB:=xL.one (w.alloc (.cells #[.slice none 0 0] 25)) 0
 have hrB:=Q7.alloc (.cells #[.int .i64 0] 3)
 have hgB:=qh hgA (.cells #[.int .i64 0] 3)
 have resB:=resA.alloc (.cells #[.int .i64 0] 3)
 simp only[World.size_alloc] at nB
 replace nB:=nB.mono (Nat.le_succ _)
 clear Q7 hgA resA
 go_enter Tryz.func78,Tryz.ntmps78
 go_wp2_with fail
 generalize (w.alloc (.cells #[.slice none 0 0] 25)).alloc (.cells #[.int .i64 0] 3)=W0 at *
 have zbh:=hgB.size
 refine(qe _ _ _ _ _ _ _ hrB (by omega) (by omega) (by omega)).mono ?_
 rintro e w1 ⟨x,rfl,Qi,Z5,xS,Yh⟩
 have n1:=nB.kept Yh (fun k e hk=>by cases e;have:=(nB.lt _ hk).1;omega)
 have res1:=qk resB Yh (by simp;omega)
 have jx:=zU hgB Yh
 clear hrB hgB Yh nB resB
 obtain⟨m,rfl⟩:=Int.eq_ofNat_of_zero_le Qi
 go_wp2_with fail
 go_loopg [3,4] (m+1) (fun d va n wr=>∃(xs:List Int) (k q:Nat),d=k/\n=zI k/\xL w.heap.size wr va xs/\xs.length+k=m+2/\1<=xs.length/\(∀i,(hi:i<xs.length)->0<=xs[i]/\xs[i]<=2)/\p+1<=q/\q<=p+xs.length/\Rd wr b a len cap q/\w.grownBy wr (some b)/\wr.rowIs w.heap.size 25 1 (fun _=>zQ))
 case atStart=>exact⟨[0],m+1,p+1,rfl,by go_num,n1,by simp;omega,by simp,by simp,by omega,by simp,xS,jx,res1⟩
 case round =>
  obtain⟨xs,k,q,hgk,rfl,hn,hlen,hl1,hxs,hq,hq',hrd,hgr,hres⟩:=hrel
  replace hgk:=hgk.symm
  subst hgk
  by_cases hk:0<k
  ·have uW:(0:Int)<(k:Int):=by omega
   have vJ:=hgr.size
   go_wp2_with fail
   refine(qe _ _ _ _ _ _ _ hrd (by omega) (by omega) (by omega)).mono ?_
   rintro e w2 ⟨y,rfl,Vj,K4,xP,qA⟩
   have WG:=hn.kept qA (fun k e hk=>by cases e;have:=(hn.lt _ hk).1;omega)
   have zfb:=qk hres qA (by simp;omega)
   have xR:=zU hgr qA
   have zcI:=xR.size
   clear hn hrd hgr hres qA
   go_wp2_with (at_builtin;refine zaI _ (by rfl) _ _ (by rfl) _ _ xs (by rfl) WG _ _ (by rfl) (by omega) (by omega) ?_;intro g3 cp3 w3 hn3 j9 hB3 hlt3)
   obtain⟨jb,xz,hres3⟩:=Xq hr xP xR WG zfb j9
   clear WG xP xR zfb j9 hB3 hlt3
   go_wp2
   go_roundg (k - 1)
   case measure=>omega
   case rel=>exact⟨xs ++ [y],k - 1,q+1,rfl,by first | go_num | (simp;omega),by simpa using hn3,by simp;omega,by simp,fun i hi=>by
    rw[List.getElem_append]
    split
    ·exact hxs _ _
    ·simp;omega,by omega,by simp;omega,jb,xz,hres3⟩
  ·obtain rfl:k=0:=by omega
   have vJ:=hgr.size
   have hP:PS w (wr.alloc (.cells #[.slice none 0 0] 25)) b a len cap q wr.heap.size u3 xs (.slice none 0 0) []:=by
    refine⟨hrd.alloc _,qh hgr _,World.ownsRow.alloc hn _,wO _ _,?_,vk.nil _ _,hres.alloc _,⟨p,hr⟩⟩
    have:=hres.lt;omega
   obtain⟨ga,ca,hva⟩:=hn.shape1 hl1
   subst hva
   have hxl:Hid (xs.length=m+2):=by show xs.length=m+2;omega
   clear hn hrd hgr hlen n1 xS jx res1 hres
   go_wp2_with fail
   generalize wr.alloc (.cells #[.slice none 0 0] 25)=W1 at *
   generalize wr.heap.size=gB at *
   go_loopg [6] xs.length (fun d i wq=>∃(k q':Nat) (v:Value) (ms:List MM),k<=xs.length/\d=xs.length - k/\i=zI k/\ms.length=k/\(∀m∈ms,zcS m)/\q<=q'/\q'<=q+70 * k/\PS w wq b a len cap q' gB (zK ga 0 xs.length ca) xs v ms)
   case atStart=>exact⟨0,q,_,[],Nat.zero_le _,rfl,rfl,rfl,by simp,by omega,by omega,hP⟩
   case round =>
    obtain⟨k,q',v,ms,hk,rfl,rfl,HML,hmo,hqq,hqq',Z4⟩:=hrel
    have wX:Hid (ms.length=k):=HML
    clear HML
    have Wb:ms.length<=4:=by have:=wX.out;have:=hxl.out;omega
    by_cases yz:k<xs.length
    ·have uW:(k:Int)<(xs.length:Int):=by omega
     have c0:=Z4.c0
     have zdY:=Z4.gr.size
     obtain⟨aV,cV,UH⟩:=Z4.row.shape
     subst UH
     have HD:Hid (∀m∈ms,∀k,m.2.2.1.ownBlock=some k->k<wr.heap.size):=fun m hm k e=>((Z4.row.ops m hm).lt k e).2
     have HX:Hid (∀i,(hi:i<xs.length)->wr.cell? (zH ga i)=some (zI xs[i])/\0<=xs[i]/\xs[i]<=2):=fun i hi=>⟨Z4.args.cell i hi,hxs i hi⟩
     have hgab:ga≠b:=by have:=(Z4.args.lt ga rfl).1;omega
     have hPd:=Z4.drew
     clear hxs Z4
     have UB:xs.length<=4:=by have:=hxl.out;omega
     go_wp2_with fail
     go_region_law (first
      | (refine zbJ _ (by rfl) _ _ (by rfl) w.heap.size _ (ms.map MM.tri) (by rfl) (World.ownsRow.alloc hP4.row.row _) [(A,T,vo)] (by simp;exact hsl) ⟨w4.heap.size,0,none⟩ _ (by rfl) (World.news_of_block (Go.Deep.blk_alloc_new w4 _)) (by simp) (by simp;omega) (by have:=hP4.gr.size;simp;omega) ?_;intro g5 cp5 w5 yt wW hB5 zbb;have hap:=(hP4.alloc _).appended wW;have q0:=hap.2.2.2.1.cell (i:=0) (by decide);have e0:=hap.2.2.2.1.frozen 0)
      | (go_simp;go_at_call 122;refine(Vm _ _ _ _ _ _ ga _ xs k hPd.rd (by omega) HX.out hgab yz UB).mono ?_;rintro e w4 ⟨A,T,vo,L,q4,rfl,yU,hL2,hL14,hA0,hA2,hT1,hT4,hq4,hq4',xH,wj⟩;have hP4:=hPd.pick xH wj;have k0:=hP4.c0;have k0':=(fun o=>zc (zR _ o) k0);have hsl:JO vo:=by obtain⟨a1,c1,h1⟩:=yU.shape;exact⟨_,_,_,h1⟩))
     all_goals
      simp only[List.length_map,List.length_cons,List.length_nil,Nat.zero_add] at yt
      have hPY:=(hP4.alloc _).stored wW yt (World.ownsRow.alloc (yU.mono (by simpa using zdY)) _) (fun m hm j e e'=>by have:=HD.out m hm j e;have:=(yU.lt j e').1;simp at this;omega)
      have Vg:∀m∈ms ++ [((A,T,vo,L):MM)],zcS m:=fun m hm=>by
       rcases List.mem_append.1 hm with hm | hm
       ·exact hmo m hm
       ·simp at hm;subst hm;exact⟨hL2,hL14⟩
      clear hap q0 e0 wW yt hB5 zbb k0 k0' hP4 xH wj hPd HX HD yU
      go_wp2
      go_roundg (xs.length - (k+1))
      case measure=>omega
      case rel=>exact⟨k+1,q4,_,_,by omega,rfl,by go_num,by have:=wX.out;simp;omega,Vg,by omega,by omega,hPY⟩
    ·obtain rfl:k=xs.length:=by omega
     have c0:=Z4.c0
     have r0:=Z4.res.cell (i:=0) (by decide)
     have rf:=Z4.res.frozen 0
     have hF:=Z4.final
     obtain⟨aV,cV,UH⟩:=Z4.row.shape
     subst UH
     clear Z4
     go_wp2
     generalize wr.setCell (zH w.heap.size 0) (.slice aV ms.length cV)=W3 at hF ⊢
     obtain⟨h1,h2,h3,d0⟩:=hF
     exact bodyPost_ret (v:=.agg #[.slice aV ms.length cV]) (by simp[results,Tryz.results78,go_sem,d0]) rfl ⟨_,_,_,rfl,h1,by have:=wX.out;have:=hxl.out;omega,Wb,hmo,by omega,by have:=hxl.out;omega,h2,h3⟩
end Go.Proofs.YtbjgjjkgfnfejaaGreatDoor

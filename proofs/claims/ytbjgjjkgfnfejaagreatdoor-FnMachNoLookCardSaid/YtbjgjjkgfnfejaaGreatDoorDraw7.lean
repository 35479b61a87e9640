/-
  What draws: rows of operations, a bit more: what they look like, one of them written into; the answer of l71Method.
-/
import Derived.Test.YtbjgjjkgfnfejaaGreatDoorDraw3
import Derived.Deep.DeepCutAuto
import Derived.Deep.RegionLaw
namespace Go.Proofs.YtbjgjjkgfnfejaaGreatDoor
set_option maxHeartbeats 8000000
set_option maxRecDepth 100000
open Go.RowKit
theorem ye.shape {B:Nat} {w:World} {v:Value} {L:yH} (h:ye B w v L):∃a c,v=.slice a L.length c:=by
 obtain⟨_,h2⟩:=h
 rcases h2 with⟨rfl,hn⟩ | ⟨g,cap,cur,rfl,_⟩
 ·exact⟨none,0,by rw[hn]⟩
 ·exact⟨_,_,rfl⟩
theorem ye.shape1 {B:Nat} {w:World} {v:Value} {L:yH} (h:ye B w v L) (hn:1<=L.length):∃g c,v=zK g 0 L.length c:=by
 obtain⟨_,h2⟩:=h
 rcases h2 with⟨rfl,hn'⟩ | ⟨g,cap,cur,rfl,_⟩
 ·omega
 ·exact⟨_,_,rfl⟩
theorem zeU (L:yH):∀(i:Nat) (h:i<L.length) (x:Int),ul (L.set i (L[i].1,x))=(ul L).set (i * 2+1) (zI x):=by
 induction L with
 | nil=>intro i h;exact absurd h yB
 | cons a l ih =>
  intro i h x
  cases i with
  | zero=>rfl
  | succ i =>
   have:=ih i (by simpa using h) x
   rw[show(i+1) * 2+1=(i * 2+1)+2 by omega]
   simp only[List.set_cons_succ,List.getElem_cons_succ]
   show [Value.int .i64 a.1,zI a.2] ++ ul _=([Value.int .i64 a.1,zI a.2] ++ ul l).set (i * 2+1+2) _
   rw[this]
   rfl
theorem ye.setA {B:Nat} {w:World} {g c:Nat} {L:yH} (h:ye B w (zK g 0 L.length c) L) (i:Nat) (hi:i<L.length) (x:Int) :
 (∃y,w.cell? (zH g (i * 2+1))=some (zI y))/\w.frozen? (zH g (i * 2+1))=false/\ye B (w.setCell (zH g (i * 2+1)) (zI x)) (zK g 0 L.length c) (L.set i (L[i].1,x))/\w.grownBy (w.setCell (zH g (i * 2+1)) (zI x)) (some g):=by
 obtain⟨s1,s2⟩:=World.ownsRow.stored h (i * 2+1) (zI x)
 refine⟨⟨L[i].2,?_⟩,?_,?_,s2⟩
 ·have:=World.ownsRow.cells h (g:=g) rfl (i * 2+1) _ (Xn L i hi).2
  rwa [Addr.add_lit,Nat.zero_add] at this
 ·rcases h.2 with⟨e,_⟩ | ⟨g',cap',cur,e,_,hg,_⟩
  ·cases e
  ·cases e
   unfold World.frozen?;rw[hg];simp
 ·show World.ownsRow _ _ _ _ _ _ _
  rw[List.length_set,zeU L i hi x]
  exact s1
namespace MS
variable {w0 w w' W:World} {b:Nat} {a:Option Addr} {len cap p q g:Nat} {A T:Int} {v v':Value} {L L':yH}
theorem opSet {gv c:Nat} (h:MS w0 w b a len cap p g A T (zK gv 0 L.length c) L) (i:Nat) (hi:i<L.length) (x:Int):MS w0 (w.setCell (zH gv (i * 2+1)) (zI x)) b a len cap p g A T (zK gv 0 L.length c) (L.set i (L[i].1,x)):=by
 obtain⟨_,_,hr,hg⟩:=h.row.setA i hi x
 have e:∀k,some gv=some k->w0.heap.size<=k:=fun k e=>by cases e;exact(h.row.lt gv rfl).1
 obtain⟨p0,h0⟩:=h.r0
 exact⟨Rd.kept h0 h.rd h.gr.size hg e,xr h.gr hg e,yT h.box hg (fun e=>wR h.box h.row (by decide) e.symm),h.own,hr,yT h.res hg (fun e=>wR h.res h.row (by decide) e.symm),h.r0⟩
theorem final (h:MS w0 w b a len cap p g A T v L) :
 let W3:=((w.setCell (zH w0.heap.size 0) (zI A)).setCell (zH w0.heap.size 1) (zI T)).setCell (zH w0.heap.size 2) v
 ye w0.heap.size W3 v L/\Rd W3 b a len cap p/\w0.grownBy W3 (some b)/\W3.cell? (zH w0.heap.size 0)=some (zI A)/\W3.cell? (zH w0.heap.size 1)=some (zI T)/\W3.cell? (zH w0.heap.size 2)=some v:=by
 intro W3
 have hk:w.grownBy W3 (some w0.heap.size):=⟨rfl,rfl,rfl,by simp[W3,World.setCell],fun k _ hk=>(Below.heap_setCell _ _ _ _ (fun e=>hk (by rw[e]))).trans ((Below.heap_setCell _ _ _ _ (fun e=>hk (by rw[e]))).trans (Below.heap_setCell _ _ _ _ (fun e=>hk (by rw[e]))))⟩
 have e:∀k,some w0.heap.size=some k->w0.heap.size<=k:=fun k e=>by cases e;exact Nat.le_refl _
 obtain⟨p0,h0⟩:=h.r0
 have hres:=((h.res.set 0 (zI A)).set 1 (zI T)).set 2 v
 refine⟨h.row.kept hk (fun q e hk=>by cases e;exact wR h.res h.row (by decide) hk),Rd.kept h0 h.rd h.gr.size hk e,xr h.gr hk e,?_,?_,?_⟩
 ·have:=hres.cell (i:=0) (by decide);simpa using this
 ·have:=hres.cell (i:=1) (by decide);simpa using this
 ·have:=hres.cell (i:=2) (by decide);simpa using this
end MS
theorem Fit.ok {nm:Nat} {t:Int} {o:Int × Int} (h:Fit nm t o) (no:Nat):jm nm no t o.1 o.2=true:=by
 obtain⟨h7,h8,h⟩:=h
 have e:¬(o.1=7\/o.1=8):=fun e=>e.elim h7 h8
 unfold jm at h ⊢
 rw[if_neg e] at h
 rw[if_neg e]
 exact h
def jP (nm:Nat) (t z:Int) (L:yH):Prop:=∀i,(hi:i<L.length)->(L[i].1=8/\(i:Int)=z)\/((i:Int)≠z/\Fit nm t L[i])
def XP (nm:Nat) (t:Int) (n:Nat) (L:yH):Prop:=∀o∈L,(o.1=8/\0<=o.2/\o.2<=(n:Int))\/Fit nm t o
theorem jP.nil {nm:Nat} {t z:Int}:jP nm t z []:=fun _ hi=>absurd hi yB
theorem jP.append {nm:Nat} {t z:Int} {L M:yH} (h:jP nm t z L) (k:Fits nm t M) (hz:z<(L.length:Int)):jP nm t z (L ++ M):=fun i hi=>by
 by_cases e:i<L.length
 ·rw[List.getElem_append_left e]
  exact h i e
 ·rw[List.getElem_append_right (by omega)]
  exact .inr ⟨by omega,k _ (List.getElem_mem _)⟩
theorem jP.fits {nm:Nat} {t:Int} {L:yH} (h:jP nm t (-1) L):Fits nm t L:=fun o e=>by
 obtain⟨i,hi,rfl⟩:=List.getElem_of_mem e
 rcases h i hi with⟨_,e⟩ | e
 ·omega
 ·exact e.2
theorem jP.skip {nm:Nat} {t:Int} {L:yH} {u:Int} (h:jP nm t (-1) L) (h0:0<=u) (h1:u<t):jP nm t ((L.length:Int)+1) (L ++ [(2,u),(8,0)]):=fun i hi=>by
 by_cases e:i<L.length
 ·rw[List.getElem_append_left e]
  exact .inr ⟨by omega,h.fits _ (List.getElem_mem _)⟩
 ·have hl:(L ++ [(2,u),(8,0)]).length=L.length+2:=by simp
  have h2:i=L.length\/i=L.length+1:=by omega
  rcases h2 with rfl | rfl
  ·refine .inr ⟨by omega,?_⟩
   rw[List.getElem_append_right zD]
   simp only[Nat.sub_self,List.getElem_cons_zero]
   exact uO h0 h1
  ·refine .inl ⟨?_,by omega⟩
   rw[List.getElem_append_right (by omega)]
   simp
theorem jP.to {nm:Nat} {t:Int} {L:yH} (h:jP nm t (-1) L):XP nm t L.length L:=fun o e=>.inr (h.fits o e)
theorem jP.set {nm:Nat} {t:Int} {L:yH} {z:Nat} (h:jP nm t (z:Int) L) (hz:z<L.length):XP nm t (L.set z (L[z].1,(L.length:Int))).length (L.set z (L[z].1,(L.length:Int))):=fun o e=>by
 obtain⟨i,hi,rfl⟩:=List.getElem_of_mem e
 have hi':i<L.length:=by simpa using hi
 rw[List.getElem_set]
 split
 ·next e =>
  rcases h z hz with⟨h8,_⟩ | hf
  ·exact .inl ⟨h8,by simp,by simp⟩
  ·exact absurd rfl hf.1
 ·next e =>
  rcases h i hi' with⟨_,e2⟩ | hf
  ·omega
  ·exact .inr hf.2
theorem XP.done2 {nm:Nat} {t:Int} {L:yH} {a b:Int × Int} (h:XP nm t L.length L) (ha:Fit nm t a) (hb:Fit nm t b):Xx nm t (L ++ [a] ++ [b])=true:=by
 unfold Xx
 rw[List.all_eq_true]
 intro o e
 have hl:(L ++ [a] ++ [b]).length=L.length+2:=by simp
 rw[hl]
 simp only[List.mem_append,List.mem_singleton] at e
 rcases e with(e | rfl) | rfl
 ·rcases h o e with⟨h8,h0,h1⟩ | hf
  ·rw[h8,zgW]
   exact zx.2 ⟨h0,by omega⟩
  ·exact hf.ok _
 ·exact ha.ok _
 ·exact hb.ok _
theorem Ue (w:World) (b:Nat) (a:Option Addr) (len cap p:Nat) (ga c:Nat) (xs:List Int) (s:Nat) (hr:Rd w b a len cap p) (hp:p+70<=1000000) (hxs:∀i,(hi:i<xs.length)->w.cell? (zH ga i)=some (zI xs[i])/\0<=xs[i]/\xs[i]<=2) (hga:ga≠b)
 (hs:s<xs.length) (Wu:xs.length<=4) :
 Calls Tryz.prog 122 #[zJ b 0,zK ga 0 xs.length c,zI s] w fun e w'=>∃(A T:Int) (v:Value) (L:yH) (p':Nat),e=.returned (.agg #[zI A,zI T,v])/\ye w.heap.size w' v L/\2<=L.length/\L.length<=14/\0<=A/\A<=2/\1<=T/\T<=4/\p<=p'/\p'<=p+70/\Rd w' b a len cap p'/\w.grownBy w' (some b)/\A=xs[s]/\A<=T/\Xx xs.length T L=true:=by
 have hbw:b<w.heap.size:=World.block_lt_of_cell? _ _ hr.s
 obtain⟨c0,x0,x1⟩:=hxs s hs
 have hgw:ga<w.heap.size:=World.block_lt_of_cell? _ _ c0
 obtain⟨y,hy⟩:∃y,y=xs[s]:=⟨_,rfl⟩
 rw[<-hy] at c0 x0 x1
 have HY:Hid (y=xs[s]):=hy
 clear hy
 have Ua:(0:Int)<=(s:Int):=by omega
 have zaF:(s:Int)<(xs.length:Int):=by omega
 have hga':some ga≠some b:=by simp;exact hga
 go_enter Tryz.func122,Tryz.ntmps122
 go_upto_region 1 with fail
 go_cut [7] (fun m7 wx=>∃(g:Nat) (T:Int) (v:Value),m7=zJ g 0/\1<=T/\T<=4/\y<=T/\MS w wx b a len cap (p+1) g y T v [])
 case first =>
  have HX:Hid (∀i,(hi:i<xs.length)->w.cell? (zH ga i)=some (zI xs[i])/\0<=xs[i]/\xs[i]<=2):=hxs
  clear hxs
  have HR:Hid (Rd w b a len cap p):=hr
  have hD1:∀(v:World) (k:Nat) (o:Obj),(v.drewN k).alloc o=(v.alloc o).drewN k:=fun _ _ _=>rfl
  have hD2:∀(v:World) (k:Nat) (q:Addr) (u:Value),(v.drewN k).setCell q u=(v.setCell q u).drewN k:=fun _ _ _ _=>rfl
  have yE:b<w.heap.size+1:=by omega
  have qR:b<w.heap.size+1+1:=by omega
  have hE1:∀o v,(w.alloc o).setCell (zH b 1) v=(w.setCell (zH b 1) v).alloc o:=fun o v=>World.setCell_alloc_past _ _ _ _ hbw
  have hE2:∀o1 o2 v,((w.alloc o1).alloc o2).setCell (zH b 1) v=((w.setCell (zH b 1) v).alloc o1).alloc o2:=fun o1 o2 v=>by rw[World.setCell_alloc_past _ _ _ _ (by simp;omega),hE1]
  have hE3:∀o1 o2 o3 v,(((w.alloc o1).alloc o2).alloc o3).setCell (zH b 1) v=(((w.setCell (zH b 1) v).alloc o1).alloc o2).alloc o3:=fun o1 o2 o3 v=>by rw[World.setCell_alloc_past _ _ _ _ (by simp;omega),hE2]
  have hA1:∀o1,(w.alloc o1).cell? (zH ga s)=some (zI y):=fun o1=>zc (zR _ _) c0
  have hA2:∀o1 o2,((w.alloc o1).alloc o2).cell? (zH ga s)=some (zI y):=fun o1 o2=>zc (zR _ _) (hA1 o1)
  have hA3:∀o1 o2 o3,(((w.alloc o1).alloc o2).alloc o3).cell? (zH ga s)=some (zI y):=fun o1 o2 o3=>zc (zR _ _) (hA2 o1 o2)
  have hS:∀v,(w.setCell (zH b 1) v).cell? (zH ga s)=some (zI y):=fun v=>by
   rw[World.cell?_setCell_other _ _ _ _ (fun e=>by have:=congrArg Addr.block e;simp at this;exact hga this.symm)];exact c0
  have hS1:∀v o1,((w.setCell (zH b 1) v).alloc o1).cell? (zH ga s)=some (zI y):=fun v o1=>zc (zR _ _) (hS v)
  have hS2:∀v o1 o2,(((w.setCell (zH b 1) v).alloc o1).alloc o2).cell? (zH ga s)=some (zI y):=fun v o1 o2=>zc (zR _ _) (hS1 v o1)
  have hS3:∀v o1 o2 o3,((((w.setCell (zH b 1) v).alloc o1).alloc o2).alloc o3).cell? (zH ga s)=some (zI y):=fun v o1 o2 o3=>zc (zR _ _) (hS2 v o1 o2)
  clear hr
  go_region_held3 (fun w'=>w'.cell? (zH ga s)=some (zI y))
   (simp[*])
   ((go_at_call 79;refine(Vt _ _ a len cap p _ (by first | exact Rd.heap (HR.out.alloc _) rfl | exact Rd.heap ((HR.out.alloc _).alloc _) rfl | exact Rd.heap (((HR.out.alloc _).alloc _).alloc _) rfl) (by omega) (by omega) (by omega)).mono ?_;rintro e w1 ⟨x,m,rfl,QA,ZH,rfl⟩))
  all_goals
   clear hD1 hD2 hE1 hE2 hE3 hA1 hA2 hA3 hS hS1 hS2 hS3
   go_wp2_with fail
  all_goals
   go_meet
   have hw:IntKind.i64.wrap (1+x)=1+x:=by rw[IntKind.wrap_i64];omega
   first
    | (refine⟨_,_,_,rfl,?_,?_,?_,zgQ HR.out _ _ _⟩ <;> omega)
    | (refine⟨_,_,_,rfl,?_,?_,?_,zgR HR.out _ _ _⟩ <;> omega)
 case rest =>
  obtain⟨g,T,v0,rfl,hT1,hT4,hyT,hM⟩:=hcut
  go_wp2_with fail
  go_loopg [8,9] 4 (fun d sk i wr=>∃(k q:Nat) (v:Value) (L:yH) (z:Int),k<=4/\d=4 - k/\i=zI k/\sk=zI z/\(z=-1\/(0<=z/\z<(L.length:Int)))/\MS w wr b a len cap q g y T v L/\L.length<=12/\p+1<=q/\q<=p+1+13 * k/\Hid (jP xs.length T z L))
  case atStart=>exact⟨0,p+1,v0,[],-1,by omega,rfl,rfl,rfl,.inl rfl,hM,by simp,by omega,by omega,jP.nil⟩
  case round =>
   obtain⟨k,q,v,L,z,hk,rfl,rfl,rfl,hz,hMS,hL,hq,hq',HB⟩:=hrel
   by_cases yt:k<4
   ·have v7:(k:Int)<4:=by omega
    have c1:=hMS.c1
    have HX:Hid (∀i,(hi:i<xs.length)->wr.cell? (zH ga i)=some (zI xs[i])/\0<=xs[i]/\xs[i]<=2):=fun i hi=>⟨hMS.gr.cell (hxs i hi).1 hga',(hxs i hi).2⟩
    clear hxs
    go_wp2_with fail
    refine(zaM _ _ _ _ _ _ ga _ xs _ hMS.rd (by omega) HX.out hga (by omega) Wu hT1 hT4).mono ?_
    rintro e wP ⟨vP,oP,pP,rfl,UD,hlP,hlP1,hpP,hpP',hrdP,hgP,hfP'⟩
    have hfP:Hid (Fits xs.length T oP):=hfP'
    clear hfP'
    have hMP:=hMS.pick hrdP hgP
    have zff:=hMS.gr.size
    have HV:Hid (∀k,v.ownBlock=some k->k<wr.heap.size):=fun k e=>(hMS.row.lt k e).2
    have hbw':=hMS.blt
    have HG:Hid (g<wr.heap.size/\w.heap.size<g):=⟨hMS.box.lt,hMS.own⟩
    obtain⟨gP,cP,hvP⟩:=UD.shape1 (by omega)
    subst hvP
    clear HX c1 hMS hrdP hgP
    rcases hz with hz | ⟨jM,xP⟩
    ·subst hz
     go_wp2_with fail
     refine(ql _ _ _ _ _ _ _ hMP.rd (by omega) (by omega) (by omega)).mono ?_
     rintro e w3 ⟨x,rfl,QA,ZH,je,ko⟩
     have hM3:=hMP.pick je ko
     have QS:=UD.kept ko (fun q e hk=>by cases e;have:=(UD.lt _ hk).1;omega)
     clear UD hMP je ko
     by_cases hx:x=0
     ·subst hx
      by_cases h10:L.length+oP.length<=10
      ·have h10z:(L.length:Int)+(oP.length:Int)<=10:=by omega
       obtain⟨aV,cV,K1⟩:=hM3.row.shape
       have d2:=hM3.c2
       have d1:=hM3.c1
       have Ub:=hM3.gr.size
       subst K1
       go_wp2_with fail
       have hMd:=hM3.drew
       go_region_law (first
        | (refine XA _ (by rfl) _ _ (by rfl) w.heap.size _ L (by rfl) (World.ownsRow.alloc KT.row _) [(2,u),(8,0)] w4.heap.size _ (by rfl) (World.news_of_block (Go.Deep.blk_alloc_new w4 _)) (by simp) (by simp;omega) (by have:=KT.gr.size;simp;omega) ?_;intro g5 cp5 w5 yq Zb hB5 Wv;have hap:=KT.appended (zR _ _) Zb;have q2:=hap.2.2.1.cell (i:=2) (by decide);have e2:=hap.2.2.1.frozen 2)
        | (go_simp;go_at_call 79;refine(ql _ _ _ _ _ _ _ hMd.rd (by omega) (by omega) (by omega)).mono ?_;rintro e w4 ⟨u,rfl,QV,hu1,xK,uy⟩;have KT:=hMd.pick xK uy;have k1:=KT.c1;have k2:=KT.c2;have k2':=(fun o=>zc (zR _ o) k2)))
       all_goals
        have Yx:=KT.stored (zR _ _) Zb yq
        have zcb:ye wr.heap.size w4 _ oP:=ye.kept (w:=w3.drew) QS uy (fun q e hk=>by cases e;have:=(QS.lt _ hk).1;omega)
        have zcc:=ye.kept (World.ownsRow.alloc zcb _) Zb (fun q e hk=>by have:=HV.out q e;have:=(zcb.lt _ hk).1;omega)
        have QU:=zcc.kept (qM w5 g 2 (zK g5 0 (L.length+2) cp5)) (fun q e hk=>by cases e;have:=(zcc.lt _ hk).1;have:=HG.out.1;omega)
        clear hap q2 e2 Zb yq hB5 Wv k1 k2 k2' KT xK uy hMd hM3 QS zcb zcc d1 d2
        generalize w5.setCell (zH g 2) (zK g5 0 (L.length+2) cp5)=w6 at *
        have c2:=Yx.c2
        have hszY:=Yx.gr.size
        have f2:=Yx.f2
        have hl2:(L ++ [(2,u),(8,0)]).length=L.length+2:=by simp
        have VS:(L ++ [(2,u),(8,0)] ++ oP).length=L.length+2+oP.length:=by simp;omega
        by_cases h12:L.length+2+oP.length<=12
        ·have h12z:(L.length:Int)+2+(oP.length:Int)<=12:=by omega
         go_wp2_with (at_builtin;refine kL _ (by rfl) _ _ (by rfl) _ _ (L ++ [(2,u),(8,0)]) (by simp;rfl) Yx.row oP gP _ (by rfl) (World.ownsRow.cells QU rfl) (by omega) (by simp;omega) (by omega) ?_;intro g2 cp2 w2 yO qF hB2 X6;have hap:=Yx.appended zS qF;have q2:=hap.2.2.1.cell (i:=2) (by decide);have e2:=hap.2.2.1.frozen 2)
         have MZ:=Yx.stored zS qF yO
         rw[hl2] at MZ
         clear hap q2 e2 qF yO hB2 X6 c2 f2 Yx
         go_roundg (4 - (k+1))
         case measure=>omega
         case rel=>exact⟨k+1,_,_,_,_,by omega,rfl,by go_num,rfl,.inr ⟨by omega,by rw[VS];omega⟩,MZ,by rw[VS];omega,by omega,by omega,(HB.out.skip QV hu1).append hfP.out (by rw[hl2];omega)⟩
        ·omega
      ·have h10z:¬(L.length:Int)+(oP.length:Int)<=10:=by omega
       obtain⟨aV,cV,K1⟩:=hM3.row.shape
       subst K1
       have Yx:=hM3
       have QU:=QS
       clear hM3 QS
       have c2:=Yx.c2
       have hszY:=Yx.gr.size
       have f2:=Yx.f2
       by_cases h12:L.length+oP.length<=12
       ·have h12z:(L.length:Int)+(oP.length:Int)<=12:=by omega
        go_wp2_with (at_builtin;refine kL _ (by rfl) _ _ (by rfl) _ _ L (by rfl) Yx.row oP gP _ (by rfl) (World.ownsRow.cells QU rfl) (by omega) (by omega) (by omega) ?_;intro g2 cp2 w2 yO qF hB2 X6;have hap:=Yx.appended zS qF;have q2:=hap.2.2.1.cell (i:=2) (by decide);have e2:=hap.2.2.1.frozen 2)
        have MZ:=Yx.stored zS qF yO
        clear hap q2 e2 qF yO hB2 X6 c2 f2 Yx
        go_roundg (4 - (k+1))
        case measure=>omega
        case rel=>exact⟨k+1,_,_,_,_,by omega,rfl,by go_num,rfl,by first | omega | (simp;omega) | simp,MZ,by simp;omega,by omega,by omega,HB.out.append hfP.out (by omega)⟩
       ·have h12z:¬(L.length:Int)+(oP.length:Int)<=12:=by omega
        go_wp2
        go_roundg (4 - (k+1))
        case measure=>omega
        case rel=>exact⟨k+1,_,_,_,_,by omega,rfl,by go_num,rfl,by omega,Yx,by omega,by omega,by omega,HB.out⟩
     ·have ex:(x == 0)=false:=zG.2 hx
      have Yx:=hM3
      have QU:=QS
      clear hM3 QS
      obtain⟨aY,cY,hvY⟩:=Yx.row.shape
      have c2:=Yx.c2
      have hszY:=Yx.gr.size
      have f2:=Yx.f2
      subst hvY
      by_cases h12:L.length+oP.length<=12
      ·have h12z:(L.length:Int)+(oP.length:Int)<=12:=by omega
       go_wp2_with (at_builtin;refine kL _ (by rfl) _ _ (by rfl) _ _ L (by rfl) Yx.row oP gP _ (by rfl) (World.ownsRow.cells QU rfl) (by omega) (by omega) (by omega) ?_;intro g2 cp2 w2 yO qF hB2 X6;have hap:=Yx.appended zS qF;have q2:=hap.2.2.1.cell (i:=2) (by decide);have e2:=hap.2.2.1.frozen 2)
       have MZ:=Yx.stored zS qF yO
       clear hap q2 e2 qF yO hB2 X6 c2 f2 Yx
       go_roundg (4 - (k+1))
       case measure=>omega
       case rel=>exact⟨k+1,_,_,_,_,by omega,rfl,by go_num,rfl,by first | omega | (simp;omega) | simp,MZ,by simp;omega,by omega,by omega,HB.out.append hfP.out (by omega)⟩
      ·have h12z:¬(L.length:Int)+(oP.length:Int)<=12:=by omega
       go_wp2
       go_roundg (4 - (k+1))
       case measure=>omega
       case rel=>exact⟨k+1,_,_,_,_,by omega,rfl,by go_num,rfl,by omega,Yx,by omega,by omega,by omega,HB.out⟩
    ·have vJ:¬z<0:=by omega
     have Yx:=hMP
     have QU:=UD
     clear hMP UD
     obtain⟨aY,cY,hvY⟩:=Yx.row.shape
     have c2:=Yx.c2
     have hszY:=Yx.gr.size
     have f2:=Yx.f2
     subst hvY
     by_cases h12:L.length+oP.length<=12
     ·have h12z:(L.length:Int)+(oP.length:Int)<=12:=by omega
      go_wp2_with (at_builtin;refine kL _ (by rfl) _ _ (by rfl) _ _ L (by rfl) Yx.row oP gP _ (by rfl) (World.ownsRow.cells QU rfl) (by omega) (by omega) (by omega) ?_;intro g2 cp2 w2 yO qF hB2 X6;have hap:=Yx.appended zS qF;have q2:=hap.2.2.1.cell (i:=2) (by decide);have e2:=hap.2.2.1.frozen 2)
      have MZ:=Yx.stored zS qF yO
      clear hap q2 e2 qF yO hB2 X6 c2 f2 Yx
      go_roundg (4 - (k+1))
      case measure=>omega
      case rel=>exact⟨k+1,_,_,_,_,by omega,rfl,by go_num,rfl,by first | omega | (simp;omega) | simp,MZ,by simp;omega,by omega,by omega,HB.out.append hfP.out (by omega)⟩
     ·have h12z:¬(L.length:Int)+(oP.length:Int)<=12:=by omega
      go_wp2
      go_roundg (4 - (k+1))
      case measure=>omega
      case rel=>exact⟨k+1,_,_,_,_,by omega,rfl,by go_num,rfl,by omega,Yx,by omega,by omega,by omega,HB.out⟩
   ·obtain rfl:k=4:=by omega
    clear hxs
    rcases hz with hz | ⟨jM,xP⟩
    ·subst hz
     have HTo:Hid (XP xs.length T L.length L):=HB.out.to
     have hMT:=hMS
     clear hMS
     have hLT:L.length<=12:=hL
     have hszT:=hMT.gr.size
     go_wp2_with fail
     refine(ql _ _ _ _ _ _ _ hMT.rd (by omega) (by omega) (by omega)).mono ?_
     rintro e w8 ⟨x,rfl,QA,ZH,zaE,hg8⟩
     have J3:=hMT.pick zaE hg8
     have hsz8:=J3.gr.size
     clear hMT zaE hg8
     obtain⟨aV,cV,K1⟩:=J3.row.shape
     subst K1
     have c2:=J3.c2
     have c1:=J3.c1
     have f2:=J3.f2
     have hgw8:=J3.own
     by_cases hx:x=0
     ·subst hx
      go_upto_region 17 with(at_builtin;refine yp _ (by rfl) _ _ (by rfl) _ _ L (by rfl) J3.row _ _ _ (by rfl) (by omega) (by omega) ?_;intro g9 cp9 w9 wN Xe hB9 zca;have hap:=J3.appended (zR _ _) Xe;have q2:=hap.2.2.1.cell (i:=2) (by decide);have e2:=hap.2.2.1.frozen 2)
      have MZ:=J3.stored (zR _ _) Xe wN
      have hszZ:=MZ.gr.size
      clear hap q2 e2 Xe wN hB9 zca J3 c1 c2 f2
      generalize w9.setCell (zH g 2) (zK g9 0 (L.length+1) cp9)=w6 at *
      have c2:=MZ.c2
      have f2:=MZ.f2
      go_wp2_with (at_builtin;refine yp _ (by rfl) _ _ (by rfl) _ _ (L ++ [(11,0)]) (by first | rfl | (simp;rfl)) MZ.row _ _ _ (by rfl) (by simp;omega) (by omega) ?_;intro g10 QH vI vE QQ hB10 ze6;simp only[List.length_append,List.length_cons,List.length_nil,Nat.zero_add] at vE;have MF:=MZ.stored (zR _ _) QQ vE;have jj:=MZ.appended (zR _ _) QQ;have b0:vI.cell? (zH g 0)=some (zI y):=jj.2.2.1.cell (i:=0) (by decide);have b1:vI.cell? (zH g 1)=some (zI T):=jj.2.2.1.cell (i:=1) (by decide);have b2:=jj.2.2.1.cell (i:=2) (by decide);have b3:=jj.2.2.1.frozen 2;have r0:vI.cell? (zH w.heap.size 0)=some (zI 0):=jj.2.2.2.cell (i:=0) (by decide);have r1:vI.cell? (zH w.heap.size 1)=some (zI 0):=jj.2.2.2.cell (i:=1) (by decide);have r2:vI.cell? (zH w.heap.size 2)=some (zQ):=jj.2.2.2.cell (i:=2) (by decide);have t0:=jj.2.2.2.frozen 0;have t1:=jj.2.2.2.frozen 1;have t2:=jj.2.2.2.frozen 2)
      clear jj b0 b1 b2 b3 t0 t1 t2 r0 r1 r2 QQ MZ
      have hF:=MF.final
      generalize (((vI.setCell (zH g 2) (zK g10 0 (L.length+1+1) QH)).setCell (zH w.heap.size 0) (zI y)).setCell (zH w.heap.size 1) (zI T)).setCell (zH w.heap.size 2) (zK g10 0 (L.length+1+1) QH)=W3 at hF ⊢
      obtain⟨h1,h2,h3,d0,d1,d2⟩:=hF
      exact bodyPost_ret (v:=.agg #[zI y,zI T,zK g10 0 (L.length+1+1) QH]) (by simp[results,Tryz.results122,go_sem,d0,d1,d2]) rfl ⟨_,_,_,_,_,rfl,h1,by simp,by simp;omega,x0,x1,hT1,hT4,by omega,by omega,h2,h3,HY.out,hyT,HTo.out.done2 YE Wh⟩
     ·have ex:(x == 0)=false:=zG.2 hx
      go_wp2_with fail
      have hMd:=J3.drew
      go_region_law (first
       | (refine XA _ (by rfl) _ _ (by rfl) w.heap.size _ L (by rfl) (World.ownsRow.alloc KT.row _) [(2,u)] w4.heap.size _ (by rfl) (World.news_of_block (Go.Deep.blk_alloc_new w4 _)) (by simp) (by simp;omega) (by have:=KT.gr.size;simp;omega) ?_;intro g9 cp9 w9 wN Xe hB9 zca;have hap:=KT.appended (zR _ _) Xe;have q2:=hap.2.2.1.cell (i:=2) (by decide);have e2:=hap.2.2.1.frozen 2)
       | (go_simp;go_at_call 79;refine(ql _ _ _ _ _ _ _ hMd.rd (by omega) (by omega) (by omega)).mono ?_;rintro e w4 ⟨u,rfl,QV,hu1,xK,uy⟩;have KT:=hMd.pick xK uy;have k1:=KT.c1;have k2:=KT.c2;have k2':=(fun o=>zc (zR _ o) k2)))
      all_goals
       have MZ:=KT.stored (zR _ _) Xe wN
       have hszZ:=MZ.gr.size
       clear hap q2 e2 Xe wN hB9 zca k1 k2 k2' KT xK uy hMd J3 c1 c2 f2
       generalize w9.setCell (zH g 2) (zK g9 0 (L.length+1) cp9)=w6 at *
       have c2:=MZ.c2
       have f2:=MZ.f2
       go_wp2_with (at_builtin;refine yp _ (by rfl) _ _ (by rfl) _ _ (L ++ [(2,u)]) (by simp;rfl) MZ.row _ _ _ (by rfl) (by simp;omega) (by omega) ?_;intro g10 QH vI vE QQ hB10 ze6;simp only[List.length_append,List.length_cons,List.length_nil,Nat.zero_add] at vE;have MF:=MZ.stored (zR _ _) QQ vE;have jj:=MZ.appended (zR _ _) QQ;have b0:vI.cell? (zH g 0)=some (zI y):=jj.2.2.1.cell (i:=0) (by decide);have b1:vI.cell? (zH g 1)=some (zI T):=jj.2.2.1.cell (i:=1) (by decide);have b2:=jj.2.2.1.cell (i:=2) (by decide);have b3:=jj.2.2.1.frozen 2;have r0:vI.cell? (zH w.heap.size 0)=some (zI 0):=jj.2.2.2.cell (i:=0) (by decide);have r1:vI.cell? (zH w.heap.size 1)=some (zI 0):=jj.2.2.2.cell (i:=1) (by decide);have r2:vI.cell? (zH w.heap.size 2)=some (zQ):=jj.2.2.2.cell (i:=2) (by decide);have t0:=jj.2.2.2.frozen 0;have t1:=jj.2.2.2.frozen 1;have t2:=jj.2.2.2.frozen 2)
       clear jj b0 b1 b2 b3 t0 t1 t2 r0 r1 r2 QQ MZ
       have hF:=MF.final
       generalize (((vI.setCell (zH g 2) (zK g10 0 (L.length+1+1) QH)).setCell (zH w.heap.size 0) (zI y)).setCell (zH w.heap.size 1) (zI T)).setCell (zH w.heap.size 2) (zK g10 0 (L.length+1+1) QH)=W3 at hF ⊢
       obtain⟨h1,h2,h3,d0,d1,d2⟩:=hF
       exact bodyPost_ret (v:=.agg #[zI y,zI T,zK g10 0 (L.length+1+1) QH]) (by simp[results,Tryz.results122,go_sem,d0,d1,d2]) rfl ⟨_,_,_,_,_,rfl,h1,by simp,by simp;omega,x0,x1,hT1,hT4,by omega,by omega,h2,h3,HY.out,hyT,HTo.out.done2 (uO QV hu1) Wh⟩
    ·obtain⟨zn,rfl⟩:=Int.eq_ofNat_of_zero_le jM
     have hzl:zn<L.length:=by omega
     obtain⟨gv,cv,hvv⟩:=hMS.row.shape1 (by omega)
     subst hvv
     obtain⟨⟨y0,cA⟩,fA,_,_⟩:=hMS.row.setA zn hzl 0
     have c2:=hMS.c2
     have hMT:=hMS.opSet zn hzl (L.length:Int)
     have HTo:Hid (XP xs.length T (L.set zn (L[zn].1,(L.length:Int))).length (L.set zn (L[zn].1,(L.length:Int)))):=HB.out.set hzl
     have hLT:(L.set zn (L[zn].1,(L.length:Int))).length<=12:=by simpa using hL
     have hszT:=hMT.gr.size
     clear hMS
     go_wp2_with fail
     generalize wr.setCell (zH gv (zn * 2+1)) (zI (L.length:Int))=wT at *
     generalize L.set zn (L[zn].1,(L.length:Int))=LT at hMT hLT HTo
     generalize hvT:zK gv 0 L.length cv=vT at hMT
     clear hvT c2 cA fA
     refine(ql _ _ _ _ _ _ _ hMT.rd (by omega) (by omega) (by omega)).mono ?_
     rintro e w8 ⟨x,rfl,QA,ZH,zaE,hg8⟩
     have J3:=hMT.pick zaE hg8
     have hsz8:=J3.gr.size
     clear hMT zaE hg8
     obtain⟨aV,cV,K1⟩:=J3.row.shape
     subst K1
     have c2:=J3.c2
     have c1:=J3.c1
     have f2:=J3.f2
     have hgw8:=J3.own
     by_cases hx:x=0
     ·subst hx
      go_upto_region 17 with(at_builtin;refine yp _ (by rfl) _ _ (by rfl) _ _ LT (by rfl) J3.row _ _ _ (by rfl) (by omega) (by omega) ?_;intro g9 cp9 w9 wN Xe hB9 zca;have hap:=J3.appended (zR _ _) Xe;have q2:=hap.2.2.1.cell (i:=2) (by decide);have e2:=hap.2.2.1.frozen 2)
      have MZ:=J3.stored (zR _ _) Xe wN
      have hszZ:=MZ.gr.size
      clear hap q2 e2 Xe wN hB9 zca J3 c1 c2 f2
      generalize w9.setCell (zH g 2) (zK g9 0 (LT.length+1) cp9)=w6 at *
      have c2:=MZ.c2
      have f2:=MZ.f2
      go_wp2_with (at_builtin;refine yp _ (by rfl) _ _ (by rfl) _ _ (LT ++ [(11,0)]) (by first | rfl | (simp;rfl)) MZ.row _ _ _ (by rfl) (by simp;omega) (by omega) ?_;intro g10 QH vI vE QQ hB10 ze6;simp only[List.length_append,List.length_cons,List.length_nil,Nat.zero_add] at vE;have MF:=MZ.stored (zR _ _) QQ vE;have jj:=MZ.appended (zR _ _) QQ;have b0:vI.cell? (zH g 0)=some (zI y):=jj.2.2.1.cell (i:=0) (by decide);have b1:vI.cell? (zH g 1)=some (zI T):=jj.2.2.1.cell (i:=1) (by decide);have b2:=jj.2.2.1.cell (i:=2) (by decide);have b3:=jj.2.2.1.frozen 2;have r0:vI.cell? (zH w.heap.size 0)=some (zI 0):=jj.2.2.2.cell (i:=0) (by decide);have r1:vI.cell? (zH w.heap.size 1)=some (zI 0):=jj.2.2.2.cell (i:=1) (by decide);have r2:vI.cell? (zH w.heap.size 2)=some (zQ):=jj.2.2.2.cell (i:=2) (by decide);have t0:=jj.2.2.2.frozen 0;have t1:=jj.2.2.2.frozen 1;have t2:=jj.2.2.2.frozen 2)
      clear jj b0 b1 b2 b3 t0 t1 t2 r0 r1 r2 QQ MZ
      have hF:=MF.final
      generalize (((vI.setCell (zH g 2) (zK g10 0 (LT.length+1+1) QH)).setCell (zH w.heap.size 0) (zI y)).setCell (zH w.heap.size 1) (zI T)).setCell (zH w.heap.size 2) (zK g10 0 (LT.length+1+1) QH)=W3 at hF ⊢
      obtain⟨h1,h2,h3,d0,d1,d2⟩:=hF
      exact bodyPost_ret (v:=.agg #[zI y,zI T,zK g10 0 (LT.length+1+1) QH]) (by simp[results,Tryz.results122,go_sem,d0,d1,d2]) rfl ⟨_,_,_,_,_,rfl,h1,by simp,by simp;omega,x0,x1,hT1,hT4,by omega,by omega,h2,h3,HY.out,hyT,HTo.out.done2 YE Wh⟩
     ·have ex:(x == 0)=false:=zG.2 hx
      go_wp2_with fail
      have hMd:=J3.drew
      go_region_law (first
       | (refine XA _ (by rfl) _ _ (by rfl) w.heap.size _ LT (by rfl) (World.ownsRow.alloc KT.row _) [(2,u)] w4.heap.size _ (by rfl) (World.news_of_block (Go.Deep.blk_alloc_new w4 _)) (by simp) (by simp;omega) (by have:=KT.gr.size;simp;omega) ?_;intro g9 cp9 w9 wN Xe hB9 zca;have hap:=KT.appended (zR _ _) Xe;have q2:=hap.2.2.1.cell (i:=2) (by decide);have e2:=hap.2.2.1.frozen 2)
       | (go_simp;go_at_call 79;refine(ql _ _ _ _ _ _ _ hMd.rd (by omega) (by omega) (by omega)).mono ?_;rintro e w4 ⟨u,rfl,QV,hu1,xK,uy⟩;have KT:=hMd.pick xK uy;have k1:=KT.c1;have k2:=KT.c2;have k2':=(fun o=>zc (zR _ o) k2)))
      all_goals
       have MZ:=KT.stored (zR _ _) Xe wN
       have hszZ:=MZ.gr.size
       clear hap q2 e2 Xe wN hB9 zca k1 k2 k2' KT xK uy hMd J3 c1 c2 f2
       generalize w9.setCell (zH g 2) (zK g9 0 (LT.length+1) cp9)=w6 at *
       have c2:=MZ.c2
       have f2:=MZ.f2
       go_wp2_with (at_builtin;refine yp _ (by rfl) _ _ (by rfl) _ _ (LT ++ [(2,u)]) (by simp;rfl) MZ.row _ _ _ (by rfl) (by simp;omega) (by omega) ?_;intro g10 QH vI vE QQ hB10 ze6;simp only[List.length_append,List.length_cons,List.length_nil,Nat.zero_add] at vE;have MF:=MZ.stored (zR _ _) QQ vE;have jj:=MZ.appended (zR _ _) QQ;have b0:vI.cell? (zH g 0)=some (zI y):=jj.2.2.1.cell (i:=0) (by decide);have b1:vI.cell? (zH g 1)=some (zI T):=jj.2.2.1.cell (i:=1) (by decide);have b2:=jj.2.2.1.cell (i:=2) (by decide);have b3:=jj.2.2.1.frozen 2;have r0:vI.cell? (zH w.heap.size 0)=some (zI 0):=jj.2.2.2.cell (i:=0) (by decide);have r1:vI.cell? (zH w.heap.size 1)=some (zI 0):=jj.2.2.2.cell (i:=1) (by decide);have r2:vI.cell? (zH w.heap.size 2)=some (zQ):=jj.2.2.2.cell (i:=2) (by decide);have t0:=jj.2.2.2.frozen 0;have t1:=jj.2.2.2.frozen 1;have t2:=jj.2.2.2.frozen 2)
       clear jj b0 b1 b2 b3 t0 t1 t2 r0 r1 r2 QQ MZ
       have hF:=MF.final
       generalize (((vI.setCell (zH g 2) (zK g10 0 (LT.length+1+1) QH)).setCell (zH w.heap.size 0) (zI y)).setCell (zH w.heap.size 1) (zI T)).setCell (zH w.heap.size 2) (zK g10 0 (LT.length+1+1) QH)=W3 at hF ⊢
       obtain⟨h1,h2,h3,d0,d1,d2⟩:=hF
       exact bodyPost_ret (v:=.agg #[zI y,zI T,zK g10 0 (LT.length+1+1) QH]) (by simp[results,Tryz.results122,go_sem,d0,d1,d2]) rfl ⟨_,_,_,_,_,rfl,h1,by simp,by simp;omega,x0,x1,hT1,hT4,by omega,by omega,h2,h3,HY.out,hyT,HTo.out.done2 (uO QV hu1) Wh⟩
theorem Tryz.infoInt':(Tryz.prog.info? 3).map (fun i=>(i.zero,i.size,i.bytes))=some (some (zI 0),1,8):=by kernel_rfl
def xM (B:Nat) (w:World) (v:Value) (xs:List Int):Prop:=w.ownsRow B 3 1 v xs.length (xs.map fun x=>Value.int .i64 x)
theorem xM.one (w:World) (x:Int):xM w.heap.size (w.alloc (.cells #[.int .i64 x] 3)) (.slice (some ⟨w.heap.size,0,none⟩) 1 1) [x] :=
 ⟨rfl,.inr ⟨w.heap.size,1,#[zI x],rfl,Nat.le_refl _,Go.Deep.blk_alloc_new _ _,Nat.le_refl _,by unfold maxLen;omega,rfl,rfl⟩⟩
theorem xM.mono {B B':Nat} {w:World} {v:Value} {xs:List Int} (h:xM B w v xs) (hB:B'<=B):xM B' w v xs:=by
 obtain⟨h1,h2⟩:=h
 refine⟨h1,?_⟩
 rcases h2 with h2 | ⟨g,cap,cur,hv,hg,r⟩
 ·exact .inl h2
 ·exact .inr ⟨g,cap,cur,hv,by omega,r⟩
theorem xM.lt {B:Nat} {w:World} {v:Value} {xs:List Int} (h:xM B w v xs):∀k,v.ownBlock=some k->B<=k/\k<w.heap.size:=World.ownsRow.lt h
theorem xM.kept {B:Nat} {w w':World} {v:Value} {xs:List Int} {row:Option Nat} (h:xM B w v xs) (hg:w.grownBy w' row) (xp:∀g,row=some g->v.ownBlock≠some g):xM B w' v xs :=
 World.ownsRow.kept h hg (by
  cases row with
  | none=>cases hv:v.ownBlock with
   | none=>exact .inl rfl
   | some g=>exact .inr (by simp)
  | some g=>exact .inr (xp g rfl))
theorem xM.shape1 {B:Nat} {w:World} {v:Value} {xs:List Int} (h:xM B w v xs) (hn:1<=xs.length):∃g c,v=zK g 0 xs.length c:=by
 obtain⟨_,h2⟩:=h
 rcases h2 with⟨rfl,hn'⟩ | ⟨g,cap,cur,rfl,_⟩
 ·omega
 ·exact⟨_,_,rfl⟩
theorem xM.cell {B:Nat} {w:World} {g n c:Nat} {xs:List Int} (h:xM B w (zK g 0 n c) xs) (i:Nat) (hi:i<xs.length):w.cell? (zH g i)=some (zI xs[i]):=by
 have:=World.ownsRow.cells h (g:=g) rfl i (zI xs[i]) (by simp[hi])
 rwa [Addr.add_lit,Nat.zero_add] at this
theorem zbO {ops:Array Oper} {rest:List Oper} {o:Oper} {act:Act} {Q:Exit->Act->World->Prop} (w:World) (hgd:o.guard=none) (s x:Operand)
 (ho:o.op=.call {callee:=.builtin .append,args:=#[s,x],argTypes:=#[30,30]}) (B:Nat) (v:Value) (L:List Int) (hs:act.eval s=v) (zE:xM B w v L) (k:Int) (c:Nat)
 (hx:act.eval x=zK w.heap.size 0 1 c) (hL:L.length<=900) (hB:B<=w.heap.size)
 (h:∀g cap w',xM B w' (.slice (some ⟨g,0,none⟩) (L.length+1) cap) (L ++ [k])->(w.alloc (.cells #[.int .i64 k] 3)).grownBy w' v.ownBlock->B<=g->g<w'.heap.size ->
  wpList Tryz.prog ops Q rest (act.put o.dst (zK g 0 (L.length+1) cap)) w') :
 wpList Tryz.prog ops Q (o :: rest) act (w.alloc (.cells #[.int .i64 k] 3)):=by
 obtain⟨i0,hi,jM,xP,vJ⟩:=info_parts Tryz.infoInt'
 refine wpList_append_lies _ hgd s x 30 ho B 3 i0 _ 1 8 Tryz.underlying30 hi jM xP vJ rfl (by omega) v L.length (L.map fun x=>Value.int .i64 x) hs (World.ownsRow.alloc zE _) ⟨w.heap.size,0,none⟩ 1 c [zI k] hx rfl
  (World.news_of_block (Go.Deep.blk_alloc_new w _)) (by simp[Value.oneCell']) (by omega) (by unfold maxLen;omega) (by omega) (by simp;omega) _ rfl ?_
 intro g cap w' h1 h2 h3 h4
 refine h g cap w' ?_ h2 ?_ h4
 ·unfold xM
  simp only[List.length_append,List.map_append,List.length_cons,List.length_nil,List.map_cons,List.map_nil,Nat.zero_add]
  exact h1
 ·rcases h3 with h3 | h3
  ·exact(zE.lt g h3).1
  ·simp at h3;omega
def xR (ms:List (Int × Int × Value)):List Value:=ms.flatMap fun m=>[zI m.1,zI m.2.1,m.2.2]
theorem Xk (a b:List (Int × Int × Value)):xR (a ++ b)=xR a ++ xR b:=by simp[xR]
theorem Xl (a:List (Int × Int × Value)):(xR a).length=a.length * 3:=by
 induction a with
 | nil=>rfl
 | cons x l ih=>simp[xR] at ih ⊢;omega
theorem zeT (a:List (Int × Int × Value)):∀(i:Nat) (h:i<a.length),(xR a)[i * 3]?=some (zI a[i].1)/\(xR a)[i * 3+1]?=some (zI a[i].2.1)/\(xR a)[i * 3+2]?=some a[i].2.2:=by
 induction a with
 | nil=>intro i h;exact absurd h yB
 | cons x l ih =>
  intro i h
  cases i with
  | zero=>exact⟨rfl,rfl,rfl⟩
  | succ i =>
   have:=ih i (by simpa using h)
   rw[show(i+1) * 3=i * 3+3 by omega]
   exact this
def Kp (v:Value):Prop:=∃a l c,v=.slice a l c
theorem YF (M:List (Int × Int × Value)) (hM:∀m∈M,Kp m.2.2):∀u∈xR M,u.oneCell'=true:=by
 intro u hu
 simp only[xR,List.mem_flatMap] at hu
 obtain⟨x,hx',hx⟩:=hu
 simp at hx
 rcases hx with rfl | rfl | rfl
 ·rfl
 ·rfl
 ·obtain⟨a,l,c,h⟩:=hM x hx'
  rw[h];rfl
def jN (B:Nat) (w:World) (v:Value) (ms:List (Int × Int × Value)):Prop:=w.ownsRow B 68 3 v ms.length (xR ms)
theorem jN.nil (B:Nat) (w:World):jN B w (zQ) []:=World.ownsRow_nil _ _ _ _
theorem jN.made (w:World):jN w.heap.size (w.alloc (.cells #[] 68)) (.slice (some ⟨w.heap.size,0,none⟩) 0 0) [] :=
 ⟨rfl,.inr ⟨w.heap.size,0,#[],rfl,Nat.le_refl _,Go.Deep.blk_alloc_new _ _,Nat.le_refl _,Nat.zero_le _,rfl,rfl⟩⟩
theorem jN.mono {B B':Nat} {w:World} {v:Value} {ms:List (Int × Int × Value)} (h:jN B w v ms) (hB:B'<=B):jN B' w v ms:=by
 obtain⟨h1,h2⟩:=h
 refine⟨h1,?_⟩
 rcases h2 with h2 | ⟨g,cap,cur,hv,hg,r⟩
 ·exact .inl h2
 ·exact .inr ⟨g,cap,cur,hv,by omega,r⟩
theorem jN.lt {B:Nat} {w:World} {v:Value} {ms:List (Int × Int × Value)} (h:jN B w v ms):∀k,v.ownBlock=some k->B<=k/\k<w.heap.size:=World.ownsRow.lt h
theorem jN.kept {B:Nat} {w w':World} {v:Value} {ms:List (Int × Int × Value)} {row:Option Nat} (h:jN B w v ms) (hg:w.grownBy w' row) (xp:∀g,row=some g->v.ownBlock≠some g):jN B w' v ms :=
 World.ownsRow.kept h hg (by
  cases row with
  | none=>cases hv:v.ownBlock with
   | none=>exact .inl rfl
   | some g=>exact .inr (by simp)
  | some g=>exact .inr (xp g rfl))
theorem jN.shape {B:Nat} {w:World} {v:Value} {ms:List (Int × Int × Value)} (h:jN B w v ms):∃a c,v=.slice a ms.length c:=by
 obtain⟨_,h2⟩:=h
 rcases h2 with⟨rfl,hn⟩ | ⟨g,cap,cur,rfl,_⟩
 ·exact⟨none,0,by rw[hn]⟩
 ·exact⟨_,_,rfl⟩
theorem jN.shape1 {B:Nat} {w:World} {v:Value} {ms:List (Int × Int × Value)} (h:jN B w v ms) (hn:1<=ms.length):∃g c,v=zK g 0 ms.length c:=by
 obtain⟨_,h2⟩:=h
 rcases h2 with⟨rfl,hn'⟩ | ⟨g,cap,cur,rfl,_⟩
 ·omega
 ·exact⟨_,_,rfl⟩
theorem jN.cell {B:Nat} {w:World} {g n c:Nat} {ms:List (Int × Int × Value)} (h:jN B w (zK g 0 n c) ms) (i:Nat) (hi:i<ms.length) :
 w.cell? (zH g (i * 3))=some (zI ms[i].1)/\w.cell? (zH g (i * 3+1))=some (zI ms[i].2.1)/\w.cell? (zH g (i * 3+2))=some ms[i].2.2:=by
 have h3:=zeT ms i hi
 have k0:=World.ownsRow.cells h (g:=g) rfl _ _ h3.1
 have k1:=World.ownsRow.cells h (g:=g) rfl _ _ h3.2.1
 have k2:=World.ownsRow.cells h (g:=g) rfl _ _ h3.2.2
 rw[Addr.add_lit,Nat.zero_add] at k0 k1 k2
 exact⟨k0,k1,k2⟩
theorem WM {w:World} {B B':Nat} {v v':Value} {ms:List (Int × Int × Value)} {L:yH} (hr:jN B w v ms) (h:ye B' w v' L):∀g,v.ownBlock=some g->v'.ownBlock≠some g:=by
 intro g e e'
 rcases hr.2 with⟨rfl,_⟩ | ⟨g1,cap,cur,rfl,_,hh,_⟩
 ·cases e
 ·rcases h.2 with⟨rfl,_⟩ | ⟨g2,cap',cur',rfl,_,hh',_⟩
  ·cases e'
  ·simp[Value.ownBlock] at e e'
   subst e;subst e'
   rw[hh] at hh'
   simp at hh'
theorem zgg {w:World} {B B':Nat} {v v':Value} {xs:List Int} {L:yH} (hr:xM B w v xs) (h:ye B' w v' L):∀g,v.ownBlock=some g->v'.ownBlock≠some g:=by
 intro g e e'
 rcases hr.2 with⟨rfl,_⟩ | ⟨g1,cap,cur,rfl,_,hh,_⟩
 ·cases e
 ·rcases h.2 with⟨rfl,_⟩ | ⟨g2,cap',cur',rfl,_,hh',_⟩
  ·cases e'
  ·simp[Value.ownBlock] at e e'
   subst e;subst e'
   rw[hh] at hh'
   simp at hh'
theorem zfu {w:World} {B B':Nat} {v v':Value} {xs:List Int} {ms:List (Int × Int × Value)} (hr:xM B w v xs) (h:jN B' w v' ms):∀g,v.ownBlock=some g->v'.ownBlock≠some g:=by
 intro g e e'
 rcases hr.2 with⟨rfl,_⟩ | ⟨g1,cap,cur,rfl,_,hh,_⟩
 ·cases e
 ·rcases h.2 with⟨rfl,_⟩ | ⟨g2,cap',cur',rfl,_,hh',_⟩
  ·cases e'
  ·simp[Value.ownBlock] at e e'
   subst e;subst e'
   rw[hh] at hh'
   simp at hh'
theorem ZZ {ops:Array Oper} {rest:List Oper} {o:Oper} {act:Act} {Q:Exit->Act->World->Prop} (w:World) (hgd:o.guard=none) (s x:Operand)
 (ho:o.op=.call {callee:=.builtin .append,args:=#[s,x],argTypes:=#[23,23]}) (B:Nat) (v:Value) (L:List (Int × Int × Value)) (hs:act.eval s=v) (zE:jN B w v L) (M:List (Int × Int × Value)) (hM1:∀m∈M,Kp m.2.2) (ad:Addr) (c:Nat)
 (hx:act.eval x=.slice (some ad) M.length c) (hnews:∀j u,(xR M)[j]?=some u->w.cell? (ad.add j)=some u) (hM:0<M.length) (hL:L.length+M.length<=1000) (hB:B<=w.heap.size)
 (h:∀g cap w',jN B w' (zK g 0 (L.length+M.length) cap) (L ++ M)->w.grownBy w' v.ownBlock->B<=g->g<w'.heap.size ->
  wpList Tryz.prog ops Q rest (act.put o.dst (zK g 0 (L.length+M.length) cap)) w') :
 wpList Tryz.prog ops Q (o :: rest) act w:=by
 obtain⟨i0,hi,jM,xP,vJ⟩:=info_parts Tryz.infoMeth
 refine wpList_append_lies _ hgd s x 23 ho B 68 i0 _ 3 40 Tryz.underlying23 hi jM xP vJ rfl (by omega) v L.length (xR L) hs zE ad M.length c (xR M) hx (Xl M)
  hnews (YF M hM1) hM (by unfold maxLen;omega) (by omega) hB w.heap.size rfl ?_
 intro g cap w' h1 h2 h3 h4
 refine h g cap w' ?_ h2 ?_ h4
 ·unfold jN
  rw[Xk,List.length_append]
  exact h1
 ·rcases h3 with h3 | h3
  ·exact(zE.lt g h3).1
  ·omega
theorem zcI {ops:Array Oper} {o:Oper} {act:Act} {K:Act->World->Prop} {Q:Exit->Act->World->Prop} {E:Prop} (w:World) (hgd:o.guard=none) (s x:Operand)
 (ho:o.op=.call {callee:=.builtin .append,args:=#[s,x],argTypes:=#[23,23]}) (B:Nat) (v:Value) (L:List (Int × Int × Value)) (hs:act.eval s=v) (zE:jN B w v L) (M:List (Int × Int × Value)) (hM1:∀m∈M,Kp m.2.2) (ad:Addr) (c:Nat)
 (hx:act.eval x=.slice (some ad) M.length c) (hnews:∀j u,(xR M)[j]?=some u->w.cell? (ad.add j)=some u) (hM:0<M.length) (hL:L.length+M.length<=1000) (hB:B<=w.heap.size)
 (h:∀g cap w',jN B w' (zK g 0 (L.length+M.length) cap) (L ++ M)->w.grownBy w' v.ownBlock->B<=g->g<w'.heap.size ->
  K (act.put o.dst (zK g 0 (L.length+M.length) cap)) w') :
 if Region.wanted o (yielded ops act.tmps)=true then Oper.wp Tryz.prog o act w K Q else E:=by
 obtain⟨i0,hi,jM,xP,vJ⟩:=info_parts Tryz.infoMeth
 refine step_append_lies _ hgd s x 23 ho B 68 i0 _ 3 40 Tryz.underlying23 hi jM xP vJ rfl (by omega) v L.length (xR L) hs zE ad M.length c (xR M) hx (Xl M)
  hnews (YF M hM1) hM (by unfold maxLen;omega) (by omega) hB w.heap.size rfl ?_
 intro g cap w' h1 h2 h3 h4
 refine h g cap w' ?_ h2 ?_ h4
 ·unfold jN
  rw[Xk,List.length_append]
  exact h1
 ·rcases h3 with h3 | h3
  ·exact(zE.lt g h3).1
  ·omega
abbrev MM:=Int × Int × Value × yH
def MM.tri (m:MM):Int × Int × Value:=(m.1,m.2.1,m.2.2.1)
structure kJ (B:Nat) (w:World) (v:Value) (ms:List MM):Prop where
 row:jN B w v (ms.map MM.tri)
 ops:∀m∈ms,ye B w m.2.2.1 m.2.2.2
 dis:ms.Pairwise fun m n=>∀g,m.2.2.1.ownBlock=some g->n.2.2.1.ownBlock≠some g
theorem kJ.nil (B:Nat) (w:World):kJ B w (zQ) []:=⟨jN.nil _ _,by simp,.nil⟩
theorem kJ.shape {B:Nat} {w:World} {v:Value} {ms:List MM} (h:kJ B w v ms):∃a c,v=.slice a ms.length c:=by
 obtain⟨a,c,e⟩:=h.row.shape
 exact⟨a,c,by simpa using e⟩
theorem kJ.shape1 {B:Nat} {w:World} {v:Value} {ms:List MM} (h:kJ B w v ms) (hn:1<=ms.length):∃g c,v=zK g 0 ms.length c:=by
 obtain⟨a,c,e⟩:=h.row.shape1 (by simpa using hn)
 exact⟨a,c,by simpa using e⟩
theorem kJ.mono {B B':Nat} {w:World} {v:Value} {ms:List MM} (h:kJ B w v ms) (hB:B'<=B):kJ B' w v ms:=⟨h.row.mono hB,fun m hm=>(h.ops m hm).mono hB,h.dis⟩
theorem kJ.kept {B:Nat} {w w':World} {v:Value} {ms:List MM} {row:Option Nat} (h:kJ B w v ms) (hg:w.grownBy w' row) (xp:∀g,row=some g->v.ownBlock≠some g/\∀m∈ms,m.2.2.1.ownBlock≠some g):kJ B w' v ms :=
 ⟨h.row.kept hg (fun g e=>(xp g e).1),fun m hm=>(h.ops m hm).kept hg (fun g e=>(xp g e).2 m hm),h.dis⟩
theorem kJ.low {B:Nat} {w w':World} {v:Value} {ms:List MM} {b:Nat} (h:kJ B w v ms) (hg:w.grownBy w' (some b)) (hb:b<B):kJ B w' v ms :=
 h.kept hg fun g e=>by
  cases e
  exact⟨fun k=>by have:=(h.row.lt _ k).1;omega,fun m hm k=>by have:=((h.ops m hm).lt _ k).1;omega⟩
theorem kJ.ofMap {ms:List MM} {i:Nat} (hi:i<ms.length):(ms.map MM.tri)[i]'(by simpa using hi)=(ms[i].1,ms[i].2.1,ms[i].2.2.1):=by simp[MM.tri]
theorem ye.at {B:Nat} {w:World} {v:Value} {L:yH} (h:ye B w v L) (hl:L.length<=maxLen):yi w v L:=by
 rcases h.2 with⟨rfl,hn⟩ | ⟨g,cap,cur,rfl,_⟩
 ·have:L=[]:=List.length_eq_zero_iff.1 hn
  subst this
  exact⟨none,0,rfl,Nat.zero_le _,fun i hi=>absurd hi yB⟩
 ·refine⟨some ⟨g,0,none⟩,cap,rfl,hl,fun i hi=>⟨g,0,rfl,?_,?_⟩⟩
  ·have:=World.ownsRow.cells h (g:=g) rfl _ _ (Xn L i hi).1
   rwa [Addr.add_lit] at this
  ·have:=World.ownsRow.cells h (g:=g) rfl _ _ (Xn L i hi).2
   rw[Addr.add_lit] at this
   simpa using this
def qj (ms:List MM):zM:=ms.map fun m=>(m.1,m.2.1,m.2.2.2)
theorem kJ.meths {B:Nat} {w:World} {v:Value} {ms:List MM} (h:kJ B w v ms) (hl:ms.length<=maxLen) (ho:∀m∈ms,m.2.2.2.length<=maxLen):yD w v (qj ms):=by
 rcases h.row.2 with⟨rfl,hn⟩ | ⟨g,cap,cur,hv,_⟩
 ·have:ms=[]:=by simpa using hn
  subst this
  exact⟨none,0,rfl,Nat.zero_le _,fun i hi=>absurd hi yB⟩
 ·subst hv
  refine⟨some ⟨g,0,none⟩,cap,by simp[qj],by simpa [qj] using hl,fun i hi=>?_⟩
  have hi':i<ms.length:=by simpa [qj] using hi
  have c:=h.row.cell i (by simpa using hi')
  rw[kJ.ofMap hi'] at c
  refine⟨g,0,ms[i].2.2.1,rfl,?_,?_,?_,?_⟩
  ·simp only[qj,List.getElem_map,Nat.zero_add];exact c.1
  ·simp only[qj,List.getElem_map,Nat.zero_add];exact c.2.1
  ·simp only[Nat.zero_add];exact c.2.2
  ·simp only[qj,List.getElem_map];exact(h.ops _ (List.getElem_mem hi')).at (ho _ (List.getElem_mem hi'))
theorem vG (w:World) (v:Value):(w.alloc (.cells #[v] 25)).rowIs w.heap.size 25 1 (fun _=>v) :=
 ⟨_,Go.Deep.blk_alloc_new _ _,rfl,fun i hi=>by match i,hi with | 0,_=>rfl⟩
theorem wU {w:World} {g:Nat} {t:TypeId} {n:Nat} {f:Nat->Value} {B:Nat} {v:Value} {L:yH} (hr:w.rowIs g t n f) (h:ye B w v L) (ht:t≠70):v.ownBlock≠some g:=wR hr h ht
theorem jH {w:World} {g:Nat} {t:TypeId} {n:Nat} {f:Nat->Value} {B:Nat} {v:Value} {L:List (Int × Int × Value)} (hr:w.rowIs g t n f) (h:jN B w v L) (ht:t≠68):v.ownBlock≠some g:=by
 intro e
 obtain⟨c,hc,_⟩:=hr
 rcases h.2 with⟨rfl,_⟩ | ⟨g',cap,cur,rfl,_,hh,_⟩
 ·cases e
 ·simp[Value.ownBlock] at e
  subst e
  rw[hc] at hh
  simp at hh
  exact ht hh.2
theorem JR {w:World} {g:Nat} {t:TypeId} {n:Nat} {f:Nat->Value} {B:Nat} {v:Value} {L:List Int} (hr:w.rowIs g t n f) (h:xM B w v L) (ht:t≠3):v.ownBlock≠some g:=by
 intro e
 obtain⟨c,hc,_⟩:=hr
 rcases h.2 with⟨rfl,_⟩ | ⟨g',cap,cur,rfl,_,hh,_⟩
 ·cases e
 ·simp[Value.ownBlock] at e
  subst e
  rw[hc] at hh
  simp at hh
  exact ht hh.2
theorem XS {w0 w w':World} {b:Nat} {a:Option Addr} {len cap p0 p:Nat} {v:Value} {L:List Int} {o:Obj} (h0:Rd w0 b a len cap p0) (hr:Rd w b a len cap p) (hg:w0.grownBy w (some b)) (zE:xM w0.heap.size w v L) {g:Nat} {f:Nat->Value} (hres:w.rowIs g 25 1 f)
 (qF:(w.alloc o).grownBy w' v.ownBlock):Rd w' b a len cap p/\w0.grownBy w' (some b)/\w'.rowIs g 25 1 f:=by
 have yd:∀g,v.ownBlock=some g->w0.heap.size<=g:=fun g e=>(zE.lt g e).1
 have hA:=World.grownBy_alloc w o v.ownBlock
 have hA2:w.grownBy w' v.ownBlock:=⟨qF.os.trans hA.os,qF.tape.trans hA.tape,qF.output.trans hA.output,Nat.le_trans hA.size qF.size,fun i hi hn=>(qF.block i (Nat.lt_of_lt_of_le hi hA.size) hn).trans (hA.block i hi hn)⟩
 exact⟨Rd.kept h0 hr hg.size hA2 yd,xr hg hA2 yd,yT hres hA2 (fun e=>JR hres zE (by decide) e.symm)⟩
structure PS (w0 w:World) (b:Nat) (a:Option Addr) (len cap p g:Nat) (va:Value) (xs:List Int) (v:Value) (ms:List MM):Prop where
 rd:Rd w b a len cap p
 gr:w0.grownBy w (some b)
 args:xM w0.heap.size w va xs
 box:w.rowIs g 25 1 (fun _=>v)
 own:w0.heap.size<g
 row:kJ w0.heap.size w v ms
 res:w.rowIs w0.heap.size 25 1 (fun _=>zQ)
 r0:∃p0,Rd w0 b a len cap p0
namespace PS
variable {w0 w w' W:World} {b:Nat} {a:Option Addr} {len cap p q g:Nat} {va:Value} {xs:List Int} {v v':Value} {ms ms':List MM}
theorem blt (h:PS w0 w b a len cap p g va xs v ms):b<w0.heap.size:=by obtain⟨_,h0⟩:=h.r0;exact World.block_lt_of_cell? _ _ h0.s
theorem c0 (h:PS w0 w b a len cap p g va xs v ms):w.cell? (zH g 0)=some v:=h.box.cell (by decide)
theorem f0 (h:PS w0 w b a len cap p g va xs v ms):w.frozen? (zH g 0)=false:=h.box.frozen 0
theorem pick (h:PS w0 w b a len cap p g va xs v ms) (hrd:Rd w' b a len cap q) (hg:w.grownBy w' (some b)):PS w0 w' b a len cap q g va xs v ms :=
 ⟨hrd,zV h.gr hg,h.args.kept hg (fun k e hk=>by cases e;have:=(h.args.lt _ hk).1;have:=h.blt;omega),yT h.box hg (by have:=h.own;have:=h.blt;simp;omega),h.own,h.row.low hg h.blt,yT h.res hg (by have:=h.blt;simp;omega),h.r0⟩
theorem drew (h:PS w0 w b a len cap p g va xs v ms):PS w0 w.drew b a len cap p g va xs v ms:=⟨Rd.heap h.rd rfl,⟨h.gr.os,h.gr.tape,h.gr.output,h.gr.size,h.gr.block⟩,h.args,h.box,h.own,⟨h.row.row,h.row.ops,h.row.dis⟩,h.res,h.r0⟩
theorem alloc (h:PS w0 w b a len cap p g va xs v ms) (o:Obj):PS w0 (w.alloc o) b a len cap p g va xs v ms:=by
 have hA:=World.grownBy_alloc w o none
 exact⟨h.rd.alloc o,qr h.gr o,World.ownsRow.alloc h.args o,yT h.box hA (by simp),h.own,h.row.kept hA (fun g e=>by cases e),yT h.res hA (by simp),h.r0⟩
theorem appended (h:PS w0 w b a len cap p g va xs v ms) (qF:w.grownBy w' v.ownBlock):Rd w' b a len cap p/\w0.grownBy w' (some b)/\xM w0.heap.size w' va xs/\w'.rowIs g 25 1 (fun _=>v)/\w'.rowIs w0.heap.size 25 1 (fun _=>zQ)/\∀u L,ye w0.heap.size w u L->ye w0.heap.size w' u L:=by
 have yd:∀k,v.ownBlock=some k->w0.heap.size<=k:=fun k e=>(h.row.row.lt k e).1
 obtain⟨p0,h0⟩:=h.r0
 exact⟨Rd.kept h0 h.rd h.gr.size qF yd,xr h.gr qF yd,h.args.kept qF (fun k e hk=>zfu h.args h.row.row k hk e),yT h.box qF (fun e=>jH h.box h.row.row (by decide) e.symm),yT h.res qF (fun e=>jH h.res h.row.row (by decide) e.symm),
  fun u L hu=>hu.kept qF (fun k e hk=>WM h.row.row hu k e hk)⟩
theorem stored (h:PS w0 w b a len cap p g va xs v ms) (qF:w.grownBy w' v.ownBlock) {A T:Int} {vo:Value} {L:yH} (hrow':jN w0.heap.size w' v' (ms.map MM.tri ++ [(A,T,vo)])) (ho:ye w0.heap.size w vo L) (hd:∀m∈ms,∀k,m.2.2.1.ownBlock=some k->vo.ownBlock≠some k) :
 PS w0 (w'.setCell (zH g 0) v') b a len cap p g va xs v' (ms ++ [(A,T,vo,L)]):=by
 obtain⟨h1,h2,h3,h4,h5,h6⟩:=h.appended qF
 have zE:=h.own
 have k:=qM w' g 0 v'
 have e:∀k,some g=some k->w0.heap.size<=k:=fun k e=>by cases e;omega
 obtain⟨p0,h0⟩:=h.r0
 have hmr:jN w0.heap.size w' v' ((ms ++ [(A,T,vo,L)]).map MM.tri):=by simpa [MM.tri] using hrow'
 have hops:∀m∈ms ++ [((A,T,vo,L):MM)],ye w0.heap.size w' m.2.2.1 m.2.2.2:=by
  intro m hm
  rcases List.mem_append.1 hm with hm | hm
  ·exact h6 _ _ (h.row.ops m hm)
  ·simp at hm;subst hm;exact h6 _ _ ho
 refine⟨Rd.kept h0 h1 h2.size k e,xr h2 k e,h3.kept k (fun q hq hk=>by cases hq;exact JR h4 h3 (by decide) hk),(h4.set 0 v').congr (fun i hi=>?_),zE,
  ⟨hmr.kept k (fun q hq hk=>by cases hq;exact jH h4 hmr (by decide) hk),fun m hm=>(hops m hm).kept k (fun q hq hk=>by cases hq;exact wU h4 (hops m hm) (by decide) hk),?_⟩,yT h5 k (by simp;omega),h.r0⟩
 ·match i,hi with | 0,_=>simp
 ·exact List.pairwise_append.2 ⟨h.row.dis,by simp,fun m hm n hn=>by simp at hn;subst hn;exact hd m hm⟩
theorem final (h:PS w0 w b a len cap p g va xs v ms):kJ w0.heap.size (w.setCell (zH w0.heap.size 0) v) v ms/\Rd (w.setCell (zH w0.heap.size 0) v) b a len cap p/\w0.grownBy (w.setCell (zH w0.heap.size 0) v) (some b)/\(w.setCell (zH w0.heap.size 0) v).cell? (zH w0.heap.size 0)=some v:=by
 have k:=qM w w0.heap.size 0 v
 have e:∀k,some w0.heap.size=some k->w0.heap.size<=k:=fun k e=>by cases e;exact Nat.le_refl _
 obtain⟨p0,h0⟩:=h.r0
 refine⟨h.row.kept k (fun q e=>by cases e;exact⟨jH h.res h.row.row (by decide),fun m hm=>wU h.res (h.row.ops m hm) (by decide)⟩),Rd.kept h0 h.rd h.gr.size k e,xr h.gr k e,?_⟩
 exact World.cell?_setCell_same _ _ _ (h.res.cell (i:=0) (by decide))
end PS
def zcs (m:MM):Prop:=2<=m.2.2.2.length/\m.2.2.2.length<=14
theorem zfF {ms:List MM} {xs:List Int} (hl:ms.length=xs.length) (h1:1<=xs.length) (h4:xs.length<=4) (h0:xs[0]?=some 0) (hw:∀i,(hi:i<ms.length)->qe xs.length (ms[i].1,ms[i].2.1,ms[i].2.2.2)=true/\xs[i]?=some ms[i].1):yn (qj ms)=true:=by
 have hpl:(qj ms).length=xs.length:=by simp[qj,hl]
 have hm0:0<ms.length:=by omega
 have e0:ms[0].1=0:=by
  have:=(hw 0 hm0).2
  rw[h0] at this
  exact(Option.some.inj this).symm
 unfold yn
 rw[hpl]
 simp only[Bool.and_eq_true]
 refine⟨⟨zx.2 ⟨by omega,by omega⟩,?_⟩,XT fun i hi=>?_⟩
 ·have e:(qj ms).getD 0 (0,0,[])=(ms[0].1,ms[0].2.1,ms[0].2.2.2):=by simp[qj,hm0]
  rw[e,beq_iff_eq]
  exact e0
 ·have hi':i<ms.length:=by rw[hpl] at hi;omega
  have e:(qj ms)[i]=(ms[i].1,ms[i].2.1,ms[i].2.2.2):=by simp[qj]
  rw[e]
  exact(hw i hi').1
theorem zaO (w:World) (b:Nat) (a:Option Addr) (len cap p:Nat) (hr:Rd w b a len cap p) (hp:p+400<=1000000) :
 Calls Tryz.prog 78 #[zJ b 0] w fun e w'=>∃(v:Value) (ms:List MM) (p':Nat),e=.returned (.agg #[v])/\kJ w.heap.size w' v ms/\2<=ms.length/\ms.length<=4/\(∀m∈ms,zcs m)/\p<=p'/\p'<=p+400/\Rd w' b a len cap p'/\w.grownBy w' (some b)/\yn (qj ms)=true:=by
 have hbw:b<w.heap.size:=World.block_lt_of_cell? _ _ hr.s
 have KY:=hr.alloc (.cells #[.slice none 0 0] 25)
 have hgA:=qr (kU w (some b)) (.cells #[.slice none 0 0] 25)
 have resA:=vG w (.slice none 0 0)
 have nB:=xM.one (w.alloc (.cells #[.slice none 0 0] 25)) 0
 have hrB:=KY.alloc (.cells #[.int .i64 0] 3)
 have hgB:=qr hgA (.cells #[.int .i64 0] 3)
 have resB:=resA.alloc (.cells #[.int .i64 0] 3)
 simp only[World.size_alloc] at nB
 replace nB:=nB.mono (Nat.le_succ _)
 clear KY hgA resA
 go_enter Tryz.func78,Tryz.ntmps78
 go_wp2_with fail
 generalize (w.alloc (.cells #[.slice none 0 0] 25)).alloc (.cells #[.int .i64 0] 3)=W0 at *
 have zcf:=hgB.size
 refine(ql _ _ _ _ _ _ _ hrB (by omega) (by omega) (by omega)).mono ?_
 rintro e w1 ⟨x,rfl,QA,ZH,xT,Yt⟩
 have n1:=nB.kept Yt (fun k e hk=>by cases e;have:=(nB.lt _ hk).1;omega)
 have res1:=yT resB Yt (by simp;omega)
 have jv:=zV hgB Yt
 clear hrB hgB Yt nB resB
 obtain⟨m,rfl⟩:=Int.eq_ofNat_of_zero_le QA
 go_wp2_with fail
 go_loopg [3,4] (m+1) (fun d va n wr=>∃(xs:List Int) (k q:Nat),d=k/\n=zI k/\xM w.heap.size wr va xs/\xs.length+k=m+2/\1<=xs.length/\(∀i,(hi:i<xs.length)->0<=xs[i]/\xs[i]<=2)/\p+1<=q/\q<=p+xs.length/\Rd wr b a len cap q/\w.grownBy wr (some b)/\wr.rowIs w.heap.size 25 1 (fun _=>zQ)/\Hid (xs[0]?=some 0))
 case atStart=>exact⟨[0],m+1,p+1,rfl,by go_num,n1,by simp;omega,by simp,by simp,by omega,by simp,xT,jv,res1,rfl⟩
 case round =>
  obtain⟨xs,k,q,hgk,rfl,hn,hlen,hl1,hxs,hq,hq',hrd,hgr,hres,H0⟩:=hrel
  replace hgk:=hgk.symm
  subst hgk
  by_cases hk:0<k
  ·have v7:(0:Int)<(k:Int):=by omega
   have un:=hgr.size
   go_wp2_with fail
   refine(ql _ _ _ _ _ _ _ hrd (by omega) (by omega) (by omega)).mono ?_
   rintro e w2 ⟨y,rfl,XM,JJ,xO,qF⟩
   have hn2:=hn.kept qF (fun k e hk=>by cases e;have:=(hn.lt _ hk).1;omega)
   have zgF:=yT hres qF (by simp;omega)
   have xS:=zV hgr qF
   have zdS:=xS.size
   clear hn hrd hgr hres qF
   go_wp2_with (at_builtin;refine zbO _ (by rfl) _ _ (by rfl) _ _ xs (by rfl) hn2 _ _ (by rfl) (by omega) (by omega) ?_;intro g3 cp3 w3 hn3 ko hB3 hlt3)
   obtain⟨je,xC,hres3⟩:=XS hr xO xS hn2 zgF ko
   clear hn2 xO xS zgF ko hB3 hlt3
   go_wp2
   go_roundg (k - 1)
   case measure=>omega
   case rel=>exact⟨xs ++ [y],k - 1,q+1,rfl,by first | go_num | (simp;omega),by simpa using hn3,by simp;omega,by simp,fun i hi=>by
    rw[List.getElem_append]
    split
    ·exact hxs _ _
    ·simp;omega,by omega,by simp;omega,je,xC,hres3,by show _=_;rw[List.getElem?_append_left (by omega)];exact H0.out⟩
  ·obtain rfl:k=0:=by omega
   have un:=hgr.size
   have hP:PS w (wr.alloc (.cells #[.slice none 0 0] 25)) b a len cap q wr.heap.size u3 xs (.slice none 0 0) []:=by
    refine⟨hrd.alloc _,qr hgr _,World.ownsRow.alloc hn _,vG _ _,?_,kJ.nil _ _,hres.alloc _,⟨p,hr⟩⟩
    have:=hres.lt;omega
   obtain⟨ga,ca,hva⟩:=hn.shape1 hl1
   subst hva
   have hxl:Hid (xs.length=m+2):=by show xs.length=m+2;omega
   clear hn hrd hgr hlen n1 xT jv res1 hres
   go_wp2_with fail
   generalize wr.alloc (.cells #[.slice none 0 0] 25)=W1 at *
   generalize wr.heap.size=gB at *
   go_loopg [6] xs.length (fun d i wq=>∃(k q':Nat) (v:Value) (ms:List MM),k<=xs.length/\d=xs.length - k/\i=zI k/\ms.length=k/\(∀m∈ms,zcs m)/\q<=q'/\q'<=q+70 * k/\PS w wq b a len cap q' gB (zK ga 0 xs.length ca) xs v ms/\Hid (∀i,(hi:i<ms.length)->qe xs.length (ms[i].1,ms[i].2.1,ms[i].2.2.2)=true/\xs[i]?=some ms[i].1))
   case atStart=>exact⟨0,q,_,[],Nat.zero_le _,rfl,rfl,rfl,by simp,by omega,by omega,hP,fun i hi=>absurd hi yB⟩
   case round =>
    obtain⟨k,q',v,ms,hk,rfl,rfl,HML,hmo,hqq,hqq',Yh,HW⟩:=hrel
    have Zm:Hid (ms.length=k):=HML
    clear HML
    have hm4:ms.length<=4:=by have:=Zm.out;have:=hxl.out;omega
    by_cases yt:k<xs.length
    ·have v7:(k:Int)<(xs.length:Int):=by omega
     have c0:=Yh.c0
     have zff:=Yh.gr.size
     obtain⟨aV,cV,K1⟩:=Yh.row.shape
     subst K1
     have HD:Hid (∀m∈ms,∀k,m.2.2.1.ownBlock=some k->k<wr.heap.size):=fun m hm k e=>((Yh.row.ops m hm).lt k e).2
     have HX:Hid (∀i,(hi:i<xs.length)->wr.cell? (zH ga i)=some (zI xs[i])/\0<=xs[i]/\xs[i]<=2):=fun i hi=>⟨Yh.args.cell i hi,hxs i hi⟩
     have hgab:ga≠b:=by have:=(Yh.args.lt ga rfl).1;omega
     have hPd:=Yh.drew
     clear hxs Yh
     have Wu:xs.length<=4:=by have:=hxl.out;omega
     go_wp2_with fail
     go_region_law (first
      | (refine zcI _ (by rfl) _ _ (by rfl) w.heap.size _ (ms.map MM.tri) (by rfl) (World.ownsRow.alloc hP4.row.row _) [(A,T,vo)] (by simp;exact hsl) ⟨w4.heap.size,0,none⟩ _ (by rfl) (World.news_of_block (Go.Deep.blk_alloc_new w4 _)) (by simp) (by simp;omega) (by have:=hP4.gr.size;simp;omega) ?_;intro g5 cp5 w5 yq Zb hB5 Wv;have hap:=(hP4.alloc _).appended Zb;have q0:=hap.2.2.2.1.cell (i:=0) (by decide);have e0:=hap.2.2.2.1.frozen 0)
      | (go_simp;go_at_call 122;refine(Ue _ _ _ _ _ _ ga _ xs k hPd.rd (by omega) HX.out hgab yt Wu).mono ?_;rintro e w4 ⟨A,T,vo,L,q4,rfl,qd,hL2,zeZ,hA0,hA2,hT1,hT4,hq4,hq4',xK,uy,hAx,hAT,hOps⟩;have HM:Hid (qe xs.length (A,T,L)=true/\xs[k]?=some A):=⟨Jf (zx.2 ⟨hA0,hA2⟩) (zx.2 ⟨hAT,hT4⟩) zeZ hOps,by rw[hAx];exact List.getElem?_eq_getElem _⟩;clear hAx hAT hOps;have hP4:=hPd.pick xK uy;have k0:=hP4.c0;have k0':=(fun o=>zc (zR _ o) k0);have hsl:Kp vo:=by obtain⟨a1,c1,h1⟩:=qd.shape;exact⟨_,_,_,h1⟩))
     all_goals
      simp only[List.length_map,List.length_cons,List.length_nil,Nat.zero_add] at yq
      have hPY:=(hP4.alloc _).stored Zb yq (World.ownsRow.alloc (qd.mono (by simpa using zff)) _) (fun m hm j e e'=>by have:=HD.out m hm j e;have:=(qd.lt j e').1;simp at this;omega)
      have V9:∀m∈ms ++ [((A,T,vo,L):MM)],zcs m:=fun m hm=>by
       rcases List.mem_append.1 hm with hm | hm
       ·exact hmo m hm
       ·simp at hm;subst hm;exact⟨hL2,zeZ⟩
      have HW':Hid (∀i,(hi:i<(ms ++ [((A,T,vo,L):MM)]).length)->qe xs.length ((ms ++ [((A,T,vo,L):MM)])[i].1,(ms ++ [((A,T,vo,L):MM)])[i].2.1,(ms ++ [((A,T,vo,L):MM)])[i].2.2.2)=true/\xs[i]?=some (ms ++ [((A,T,vo,L):MM)])[i].1):=by
       intro i hi
       by_cases e:i<ms.length
       ·rw[List.getElem_append_left e]
        exact HW.out i e
       ·have e2:i=ms.length:=by simp at hi;omega
        subst e2
        rw[List.getElem_append_right zD]
        simp only[Nat.sub_self,List.getElem_cons_zero]
        rw[Zm.out]
        exact HM.out
      clear HW HM
      clear hap q0 e0 Zb yq hB5 Wv k0 k0' hP4 xK uy hPd HX HD qd
      go_wp2
      go_roundg (xs.length - (k+1))
      case measure=>omega
      case rel=>exact⟨k+1,q4,_,_,by omega,rfl,by go_num,by have:=Zm.out;simp;omega,V9,by omega,by omega,hPY,HW'⟩
    ·obtain rfl:k=xs.length:=by omega
     have c0:=Yh.c0
     have r0:=Yh.res.cell (i:=0) (by decide)
     have rf:=Yh.res.frozen 0
     have HPK:Hid (yn (qj ms)=true):=zfF Zm.out (by omega) (by have:=Zm.out;omega) H0.out HW.out
     have hF:=Yh.final
     obtain⟨aV,cV,K1⟩:=Yh.row.shape
     subst K1
     clear Yh
     go_wp2
     generalize wr.setCell (zH w.heap.size 0) (.slice aV ms.length cV)=W3 at hF ⊢
     obtain⟨h1,h2,h3,d0⟩:=hF
     exact bodyPost_ret (v:=.agg #[.slice aV ms.length cV]) (by simp[results,Tryz.results78,go_sem,d0]) rfl ⟨_,_,_,rfl,h1,by have:=Zm.out;have:=hxl.out;omega,hm4,hmo,by omega,by have:=hxl.out;omega,h2,h3,HPK.out⟩
theorem zaN (w:World) (b:Nat) (a:Option Addr) (len cap p:Nat) (hr:Rd w b a len cap p) (hp:p+400<=1000000) :
 Calls Tryz.prog 78 #[zJ b 0] w fun e w'=>∃(v:Value) (ms:List MM) (p':Nat),e=.returned (.agg #[v])/\kJ w.heap.size w' v ms/\2<=ms.length/\ms.length<=4/\(∀m∈ms,zcs m)/\p<=p'/\p'<=p+400/\Rd w' b a len cap p'/\w.grownBy w' (some b) :=
 (zaO w b a len cap p hr hp).mono fun _ _ ⟨v,ms,p',h1,h2,h3,h4,h5,h6,h7,h8,h9,_⟩=>⟨v,ms,p',h1,h2,h3,h4,h5,h6,h7,h8,h9⟩
end Go.Proofs.YtbjgjjkgfnfejaaGreatDoor

/-
  What draws: rows of operations, a bit more: what they look like, one of them written into; the answer of l71Method.
-/
import Derived.Test.YtjbgpcileapogaaGreatDraw5
import Derived.Deep.DeepCutAuto
import Derived.Deep.RegionLaw
namespace Go.Proofs.YtjbgpcileapogaaGreat
open Go.RowKit
theorem yh.shape {B:Nat} {w:World} {v:Value} {L:zL} (h:yh B w v L):∃a c,v=.slice a L.length c:=by
 obtain⟨_,h2⟩:=h
 rcases h2 with⟨rfl,hn⟩ | ⟨g,zp,cur,rfl,_⟩
 ·exact⟨none,0,by rw[hn]⟩
 ·exact⟨_,_,rfl⟩
theorem yh.shape1 {B:Nat} {w:World} {v:Value} {L:zL} (h:yh B w v L) (hn:1<=L.length):∃g c,v=.slice (some ⟨g,0,none⟩) L.length c:=by
 obtain⟨_,h2⟩:=h
 rcases h2 with⟨rfl,hn'⟩ | ⟨g,zp,cur,rfl,_⟩
 ·omega
 ·exact⟨_,_,rfl⟩
theorem zbN (L:zL):∀(i:Nat) (h:i<L.length) (x:Int),ue (L.set i (L[i].1,x))=(ue L).set (i * 2+1) (.int .i64 x):=by
 induction L with
 | nil=>intro i h;exact absurd h zF
 | cons a l ih =>
  intro i h x
  cases i with
  | zero=>rfl
  | succ i =>
   have:=ih i (by simpa using h) x
   rw[show(i+1) * 2+1=(i * 2+1)+2 by omega]
   simp only[List.set_cons_succ,List.getElem_cons_succ]
   show [Value.int .i64 a.1,.int .i64 a.2] ++ ue _=([Value.int .i64 a.1,.int .i64 a.2] ++ ue l).set (i * 2+1+2) _
   rw[this]
   rfl
theorem yh.setA {B:Nat} {w:World} {g c:Nat} {L:zL} (h:yh B w (.slice (some ⟨g,0,none⟩) L.length c) L) (i:Nat) (hi:i<L.length) (x:Int) :
 (∃y,w.cell? ⟨g,i * 2+1,none⟩=some (.int .i64 y))/\w.frozen? ⟨g,i * 2+1,none⟩=false/\yh B (w.setCell ⟨g,i * 2+1,none⟩ (.int .i64 x)) (.slice (some ⟨g,0,none⟩) L.length c) (L.set i (L[i].1,x))/\w.grownBy (w.setCell ⟨g,i * 2+1,none⟩ (.int .i64 x)) (some g):=by
 obtain⟨s1,s2⟩:=World.ownsRow.stored h (i * 2+1) (.int .i64 x)
 refine⟨⟨L[i].2,?_⟩,?_,?_,s2⟩
 ·have:=World.ownsRow.cells h (g:=g) rfl (i * 2+1) _ (YT L i hi).2
  rwa [Addr.add_lit,Nat.zero_add] at this
 ·rcases h.2 with⟨e,_⟩ | ⟨g',cap',cur,e,_,hg,_⟩
  ·cases e
  ·cases e
   unfold World.frozen?;rw[hg];simp
 ·show World.ownsRow _ _ _ _ _ _ _
  rw[List.length_set,zbN L i hi x]
  exact s1
namespace MS
variable {w0 w w' W:World} {b:Nat} {a:Option Addr} {len zp p q g:Nat} {A T:Int} {v v':Value} {L L':zL}
theorem opSet {gv c:Nat} (h:MS w0 w b a len zp p g A T (.slice (some ⟨gv,0,none⟩) L.length c) L) (i:Nat) (hi:i<L.length) (x:Int):MS w0 (w.setCell ⟨gv,i * 2+1,none⟩ (.int .i64 x)) b a len zp p g A T (.slice (some ⟨gv,0,none⟩) L.length c) (L.set i (L[i].1,x)):=by
 obtain⟨_,_,hr,hg⟩:=h.row.setA i hi x
 have e:∀k,some gv=some k->w0.heap.size<=k:=fun k e=>by cases e;exact(h.row.lt gv rfl).1
 obtain⟨p0,h0⟩:=h.r0
 exact⟨Rd.kept h0 h.rd h.gr.size hg e,ql h.gr hg e,yq h.box hg (fun e=>Yz h.box h.row (by decide) e.symm),h.own,hr,yq h.res hg (fun e=>Yz h.res h.row (by decide) e.symm),h.r0⟩
theorem final (h:MS w0 w b a len zp p g A T v L) :
 let W3:=((w.setCell ⟨w0.heap.size,0,none⟩ (.int .i64 A)).setCell ⟨w0.heap.size,1,none⟩ (.int .i64 T)).setCell ⟨w0.heap.size,2,none⟩ v
 yh w0.heap.size W3 v L/\Rd W3 b a len zp p/\w0.grownBy W3 (some b)/\W3.cell? ⟨w0.heap.size,0,none⟩=some (.int .i64 A)/\W3.cell? ⟨w0.heap.size,1,none⟩=some (.int .i64 T)/\W3.cell? ⟨w0.heap.size,2,none⟩=some v:=by
 intro W3
 have hk:w.grownBy W3 (some w0.heap.size):=⟨rfl,rfl,rfl,by simp[W3,World.setCell],fun k _ hk=>(Below.heap_setCell _ _ _ _ (fun e=>hk (by rw[e]))).trans ((Below.heap_setCell _ _ _ _ (fun e=>hk (by rw[e]))).trans (Below.heap_setCell _ _ _ _ (fun e=>hk (by rw[e]))))⟩
 have e:∀k,some w0.heap.size=some k->w0.heap.size<=k:=fun k e=>by cases e;exact Nat.le_refl _
 obtain⟨p0,h0⟩:=h.r0
 have hres:=((h.res.set 0 (.int .i64 A)).set 1 (.int .i64 T)).set 2 v
 refine⟨h.row.kept hk (fun q e hk=>by cases e;exact Yz h.res h.row (by decide) hk),Rd.kept h0 h.rd h.gr.size hk e,ql h.gr hk e,?_,?_,?_⟩
 ·have:=hres.cell (i:=0) (by decide);simpa using this
 ·have:=hres.cell (i:=1) (by decide);simpa using this
 ·have:=hres.cell (i:=2) (by decide);simpa using this
end MS
theorem Fit.ok {nm:Nat} {t:Int} {o:Int × Int} (h:Fit nm t o) (no:Nat):qR nm no t o.1 o.2=true:=by
 obtain⟨h7,h8,h⟩:=h
 have e:¬(o.1=7\/o.1=8):=fun e=>e.elim h7 h8
 unfold qR at h ⊢
 rw[if_neg e] at h
 rw[if_neg e]
 exact h
def jd (nm:Nat) (t z:Int) (L:zL):Prop:=∀i,(hi:i<L.length)->(L[i].1=8/\(i:Int)=z)\/((i:Int)≠z/\Fit nm t L[i])
def Qr (nm:Nat) (t:Int) (n:Nat) (L:zL):Prop:=∀o∈L,(o.1=8/\0<=o.2/\o.2<=(n:Int))\/Fit nm t o
theorem jd.nil {nm:Nat} {t z:Int}:jd nm t z []:=fun _ hi=>absurd hi zF
theorem jd.append {nm:Nat} {t z:Int} {L M:zL} (h:jd nm t z L) (k:Fits nm t M) (hz:z<(L.length:Int)):jd nm t z (L ++ M):=fun i hi=>by
 by_cases e:i<L.length
 ·rw[List.getElem_append_left e]
  exact h i e
 ·rw[List.getElem_append_right (by omega)]
  exact .inr ⟨by omega,k _ (List.getElem_mem _)⟩
theorem jd.fits {nm:Nat} {t:Int} {L:zL} (h:jd nm t (-1) L):Fits nm t L:=fun o e=>by
 obtain⟨i,hi,rfl⟩:=List.getElem_of_mem e
 rcases h i hi with⟨_,e⟩ | e
 ·omega
 ·exact e.2
theorem jd.skip {nm:Nat} {t:Int} {L:zL} {u:Int} (h:jd nm t (-1) L) (h0:0<=u) (h1:u<t):jd nm t ((L.length:Int)+1) (L ++ [(2,u),(8,0)]):=fun i hi=>by
 by_cases e:i<L.length
 ·rw[List.getElem_append_left e]
  exact .inr ⟨by omega,h.fits _ (List.getElem_mem _)⟩
 ·have hl:(L ++ [(2,u),(8,0)]).length=L.length+2:=by simp
  have h2:i=L.length\/i=L.length+1:=by omega
  rcases h2 with rfl | rfl
  ·refine .inr ⟨by omega,?_⟩
   rw[List.getElem_append_right zD]
   simp only[Nat.sub_self,List.getElem_cons_zero]
   exact vV h0 h1
  ·refine .inl ⟨?_,by omega⟩
   rw[List.getElem_append_right (by omega)]
   simp
theorem jd.to {nm:Nat} {t:Int} {L:zL} (h:jd nm t (-1) L):Qr nm t L.length L:=fun o e=>.inr (h.fits o e)
theorem jd.set {nm:Nat} {t:Int} {L:zL} {z:Nat} (h:jd nm t (z:Int) L) (hz:z<L.length):Qr nm t (L.set z (L[z].1,(L.length:Int))).length (L.set z (L[z].1,(L.length:Int))):=fun o e=>by
 obtain⟨i,hi,rfl⟩:=List.getElem_of_mem e
 have hi':i<L.length:=by simpa using hi
 rw[List.getElem_set]
 split
 ·next e =>
  rcases h z hz with⟨h8,_⟩ | hf
  ·exact .inl ⟨h8,by simp,by simp⟩
  ·exact absurd rfl hf.1
 ·next e =>
  rcases h i hi' with⟨_,e2⟩ | hf
  ·omega
  ·exact .inr hf.2
theorem Qr.done2 {nm:Nat} {t:Int} {L:zL} {a b:Int × Int} (h:Qr nm t L.length L) (ha:Fit nm t a) (hb:Fit nm t b):Qd nm t (L ++ [a] ++ [b])=true:=by
 unfold Qd
 rw[List.all_eq_true]
 intro o e
 have hl:(L ++ [a] ++ [b]).length=L.length+2:=by simp
 rw[hl]
 simp only[List.mem_append,List.mem_singleton] at e
 rcases e with(e | rfl) | rfl
 ·rcases h o e with⟨h8,h0,h1⟩ | hf
  ·rw[h8,zdQ]
   exact zH.2 ⟨h0,by omega⟩
  ·exact hf.ok _
 ·exact ha.ok _
 ·exact hb.ok _
set_option maxRecDepth 100000 in
set_option maxHeartbeats 8000000 in
theorem Ki (w:World) (b:Nat) (a:Option Addr) (len zp p:Nat) (ga c:Nat) (xs:List Int) (s:Nat) (hr:Rd w b a len zp p) (hp:p+70<=1000000) (hxs:∀i,(hi:i<xs.length)->w.cell? ⟨ga,i,none⟩=some (.int .i64 xs[i])/\0<=xs[i]/\xs[i]<=2) (hga:ga≠b)
 (hs:s<xs.length) (hl4:xs.length<=4) :
 Calls Tryz.prog 158 #[.pointer (some ⟨b,0,none⟩),.slice (some ⟨ga,0,none⟩) xs.length c,.int .i64 s] w fun e w'=>∃(A T:Int) (v:Value) (L:zL) (p':Nat),e=.returned (.agg #[.int .i64 A,.int .i64 T,v])/\yh w.heap.size w' v L/\2<=L.length/\L.length<=14/\0<=A/\A<=2/\1<=T/\T<=4/\p<=p'/\p'<=p+70/\Rd w' b a len zp p'/\w.grownBy w' (some b)/\A=xs[s]/\A<=T/\Qd xs.length T L=true:=by
 have hbw:b<w.heap.size:=World.block_lt_of_cell? _ _ hr.s
 obtain⟨c0,x0,x1⟩:=hxs s hs
 have hgw:ga<w.heap.size:=World.block_lt_of_cell? _ _ c0
 obtain⟨y,hy⟩:∃y,y=xs[s]:=⟨_,rfl⟩
 rw[<-hy] at c0 x0 x1
 have HY:Hid (y=xs[s]):=hy
 clear hy
 have hsz0:(0:Int)<=(s:Int):=by omega
 have hsz1:(s:Int)<(xs.length:Int):=by omega
 have hga':some ga≠some b:=by simp;exact hga
 go_enter Tryz.func158,Tryz.ntmps158
 go_upto_region 1 with fail
 go_cut [7] (fun m7 wx=>∃(g:Nat) (T:Int) (v:Value),m7=.pointer (some ⟨g,0,none⟩)/\1<=T/\T<=4/\y<=T/\MS w wx b a len zp (p+1) g y T v [])
 case first =>
  have HX:Hid (∀i,(hi:i<xs.length)->w.cell? ⟨ga,i,none⟩=some (.int .i64 xs[i])/\0<=xs[i]/\xs[i]<=2):=hxs
  clear hxs
  have HR:Hid (Rd w b a len zp p):=hr
  have hD1:∀(v:World) (k:Nat) (o:Obj),(v.drewN k).alloc o=(v.alloc o).drewN k:=fun _ _ _=>rfl
  have hD2:∀(v:World) (k:Nat) (q:Addr) (u:Value),(v.drewN k).setCell q u=(v.setCell q u).drewN k:=fun _ _ _ _=>rfl
  have hb2:b<w.heap.size+1:=by omega
  have hb3:b<w.heap.size+1+1:=by omega
  have hE1:∀o v,(w.alloc o).setCell ⟨b,1,none⟩ v=(w.setCell ⟨b,1,none⟩ v).alloc o:=fun o v=>World.setCell_alloc_past _ _ _ _ hbw
  have hE2:∀o1 o2 v,((w.alloc o1).alloc o2).setCell ⟨b,1,none⟩ v=((w.setCell ⟨b,1,none⟩ v).alloc o1).alloc o2:=fun o1 o2 v=>by rw[World.setCell_alloc_past _ _ _ _ (by simp;omega),hE1]
  have hE3:∀o1 o2 o3 v,(((w.alloc o1).alloc o2).alloc o3).setCell ⟨b,1,none⟩ v=(((w.setCell ⟨b,1,none⟩ v).alloc o1).alloc o2).alloc o3:=fun o1 o2 o3 v=>by rw[World.setCell_alloc_past _ _ _ _ (by simp;omega),hE2]
  have hA1:∀o1,(w.alloc o1).cell? ⟨ga,s,none⟩=some (.int .i64 y):=fun o1=>zc (zB _ _) c0
  have hA2:∀o1 o2,((w.alloc o1).alloc o2).cell? ⟨ga,s,none⟩=some (.int .i64 y):=fun o1 o2=>zc (zB _ _) (hA1 o1)
  have hA3:∀o1 o2 o3,(((w.alloc o1).alloc o2).alloc o3).cell? ⟨ga,s,none⟩=some (.int .i64 y):=fun o1 o2 o3=>zc (zB _ _) (hA2 o1 o2)
  have hS:∀v,(w.setCell ⟨b,1,none⟩ v).cell? ⟨ga,s,none⟩=some (.int .i64 y):=fun v=>by
   rw[World.cell?_setCell_other _ _ _ _ (fun e=>by have:=congrArg Addr.block e;simp at this;exact hga this.symm)];exact c0
  have hS1:∀v o1,((w.setCell ⟨b,1,none⟩ v).alloc o1).cell? ⟨ga,s,none⟩=some (.int .i64 y):=fun v o1=>zc (zB _ _) (hS v)
  have hS2:∀v o1 o2,(((w.setCell ⟨b,1,none⟩ v).alloc o1).alloc o2).cell? ⟨ga,s,none⟩=some (.int .i64 y):=fun v o1 o2=>zc (zB _ _) (hS1 v o1)
  have hS3:∀v o1 o2 o3,((((w.setCell ⟨b,1,none⟩ v).alloc o1).alloc o2).alloc o3).cell? ⟨ga,s,none⟩=some (.int .i64 y):=fun v o1 o2 o3=>zc (zB _ _) (hS2 v o1 o2)
  clear hr
  go_region_held3 (fun w'=>w'.cell? ⟨ga,s,none⟩=some (.int .i64 y))
   (simp[*])
   ((go_at_call 111;refine(JO _ _ a len zp p _ (by first | exact Rd.heap (HR.out.alloc _) rfl | exact Rd.heap ((HR.out.alloc _).alloc _) rfl | exact Rd.heap (((HR.out.alloc _).alloc _).alloc _) rfl) (by omega) (by omega) (by omega)).mono ?_;rintro e w1 ⟨x,m,rfl,hx0,hx1,rfl⟩))
  all_goals
   clear hD1 hD2 hE1 hE2 hE3 hA1 hA2 hA3 hS hS1 hS2 hS3
   go_wp2_with fail
  all_goals
   go_meet
   have hw:IntKind.i64.wrap (1+x)=1+x:=by rw[IntKind.wrap_i64];omega
   first
    | (refine⟨_,_,_,rfl,?_,?_,?_,zdK HR.out _ _ _⟩ <;> omega)
    | (refine⟨_,_,_,rfl,?_,?_,?_,zdL HR.out _ _ _⟩ <;> omega)
 case rest =>
  obtain⟨g,T,v0,rfl,hT1,hT4,hyT,hM⟩:=hcut
  go_wp2_with fail
  go_loopg [8,9] 4 (fun d sk i wr=>∃(k q:Nat) (v:Value) (L:zL) (z:Int),k<=4/\d=4 - k/\i=.int .i64 k/\sk=.int .i64 z/\(z=-1\/(0<=z/\z<(L.length:Int)))/\MS w wr b a len zp q g y T v L/\L.length<=12/\p+1<=q/\q<=p+1+13 * k/\Hid (jd xs.length T z L))
  case atStart=>exact⟨0,p+1,v0,[],-1,by omega,rfl,rfl,rfl,.inl rfl,hM,by simp,by omega,by omega,jd.nil⟩
  case round =>
   obtain⟨k,q,v,L,z,hk,rfl,rfl,rfl,hz,Un,hL,hq,hq',HB⟩:=hrel
   by_cases hlt:k<4
   ·have hkz:(k:Int)<4:=by omega
    have c1:=Un.c1
    have HX:Hid (∀i,(hi:i<xs.length)->wr.cell? ⟨ga,i,none⟩=some (.int .i64 xs[i])/\0<=xs[i]/\xs[i]<=2):=fun i hi=>⟨Un.gr.cell (hxs i hi).1 hga',(hxs i hi).2⟩
    clear hxs
    go_wp2_with fail
    refine(UA _ _ _ _ _ _ ga _ xs _ Un.rd (by omega) HX.out hga (by omega) hl4 hT1 hT4).mono ?_
    rintro e wP ⟨vP,oP,pP,rfl,KH,hlP,hlP1,hpP,hpP',hrdP,hgP,hfP'⟩
    have hfP:Hid (Fits xs.length T oP):=hfP'
    clear hfP'
    have hMP:=Un.pick hrdP hgP
    have hszr:=Un.gr.size
    have HV:Hid (∀k,v.ownBlock=some k->k<wr.heap.size):=fun k e=>(Un.row.lt k e).2
    have hbw':=Un.blt
    have HG:Hid (g<wr.heap.size/\w.heap.size<g):=⟨Un.box.lt,Un.own⟩
    obtain⟨gP,cP,hvP⟩:=KH.shape1 (by omega)
    subst hvP
    clear HX c1 Un hrdP hgP
    rcases hz with hz | ⟨hz0,hz1⟩
    ·subst hz
     go_wp2_with fail
     refine(yU _ _ _ _ _ _ _ hMP.rd (by omega) (by omega) (by omega)).mono ?_
     rintro e w3 ⟨x,rfl,hx0,hx1,xu,hg3⟩
     have hM3:=hMP.pick xu hg3
     have Yo:=KH.kept hg3 (fun q e hk=>by cases e;have:=(KH.lt _ hk).1;omega)
     clear KH hMP xu hg3
     by_cases hx:x=0
     ·subst hx
      by_cases h10:L.length+oP.length<=10
      ·have h10z:(L.length:Int)+(oP.length:Int)<=10:=by omega
       obtain⟨aV,cV,WK⟩:=hM3.row.shape
       have d2:=hM3.c2
       have d1:=hM3.c1
       have Vn:=hM3.gr.size
       subst WK
       go_wp2_with fail
       have hMd:=hM3.drew
       go_region_law (first
        | (refine Qk _ (by rfl) _ _ (by rfl) w.heap.size _ L (by rfl) (World.ownsRow.alloc Jr.row _) [(2,u),(8,0)] w4.heap.size _ (by rfl) (World.news_of_block (Go.Deep.blk_alloc_new w4 _)) (by simp) (by simp;omega) (by have:=Jr.gr.size;simp;omega) ?_;intro g5 cp5 w5 yo hg5 hB5 hlt5;have hap:=Jr.appended (zB _ _) hg5;have q2:=hap.2.2.1.cell (i:=2) (by decide);have e2:=hap.2.2.1.frozen 2)
        | (go_simp;go_at_call 111;refine(yU _ _ _ _ _ _ _ hMd.rd (by omega) (by omega) (by omega)).mono ?_;rintro e w4 ⟨u,rfl,hu0,hu1,qQ,hg4⟩;have Jr:=hMd.pick qQ hg4;have k1:=Jr.c1;have k2:=Jr.c2;have k2':=(fun o=>zc (zB _ o) k2)))
       all_goals
        have Zd:=Jr.stored (zB _ _) hg5 yo
        have WE:yh wr.heap.size w4 _ oP:=yh.kept (w:=w3.drew) Yo hg4 (fun q e hk=>by cases e;have:=(Yo.lt _ hk).1;omega)
        have WG:=yh.kept (World.ownsRow.alloc WE _) hg5 (fun q e hk=>by have:=HV.out q e;have:=(WE.lt _ hk).1;omega)
        have Yp:=WG.kept (yP w5 g 2 (.slice (some ⟨g5,0,none⟩) (L.length+2) cp5)) (fun q e hk=>by cases e;have:=(WG.lt _ hk).1;have:=HG.out.1;omega)
        clear hap q2 e2 hg5 yo hB5 hlt5 k1 k2 k2' Jr qQ hg4 hMd hM3 Yo WE WG d1 d2
        generalize w5.setCell ⟨g,2,none⟩ (.slice (some ⟨g5,0,none⟩) (L.length+2) cp5)=w6 at *
        have c2:=Zd.c2
        have hszY:=Zd.gr.size
        have f2:=Zd.f2
        have hl2:(L ++ [(2,u),(8,0)]).length=L.length+2:=by simp
        have hl3:(L ++ [(2,u),(8,0)] ++ oP).length=L.length+2+oP.length:=by simp;omega
        by_cases h12:L.length+2+oP.length<=12
        ·have h12z:(L.length:Int)+2+(oP.length:Int)<=12:=by omega
         go_wp2_with (at_builtin;refine ux _ (by rfl) _ _ (by rfl) _ _ (L ++ [(2,u),(8,0)]) (by simp;rfl) Zd.row oP gP _ (by rfl) (World.ownsRow.cells Yp rfl) (by omega) (by simp;omega) (by omega) ?_;intro g2 cp2 w2 hrow2 hg2 hB2 hlt2;have hap:=Zd.appended zC hg2;have q2:=hap.2.2.1.cell (i:=2) (by decide);have e2:=hap.2.2.1.frozen 2)
         have MZ:=Zd.stored zC hg2 hrow2
         rw[hl2] at MZ
         clear hap q2 e2 hg2 hrow2 hB2 hlt2 c2 f2 Zd
         go_roundg (4 - (k+1))
         case measure=>omega
         case rel=>exact⟨k+1,_,_,_,_,by omega,rfl,by go_num,rfl,.inr ⟨by omega,by rw[hl3];omega⟩,MZ,by rw[hl3];omega,by omega,by omega,(HB.out.skip hu0 hu1).append hfP.out (by rw[hl2];omega)⟩
        ·omega
      ·have h10z:¬(L.length:Int)+(oP.length:Int)<=10:=by omega
       obtain⟨aV,cV,WK⟩:=hM3.row.shape
       subst WK
       have Zd:=hM3
       have Yp:=Yo
       clear hM3 Yo
       have c2:=Zd.c2
       have hszY:=Zd.gr.size
       have f2:=Zd.f2
       by_cases h12:L.length+oP.length<=12
       ·have h12z:(L.length:Int)+(oP.length:Int)<=12:=by omega
        go_wp2_with (at_builtin;refine ux _ (by rfl) _ _ (by rfl) _ _ L (by rfl) Zd.row oP gP _ (by rfl) (World.ownsRow.cells Yp rfl) (by omega) (by omega) (by omega) ?_;intro g2 cp2 w2 hrow2 hg2 hB2 hlt2;have hap:=Zd.appended zC hg2;have q2:=hap.2.2.1.cell (i:=2) (by decide);have e2:=hap.2.2.1.frozen 2)
        have MZ:=Zd.stored zC hg2 hrow2
        clear hap q2 e2 hg2 hrow2 hB2 hlt2 c2 f2 Zd
        go_roundg (4 - (k+1))
        case measure=>omega
        case rel=>exact⟨k+1,_,_,_,_,by omega,rfl,by go_num,rfl,by first | omega | (simp;omega) | simp,MZ,by simp;omega,by omega,by omega,HB.out.append hfP.out (by omega)⟩
       ·have h12z:¬(L.length:Int)+(oP.length:Int)<=12:=by omega
        go_wp2
        go_roundg (4 - (k+1))
        case measure=>omega
        case rel=>exact⟨k+1,_,_,_,_,by omega,rfl,by go_num,rfl,by omega,Zd,by omega,by omega,by omega,HB.out⟩
     ·have ex:(x == 0)=false:=zG.2 hx
      have Zd:=hM3
      have Yp:=Yo
      clear hM3 Yo
      obtain⟨aY,cY,hvY⟩:=Zd.row.shape
      have c2:=Zd.c2
      have hszY:=Zd.gr.size
      have f2:=Zd.f2
      subst hvY
      by_cases h12:L.length+oP.length<=12
      ·have h12z:(L.length:Int)+(oP.length:Int)<=12:=by omega
       go_wp2_with (at_builtin;refine ux _ (by rfl) _ _ (by rfl) _ _ L (by rfl) Zd.row oP gP _ (by rfl) (World.ownsRow.cells Yp rfl) (by omega) (by omega) (by omega) ?_;intro g2 cp2 w2 hrow2 hg2 hB2 hlt2;have hap:=Zd.appended zC hg2;have q2:=hap.2.2.1.cell (i:=2) (by decide);have e2:=hap.2.2.1.frozen 2)
       have MZ:=Zd.stored zC hg2 hrow2
       clear hap q2 e2 hg2 hrow2 hB2 hlt2 c2 f2 Zd
       go_roundg (4 - (k+1))
       case measure=>omega
       case rel=>exact⟨k+1,_,_,_,_,by omega,rfl,by go_num,rfl,by first | omega | (simp;omega) | simp,MZ,by simp;omega,by omega,by omega,HB.out.append hfP.out (by omega)⟩
      ·have h12z:¬(L.length:Int)+(oP.length:Int)<=12:=by omega
       go_wp2
       go_roundg (4 - (k+1))
       case measure=>omega
       case rel=>exact⟨k+1,_,_,_,_,by omega,rfl,by go_num,rfl,by omega,Zd,by omega,by omega,by omega,HB.out⟩
    ·have hz2:¬z<0:=by omega
     have Zd:=hMP
     have Yp:=KH
     clear hMP KH
     obtain⟨aY,cY,hvY⟩:=Zd.row.shape
     have c2:=Zd.c2
     have hszY:=Zd.gr.size
     have f2:=Zd.f2
     subst hvY
     by_cases h12:L.length+oP.length<=12
     ·have h12z:(L.length:Int)+(oP.length:Int)<=12:=by omega
      go_wp2_with (at_builtin;refine ux _ (by rfl) _ _ (by rfl) _ _ L (by rfl) Zd.row oP gP _ (by rfl) (World.ownsRow.cells Yp rfl) (by omega) (by omega) (by omega) ?_;intro g2 cp2 w2 hrow2 hg2 hB2 hlt2;have hap:=Zd.appended zC hg2;have q2:=hap.2.2.1.cell (i:=2) (by decide);have e2:=hap.2.2.1.frozen 2)
      have MZ:=Zd.stored zC hg2 hrow2
      clear hap q2 e2 hg2 hrow2 hB2 hlt2 c2 f2 Zd
      go_roundg (4 - (k+1))
      case measure=>omega
      case rel=>exact⟨k+1,_,_,_,_,by omega,rfl,by go_num,rfl,by first | omega | (simp;omega) | simp,MZ,by simp;omega,by omega,by omega,HB.out.append hfP.out (by omega)⟩
     ·have h12z:¬(L.length:Int)+(oP.length:Int)<=12:=by omega
      go_wp2
      go_roundg (4 - (k+1))
      case measure=>omega
      case rel=>exact⟨k+1,_,_,_,_,by omega,rfl,by go_num,rfl,by omega,Zd,by omega,by omega,by omega,HB.out⟩
   ·obtain rfl:k=4:=by omega
    clear hxs
    rcases hz with hz | ⟨hz0,hz1⟩
    ·subst hz
     have HTo:Hid (Qr xs.length T L.length L):=HB.out.to
     have hMT:=Un
     clear Un
     have hLT:L.length<=12:=hL
     have hszT:=hMT.gr.size
     go_wp2_with fail
     refine(yU _ _ _ _ _ _ _ hMT.rd (by omega) (by omega) (by omega)).mono ?_
     rintro e w8 ⟨x,rfl,hx0,hx1,zb7,hg8⟩
     have XE:=hMT.pick zb7 hg8
     have hsz8:=XE.gr.size
     clear hMT zb7 hg8
     obtain⟨aV,cV,WK⟩:=XE.row.shape
     subst WK
     have c2:=XE.c2
     have c1:=XE.c1
     have f2:=XE.f2
     have hgw8:=XE.own
     by_cases hx:x=0
     ·subst hx
      go_upto_region 17 with(at_builtin;refine yj _ (by rfl) _ _ (by rfl) _ _ L (by rfl) XE.row _ _ _ (by rfl) (by omega) (by omega) ?_;intro g9 cp9 w9 kO Xb hB9 WD;have hap:=XE.appended (zB _ _) Xb;have q2:=hap.2.2.1.cell (i:=2) (by decide);have e2:=hap.2.2.1.frozen 2)
      have MZ:=XE.stored (zB _ _) Xb kO
      have hszZ:=MZ.gr.size
      clear hap q2 e2 Xb kO hB9 WD XE c1 c2 f2
      generalize w9.setCell ⟨g,2,none⟩ (.slice (some ⟨g9,0,none⟩) (L.length+1) cp9)=w6 at *
      have c2:=MZ.c2
      have f2:=MZ.f2
      go_wp2_with (at_builtin;refine yj _ (by rfl) _ _ (by rfl) _ _ (L ++ [(11,0)]) (by first | rfl | (simp;rfl)) MZ.row _ _ _ (by rfl) (by simp;omega) (by omega) ?_;intro g10 Yc qF xk uf hB10 zbW;simp only[List.length_append,List.length_cons,List.length_nil,Nat.zero_add] at xk;have MF:=MZ.stored (zB _ _) uf xk;have xE:=MZ.appended (zB _ _) uf;have b0:qF.cell? ⟨g,0,none⟩=some (.int .i64 y):=xE.2.2.1.cell (i:=0) (by decide);have b1:qF.cell? ⟨g,1,none⟩=some (.int .i64 T):=xE.2.2.1.cell (i:=1) (by decide);have b2:=xE.2.2.1.cell (i:=2) (by decide);have b3:=xE.2.2.1.frozen 2;have r0:qF.cell? ⟨w.heap.size,0,none⟩=some (.int .i64 0):=xE.2.2.2.cell (i:=0) (by decide);have r1:qF.cell? ⟨w.heap.size,1,none⟩=some (.int .i64 0):=xE.2.2.2.cell (i:=1) (by decide);have r2:qF.cell? ⟨w.heap.size,2,none⟩=some (.slice none 0 0):=xE.2.2.2.cell (i:=2) (by decide);have t0:=xE.2.2.2.frozen 0;have t1:=xE.2.2.2.frozen 1;have t2:=xE.2.2.2.frozen 2)
      clear xE b0 b1 b2 b3 t0 t1 t2 r0 r1 r2 uf MZ
      have hF:=MF.final
      generalize (((qF.setCell ⟨g,2,none⟩ (.slice (some ⟨g10,0,none⟩) (L.length+1+1) Yc)).setCell ⟨w.heap.size,0,none⟩ (.int .i64 y)).setCell ⟨w.heap.size,1,none⟩ (.int .i64 T)).setCell ⟨w.heap.size,2,none⟩ (.slice (some ⟨g10,0,none⟩) (L.length+1+1) Yc)=W3 at hF ⊢
      obtain⟨h1,h2,h3,d0,d1,d2⟩:=hF
      exact bodyPost_ret (v:=.agg #[.int .i64 y,.int .i64 T,.slice (some ⟨g10,0,none⟩) (L.length+1+1) Yc]) (by simp[results,Tryz.results158,go_sem,d0,d1,d2]) rfl ⟨_,_,_,_,_,rfl,h1,by simp,by simp;omega,x0,x1,hT1,hT4,by omega,by omega,h2,h3,HY.out,hyT,HTo.out.done2 Zi Vd⟩
     ·have ex:(x == 0)=false:=zG.2 hx
      go_wp2_with fail
      have hMd:=XE.drew
      go_region_law (first
       | (refine Qk _ (by rfl) _ _ (by rfl) w.heap.size _ L (by rfl) (World.ownsRow.alloc Jr.row _) [(2,u)] w4.heap.size _ (by rfl) (World.news_of_block (Go.Deep.blk_alloc_new w4 _)) (by simp) (by simp;omega) (by have:=Jr.gr.size;simp;omega) ?_;intro g9 cp9 w9 kO Xb hB9 WD;have hap:=Jr.appended (zB _ _) Xb;have q2:=hap.2.2.1.cell (i:=2) (by decide);have e2:=hap.2.2.1.frozen 2)
       | (go_simp;go_at_call 111;refine(yU _ _ _ _ _ _ _ hMd.rd (by omega) (by omega) (by omega)).mono ?_;rintro e w4 ⟨u,rfl,hu0,hu1,qQ,hg4⟩;have Jr:=hMd.pick qQ hg4;have k1:=Jr.c1;have k2:=Jr.c2;have k2':=(fun o=>zc (zB _ o) k2)))
      all_goals
       have MZ:=Jr.stored (zB _ _) Xb kO
       have hszZ:=MZ.gr.size
       clear hap q2 e2 Xb kO hB9 WD k1 k2 k2' Jr qQ hg4 hMd XE c1 c2 f2
       generalize w9.setCell ⟨g,2,none⟩ (.slice (some ⟨g9,0,none⟩) (L.length+1) cp9)=w6 at *
       have c2:=MZ.c2
       have f2:=MZ.f2
       go_wp2_with (at_builtin;refine yj _ (by rfl) _ _ (by rfl) _ _ (L ++ [(2,u)]) (by simp;rfl) MZ.row _ _ _ (by rfl) (by simp;omega) (by omega) ?_;intro g10 Yc qF xk uf hB10 zbW;simp only[List.length_append,List.length_cons,List.length_nil,Nat.zero_add] at xk;have MF:=MZ.stored (zB _ _) uf xk;have xE:=MZ.appended (zB _ _) uf;have b0:qF.cell? ⟨g,0,none⟩=some (.int .i64 y):=xE.2.2.1.cell (i:=0) (by decide);have b1:qF.cell? ⟨g,1,none⟩=some (.int .i64 T):=xE.2.2.1.cell (i:=1) (by decide);have b2:=xE.2.2.1.cell (i:=2) (by decide);have b3:=xE.2.2.1.frozen 2;have r0:qF.cell? ⟨w.heap.size,0,none⟩=some (.int .i64 0):=xE.2.2.2.cell (i:=0) (by decide);have r1:qF.cell? ⟨w.heap.size,1,none⟩=some (.int .i64 0):=xE.2.2.2.cell (i:=1) (by decide);have r2:qF.cell? ⟨w.heap.size,2,none⟩=some (.slice none 0 0):=xE.2.2.2.cell (i:=2) (by decide);have t0:=xE.2.2.2.frozen 0;have t1:=xE.2.2.2.frozen 1;have t2:=xE.2.2.2.frozen 2)
       clear xE b0 b1 b2 b3 t0 t1 t2 r0 r1 r2 uf MZ
       have hF:=MF.final
       generalize (((qF.setCell ⟨g,2,none⟩ (.slice (some ⟨g10,0,none⟩) (L.length+1+1) Yc)).setCell ⟨w.heap.size,0,none⟩ (.int .i64 y)).setCell ⟨w.heap.size,1,none⟩ (.int .i64 T)).setCell ⟨w.heap.size,2,none⟩ (.slice (some ⟨g10,0,none⟩) (L.length+1+1) Yc)=W3 at hF ⊢
       obtain⟨h1,h2,h3,d0,d1,d2⟩:=hF
       exact bodyPost_ret (v:=.agg #[.int .i64 y,.int .i64 T,.slice (some ⟨g10,0,none⟩) (L.length+1+1) Yc]) (by simp[results,Tryz.results158,go_sem,d0,d1,d2]) rfl ⟨_,_,_,_,_,rfl,h1,by simp,by simp;omega,x0,x1,hT1,hT4,by omega,by omega,h2,h3,HY.out,hyT,HTo.out.done2 (vV hu0 hu1) Vd⟩
    ·obtain⟨zn,rfl⟩:=Int.eq_ofNat_of_zero_le hz0
     have hzl:zn<L.length:=by omega
     obtain⟨gv,cv,hvv⟩:=Un.row.shape1 (by omega)
     subst hvv
     obtain⟨⟨y0,cA⟩,fA,_,_⟩:=Un.row.setA zn hzl 0
     have c2:=Un.c2
     have hMT:=Un.opSet zn hzl (L.length:Int)
     have HTo:Hid (Qr xs.length T (L.set zn (L[zn].1,(L.length:Int))).length (L.set zn (L[zn].1,(L.length:Int)))):=HB.out.set hzl
     have hLT:(L.set zn (L[zn].1,(L.length:Int))).length<=12:=by simpa using hL
     have hszT:=hMT.gr.size
     clear Un
     go_wp2_with fail
     generalize wr.setCell ⟨gv,zn * 2+1,none⟩ (.int .i64 (L.length:Int))=wT at *
     generalize L.set zn (L[zn].1,(L.length:Int))=LT at hMT hLT HTo
     generalize hvT:Value.slice (some ⟨gv,0,none⟩) L.length cv=vT at hMT
     clear hvT c2 cA fA
     refine(yU _ _ _ _ _ _ _ hMT.rd (by omega) (by omega) (by omega)).mono ?_
     rintro e w8 ⟨x,rfl,hx0,hx1,zb7,hg8⟩
     have XE:=hMT.pick zb7 hg8
     have hsz8:=XE.gr.size
     clear hMT zb7 hg8
     obtain⟨aV,cV,WK⟩:=XE.row.shape
     subst WK
     have c2:=XE.c2
     have c1:=XE.c1
     have f2:=XE.f2
     have hgw8:=XE.own
     by_cases hx:x=0
     ·subst hx
      go_upto_region 17 with(at_builtin;refine yj _ (by rfl) _ _ (by rfl) _ _ LT (by rfl) XE.row _ _ _ (by rfl) (by omega) (by omega) ?_;intro g9 cp9 w9 kO Xb hB9 WD;have hap:=XE.appended (zB _ _) Xb;have q2:=hap.2.2.1.cell (i:=2) (by decide);have e2:=hap.2.2.1.frozen 2)
      have MZ:=XE.stored (zB _ _) Xb kO
      have hszZ:=MZ.gr.size
      clear hap q2 e2 Xb kO hB9 WD XE c1 c2 f2
      generalize w9.setCell ⟨g,2,none⟩ (.slice (some ⟨g9,0,none⟩) (LT.length+1) cp9)=w6 at *
      have c2:=MZ.c2
      have f2:=MZ.f2
      go_wp2_with (at_builtin;refine yj _ (by rfl) _ _ (by rfl) _ _ (LT ++ [(11,0)]) (by first | rfl | (simp;rfl)) MZ.row _ _ _ (by rfl) (by simp;omega) (by omega) ?_;intro g10 Yc qF xk uf hB10 zbW;simp only[List.length_append,List.length_cons,List.length_nil,Nat.zero_add] at xk;have MF:=MZ.stored (zB _ _) uf xk;have xE:=MZ.appended (zB _ _) uf;have b0:qF.cell? ⟨g,0,none⟩=some (.int .i64 y):=xE.2.2.1.cell (i:=0) (by decide);have b1:qF.cell? ⟨g,1,none⟩=some (.int .i64 T):=xE.2.2.1.cell (i:=1) (by decide);have b2:=xE.2.2.1.cell (i:=2) (by decide);have b3:=xE.2.2.1.frozen 2;have r0:qF.cell? ⟨w.heap.size,0,none⟩=some (.int .i64 0):=xE.2.2.2.cell (i:=0) (by decide);have r1:qF.cell? ⟨w.heap.size,1,none⟩=some (.int .i64 0):=xE.2.2.2.cell (i:=1) (by decide);have r2:qF.cell? ⟨w.heap.size,2,none⟩=some (.slice none 0 0):=xE.2.2.2.cell (i:=2) (by decide);have t0:=xE.2.2.2.frozen 0;have t1:=xE.2.2.2.frozen 1;have t2:=xE.2.2.2.frozen 2)
      clear xE b0 b1 b2 b3 t0 t1 t2 r0 r1 r2 uf MZ
      have hF:=MF.final
      generalize (((qF.setCell ⟨g,2,none⟩ (.slice (some ⟨g10,0,none⟩) (LT.length+1+1) Yc)).setCell ⟨w.heap.size,0,none⟩ (.int .i64 y)).setCell ⟨w.heap.size,1,none⟩ (.int .i64 T)).setCell ⟨w.heap.size,2,none⟩ (.slice (some ⟨g10,0,none⟩) (LT.length+1+1) Yc)=W3 at hF ⊢
      obtain⟨h1,h2,h3,d0,d1,d2⟩:=hF
      exact bodyPost_ret (v:=.agg #[.int .i64 y,.int .i64 T,.slice (some ⟨g10,0,none⟩) (LT.length+1+1) Yc]) (by simp[results,Tryz.results158,go_sem,d0,d1,d2]) rfl ⟨_,_,_,_,_,rfl,h1,by simp,by simp;omega,x0,x1,hT1,hT4,by omega,by omega,h2,h3,HY.out,hyT,HTo.out.done2 Zi Vd⟩
     ·have ex:(x == 0)=false:=zG.2 hx
      go_wp2_with fail
      have hMd:=XE.drew
      go_region_law (first
       | (refine Qk _ (by rfl) _ _ (by rfl) w.heap.size _ LT (by rfl) (World.ownsRow.alloc Jr.row _) [(2,u)] w4.heap.size _ (by rfl) (World.news_of_block (Go.Deep.blk_alloc_new w4 _)) (by simp) (by simp;omega) (by have:=Jr.gr.size;simp;omega) ?_;intro g9 cp9 w9 kO Xb hB9 WD;have hap:=Jr.appended (zB _ _) Xb;have q2:=hap.2.2.1.cell (i:=2) (by decide);have e2:=hap.2.2.1.frozen 2)
       | (go_simp;go_at_call 111;refine(yU _ _ _ _ _ _ _ hMd.rd (by omega) (by omega) (by omega)).mono ?_;rintro e w4 ⟨u,rfl,hu0,hu1,qQ,hg4⟩;have Jr:=hMd.pick qQ hg4;have k1:=Jr.c1;have k2:=Jr.c2;have k2':=(fun o=>zc (zB _ o) k2)))
      all_goals
       have MZ:=Jr.stored (zB _ _) Xb kO
       have hszZ:=MZ.gr.size
       clear hap q2 e2 Xb kO hB9 WD k1 k2 k2' Jr qQ hg4 hMd XE c1 c2 f2
       generalize w9.setCell ⟨g,2,none⟩ (.slice (some ⟨g9,0,none⟩) (LT.length+1) cp9)=w6 at *
       have c2:=MZ.c2
       have f2:=MZ.f2
       go_wp2_with (at_builtin;refine yj _ (by rfl) _ _ (by rfl) _ _ (LT ++ [(2,u)]) (by simp;rfl) MZ.row _ _ _ (by rfl) (by simp;omega) (by omega) ?_;intro g10 Yc qF xk uf hB10 zbW;simp only[List.length_append,List.length_cons,List.length_nil,Nat.zero_add] at xk;have MF:=MZ.stored (zB _ _) uf xk;have xE:=MZ.appended (zB _ _) uf;have b0:qF.cell? ⟨g,0,none⟩=some (.int .i64 y):=xE.2.2.1.cell (i:=0) (by decide);have b1:qF.cell? ⟨g,1,none⟩=some (.int .i64 T):=xE.2.2.1.cell (i:=1) (by decide);have b2:=xE.2.2.1.cell (i:=2) (by decide);have b3:=xE.2.2.1.frozen 2;have r0:qF.cell? ⟨w.heap.size,0,none⟩=some (.int .i64 0):=xE.2.2.2.cell (i:=0) (by decide);have r1:qF.cell? ⟨w.heap.size,1,none⟩=some (.int .i64 0):=xE.2.2.2.cell (i:=1) (by decide);have r2:qF.cell? ⟨w.heap.size,2,none⟩=some (.slice none 0 0):=xE.2.2.2.cell (i:=2) (by decide);have t0:=xE.2.2.2.frozen 0;have t1:=xE.2.2.2.frozen 1;have t2:=xE.2.2.2.frozen 2)
       clear xE b0 b1 b2 b3 t0 t1 t2 r0 r1 r2 uf MZ
       have hF:=MF.final
       generalize (((qF.setCell ⟨g,2,none⟩ (.slice (some ⟨g10,0,none⟩) (LT.length+1+1) Yc)).setCell ⟨w.heap.size,0,none⟩ (.int .i64 y)).setCell ⟨w.heap.size,1,none⟩ (.int .i64 T)).setCell ⟨w.heap.size,2,none⟩ (.slice (some ⟨g10,0,none⟩) (LT.length+1+1) Yc)=W3 at hF ⊢
       obtain⟨h1,h2,h3,d0,d1,d2⟩:=hF
       exact bodyPost_ret (v:=.agg #[.int .i64 y,.int .i64 T,.slice (some ⟨g10,0,none⟩) (LT.length+1+1) Yc]) (by simp[results,Tryz.results158,go_sem,d0,d1,d2]) rfl ⟨_,_,_,_,_,rfl,h1,by simp,by simp;omega,x0,x1,hT1,hT4,by omega,by omega,h2,h3,HY.out,hyT,HTo.out.done2 (vV hu0 hu1) Vd⟩
end Go.Proofs.YtjbgpcileapogaaGreat

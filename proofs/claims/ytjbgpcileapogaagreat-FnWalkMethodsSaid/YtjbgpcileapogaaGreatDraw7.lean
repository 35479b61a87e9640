/-
  What draws: rows of operations, a bit more: what they look like, one of them written into; the answer of l71Method.
-/
import Derived.Test.YtjbgpcileapogaaGreatDraw5
import Derived.Deep.DeepCutAuto
import Derived.Deep.RegionLaw
namespace Go.Proofs.YtjbgpcileapogaaGreat
open Go.RowKit
theorem OpsRow.shape {B:Nat} {w:World} {v:Value} {L:List (Int × Int)} (h:OpsRow B w v L):∃a c,v=.slice a L.length c:=by
  obtain⟨_,h2⟩:=h
  rcases h2 with⟨rfl,hn⟩ | ⟨g,cap,cur,rfl,_⟩
  · exact⟨none,0,by rw[hn]⟩
  · exact⟨_,_,rfl⟩
theorem OpsRow.shape1 {B:Nat} {w:World} {v:Value} {L:List (Int × Int)} (h:OpsRow B w v L) (hn:1≤L.length):∃g c,v=.slice (some ⟨g,0,none⟩) L.length c:=by
  obtain⟨_,h2⟩:=h
  rcases h2 with⟨rfl,hn'⟩ | ⟨g,cap,cur,rfl,_⟩
  · omega
  · exact⟨_,_,rfl⟩
theorem flat_set (L:List (Int × Int)):∀(i:Nat) (h:i<L.length) (x:Int),flat (L.set i (L[i].1,x))=(flat L).set (i * 2+1) (.int .i64 x):=by
  induction L with
  | nil=>intro i h;exact absurd h (Nat.not_lt_zero _)
  | cons a l ih =>
    intro i h x
    cases i with
    | zero=>rfl
    | succ i =>
      have:=ih i (by simpa using h) x
      rw[show(i+1) * 2+1=(i * 2+1)+2 by omega]
      simp only[List.set_cons_succ,List.getElem_cons_succ]
      show [Value.int .i64 a.1,.int .i64 a.2] ++ flat _=([Value.int .i64 a.1,.int .i64 a.2] ++ flat l).set (i * 2+1+2) _
      rw[this]
      rfl
theorem OpsRow.setA {B:Nat} {w:World} {g c:Nat} {L:List (Int × Int)} (h:OpsRow B w (.slice (some ⟨g,0,none⟩) L.length c) L) (i:Nat) (hi:i<L.length) (x:Int) :
    (∃y,w.cell? ⟨g,i * 2+1,none⟩=some (.int .i64 y))∧w.frozen? ⟨g,i * 2+1,none⟩=false∧OpsRow B (w.setCell ⟨g,i * 2+1,none⟩ (.int .i64 x)) (.slice (some ⟨g,0,none⟩) L.length c) (L.set i (L[i].1,x))∧w.grownBy (w.setCell ⟨g,i * 2+1,none⟩ (.int .i64 x)) (some g):=by
  obtain⟨s1,s2⟩:=World.ownsRow.stored h (i * 2+1) (.int .i64 x)
  refine⟨⟨L[i].2,?_⟩,?_,?_,s2⟩
  · have:=World.ownsRow.cells h (g:=g) rfl (i * 2+1) _ (flat_at L i hi).2
    rwa [Addr.add_lit,Nat.zero_add] at this
  · rcases h.2 with⟨e,_⟩ | ⟨g',cap',cur,e,_,hg,_⟩
    · cases e
    · cases e
      unfold World.frozen?;rw[hg];simp
  · show World.ownsRow _ _ _ _ _ _ _
    rw[List.length_set,flat_set L i hi x]
    exact s1
namespace MS
variable {w0 w w' W:World} {b:Nat} {a:Option Addr} {len cap p q g:Nat} {A T:Int} {v v':Value} {L L':List (Int × Int)}
theorem opSet {gv c:Nat} (h:MS w0 w b a len cap p g A T (.slice (some ⟨gv,0,none⟩) L.length c) L) (i:Nat) (hi:i<L.length) (x:Int):MS w0 (w.setCell ⟨gv,i * 2+1,none⟩ (.int .i64 x)) b a len cap p g A T (.slice (some ⟨gv,0,none⟩) L.length c) (L.set i (L[i].1,x)):=by
  obtain⟨_,_,hr,hg⟩:=h.row.setA i hi x
  have e:∀k,some gv=some k→w0.heap.size≤k:=fun k e=>by cases e;exact(h.row.lt gv rfl).1
  obtain⟨p0,h0⟩:=h.r0
  exact⟨Rd.kept h0 h.rd h.gr.size hg e,grown_own h.gr hg e,row_kept h.box hg (fun e=>row_ne h.box h.row (by decide) e.symm),h.own,hr,row_kept h.res hg (fun e=>row_ne h.res h.row (by decide) e.symm),h.r0⟩
theorem final (h:MS w0 w b a len cap p g A T v L) :
    let W3:=((w.setCell ⟨w0.heap.size,0,none⟩ (.int .i64 A)).setCell ⟨w0.heap.size,1,none⟩ (.int .i64 T)).setCell ⟨w0.heap.size,2,none⟩ v
    OpsRow w0.heap.size W3 v L∧Rd W3 b a len cap p∧w0.grownBy W3 (some b)∧W3.cell? ⟨w0.heap.size,0,none⟩=some (.int .i64 A)∧W3.cell? ⟨w0.heap.size,1,none⟩=some (.int .i64 T)∧W3.cell? ⟨w0.heap.size,2,none⟩=some v:=by
  intro W3
  have hk:w.grownBy W3 (some w0.heap.size):=⟨rfl,rfl,rfl,by simp[W3,World.setCell],fun k _ hk=>(Below.heap_setCell _ _ _ _ (fun e=>hk (by rw[e]))).trans ((Below.heap_setCell _ _ _ _ (fun e=>hk (by rw[e]))).trans (Below.heap_setCell _ _ _ _ (fun e=>hk (by rw[e]))))⟩
  have e:∀k,some w0.heap.size=some k→w0.heap.size≤k:=fun k e=>by cases e;exact Nat.le_refl _
  obtain⟨p0,h0⟩:=h.r0
  have hres:=((h.res.set 0 (.int .i64 A)).set 1 (.int .i64 T)).set 2 v
  refine⟨h.row.kept hk (fun q e hk=>by cases e;exact row_ne h.res h.row (by decide) hk),Rd.kept h0 h.rd h.gr.size hk e,grown_own h.gr hk e,?_,?_,?_⟩
  · have:=hres.cell (i:=0) (by decide);simpa using this
  · have:=hres.cell (i:=1) (by decide);simpa using this
  · have:=hres.cell (i:=2) (by decide);simpa using this
end MS
theorem Fit.ok {nm:Nat} {t:Int} {o:Int × Int} (h:Fit nm t o) (no:Nat):opOk nm no t o.1 o.2=true:=by
  obtain⟨h7,h8,h⟩:=h
  have e:¬(o.1=7∨o.1=8):=fun e=>e.elim h7 h8
  unfold opOk at h ⊢
  rw[if_neg e] at h
  rw[if_neg e]
  exact h
def FitsBut (nm:Nat) (t z:Int) (L:List (Int × Int)):Prop:=∀i,(hi:i<L.length)→(L[i].1=8∧(i:Int)=z)∨((i:Int)≠z∧Fit nm t L[i])
def FitsTo (nm:Nat) (t:Int) (n:Nat) (L:List (Int × Int)):Prop:=∀o∈L,(o.1=8∧0≤o.2∧o.2≤(n:Int))∨Fit nm t o
theorem FitsBut.nil {nm:Nat} {t z:Int}:FitsBut nm t z []:=fun _ hi=>absurd hi (Nat.not_lt_zero _)
theorem FitsBut.append {nm:Nat} {t z:Int} {L M:List (Int × Int)} (h:FitsBut nm t z L) (k:Fits nm t M) (hz:z<(L.length:Int)):FitsBut nm t z (L ++ M):=fun i hi=>by
  by_cases e:i<L.length
  · rw[List.getElem_append_left e]
    exact h i e
  · rw[List.getElem_append_right (by omega)]
    exact .inr ⟨by omega,k _ (List.getElem_mem _)⟩
theorem FitsBut.fits {nm:Nat} {t:Int} {L:List (Int × Int)} (h:FitsBut nm t (-1) L):Fits nm t L:=fun o e=>by
  obtain⟨i,hi,rfl⟩:=List.getElem_of_mem e
  rcases h i hi with⟨_,e⟩ | e
  · omega
  · exact e.2
theorem FitsBut.skip {nm:Nat} {t:Int} {L:List (Int × Int)} {u:Int} (h:FitsBut nm t (-1) L) (h0:0≤u) (h1:u<t):FitsBut nm t ((L.length:Int)+1) (L ++ [(2,u),(8,0)]):=fun i hi=>by
  by_cases e:i<L.length
  · rw[List.getElem_append_left e]
    exact .inr ⟨by omega,h.fits _ (List.getElem_mem _)⟩
  · have hl:(L ++ [(2,u),(8,0)]).length=L.length+2:=by simp
    have h2:i=L.length∨i=L.length+1:=by omega
    rcases h2 with rfl | rfl
    · refine .inr ⟨by omega,?_⟩
      rw[List.getElem_append_right (Nat.le_refl _)]
      simp only[Nat.sub_self,List.getElem_cons_zero]
      exact fit_temp h0 h1
    · refine .inl ⟨?_,by omega⟩
      rw[List.getElem_append_right (by omega)]
      simp
theorem FitsBut.to {nm:Nat} {t:Int} {L:List (Int × Int)} (h:FitsBut nm t (-1) L):FitsTo nm t L.length L:=fun o e=>.inr (h.fits o e)
theorem FitsBut.set {nm:Nat} {t:Int} {L:List (Int × Int)} {z:Nat} (h:FitsBut nm t (z:Int) L) (hz:z<L.length):FitsTo nm t (L.set z (L[z].1,(L.length:Int))).length (L.set z (L[z].1,(L.length:Int))):=fun o e=>by
  obtain⟨i,hi,rfl⟩:=List.getElem_of_mem e
  have hi':i<L.length:=by simpa using hi
  rw[List.getElem_set]
  split
  · next e =>
    rcases h z hz with⟨h8,_⟩ | hf
    · exact .inl ⟨h8,by simp,by simp⟩
    · exact absurd rfl hf.1
  · next e =>
    rcases h i hi' with⟨_,e2⟩ | hf
    · omega
    · exact .inr hf.2
theorem FitsTo.done2 {nm:Nat} {t:Int} {L:List (Int × Int)} {a b:Int × Int} (h:FitsTo nm t L.length L) (ha:Fit nm t a) (hb:Fit nm t b):opsOk nm t (L ++ [a] ++ [b])=true:=by
  unfold opsOk
  rw[List.all_eq_true]
  intro o e
  have hl:(L ++ [a] ++ [b]).length=L.length+2:=by simp
  rw[hl]
  simp only[List.mem_append,List.mem_singleton] at e
  rcases e with(e | rfl) | rfl
  · rcases h o e with⟨h8,h0,h1⟩ | hf
    · rw[h8,opOk_8]
      exact inR_true.2 ⟨h0,by omega⟩
    · exact hf.ok _
  · exact ha.ok _
  · exact hb.ok _
set_option maxRecDepth 100000 in
set_option maxHeartbeats 8000000 in
theorem l71Method_fit (w:World) (b:Nat) (a:Option Addr) (len cap p:Nat) (ga c:Nat) (xs:List Int) (s:Nat) (hr:Rd w b a len cap p) (hp:p+70≤1000000) (hxs:∀i,(hi:i<xs.length)→w.cell? ⟨ga,i,none⟩=some (.int .i64 xs[i])∧0≤xs[i]∧xs[i]≤2) (hga:ga≠b)
    (hs:s<xs.length) (hl4:xs.length≤4) :
    Calls Tryz.prog 158 #[.pointer (some ⟨b,0,none⟩),.slice (some ⟨ga,0,none⟩) xs.length c,.int .i64 s] w fun e w'=>∃(A T:Int) (v:Value) (L:List (Int × Int)) (p':Nat),e=.returned (.agg #[.int .i64 A,.int .i64 T,v])∧OpsRow w.heap.size w' v L∧2≤L.length∧L.length≤14∧0≤A∧A≤2∧1≤T∧T≤4∧p≤p'∧p'≤p+70∧Rd w' b a len cap p'∧w.grownBy w' (some b)∧A=xs[s]∧A≤T∧opsOk xs.length T L=true:=by
  have hbw:b<w.heap.size:=World.block_lt_of_cell? _ _ hr.s
  obtain⟨c0,x0,x1⟩:=hxs s hs
  have hgw:ga<w.heap.size:=World.block_lt_of_cell? _ _ c0
  obtain⟨y,hy⟩:∃y,y=xs[s]:=⟨_,rfl⟩
  rw[←hy] at c0 x0 x1
  have HY:Hid (y=xs[s]):=hy
  clear hy
  have hsz0:(0:Int)≤(s:Int):=by omega
  have hsz1:(s:Int)<(xs.length:Int):=by omega
  have hga':some ga≠some b:=by simp;exact hga
  go_enter Tryz.func158,Tryz.ntmps158
  go_upto_region 1 with fail
  go_cut [7] (fun m7 wx=>∃(g:Nat) (T:Int) (v:Value),m7=.pointer (some ⟨g,0,none⟩)∧1≤T∧T≤4∧y≤T∧MS w wx b a len cap (p+1) g y T v [])
  case first =>
    have HX:Hid (∀i,(hi:i<xs.length)→w.cell? ⟨ga,i,none⟩=some (.int .i64 xs[i])∧0≤xs[i]∧xs[i]≤2):=hxs
    clear hxs
    have HR:Hid (Rd w b a len cap p):=hr
    have hD1:∀(v:World) (k:Nat) (o:Obj),(v.drewN k).alloc o=(v.alloc o).drewN k:=fun _ _ _=>rfl
    have hD2:∀(v:World) (k:Nat) (q:Addr) (u:Value),(v.drewN k).setCell q u=(v.setCell q u).drewN k:=fun _ _ _ _=>rfl
    have hb2:b<w.heap.size+1:=by omega
    have hb3:b<w.heap.size+1+1:=by omega
    have hE1:∀o v,(w.alloc o).setCell ⟨b,1,none⟩ v=(w.setCell ⟨b,1,none⟩ v).alloc o:=fun o v=>World.setCell_alloc_past _ _ _ _ hbw
    have hE2:∀o1 o2 v,((w.alloc o1).alloc o2).setCell ⟨b,1,none⟩ v=((w.setCell ⟨b,1,none⟩ v).alloc o1).alloc o2:=fun o1 o2 v=>by rw[World.setCell_alloc_past _ _ _ _ (by simp;omega),hE1]
    have hE3:∀o1 o2 o3 v,(((w.alloc o1).alloc o2).alloc o3).setCell ⟨b,1,none⟩ v=(((w.setCell ⟨b,1,none⟩ v).alloc o1).alloc o2).alloc o3:=fun o1 o2 o3 v=>by rw[World.setCell_alloc_past _ _ _ _ (by simp;omega),hE2]
    have hA1:∀o1,(w.alloc o1).cell? ⟨ga,s,none⟩=some (.int .i64 y):=fun o1=>cell_below ((Below.refl _ _).alloc (Nat.le_refl _) _) c0
    have hA2:∀o1 o2,((w.alloc o1).alloc o2).cell? ⟨ga,s,none⟩=some (.int .i64 y):=fun o1 o2=>cell_below ((Below.refl _ _).alloc (Nat.le_refl _) _) (hA1 o1)
    have hA3:∀o1 o2 o3,(((w.alloc o1).alloc o2).alloc o3).cell? ⟨ga,s,none⟩=some (.int .i64 y):=fun o1 o2 o3=>cell_below ((Below.refl _ _).alloc (Nat.le_refl _) _) (hA2 o1 o2)
    have hS:∀v,(w.setCell ⟨b,1,none⟩ v).cell? ⟨ga,s,none⟩=some (.int .i64 y):=fun v=>by
      rw[World.cell?_setCell_other _ _ _ _ (fun e=>by have:=congrArg Addr.block e;simp at this;exact hga this.symm)];exact c0
    have hS1:∀v o1,((w.setCell ⟨b,1,none⟩ v).alloc o1).cell? ⟨ga,s,none⟩=some (.int .i64 y):=fun v o1=>cell_below ((Below.refl _ _).alloc (Nat.le_refl _) _) (hS v)
    have hS2:∀v o1 o2,(((w.setCell ⟨b,1,none⟩ v).alloc o1).alloc o2).cell? ⟨ga,s,none⟩=some (.int .i64 y):=fun v o1 o2=>cell_below ((Below.refl _ _).alloc (Nat.le_refl _) _) (hS1 v o1)
    have hS3:∀v o1 o2 o3,((((w.setCell ⟨b,1,none⟩ v).alloc o1).alloc o2).alloc o3).cell? ⟨ga,s,none⟩=some (.int .i64 y):=fun v o1 o2 o3=>cell_below ((Below.refl _ _).alloc (Nat.le_refl _) _) (hS2 v o1 o2)
    clear hr
    go_region_held3 (fun w'=>w'.cell? ⟨ga,s,none⟩=some (.int .i64 y))
      (simp[*])
      ((go_at_call 111;refine(pick_exact _ _ a len cap p _ (by first | exact Rd.heap (HR.out.alloc _) rfl | exact Rd.heap ((HR.out.alloc _).alloc _) rfl | exact Rd.heap (((HR.out.alloc _).alloc _).alloc _) rfl) (by omega) (by omega) (by omega)).mono ?_;rintro e w1 ⟨x,m,rfl,hx0,hx1,rfl⟩))
    all_goals
      clear hD1 hD2 hE1 hE2 hE3 hA1 hA2 hA3 hS hS1 hS2 hS3
      go_wp2_with fail
    all_goals
      go_meet
      have hw:IntKind.i64.wrap (1+x)=1+x:=by rw[IntKind.wrap_i64];omega
      first
        | (refine⟨_,_,_,rfl,?_,?_,?_,ms_one HR.out _ _ _⟩ <;> omega)
        | (refine⟨_,_,_,rfl,?_,?_,?_,ms_two HR.out _ _ _⟩ <;> omega)
  case rest =>
    obtain⟨g,T,v0,rfl,hT1,hT4,hyT,hM⟩:=hcut
    go_wp2_with fail
    go_loopg [8,9] 4 (fun d sk i wr=>∃(k q:Nat) (v:Value) (L:List (Int × Int)) (z:Int),k≤4∧d=4 - k∧i=.int .i64 k∧sk=.int .i64 z∧(z=-1∨(0≤z∧z<(L.length:Int)))∧MS w wr b a len cap q g y T v L∧L.length≤12∧p+1≤q∧q≤p+1+13 * k∧Hid (FitsBut xs.length T z L))
    case atStart=>exact⟨0,p+1,v0,[],-1,by omega,rfl,rfl,rfl,.inl rfl,hM,by simp,by omega,by omega,FitsBut.nil⟩
    case round =>
      obtain⟨k,q,v,L,z,hk,rfl,rfl,rfl,hz,hMS,hL,hq,hq',HB⟩:=hrel
      by_cases hlt:k<4
      · have hkz:(k:Int)<4:=by omega
        have c1:=hMS.c1
        have HX:Hid (∀i,(hi:i<xs.length)→wr.cell? ⟨ga,i,none⟩=some (.int .i64 xs[i])∧0≤xs[i]∧xs[i]≤2):=fun i hi=>⟨hMS.gr.cell (hxs i hi).1 hga',(hxs i hi).2⟩
        clear hxs
        go_wp2_with fail
        refine(l71Part_fit _ _ _ _ _ _ ga _ xs _ hMS.rd (by omega) HX.out hga (by omega) hl4 hT1 hT4).mono ?_
        rintro e wP ⟨vP,oP,pP,rfl,hrowP,hlP,hlP1,hpP,hpP',hrdP,hgP,hfP'⟩
        have hfP:Hid (Fits xs.length T oP):=hfP'
        clear hfP'
        have hMP:=hMS.pick hrdP hgP
        have hszr:=hMS.gr.size
        have HV:Hid (∀k,v.ownBlock=some k→k<wr.heap.size):=fun k e=>(hMS.row.lt k e).2
        have hbw':=hMS.blt
        have HG:Hid (g<wr.heap.size∧w.heap.size<g):=⟨hMS.box.lt,hMS.own⟩
        obtain⟨gP,cP,hvP⟩:=hrowP.shape1 (by omega)
        subst hvP
        clear HX c1 hMS hrdP hgP
        rcases hz with hz | ⟨hz0,hz1⟩
        · subst hz
          go_wp2_with fail
          refine(pick_any _ _ _ _ _ _ _ hMP.rd (by omega) (by omega) (by omega)).mono ?_
          rintro e w3 ⟨x,rfl,hx0,hx1,hrd3,hg3⟩
          have hM3:=hMP.pick hrd3 hg3
          have hrowP3:=hrowP.kept hg3 (fun q e hk=>by cases e;have:=(hrowP.lt _ hk).1;omega)
          clear hrowP hMP hrd3 hg3
          by_cases hx:x=0
          · subst hx
            by_cases h10:L.length+oP.length≤10
            · have h10z:(L.length:Int)+(oP.length:Int)≤10:=by omega
              obtain⟨aV,cV,hvV⟩:=hM3.row.shape
              have d2:=hM3.c2
              have d1:=hM3.c1
              have hsz3:=hM3.gr.size
              subst hvV
              go_wp2_with fail
              have hMd:=hM3.drew
              go_region_law (first
                | (refine step_ops _ (by rfl) _ _ (by rfl) w.heap.size _ L (by rfl) (World.ownsRow.alloc hM4.row _) [(2,u),(8,0)] w4.heap.size _ (by rfl) (World.news_of_block (Go.Deep.blk_alloc_new w4 _)) (by simp) (by simp;omega) (by have:=hM4.gr.size;simp;omega) ?_;intro g5 cp5 w5 hrow5 hg5 hB5 hlt5;have hap:=hM4.appended ((Below.refl _ _).alloc (Nat.le_refl _) _) hg5;have q2:=hap.2.2.1.cell (i:=2) (by decide);have e2:=hap.2.2.1.frozen 2)
                | (go_simp;go_at_call 111;refine(pick_any _ _ _ _ _ _ _ hMd.rd (by omega) (by omega) (by omega)).mono ?_;rintro e w4 ⟨u,rfl,hu0,hu1,hrd4,hg4⟩;have hM4:=hMd.pick hrd4 hg4;have k1:=hM4.c1;have k2:=hM4.c2;have k2':=(fun o=>cell_below ((Below.refl _ _).alloc (Nat.le_refl _) o) k2)))
              all_goals
                have hMY:=hM4.stored ((Below.refl _ _).alloc (Nat.le_refl _) _) hg5 hrow5
                have hrowP4:OpsRow wr.heap.size w4 _ oP:=OpsRow.kept (w:=w3.drew) hrowP3 hg4 (fun q e hk=>by cases e;have:=(hrowP3.lt _ hk).1;omega)
                have hrowP5:=OpsRow.kept (World.ownsRow.alloc hrowP4 _) hg5 (fun q e hk=>by have:=HV.out q e;have:=(hrowP4.lt _ hk).1;omega)
                have hrowPY:=hrowP5.kept (grown_set w5 g 2 (.slice (some ⟨g5,0,none⟩) (L.length+2) cp5)) (fun q e hk=>by cases e;have:=(hrowP5.lt _ hk).1;have:=HG.out.1;omega)
                clear hap q2 e2 hg5 hrow5 hB5 hlt5 k1 k2 k2' hM4 hrd4 hg4 hMd hM3 hrowP3 hrowP4 hrowP5 d1 d2
                generalize w5.setCell ⟨g,2,none⟩ (.slice (some ⟨g5,0,none⟩) (L.length+2) cp5)=w6 at *
                have c2:=hMY.c2
                have hszY:=hMY.gr.size
                have f2:=hMY.f2
                have hl2:(L ++ [(2,u),(8,0)]).length=L.length+2:=by simp
                have hl3:(L ++ [(2,u),(8,0)] ++ oP).length=L.length+2+oP.length:=by simp;omega
                by_cases h12:L.length+2+oP.length≤12
                · have h12z:(L.length:Int)+2+(oP.length:Int)≤12:=by omega
                  go_wp2_with (at_builtin;refine append_ops _ (by rfl) _ _ (by rfl) _ _ (L ++ [(2,u),(8,0)]) (by simp;rfl) hMY.row oP gP _ (by rfl) (World.ownsRow.cells hrowPY rfl) (by omega) (by simp;omega) (by omega) ?_;intro g2 cp2 w2 hrow2 hg2 hB2 hlt2;have hap:=hMY.appended (Below.refl _ _) hg2;have q2:=hap.2.2.1.cell (i:=2) (by decide);have e2:=hap.2.2.1.frozen 2)
                  have MZ:=hMY.stored (Below.refl _ _) hg2 hrow2
                  rw[hl2] at MZ
                  clear hap q2 e2 hg2 hrow2 hB2 hlt2 c2 f2 hMY
                  go_roundg (4 - (k+1))
                  case measure=>omega
                  case rel=>exact⟨k+1,_,_,_,_,by omega,rfl,by go_num,rfl,.inr ⟨by omega,by rw[hl3];omega⟩,MZ,by rw[hl3];omega,by omega,by omega,(HB.out.skip hu0 hu1).append hfP.out (by rw[hl2];omega)⟩
                · omega
            · have h10z:¬(L.length:Int)+(oP.length:Int)≤10:=by omega
              obtain⟨aV,cV,hvV⟩:=hM3.row.shape
              subst hvV
              have hMY:=hM3
              have hrowPY:=hrowP3
              clear hM3 hrowP3
              have c2:=hMY.c2
              have hszY:=hMY.gr.size
              have f2:=hMY.f2
              by_cases h12:L.length+oP.length≤12
              · have h12z:(L.length:Int)+(oP.length:Int)≤12:=by omega
                go_wp2_with (at_builtin;refine append_ops _ (by rfl) _ _ (by rfl) _ _ L (by rfl) hMY.row oP gP _ (by rfl) (World.ownsRow.cells hrowPY rfl) (by omega) (by omega) (by omega) ?_;intro g2 cp2 w2 hrow2 hg2 hB2 hlt2;have hap:=hMY.appended (Below.refl _ _) hg2;have q2:=hap.2.2.1.cell (i:=2) (by decide);have e2:=hap.2.2.1.frozen 2)
                have MZ:=hMY.stored (Below.refl _ _) hg2 hrow2
                clear hap q2 e2 hg2 hrow2 hB2 hlt2 c2 f2 hMY
                go_roundg (4 - (k+1))
                case measure=>omega
                case rel=>exact⟨k+1,_,_,_,_,by omega,rfl,by go_num,rfl,by first | omega | (simp;omega) | simp,MZ,by simp;omega,by omega,by omega,HB.out.append hfP.out (by omega)⟩
              · have h12z:¬(L.length:Int)+(oP.length:Int)≤12:=by omega
                go_wp2
                go_roundg (4 - (k+1))
                case measure=>omega
                case rel=>exact⟨k+1,_,_,_,_,by omega,rfl,by go_num,rfl,by omega,hMY,by omega,by omega,by omega,HB.out⟩
          · have ex:(x == 0)=false:=beq_eq_false_iff_ne.2 hx
            have hMY:=hM3
            have hrowPY:=hrowP3
            clear hM3 hrowP3
            obtain⟨aY,cY,hvY⟩:=hMY.row.shape
            have c2:=hMY.c2
            have hszY:=hMY.gr.size
            have f2:=hMY.f2
            subst hvY
            by_cases h12:L.length+oP.length≤12
            · have h12z:(L.length:Int)+(oP.length:Int)≤12:=by omega
              go_wp2_with (at_builtin;refine append_ops _ (by rfl) _ _ (by rfl) _ _ L (by rfl) hMY.row oP gP _ (by rfl) (World.ownsRow.cells hrowPY rfl) (by omega) (by omega) (by omega) ?_;intro g2 cp2 w2 hrow2 hg2 hB2 hlt2;have hap:=hMY.appended (Below.refl _ _) hg2;have q2:=hap.2.2.1.cell (i:=2) (by decide);have e2:=hap.2.2.1.frozen 2)
              have MZ:=hMY.stored (Below.refl _ _) hg2 hrow2
              clear hap q2 e2 hg2 hrow2 hB2 hlt2 c2 f2 hMY
              go_roundg (4 - (k+1))
              case measure=>omega
              case rel=>exact⟨k+1,_,_,_,_,by omega,rfl,by go_num,rfl,by first | omega | (simp;omega) | simp,MZ,by simp;omega,by omega,by omega,HB.out.append hfP.out (by omega)⟩
            · have h12z:¬(L.length:Int)+(oP.length:Int)≤12:=by omega
              go_wp2
              go_roundg (4 - (k+1))
              case measure=>omega
              case rel=>exact⟨k+1,_,_,_,_,by omega,rfl,by go_num,rfl,by omega,hMY,by omega,by omega,by omega,HB.out⟩
        · have hz2:¬z<0:=by omega
          have hMY:=hMP
          have hrowPY:=hrowP
          clear hMP hrowP
          obtain⟨aY,cY,hvY⟩:=hMY.row.shape
          have c2:=hMY.c2
          have hszY:=hMY.gr.size
          have f2:=hMY.f2
          subst hvY
          by_cases h12:L.length+oP.length≤12
          · have h12z:(L.length:Int)+(oP.length:Int)≤12:=by omega
            go_wp2_with (at_builtin;refine append_ops _ (by rfl) _ _ (by rfl) _ _ L (by rfl) hMY.row oP gP _ (by rfl) (World.ownsRow.cells hrowPY rfl) (by omega) (by omega) (by omega) ?_;intro g2 cp2 w2 hrow2 hg2 hB2 hlt2;have hap:=hMY.appended (Below.refl _ _) hg2;have q2:=hap.2.2.1.cell (i:=2) (by decide);have e2:=hap.2.2.1.frozen 2)
            have MZ:=hMY.stored (Below.refl _ _) hg2 hrow2
            clear hap q2 e2 hg2 hrow2 hB2 hlt2 c2 f2 hMY
            go_roundg (4 - (k+1))
            case measure=>omega
            case rel=>exact⟨k+1,_,_,_,_,by omega,rfl,by go_num,rfl,by first | omega | (simp;omega) | simp,MZ,by simp;omega,by omega,by omega,HB.out.append hfP.out (by omega)⟩
          · have h12z:¬(L.length:Int)+(oP.length:Int)≤12:=by omega
            go_wp2
            go_roundg (4 - (k+1))
            case measure=>omega
            case rel=>exact⟨k+1,_,_,_,_,by omega,rfl,by go_num,rfl,by omega,hMY,by omega,by omega,by omega,HB.out⟩
      · obtain rfl:k=4:=by omega
        clear hxs
        rcases hz with hz | ⟨hz0,hz1⟩
        · subst hz
          have HTo:Hid (FitsTo xs.length T L.length L):=HB.out.to
          have hMT:=hMS
          clear hMS
          have hLT:L.length≤12:=hL
          have hszT:=hMT.gr.size
          go_wp2_with fail
          refine(pick_any _ _ _ _ _ _ _ hMT.rd (by omega) (by omega) (by omega)).mono ?_
          rintro e w8 ⟨x,rfl,hx0,hx1,hrd8,hg8⟩
          have hM8:=hMT.pick hrd8 hg8
          have hsz8:=hM8.gr.size
          clear hMT hrd8 hg8
          obtain⟨aV,cV,hvV⟩:=hM8.row.shape
          subst hvV
          have c2:=hM8.c2
          have c1:=hM8.c1
          have f2:=hM8.f2
          have hgw8:=hM8.own
          by_cases hx:x=0
          · subst hx
            go_upto_region 17 with(at_builtin;refine append_op _ (by rfl) _ _ (by rfl) _ _ L (by rfl) hM8.row _ _ _ (by rfl) (by omega) (by omega) ?_;intro g9 cp9 w9 hrow9 hg9 hB9 hlt9;have hap:=hM8.appended ((Below.refl _ _).alloc (Nat.le_refl _) _) hg9;have q2:=hap.2.2.1.cell (i:=2) (by decide);have e2:=hap.2.2.1.frozen 2)
            have MZ:=hM8.stored ((Below.refl _ _).alloc (Nat.le_refl _) _) hg9 hrow9
            have hszZ:=MZ.gr.size
            clear hap q2 e2 hg9 hrow9 hB9 hlt9 hM8 c1 c2 f2
            generalize w9.setCell ⟨g,2,none⟩ (.slice (some ⟨g9,0,none⟩) (L.length+1) cp9)=w6 at *
            have c2:=MZ.c2
            have f2:=MZ.f2
            go_wp2_with (at_builtin;refine append_op _ (by rfl) _ _ (by rfl) _ _ (L ++ [(11,0)]) (by first | rfl | (simp;rfl)) MZ.row _ _ _ (by rfl) (by simp;omega) (by omega) ?_;intro g10 cp10 w10 hrow10 hg10 hB10 hlt10;simp only[List.length_append,List.length_cons,List.length_nil,Nat.zero_add] at hrow10;have MF:=MZ.stored ((Below.refl _ _).alloc (Nat.le_refl _) _) hg10 hrow10;have hap':=MZ.appended ((Below.refl _ _).alloc (Nat.le_refl _) _) hg10;have b0:w10.cell? ⟨g,0,none⟩=some (.int .i64 y):=hap'.2.2.1.cell (i:=0) (by decide);have b1:w10.cell? ⟨g,1,none⟩=some (.int .i64 T):=hap'.2.2.1.cell (i:=1) (by decide);have b2:=hap'.2.2.1.cell (i:=2) (by decide);have b3:=hap'.2.2.1.frozen 2;have r0:w10.cell? ⟨w.heap.size,0,none⟩=some (.int .i64 0):=hap'.2.2.2.cell (i:=0) (by decide);have r1:w10.cell? ⟨w.heap.size,1,none⟩=some (.int .i64 0):=hap'.2.2.2.cell (i:=1) (by decide);have r2:w10.cell? ⟨w.heap.size,2,none⟩=some (.slice none 0 0):=hap'.2.2.2.cell (i:=2) (by decide);have t0:=hap'.2.2.2.frozen 0;have t1:=hap'.2.2.2.frozen 1;have t2:=hap'.2.2.2.frozen 2)
            clear hap' b0 b1 b2 b3 t0 t1 t2 r0 r1 r2 hg10 MZ
            have hF:=MF.final
            generalize (((w10.setCell ⟨g,2,none⟩ (.slice (some ⟨g10,0,none⟩) (L.length+1+1) cp10)).setCell ⟨w.heap.size,0,none⟩ (.int .i64 y)).setCell ⟨w.heap.size,1,none⟩ (.int .i64 T)).setCell ⟨w.heap.size,2,none⟩ (.slice (some ⟨g10,0,none⟩) (L.length+1+1) cp10)=W3 at hF ⊢
            obtain⟨h1,h2,h3,d0,d1,d2⟩:=hF
            exact bodyPost_ret (v:=.agg #[.int .i64 y,.int .i64 T,.slice (some ⟨g10,0,none⟩) (L.length+1+1) cp10]) (by simp[results,Tryz.results158,go_sem,d0,d1,d2]) rfl ⟨_,_,_,_,_,rfl,h1,by simp,by simp;omega,x0,x1,hT1,hT4,by omega,by omega,h2,h3,HY.out,hyT,HTo.out.done2 fit_11 fit_10⟩
          · have ex:(x == 0)=false:=beq_eq_false_iff_ne.2 hx
            go_wp2_with fail
            have hMd:=hM8.drew
            go_region_law (first
              | (refine step_ops _ (by rfl) _ _ (by rfl) w.heap.size _ L (by rfl) (World.ownsRow.alloc hM4.row _) [(2,u)] w4.heap.size _ (by rfl) (World.news_of_block (Go.Deep.blk_alloc_new w4 _)) (by simp) (by simp;omega) (by have:=hM4.gr.size;simp;omega) ?_;intro g9 cp9 w9 hrow9 hg9 hB9 hlt9;have hap:=hM4.appended ((Below.refl _ _).alloc (Nat.le_refl _) _) hg9;have q2:=hap.2.2.1.cell (i:=2) (by decide);have e2:=hap.2.2.1.frozen 2)
              | (go_simp;go_at_call 111;refine(pick_any _ _ _ _ _ _ _ hMd.rd (by omega) (by omega) (by omega)).mono ?_;rintro e w4 ⟨u,rfl,hu0,hu1,hrd4,hg4⟩;have hM4:=hMd.pick hrd4 hg4;have k1:=hM4.c1;have k2:=hM4.c2;have k2':=(fun o=>cell_below ((Below.refl _ _).alloc (Nat.le_refl _) o) k2)))
            all_goals
              have MZ:=hM4.stored ((Below.refl _ _).alloc (Nat.le_refl _) _) hg9 hrow9
              have hszZ:=MZ.gr.size
              clear hap q2 e2 hg9 hrow9 hB9 hlt9 k1 k2 k2' hM4 hrd4 hg4 hMd hM8 c1 c2 f2
              generalize w9.setCell ⟨g,2,none⟩ (.slice (some ⟨g9,0,none⟩) (L.length+1) cp9)=w6 at *
              have c2:=MZ.c2
              have f2:=MZ.f2
              go_wp2_with (at_builtin;refine append_op _ (by rfl) _ _ (by rfl) _ _ (L ++ [(2,u)]) (by simp;rfl) MZ.row _ _ _ (by rfl) (by simp;omega) (by omega) ?_;intro g10 cp10 w10 hrow10 hg10 hB10 hlt10;simp only[List.length_append,List.length_cons,List.length_nil,Nat.zero_add] at hrow10;have MF:=MZ.stored ((Below.refl _ _).alloc (Nat.le_refl _) _) hg10 hrow10;have hap':=MZ.appended ((Below.refl _ _).alloc (Nat.le_refl _) _) hg10;have b0:w10.cell? ⟨g,0,none⟩=some (.int .i64 y):=hap'.2.2.1.cell (i:=0) (by decide);have b1:w10.cell? ⟨g,1,none⟩=some (.int .i64 T):=hap'.2.2.1.cell (i:=1) (by decide);have b2:=hap'.2.2.1.cell (i:=2) (by decide);have b3:=hap'.2.2.1.frozen 2;have r0:w10.cell? ⟨w.heap.size,0,none⟩=some (.int .i64 0):=hap'.2.2.2.cell (i:=0) (by decide);have r1:w10.cell? ⟨w.heap.size,1,none⟩=some (.int .i64 0):=hap'.2.2.2.cell (i:=1) (by decide);have r2:w10.cell? ⟨w.heap.size,2,none⟩=some (.slice none 0 0):=hap'.2.2.2.cell (i:=2) (by decide);have t0:=hap'.2.2.2.frozen 0;have t1:=hap'.2.2.2.frozen 1;have t2:=hap'.2.2.2.frozen 2)
              clear hap' b0 b1 b2 b3 t0 t1 t2 r0 r1 r2 hg10 MZ
              have hF:=MF.final
              generalize (((w10.setCell ⟨g,2,none⟩ (.slice (some ⟨g10,0,none⟩) (L.length+1+1) cp10)).setCell ⟨w.heap.size,0,none⟩ (.int .i64 y)).setCell ⟨w.heap.size,1,none⟩ (.int .i64 T)).setCell ⟨w.heap.size,2,none⟩ (.slice (some ⟨g10,0,none⟩) (L.length+1+1) cp10)=W3 at hF ⊢
              obtain⟨h1,h2,h3,d0,d1,d2⟩:=hF
              exact bodyPost_ret (v:=.agg #[.int .i64 y,.int .i64 T,.slice (some ⟨g10,0,none⟩) (L.length+1+1) cp10]) (by simp[results,Tryz.results158,go_sem,d0,d1,d2]) rfl ⟨_,_,_,_,_,rfl,h1,by simp,by simp;omega,x0,x1,hT1,hT4,by omega,by omega,h2,h3,HY.out,hyT,HTo.out.done2 (fit_temp hu0 hu1) fit_10⟩
        · obtain⟨zn,rfl⟩:=Int.eq_ofNat_of_zero_le hz0
          have hzl:zn<L.length:=by omega
          obtain⟨gv,cv,hvv⟩:=hMS.row.shape1 (by omega)
          subst hvv
          obtain⟨⟨y0,cA⟩,fA,_,_⟩:=hMS.row.setA zn hzl 0
          have c2:=hMS.c2
          have hMT:=hMS.opSet zn hzl (L.length:Int)
          have HTo:Hid (FitsTo xs.length T (L.set zn (L[zn].1,(L.length:Int))).length (L.set zn (L[zn].1,(L.length:Int)))):=HB.out.set hzl
          have hLT:(L.set zn (L[zn].1,(L.length:Int))).length≤12:=by simpa using hL
          have hszT:=hMT.gr.size
          clear hMS
          go_wp2_with fail
          generalize wr.setCell ⟨gv,zn * 2+1,none⟩ (.int .i64 (L.length:Int))=wT at *
          generalize L.set zn (L[zn].1,(L.length:Int))=LT at hMT hLT HTo
          generalize hvT:Value.slice (some ⟨gv,0,none⟩) L.length cv=vT at hMT
          clear hvT c2 cA fA
          refine(pick_any _ _ _ _ _ _ _ hMT.rd (by omega) (by omega) (by omega)).mono ?_
          rintro e w8 ⟨x,rfl,hx0,hx1,hrd8,hg8⟩
          have hM8:=hMT.pick hrd8 hg8
          have hsz8:=hM8.gr.size
          clear hMT hrd8 hg8
          obtain⟨aV,cV,hvV⟩:=hM8.row.shape
          subst hvV
          have c2:=hM8.c2
          have c1:=hM8.c1
          have f2:=hM8.f2
          have hgw8:=hM8.own
          by_cases hx:x=0
          · subst hx
            go_upto_region 17 with(at_builtin;refine append_op _ (by rfl) _ _ (by rfl) _ _ LT (by rfl) hM8.row _ _ _ (by rfl) (by omega) (by omega) ?_;intro g9 cp9 w9 hrow9 hg9 hB9 hlt9;have hap:=hM8.appended ((Below.refl _ _).alloc (Nat.le_refl _) _) hg9;have q2:=hap.2.2.1.cell (i:=2) (by decide);have e2:=hap.2.2.1.frozen 2)
            have MZ:=hM8.stored ((Below.refl _ _).alloc (Nat.le_refl _) _) hg9 hrow9
            have hszZ:=MZ.gr.size
            clear hap q2 e2 hg9 hrow9 hB9 hlt9 hM8 c1 c2 f2
            generalize w9.setCell ⟨g,2,none⟩ (.slice (some ⟨g9,0,none⟩) (LT.length+1) cp9)=w6 at *
            have c2:=MZ.c2
            have f2:=MZ.f2
            go_wp2_with (at_builtin;refine append_op _ (by rfl) _ _ (by rfl) _ _ (LT ++ [(11,0)]) (by first | rfl | (simp;rfl)) MZ.row _ _ _ (by rfl) (by simp;omega) (by omega) ?_;intro g10 cp10 w10 hrow10 hg10 hB10 hlt10;simp only[List.length_append,List.length_cons,List.length_nil,Nat.zero_add] at hrow10;have MF:=MZ.stored ((Below.refl _ _).alloc (Nat.le_refl _) _) hg10 hrow10;have hap':=MZ.appended ((Below.refl _ _).alloc (Nat.le_refl _) _) hg10;have b0:w10.cell? ⟨g,0,none⟩=some (.int .i64 y):=hap'.2.2.1.cell (i:=0) (by decide);have b1:w10.cell? ⟨g,1,none⟩=some (.int .i64 T):=hap'.2.2.1.cell (i:=1) (by decide);have b2:=hap'.2.2.1.cell (i:=2) (by decide);have b3:=hap'.2.2.1.frozen 2;have r0:w10.cell? ⟨w.heap.size,0,none⟩=some (.int .i64 0):=hap'.2.2.2.cell (i:=0) (by decide);have r1:w10.cell? ⟨w.heap.size,1,none⟩=some (.int .i64 0):=hap'.2.2.2.cell (i:=1) (by decide);have r2:w10.cell? ⟨w.heap.size,2,none⟩=some (.slice none 0 0):=hap'.2.2.2.cell (i:=2) (by decide);have t0:=hap'.2.2.2.frozen 0;have t1:=hap'.2.2.2.frozen 1;have t2:=hap'.2.2.2.frozen 2)
            clear hap' b0 b1 b2 b3 t0 t1 t2 r0 r1 r2 hg10 MZ
            have hF:=MF.final
            generalize (((w10.setCell ⟨g,2,none⟩ (.slice (some ⟨g10,0,none⟩) (LT.length+1+1) cp10)).setCell ⟨w.heap.size,0,none⟩ (.int .i64 y)).setCell ⟨w.heap.size,1,none⟩ (.int .i64 T)).setCell ⟨w.heap.size,2,none⟩ (.slice (some ⟨g10,0,none⟩) (LT.length+1+1) cp10)=W3 at hF ⊢
            obtain⟨h1,h2,h3,d0,d1,d2⟩:=hF
            exact bodyPost_ret (v:=.agg #[.int .i64 y,.int .i64 T,.slice (some ⟨g10,0,none⟩) (LT.length+1+1) cp10]) (by simp[results,Tryz.results158,go_sem,d0,d1,d2]) rfl ⟨_,_,_,_,_,rfl,h1,by simp,by simp;omega,x0,x1,hT1,hT4,by omega,by omega,h2,h3,HY.out,hyT,HTo.out.done2 fit_11 fit_10⟩
          · have ex:(x == 0)=false:=beq_eq_false_iff_ne.2 hx
            go_wp2_with fail
            have hMd:=hM8.drew
            go_region_law (first
              | (refine step_ops _ (by rfl) _ _ (by rfl) w.heap.size _ LT (by rfl) (World.ownsRow.alloc hM4.row _) [(2,u)] w4.heap.size _ (by rfl) (World.news_of_block (Go.Deep.blk_alloc_new w4 _)) (by simp) (by simp;omega) (by have:=hM4.gr.size;simp;omega) ?_;intro g9 cp9 w9 hrow9 hg9 hB9 hlt9;have hap:=hM4.appended ((Below.refl _ _).alloc (Nat.le_refl _) _) hg9;have q2:=hap.2.2.1.cell (i:=2) (by decide);have e2:=hap.2.2.1.frozen 2)
              | (go_simp;go_at_call 111;refine(pick_any _ _ _ _ _ _ _ hMd.rd (by omega) (by omega) (by omega)).mono ?_;rintro e w4 ⟨u,rfl,hu0,hu1,hrd4,hg4⟩;have hM4:=hMd.pick hrd4 hg4;have k1:=hM4.c1;have k2:=hM4.c2;have k2':=(fun o=>cell_below ((Below.refl _ _).alloc (Nat.le_refl _) o) k2)))
            all_goals
              have MZ:=hM4.stored ((Below.refl _ _).alloc (Nat.le_refl _) _) hg9 hrow9
              have hszZ:=MZ.gr.size
              clear hap q2 e2 hg9 hrow9 hB9 hlt9 k1 k2 k2' hM4 hrd4 hg4 hMd hM8 c1 c2 f2
              generalize w9.setCell ⟨g,2,none⟩ (.slice (some ⟨g9,0,none⟩) (LT.length+1) cp9)=w6 at *
              have c2:=MZ.c2
              have f2:=MZ.f2
              go_wp2_with (at_builtin;refine append_op _ (by rfl) _ _ (by rfl) _ _ (LT ++ [(2,u)]) (by simp;rfl) MZ.row _ _ _ (by rfl) (by simp;omega) (by omega) ?_;intro g10 cp10 w10 hrow10 hg10 hB10 hlt10;simp only[List.length_append,List.length_cons,List.length_nil,Nat.zero_add] at hrow10;have MF:=MZ.stored ((Below.refl _ _).alloc (Nat.le_refl _) _) hg10 hrow10;have hap':=MZ.appended ((Below.refl _ _).alloc (Nat.le_refl _) _) hg10;have b0:w10.cell? ⟨g,0,none⟩=some (.int .i64 y):=hap'.2.2.1.cell (i:=0) (by decide);have b1:w10.cell? ⟨g,1,none⟩=some (.int .i64 T):=hap'.2.2.1.cell (i:=1) (by decide);have b2:=hap'.2.2.1.cell (i:=2) (by decide);have b3:=hap'.2.2.1.frozen 2;have r0:w10.cell? ⟨w.heap.size,0,none⟩=some (.int .i64 0):=hap'.2.2.2.cell (i:=0) (by decide);have r1:w10.cell? ⟨w.heap.size,1,none⟩=some (.int .i64 0):=hap'.2.2.2.cell (i:=1) (by decide);have r2:w10.cell? ⟨w.heap.size,2,none⟩=some (.slice none 0 0):=hap'.2.2.2.cell (i:=2) (by decide);have t0:=hap'.2.2.2.frozen 0;have t1:=hap'.2.2.2.frozen 1;have t2:=hap'.2.2.2.frozen 2)
              clear hap' b0 b1 b2 b3 t0 t1 t2 r0 r1 r2 hg10 MZ
              have hF:=MF.final
              generalize (((w10.setCell ⟨g,2,none⟩ (.slice (some ⟨g10,0,none⟩) (LT.length+1+1) cp10)).setCell ⟨w.heap.size,0,none⟩ (.int .i64 y)).setCell ⟨w.heap.size,1,none⟩ (.int .i64 T)).setCell ⟨w.heap.size,2,none⟩ (.slice (some ⟨g10,0,none⟩) (LT.length+1+1) cp10)=W3 at hF ⊢
              obtain⟨h1,h2,h3,d0,d1,d2⟩:=hF
              exact bodyPost_ret (v:=.agg #[.int .i64 y,.int .i64 T,.slice (some ⟨g10,0,none⟩) (LT.length+1+1) cp10]) (by simp[results,Tryz.results158,go_sem,d0,d1,d2]) rfl ⟨_,_,_,_,_,rfl,h1,by simp,by simp;omega,x0,x1,hT1,hT4,by omega,by omega,h2,h3,HY.out,hyT,HTo.out.done2 (fit_temp hu0 hu1) fit_10⟩
end Go.Proofs.YtjbgpcileapogaaGreat

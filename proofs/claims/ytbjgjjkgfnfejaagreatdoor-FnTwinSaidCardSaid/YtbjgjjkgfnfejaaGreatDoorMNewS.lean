/-
  MachNew of the model: the first call of a program on pages.
-/
import Derived.Test.YtbjgjjkgfnfejaaGreatDoorMNew
namespace Go.Proofs.YtbjgjjkgfnfejaaGreatDoor
set_option maxHeartbeats 4000000
set_option maxRecDepth 100000
open Go.RowKit
theorem zk.from {B:Nat} {w:World} {v:Value} {xs:yH} (h:zk B w v xs):From B w (fun z=>yo z v xs):=fun _ hs hk=>(h.kept hs fun g e=>hk g (h.lt g e).1 (h.lt g e).2).at
theorem yf.from {B:Nat} {w:World} {v:Value} {xs:List Int} (h:yf B w v xs):From B w (fun z=>vU z v xs):=fun _ hs hk=>(h.kept hs fun g e=>hk g (h.lt g e).1 (h.lt g e).2).at
theorem yg.from {B sz n:Nat} {w:World} {v:Value} {xs:List Value} (h:yg B sz w v n xs):From B w (fun z=>yg B sz z v n xs):=fun _ hs hk=>h.kept hs fun g e=>hk g (h.lt g e).1 (h.lt g e).2
theorem Xh (w:World) (a:Option Addr) (c:Nat):yo w (.slice a 0 c) []:=⟨a,c,rfl,Nat.zero_le _,fun _ h=>absurd h yB⟩
theorem UJ (vp va:Value) (ms:zM) (m t:Nat) (args:yH) (w:World) (hp:yD w vp ms) (hm:m<ms.length) (ht:ms[m].2.1=(t:Int)) (JU:t<=1000) (ha:yo w va args) (hat:args.length<=t) :
 Calls Tryz.prog 43 #[.agg #[vp],zI (m:Int),va] w fun e w'=>∃vt vs,e=.returned (.agg #[zI (m:Int),zI 0,zI (-1),vt,vs]) /\
  zk w.heap.size w' vt (args ++ List.replicate (t - args.length) (0,0))/\zk w.heap.size w' vs []/\(∀g,vt.ownBlock=some g->vs.ownBlock≠some g)/\zO w w':=by
 obtain⟨ap,cp,qI,_⟩:=id hp
 obtain⟨aa,ca,hva⟩:=ha.shape
 subst qI hva
 go_enter Tryz.func43,Tryz.ntmps43
 go_upto_region 1 with fail
 refine ym (fun W=>zO w W/\Bx W w.heap.size 25 [.slice ap ms.length cp]/\Bx W (w.heap.size+1) 75 [.int .i64 0,.int .i64 0,.int .i64 0,.slice none 0 0,.slice none 0 0]) ⟨(zR _ _).alloc (by simp) _,(Bx.new w _ _).alloc _,Bx.newAt _ _ _ (by simp)⟩ ?_
 rintro W0 ⟨B0,x0,y0⟩
 have z0:=B0.size
 have Vj:=y0.lt
 have p0:=x0.cell 0 rfl
 have HC:=WL _ _ ms m args (-1) t _ (hp.below B0) hm ht JU (ha.below B0) hat
 go_wp2_with fail
 refine HC.mono ?_
 rintro e W1 ⟨vt,vs,rfl,h1,h2,h3,t1⟩
 have y1:=y0.below t1
 have B1:=B0.trans (t1.mono z0)
 have z1:=t1.size
 obtain⟨at',ct,jz,_⟩:=h1.slice
 obtain⟨as',cs,km,_⟩:=h2.slice
 subst jz km
 unfold ZO
 clear t1 x0 y0 p0 HC
 obtain⟨L,hL⟩:∃L,args ++ List.replicate (t - args.length) ((0:Int),(0:Int))=L:=⟨_,rfl⟩
 rw[hL] at h1 h3 ⊢
 go_upto_region 2 with fail
 refine ym (fun W=>zO w W/\Bx W (w.heap.size+1) 75 [zI 0,zI 0,zI 0,zQ,zQ]/\Bx W W1.heap.size 96 [zI (m:Int),zI 0,.slice at' L.length ct,.slice as' 0 cs,zI (-1),.bool false]/\zk W0.heap.size W (.slice at' L.length ct) L/\zk W0.heap.size W (.slice as' 0 cs) []) ?_ ?_
 ·have N:=zR W1 (.cells #[.int .i64 (m:Int),.int .i64 0,.slice at' L.length ct,.slice as' 0 cs,.int .i64 (-1),.bool false] 96)
  exact⟨B1.trans (N.mono (by omega)),y1.below N,Bx.new _ _ _,h1.below N,h2.below N⟩
 rintro W2 ⟨B2,y2,c2,r2,s2⟩
 have q2:=c2.cell 2 rfl
 have q3:=c2.cell 3 rfl
 obtain⟨⟨a0,a1,a2,a3,a4⟩,b0,b1,b2,b3,b4⟩:(W2.cell? (zH (w.heap.size+1) 0)=some _/\W2.cell? (zH (w.heap.size+1) 1)=some _/\W2.cell? (zH (w.heap.size+1) 2)=some _/\W2.cell? (zH (w.heap.size+1) 3)=some _/\W2.cell? (zH (w.heap.size+1) 4)=some _)/\(_/\_/\_/\_/\_):=⟨⟨y2.cell 0 rfl,y2.cell 1 rfl,y2.cell 2 rfl,y2.cell 3 rfl,y2.cell 4 rfl⟩,y2.frozen 0,y2.frozen 1,y2.frozen 2,y2.frozen 3,y2.frozen 4⟩
 go_wp2
 refine xU (fun W=>zO w W/\Bx W (w.heap.size+1) 75 [zI (m:Int),zI 0,zI (-1),.slice at' L.length ct,.slice as' 0 cs]/\zk w.heap.size W (.slice at' L.length ct) L/\zk w.heap.size W (.slice as' 0 cs) []) ?_ ?_
 ·have HW:=(((((Wr.refl1 (w.heap.size+1) W2).set1 (o:=0) (zI (m:Int))).set1 (o:=1) (zI 0)).set1 (o:=2) (zI (-1))).set1 (o:=3) (.slice at' L.length ct)).set1 (o:=4) (.slice as' 0 cs)
  exact⟨HW.below1 B2 zD (Nat.le_succ _),((((y2.set 0 _).set 1 _).set 2 _).set 3 _).set 4 _,(HW.pair r2 (fun g e e2=>by have:=(r2.lt g e).1;omega)).mono z0,(HW.pair s2 (fun g e e2=>by have:=(s2.lt g e).1;omega)).mono z0⟩
 rintro W9 ⟨B9,x9,r9,s9⟩
 have i0:=x9.cell 0 rfl
 have i1:=x9.cell 1 rfl
 have i2:=x9.cell 2 rfl
 have i3:=x9.cell 3 rfl
 have i4:=x9.cell 4 rfl
 exact bodyPost_ret (v:=.agg #[zI (m:Int),zI 0,zI (-1),.slice at' L.length ct,.slice as' 0 cs]) (by simp[results,Tryz.results43,go_sem,i0,i1,i2,i3,i4]) rfl ⟨_,_,rfl,by rw[<-hL];rw[<-hL] at r9;exact r9,s9,h3,B9⟩
theorem XK {P:Program} {t ty e:TypeId} {i:TypeInfo} {z:Value} {sz:Nat} (ht:P.underlying t=some (.slice e)) (hi:P.info? e=some i) (hz:i.zero=some z) (hs:i.size=sz) (hzs:z.cells.size=sz) (hby:i.bytes<=1000)
 (w:World) (g:Nat) (cs:List Value) (hcs:cs.length=sz) (h1:∀u∈cs,u.oneCell'=true) (H c:Nat) (hx:∀j u,cs[j]?=some u->w.cell? (zH H j)=some u) :
 ∃cap w',(Builtin.append_ #[t,t] ty #[zK g 0 0 0,zK H 0 1 c]).run P w=.ok (zK w.heap.size 0 1 cap) w'/\yg w.heap.size sz w' (zK w.heap.size 0 1 cap) 1 cs/\zO w w':=by
 have QQ:Src P sz t (zK H 0 1 c) 1 cs w:=Src.ofSlice w ht ⟨H,0,none⟩ 1 c cs (by omega) (fun j u hu=>by rw[Addr.add_lit,Nat.zero_add];exact hx j u hu) h1
 subst hs
 have hr:=run_append_grow_src (P:=P) w t t ty e i z ht hi hz (some ⟨g,0,none⟩) 0 0 [] (run_firstCells_some _ _ _ _ _ _ _ (by simp) (fun j u hu=>by simp at hu)) _ 1 cs QQ (by omega) (by omega) (growslice_fits (by omega) (by omega))
 refine⟨_,_,hr,?_,((Below.refl _ w).drew.alloc zD _)⟩
 have hk1:=grownCap_ge w (0+1) 0 e
 have Jw:=grownCap_le_maxLen w (0+1) 0 e (by unfold maxLen;omega)
 generalize grownCap w (0+1) 0 e=k at *
 have WI:(Builtin.zeroCells z.cells (k - (0+1))).size=(k - 1) * i.size:=by rw[size_zeroCells,hzs]
 have hblk:(w.drew.alloc (.cells (([] ++ cs).toArray ++ Builtin.zeroCells z.cells (k - (0+1))) e)).heap[w.heap.size]?=some (.cells (([] ++ cs).toArray ++ Builtin.zeroCells z.cells (k - (0+1))) e):=Go.Deep.blk_alloc_new w.drew _
 have hsum:1 * i.size+(k - 1) * i.size=k * i.size:=by rw[<-Nat.add_mul];congr 1;omega
 refine⟨by omega,.inr ⟨w.heap.size,0,k,rfl,Nat.le_refl _,by simp,by omega,Jw,fun j hj=>?_,fun j hj=>?_⟩⟩
 ·refine⟨?_,?_⟩
  ·rw[Nat.zero_add,cell_of_row _ _ _ _ _ _ hblk]
   rw[Array.getElem?_eq_getElem (by rw[Array.size_append,WI,List.size_toArray,List.nil_append];omega)];rfl
  ·unfold World.frozen?
   rw[hblk]
   simp
 ·rw[show(0:Nat)+j=j from Nat.zero_add j,cell_of_row _ _ _ _ _ _ hblk,Array.getElem?_append_left (by rw[List.size_toArray,List.nil_append];simpa using hj)]
  simp[List.getElem?_eq_getElem hj]
theorem zdG {x:Value × Value} {a b:Value} (h:Value.agg #[zI 0,zI 0,zI (-1),x.1,x.2]=.agg #[zI 0,zI 0,zI (-1),a,b]):x=(a,b):=by
 injection h with h
 have h2:=congrArg Array.toList h
 simp at h2
 exact Prod.ext h2.1 h2.2
def ZF (L:List Value):List Value:=L.flatMap fun v=>[zI (-1),v]
theorem zc4 (L:List Value) (v:Value):ZF (L ++ [v])=ZF L ++ [zI (-1),v]:=by simp[ZF]
theorem UW:∀(L:List Value) (i:Nat) (h:i<L.length),(ZF L)[i * 2]?=some (zI (-1))/\(ZF L)[i * 2+1]?=some L[i]
 | [],i,h=>absurd h yB
 | x :: l,i,h=>by
  cases i with
  | zero=>simp[ZF]
  | succ i =>
   have ih:=UW l i (by simpa using h)
   have e:ZF (x :: l)=zI (-1) :: x :: ZF l:=by simp[ZF]
   rw[e,show(i+1) * 2=i * 2+1+1 by omega]
   exact ih
theorem Tryz.infoFrameN:(Tryz.prog.info? 75).map (fun i=>(i.zero,i.size,i.bytes))=some (some (.agg #[zI 0,zI 0,zI 0,zQ,zQ]),5,72):=by kernel_rfl
theorem UN {B k t gp op cp gN cN gE gT gS:Nat} {c:Int} {w:World} {vo xa xb:Value} {B1 B2 B3:Nat} {L0:List Value} (hr:From B1 w (fun z=>yg B1 2 z (zK gp op k cp) k ((ZF (zK gE 0 0 0 :: L0)).set 1 (zK gN 0 1 cN))))
 (ho:From B2 w (fun z=>vU z vo (yK k k))) (hl:From B3 w (fun z=>yo z xa (List.replicate t (0,0))/\yo z xb [])) (hc:From B3 w (fun z=>∀j u,[zI 0,zI 0,zI (-1),xa,xb][j]?=some u->z.cell? (zH gN j)=some u))
 (hL:∀v∈L0,∃g,v=zK g 0 0 0) (hk:(zK gE 0 0 0 :: L0).length=k * 1) (h1:B<=B1) (h2:B<=B2) (h3:B<=B3) (h4:k<=1000) :
 From B w (fun z=>ql z (zK gp op k cp) vo (zK gT 0 0 0) (zK gS 0 0 0) (yR k t c)):=by
 intro z hs hkk
 have R:=hr.mono h1 z hs hkk
 have O:=ho.mono h2 z hs hkk
 have A:=hl.mono h3 z hs hkk
 have C:=hc.mono h3 z hs hkk
 have hkl:L0.length+1=k:=by simpa using hk
 have hpl:(xq k t).length=k:=by simp[xq]
 have e0:(ZF (zK gE 0 0 0 :: L0)).set 1 (zK gN 0 1 cN)=ZF (zK gN 0 1 cN :: L0):=by simp[ZF]
 rw[e0] at R
 refine⟨⟨_,cp,by rw[show(yR k t c).zd.length=k from hpl],by rw[show(yR k t c).zd.length=k from hpl];unfold maxLen;omega,fun i hi=>?_⟩,O,⟨_,0,rfl,Nat.zero_le _,fun _ h=>absurd h yB⟩,Xh _ _ _⟩
 have hik:i<k:=by rw[<-hpl];exact hi
 have ev:(yR k t c).zd[i]=⟨-1,if i=0 then [⟨0,0,-1,List.replicate t (0,0),[]⟩] else []⟩:=by simp[yR,xq]
 rw[ev]
 have q:=UW (zK gN 0 1 cN :: L0) i (by simp;omega)
 have c0:=(R.cell q.1).1
 have c1:=(R.cell q.2).1
 cases i with
 | zero =>
  refine⟨gp,op,_,rfl,by simpa using c0,by simpa using c1,?_⟩
  refine⟨_,cN,rfl,by unfold maxLen;simp,fun j hj=>?_⟩
  obtain rfl:j=0:=by simpa using hj
  exact⟨gN,0,xa,xb,rfl,C 0 _ rfl,C 1 _ rfl,C 2 _ rfl,C 3 _ rfl,C 4 _ rfl,A.1,A.2⟩
 | succ i =>
  obtain⟨g,hg⟩:=hL (L0[i]'(by omega)) (List.getElem_mem _)
  simp only[List.getElem_cons_succ] at c1
  rw[hg] at c1
  refine⟨gp,op,_,rfl,by simpa using c0,by rw[Nat.add_assoc];exact c1,?_⟩
  simp only[Nat.add_eq_zero_iff,Nat.one_ne_zero,and_false,if_false]
  exact⟨_,0,rfl,Nat.zero_le _,fun _ h=>absurd h yB⟩
def Jr (B:Nat) (w:World) (k:Nat) (v vo vt vs:Value):Prop :=
 ∃(C gp op cp gT gS:Nat) (xf:Value) (L0:List Value),v=zK gp op k cp/\vt=zK gT 0 0 0/\vs=zK gS 0 0 0/\yg C 2 w v k (ZF (xf :: L0))/\yf C w vo (yK k k)/\(∀g,vo.ownBlock=some g->g≠gp) /\
  (∀x∈L0,∃g,x=zK g 0 0 0)/\(xf :: L0).length=k * 1/\B<=gT/\gT<gS/\gS<C/\C<=w.heap.size
theorem Jr.kept {B k:Nat} {w w':World} {v vo vt vs:Value} (h:Jr B w k v vo vt vs) (hs:w.heap.size<=w'.heap.size) (hk:∀g,B<=g->g<w.heap.size->w'.heap[g]?=w.heap[g]?):Jr B w' k v vo vt vs:=by
 obtain⟨C,gp,op,cp,gT,gS,xf,L0,e1,e2,e3,hr,ho,h4,h5,h6,h7,h8,h9,h10⟩:=h
 exact⟨C,gp,op,cp,gT,gS,xf,L0,e1,e2,e3,hr.kept hs fun g e=>hk g (by have:=(hr.lt g e).1;omega) (hr.lt g e).2,ho.kept hs fun g e=>hk g (by have:=(ho.lt g e).1;omega) (ho.lt g e).2,h4,h5,h6,h7,h8,h9,Nat.le_trans h10 hs⟩
theorem Jr.below {B k:Nat} {w w':World} {v vo vt vs:Value} (h:Jr B w k v vo vt vs) (hb:zO w w'):Jr B w' k v vo vt vs:=h.kept hb.size fun g _ h2=>hb.block g h2
theorem Jr.mono {B B' k:Nat} {w:World} {v vo vt vs:Value} (h:Jr B w k v vo vt vs) (hB:B'<=B):Jr B' w k v vo vt vs:=by
 obtain⟨C,gp,op,cp,gT,gS,xf,L0,e1,e2,e3,hr,ho,h4,h5,h6,h7,h8,h9,h10⟩:=h
 exact⟨C,gp,op,cp,gT,gS,xf,L0,e1,e2,e3,hr,ho,h4,h5,h6,Nat.le_trans hB h7,h8,h9,h10⟩
theorem JM (vp:Value) (ms:zM) (r c:Int) (wS:World) (h:yD wS vp ms) :
 Calls Tryz.prog 14 #[.agg #[vp],zI r,zI c] wS fun e w'=>zO wS w' /\
  (((yr ms && qW r c)=false/\e=.returned (.tuple #[.agg #[zI 0,zQ,zQ,zI 0,zQ,zI 0,zQ,zI 0],.bool false])) \/
   ((yr ms && qW r c)=true/\∃v vo vt vs,e=.returned (.tuple #[.agg #[zI c,v,vo,zI 0,vt,zI 1,vs,zI 0],.bool true])/\From wS.heap.size w' (fun z=>ql z v vo vt vs (yR r.toNat (yx ms) c))/\Jr wS.heap.size w' r.toNat v vo vt vs)):=by
 obtain⟨aS,cap,rfl,hl,hc⟩:=id h
 obtain⟨fp,hfp⟩:∃fp,yr ms=fp:=⟨_,rfl⟩
 obtain⟨fr,hfr⟩:∃fr,qC r 1 4=fr:=⟨_,rfl⟩
 obtain⟨fc,hfc⟩:∃fc,qC c 14 60=fc:=⟨_,rfl⟩
 have HFP:Hid (yr ms=fp):=hfp
 have HFR:Hid (qC r 1 4=fr):=hfr
 have HFC:Hid (qC c 14 60=fc):=hfc
 have HOK:=fun W (hb:zO wS W)=>KO _ ms W (h.below hb)
 have HRO:=fun W=>qT r 1 4 W
 have HCO:=fun W=>qT c 14 60 W
 unfold qW
 rw[hfp] at HOK ⊢
 rw[hfr] at HRO ⊢
 rw[hfc] at HCO ⊢
 clear hfp hfr hfc
 go_enter Tryz.func14,Tryz.ntmps14
 go_upto_region 1 with fail
 refine ym (fun W=>zO wS W/\Bx W wS.heap.size 25 [.slice aS ms.length cap]/\Bx W (wS.heap.size+1) 34 [.int .i64 0,.slice none 0 0,.slice none 0 0,.int .i64 0,.slice none 0 0,.int .i64 0,.slice none 0 0,.int .i64 0]) ⟨(zR _ _).alloc (by simp) _,(Bx.new wS _ _).alloc _,Bx.newAt _ _ _ (by simp)⟩ ?_
 rintro W0 ⟨B0,x0,y0⟩
 have p0:=x0.cell 0 rfl
 have z0:=B0.size
 go_wp2_with fail
 refine(HOK _ B0).mono ?_
 rintro e W1 ⟨rfl,t1⟩
 have x1:=x0.below t1
 have y1:=y0.below t1
 have B1:=B0.trans (t1.mono z0)
 have z1:=B1.size
 clear HOK t1 x0 y0 B0 z0 p0
 obtain⟨⟨r0,r1,r2,r3,r4,r5,r6,r7⟩,⟨g0,g1,g2,g3,g4,g5,g6,g7⟩⟩:=uk y1
 have HZ:zO wS ((((((((W1.setCell (zH (wS.heap.size+1) 0) (zI 0)).setCell (zH (wS.heap.size+1) 1) (zQ)).setCell (zH (wS.heap.size+1) 2) (zQ)).setCell (zH (wS.heap.size+1) 3) (zI 0)).setCell (zH (wS.heap.size+1) 4) (zQ)).setCell (zH (wS.heap.size+1) 5) (zI 0)).setCell (zH (wS.heap.size+1) 6) (zQ)).setCell (zH (wS.heap.size+1) 7) (zI 0))/\Bx ((((((((W1.setCell (zH (wS.heap.size+1) 0) (zI 0)).setCell (zH (wS.heap.size+1) 1) (zQ)).setCell (zH (wS.heap.size+1) 2) (zQ)).setCell (zH (wS.heap.size+1) 3) (zI 0)).setCell (zH (wS.heap.size+1) 4) (zQ)).setCell (zH (wS.heap.size+1) 5) (zI 0)).setCell (zH (wS.heap.size+1) 6) (zQ)).setCell (zH (wS.heap.size+1) 7) (zI 0)) (wS.heap.size+1) 34 [zI 0,zQ,zQ,zI 0,zQ,zI 0,zQ,zI 0]:=by
  have HW:=((((((((Wr.refl1 (wS.heap.size+1) W1).set1 (o:=0) (zI 0)).set1 (o:=1) (zQ)).set1 (o:=2) (zQ)).set1 (o:=3) (zI 0)).set1 (o:=4) (zQ)).set1 (o:=5) (zI 0)).set1 (o:=6) (zQ)).set1 (o:=7) (zI 0)
  exact⟨HW.below1 B1 zD (Nat.le_succ _),(((((((y1.set 0 _).set 1 _).set 2 _).set 3 _).set 4 _).set 5 _).set 6 _).set 7 _⟩
 have HZH:Hid _:=HZ
 clear HZ
 cases fp
 ·go_wp2
  refine xU (fun W=>zO wS W/\Bx W (wS.heap.size+1) 34 [zI 0,zQ,zQ,zI 0,zQ,zI 0,zQ,zI 0]) HZH.out ?_
  rintro W9 ⟨B9,x9⟩
  obtain⟨⟨q0,q1,q2,q3,q4,q5,q6,q7⟩,_⟩:=uk x9
  exact bodyPost_ret (v:=.tuple #[.agg #[zI 0,zQ,zQ,zI 0,zQ,zI 0,zQ,zI 0],.bool false]) (by simp[results,Tryz.results14,go_sem,q0,q1,q2,q3,q4,q5,q6,q7]) rfl ⟨B9,.inl ⟨rfl,rfl⟩⟩
 go_wp2_with fail
 refine(HRO _).mono ?_
 rintro e W2 ⟨rfl,hw⟩
 obtain rfl:=hw.symm
 clear HRO hw
 cases fr
 ·go_wp2
  refine xU (fun W=>zO wS W/\Bx W (wS.heap.size+1) 34 [zI 0,zQ,zQ,zI 0,zQ,zI 0,zQ,zI 0]) HZH.out ?_
  rintro W9 ⟨B9,x9⟩
  obtain⟨⟨q0,q1,q2,q3,q4,q5,q6,q7⟩,_⟩:=uk x9
  exact bodyPost_ret (v:=.tuple #[.agg #[zI 0,zQ,zQ,zI 0,zQ,zI 0,zQ,zI 0],.bool false]) (by simp[results,Tryz.results14,go_sem,q0,q1,q2,q3,q4,q5,q6,q7]) rfl ⟨B9,.inl ⟨rfl,rfl⟩⟩
 go_wp2_with fail
 refine(HCO _).mono ?_
 rintro e W2 ⟨rfl,hw⟩
 obtain rfl:=hw.symm
 clear HCO hw
 cases fc
 ·go_wp2
  refine xU (fun W=>zO wS W/\Bx W (wS.heap.size+1) 34 [zI 0,zQ,zQ,zI 0,zQ,zI 0,zQ,zI 0]) HZH.out ?_
  rintro W9 ⟨B9,x9⟩
  obtain⟨⟨q0,q1,q2,q3,q4,q5,q6,q7⟩,_⟩:=uk x9
  exact bodyPost_ret (v:=.tuple #[.agg #[zI 0,zQ,zQ,zI 0,zQ,zI 0,zQ,zI 0],.bool false]) (by simp[results,Tryz.results14,go_sem,q0,q1,q2,q3,q4,q5,q6,q7]) rfl ⟨B9,.inl ⟨rfl,rfl⟩⟩
 clear HZH
 have hr14:=zF.1 HFR.out
 obtain⟨n,rfl⟩:=Int.eq_ofNat_of_zero_le (show 0<=r by omega)
 have Km:1<=n:=by omega
 have hn4:n<=4:=by omega
 go_upto_region 4 with fail
 obtain⟨gT,hgT⟩:∃g,W1.heap.size=g:=⟨_,rfl⟩
 obtain⟨gS,hgS⟩:∃g,gT+1=g:=⟨_,rfl⟩
 obtain⟨bm,hbm⟩:∃g,gS+1=g:=⟨_,rfl⟩
 rw[hgT,hgS,hbm]
 refine ym (fun W=>zO wS W/\Bx W wS.heap.size 25 [.slice aS ms.length cap]/\Bx W (wS.heap.size+1) 34 [zI 0,zQ,zQ,zI 0,zQ,zI 0,zQ,zI 0]/\Bx W bm 34 [zI c,zQ,zQ,zI 0,zK gT 0 0 0,zI 1,zK gS 0 0 0,zI 0]/\bm+1=W.heap.size) ?_ ?_
 ·have N:=((zR W1 (.cells #[] 124)).alloc (by simp) (.cells #[] 86)).alloc (by simp;omega) (.cells #[.int .i64 c,.slice none 0 0,.slice none 0 0,.int .i64 0,.slice (some ⟨gT,0,none⟩) 0 0,.int .i64 1,.slice (some ⟨gS,0,none⟩) 0 0,.int .i64 0] 34)
  exact⟨B1.trans (N.mono z1),x1.below N,y1.below N,Bx.newAt _ _ _ (by simp;omega),by simp;omega⟩
 have hlo1:wS.heap.size+1<gT:=by rw[<-hgT];exact y1.lt
 clear x1 y1 B1 z1 r0 r1 r2 r3 r4 r5 r6 r7 g0 g1 g2 g3 g4 g5 g6 g7
 rintro W ⟨hb,hx,hy,hm,hWz⟩
 have hbmW:bm<W.heap.size:=by omega
 have hlb:wS.heap.size+1<bm:=by omega
 obtain⟨i0,hi,jT,xF,kf⟩:=info_parts Tryz.infoPageN
 obtain⟨j0,ji,jz0,jz1,jz2⟩:=info_parts Tryz.infoIntN
 have hTS:gT<gS/\gS<bm:=by omega
 clear hgT hgS hbm hWz
 go_wp2_with fail
 go_loopg [9] n (fun d i wr=>∃(k:Nat) (L:List Value) (vp vo:Value),k<=n/\d=n - k/\i=zI (k:Int)/\L.length=k * 1/\(∀v∈L,∃g,W.heap.size<=g/\v=zK g 0 0 0)/\yg W.heap.size 2 wr vp k (ZF L)/\yf W.heap.size wr vo (yK n k)/\(∀g,(vp).ownBlock=some g->(vo).ownBlock≠some g)/\zO wS wr/\W.heap.size<=wr.heap.size/\Bx wr wS.heap.size 25 [.slice aS ms.length cap]/\Bx wr (wS.heap.size+1) 34 [zI 0,zQ,zQ,zI 0,zQ,zI 0,zQ,zI 0]/\Bx wr bm 34 [zI c,vp,vo,zI 0,zK gT 0 0 0,zI 1,zK gS 0 0 0,zI 0])
 case atStart=>exact⟨0,[],zQ,zQ,Nat.zero_le _,rfl,rfl,rfl,fun v h=>by simp at h,yg.nil _ _ _,yf.nil _ _,fun g e=>by simp[Value.ownBlock] at e,hb,Nat.le_refl _,hx,hy,hm⟩
 case round =>
  clear hb hx hy hm
  obtain⟨k,L,vp,vo,hk,rfl,rfl,JS,hLv,zT,vN,hap,hb,hz,hx,hy,hm⟩:=hrel
  obtain⟨ap,cp,qI,_⟩:=zT.slice
  obtain⟨ao,co,j5,_⟩:=vN.slice
  subst qI j5
  have HLL:Hid (L.length=k * 1):=JS
  have HLV:Hid (∀v∈L,∃g,W.heap.size<=g/\v=zK g 0 0 0):=hLv
  clear JS hLv
  by_cases yz:k<n
  ·have uW:(k:Int)<(n:Int):=by omega
   have N1:=(zR wr (.cells #[] 75)).alloc (by simp) (.cells #[.int .i64 (-1),.slice (some ⟨wr.heap.size,0,none⟩) 0 0] 78)
   have y1:=Bx.newAt (wr.alloc (.cells #[] 75)) 78 [.int .i64 (-1),.slice (some ⟨wr.heap.size,0,none⟩) 0 0] (g:=wr.heap.size+1) (by simp)
   have r1:=zT.below N1
   have x1:=hm.below N1
   have z1:=N1.size
   obtain⟨⟨_,p1,p2,_,_,_,_,_⟩,⟨_,f1,f2,_,_,_,_,_⟩⟩:=uk hm
   have hbmr:bm<wr.heap.size:=hm.lt
   have hhi:∀g,(Value.slice ap k cp).ownBlock=some g->W.heap.size<=g/\g<wr.heap.size:=zT.lt
   have hho:∀g,(Value.slice ao (yK n k).length co).ownBlock=some g->W.heap.size<=g/\g<wr.heap.size:=vN.lt
   go_upto_region 8 with(at_builtin;refine VA Tryz.underlying29 hi jT xF rfl (by rw[kf];omega) _ (by rfl) _ _ (by rfl) _ k _ [zI (-1),zK wr.heap.size 0 0 0] (by rfl) (wr.heap.size+1) 1 (by rfl) r1 rfl (fun u hu=>by simp at hu;rcases hu with rfl | rfl <;> rfl) (fun j u hu=>y1.cell j hu) (by omega) (by omega) ?_;intro v2 w2 yN qA Xz;have wk:=x1.grown qA (fun e=>by have:=(hhi _ e).1;omega);have x8':=wk.cell 1 rfl;have f8':=wk.frozen 1;obtain⟨a2,c2,hv2,_⟩:=yN.slice;subst hv2)
   have hs2:W.heap.size<=w2.heap.size:=by have:=qA.size;omega
   have o1:=vN.below N1
   have Xx:∀g,(Value.slice a2 (k+1) c2).ownBlock=some g->W.heap.size<=g/\(Value.slice ao (yK n k).length co).ownBlock≠some g:=fun g e=>by
    refine⟨(yN.lt g e).1,fun e2=>?_⟩
    rcases Xz with h | h
    ·exact hap g (h ▸ e) e2
    ·rw[h] at e
     injection e with e
     have:=(hho g e2).2
     omega
   obtain⟨L',hL'⟩:∃L',L ++ [zK wr.heap.size 0 0 0]=L':=⟨_,rfl⟩
   have HLL':Hid (L'.length=(k+1) * 1):=by show _=_;rw[<-hL',List.length_append,HLL.out];simp
   have HLV':Hid (∀v∈L',∃g,W.heap.size<=g/\v=zK g 0 0 0):=fun v hv=>by
    rw[<-hL'] at hv
    rcases List.mem_append.1 hv with h | h
    ·exact HLV.out v h
    ·exact⟨_,hz,by simpa using h⟩
   refine ym (fun W'=>zO wS W'/\yg W.heap.size 2 W' (.slice a2 (k+1) c2) (k+1) (ZF L')/\yf W.heap.size W' (.slice ao (yK n k).length co) (yK n k)/\W.heap.size<=W'.heap.size/\Bx W' wS.heap.size 25 [.slice aS ms.length cap]/\Bx W' (wS.heap.size+1) 34 [zI 0,zQ,zQ,zI 0,zQ,zI 0,zQ,zI 0]/\Bx W' bm 34 [zI c,.slice a2 (k+1) c2,.slice ao (yK n k).length co,zI 0,zK gT 0 0 0,zI 1,zK gS 0 0 0,zI 0]) ?_ ?_
   ·have HW:=(Wr.refl1 bm w2).set1 (o:=1) (.slice a2 (k+1) c2)
    have hbz:=hb.size
    exact⟨HW.below1 ((hb.trans (N1.mono hbz)).grown qA (by omega) (fun q e=>by have:=(hhi _ e).1;omega)) zD (by omega),by rw[<-hL',zc4];exact yN.wr HW (fun g e e2=>by have:=(Xx g e).1;omega),HW.ints (o1.grown qA (fun g e e2=>hap g e2 e)) (fun g e e2=>by have:=(hho g e).1;omega),by rw[World.size_setCell];exact hs2,HW.bx ((hx.below N1).grown qA (fun e=>by have:=(hhi _ e).1;omega)) (by omega),HW.bx ((hy.below N1).grown qA (fun e=>by have:=(hhi _ e).1;omega)) (by omega),wk.set 1 _⟩
   clear wk x8' f8' yN qA Xz o1 hs2 hhi p1 p2 f1 f2 z1 x1 r1 y1 N1 hx hy hm hz hb zT vN hap hL' HLL HLV
   rintro w3 ⟨hb,zT,vN,hz,hx,hy,hm⟩
   obtain⟨O,hO⟩:∃O,yK n k=O:=⟨_,rfl⟩
   have HLS:Hid (yK n (k+1)=O ++ [(((k+1) % n:Nat):Int)]):=by show _=_;rw[<-hO];exact KC _ _
   have hll:O.length+1<=3000000:=by rw[<-hO,kU];omega
   rw[hO] at vN hm Xx hho
   clear hO
   obtain⟨q,hq⟩:∃q,(k+1) % n=q:=⟨_,rfl⟩
   have hqt:((k:Int)+1).tmod (n:Int)=(q:Int):=by rw[<-hq];exact_mod_cast (Int.ofNat_tmod (k+1) n).symm
   rw[hq] at HLS
   obtain⟨⟨_,_,p2,_,_,_,_,_⟩,⟨_,_,f2,_,_,_,_,_⟩⟩:=uk hm
   have N1:zO w3 (w3.alloc (.cells #[.int .i64 (q:Int)] 3)).drew:=(zR _ _).drew
   have hnew:∀j,(hj:j < [(q:Int)].length)->(w3.alloc (.cells #[.int .i64 (q:Int)] 3)).drew.cell? ((⟨w3.heap.size,0,none⟩:Addr).add j)=some (.int .i64 [(q:Int)][j]):=fun j hj=>by
    obtain rfl:j=0:=by simpa using hj
    simp[go_sem,Addr.add]
   obtain⟨g4,o4,c4,w4,zdX,yU,wj,zdV⟩:=uA (P:=Tryz.prog) (ty:=30) Tryz.underlying30 ji jz0 jz1 jz2 (vN.below N1) ⟨w3.heap.size,0,none⟩ 1 1 [(q:Int)] rfl hnew (.inl (by omega)) hll (Nat.le_trans (by omega) N1.size)
   have JV:=(hm.below N1).grown wj (fun e=>by have h9:W.heap.size<=bm:=(vN.lt _ e).1;omega)
   have p4:=JV.cell 2 rfl
   have f4:=JV.frozen 2
   have hlt3:bm<w3.heap.size:=hm.lt
   have hnz:¬(n=0):=by omega
   have hwk:IntKind.i64.wrap ((k:Int)+1)=(k:Int)+1:=by rw[IntKind.wrap_i64];omega
   have HE:Hid (yg W.heap.size 2 (w4.setCell (zH bm 2) (zK g4 o4 (O.length+1) c4)) (.slice a2 (k+1) c2) (k+1) (ZF L')/\yf W.heap.size (w4.setCell (zH bm 2) (zK g4 o4 (O.length+1) c4)) (zK g4 o4 (O.length+1) c4) (yK n (k+1))/\(∀g,(Value.slice a2 (k+1) c2).ownBlock=some g->(zK g4 o4 (O.length+1) c4).ownBlock≠some g)/\zO wS (w4.setCell (zH bm 2) (zK g4 o4 (O.length+1) c4))/\W.heap.size<=(w4.setCell (zH bm 2) (zK g4 o4 (O.length+1) c4)).heap.size/\Bx (w4.setCell (zH bm 2) (zK g4 o4 (O.length+1) c4)) wS.heap.size 25 [.slice aS ms.length cap]/\Bx (w4.setCell (zH bm 2) (zK g4 o4 (O.length+1) c4)) (wS.heap.size+1) 34 [zI 0,zQ,zQ,zI 0,zQ,zI 0,zQ,zI 0]/\Bx (w4.setCell (zH bm 2) (zK g4 o4 (O.length+1) c4)) bm 34 [zI c,(.slice a2 (k+1) c2),(zK g4 o4 (O.length+1) c4),zI 0,zK gT 0 0 0,zI 1,zK gS 0 0 0,zI 0]):=by
    have HW:=(Wr.refl1 bm w4).set1 (o:=2) (zK g4 o4 (O.length+1) c4)
    have hlo:∀g,(Value.slice ao O.length co).ownBlock=some g->W.heap.size<=g:=fun g e=>(vN.lt g e).1
    have hbz:=hb.size
    have Km:=N1.size
    refine⟨((zT.below N1).grown wj (fun g e e2=>(Xx g e).2 e2)).wr HW (fun g e e2=>by have:=(Xx g e).1;omega),by rw[HLS.out];exact HW.ints yU (fun g e e2=>by have:=(yU.lt g e).1;omega),fun g e e2=>?_,HW.below1 ((hb.trans (N1.mono hbz)).grown wj (by omega) (fun q e=>by have:=hlo q e;omega)) zD (by omega),by rw[World.size_setCell];have:=wj.size;omega,HW.bx ((hx.below N1).grown wj (fun e=>by have:=hlo _ e;omega)) (by omega),HW.bx ((hy.below N1).grown wj (fun e=>by have:=hlo _ e;omega)) (by omega),JV.set 2 _⟩
    have e3:g4=g:=by injection e2
    subst e3
    rcases zdV with h | h
    ·exact(Xx g4 e).2 h
    ·have:=(zT.lt g4 e).2
     omega
   clear JV yU wj zdV hnew N1 vN zT hb hx hy hm Xx hho hz
   go_wp2_with fail
   go_region_law (refine VK (by simp[Region.wanted]) (uH rfl (by go_simp) (by go_simp) zdX) ?_)
   all_goals
    go_wp2
    go_roundg (n - (k+1))
    case measure=>omega
    case rel=>exact⟨k+1,L',_,_,by omega,rfl,by go_num,HLL'.out,HLV'.out,HE.out⟩
  ·obtain rfl:k=n:=by omega
   have uW:¬((k:Int)<(k:Int)):=by omega
   obtain⟨hl0,ht0,JU,hte0,htn⟩:=Zw HFP.out
   have hmeth:=h.below hb
   have U9:0<k:=by omega
   obtain⟨gp,op,cp',qI,hgp1,zdP⟩:=zT.form U9
   injection qI with zbi _ Jy
   subst zbi Jy
   obtain⟨v0,L0,hL0⟩:∃v0 L0,L=v0 :: L0:=by
    cases L with
    | nil=>have:=HLL.out;simp at this;omega
    | cons v0 L0=>exact⟨v0,L0,rfl⟩
   subst hL0
   obtain⟨gE,hgE,hv0⟩:=HLV.out v0 (List.mem_cons_self ..)
   subst hv0
   have re:=(UW (zK gE 0 0 0 :: L0) 0 (by simp)).2
   obtain⟨k1,l1⟩:=zT.cell (j:=1) re
   have HL0:Hid (∀v∈L0,∃g,v=zK g 0 0 0):=fun v hv=>by
    obtain⟨g,_,e⟩:=HLV.out v (List.mem_cons_of_mem _ hv)
    exact⟨g,e⟩
   have px:=hx.cell 0 rfl
   have pm:=hm.cell 1 rfl
   obtain⟨t,hTe⟩:∃t,yx ms=t:=⟨_,rfl⟩
   have HT:Hid (yx ms=t):=hTe
   rw[hTe] at hte0 htn
   have hte:ms[0].2.1=(t:Int):=hte0.symm
   obtain⟨f0,fi,fz0,fz1,fz2⟩:=info_parts Tryz.infoFrameN
   clear re hTe hc hi jT xF kf ji jz0 jz1 jz2
   go_upto_region 9 with fail
   refine Z2 [[],[0],[],[2],[2,3],[2,3,4],[2,3,4,5],[],[],[7,8],[7,8,9],[2,3,4,5,6,7,8,9,10],[0,1,2,3,4,5,6,7,8,9,10,11],[0,1,2,3,4,5,6,7,8,9,10,11,12],[0,1,2,3,4,5,6,7,8,9,10,11,12,13]] [[0],[1],[2],[3],[4],[5],[6],[7],[8],[9],[9,10],[9,11],[12],[13],[]] [[],[],[],[],[],[],[],[],[],[],[],[],[],[],[]] [jy (zJ bm 1),jy (zK gp op k cp),jy (zJ bm 1),jy (zK gp op k cp),jy (zJ gp op),jy (zJ gp (op+1)),jy (zK gE 0 0 0),jy (.agg #[.slice aS ms.length cap]),X7 fun l=>∃g:Nat,l=[zK g 0 0 0],Ws 9 (fun(x:Value × Value) l=>l=[.agg #[zI 0,zI 0,zI (-1),x.1,x.2]]) (fun x w1=>(∃a0 c0 a1 c1,x.1=.slice a0 t c0/\x.2=.slice a1 0 c1)/\From wr.heap.size w1 (fun z=>yo z x.1 (List.replicate t (0,0))/\yo z x.2 [])),Ws 10 (fun(x:(Value × Value) × Nat) l=>l=[.agg #[zI 0,zI 0,zI (-1),x.1.1,x.1.2],zK x.2 0 1 1]) (fun x w1=>∀j u,[zI 0,zI 0,zI (-1),x.1.1,x.1.2][j]?=some u->w1.cell? (zH x.2 j)=some u),Ws 11 (fun(x:(Value × Value) × Nat × Nat) l=>l=[.agg #[zI 0,zI 0,zI (-1),x.1.1,x.1.2],zK x.2.1 0 1 x.2.2]) (fun x w1=>From wr.heap.size w1 (fun z=>∀j u,[zI 0,zI 0,zI (-1),x.1.1,x.1.2][j]?=some u->z.cell? (zH x.2.1 j)=some u)),jy (zJ gp op),jy (zJ gp (op+1)),X7 fun _=>True] 14 rfl (by kernel_rfl) (by kernel_rfl) (by kernel_rfl) ?_ ?_
   ·refine zl (zl (zl (zl (zl (zl (zl (zl (zl (zl (zl (zl (zl (zl (jE) ?_) ?_) ?_) ?_) ?_) ?_) ?_) ?_) ?_) ?_) ?_) ?_) ?_) ?_
    ·intro a w val own hB hf zy hk
     have s8:=hf.at (d:=8) (v:=zJ bm 0) (by kernel_rfl) rfl
     exact zC (v:=zJ bm 1) hB
    ·intro a w val own hB hf zy hk
     have s49:=zL hk 0 49
     have cpm:=zc hB pm
     exact zC (v:=zK gp op k cp) hB
    ·intro a w val own hB hf zy hk
     have s8:=hf.at (d:=8) (v:=zJ bm 0) (by kernel_rfl) rfl
     exact zC (v:=zJ bm 1) hB
    ·intro a w val own hB hf zy hk
     have s51:=zL hk 2 51
     have cpm:=zc hB pm
     exact zC (v:=zK gp op k cp) hB
    ·intro a w val own hB hf zy hk
     have s52:=zL hk 3 52
     have hk0':0<k:=U9
     exact zC (v:=zJ gp op) hB
    ·intro a w val own hB hf zy hk
     have s53:=zL hk 4 53
     exact zC (v:=zJ gp (op+1)) hB
    ·intro a w val own hB hf zy hk
     have s54:=zL hk 5 54
     have ck1:=zc hB k1
     exact zC (v:=zK gE 0 0 0) hB
    ·intro a w val own hB hf zy hk
     have s3:=hf.at (d:=3) (v:=zJ wS.heap.size 0) (by kernel_rfl) rfl
     have cpx:=zc hB px
     exact zC (v:=.agg #[.slice aS ms.length cap]) hB
    ·intro a w val own hB hf zy hk
     exact ZW (v:=.slice (some ⟨w.heap.size,0,none⟩) 0 0) (w':=w.alloc (.cells #[] 86)) hB rfl rfl (by unfold execOp;go_simp) (zR _ _) ⟨_,rfl⟩
    ·intro a w val own hB hf zy hk
     have s56:=zL hk 7 56
     obtain⟨k8,g8,e8⟩:=hk 8 (show 8∈[7,8] by decide)
     have s57:=k8 57 rfl
     rw[qy e8] at s57
     clear k8 e8
     have HM:=hmeth.below hB
     have K6:=hB.size
     refine uG hB rfl rfl (by unfold execOp;go_simp) ((UJ _ _ ms 0 t [] w HM hl0 hte (by omega) (Xh w (some ⟨g8,0,none⟩) 0) (by simp)).mono ?_)
     rintro e w' ⟨vt,vs,rfl,h1,h2,_,hb'⟩
     refine⟨_,rfl,hb',(vt,vs),rfl,Made.new fun w1 hs _ hr=>⟨?_,?_⟩⟩
     ·obtain⟨a0,c0,e0,_⟩:=h1.slice
      obtain⟨a1,c1,e1,_⟩:=h2.slice
      exact⟨a0,c0,a1,c1,by simpa using e0,e1⟩
     ·have p1:=((h1.kept hs fun g e=>hr g (h1.lt g e).1 (h1.lt g e).2).mono K6).from
      have p2:=((h2.kept hs fun g e=>hr g (h2.lt g e).1 (h2.lt g e).2).mono K6).from
      exact(p1.and p2).imp fun z q=>by simpa using q
    ·intro a w val own hB hf zy hk
     obtain⟨k9,x9,e9,m9⟩:=hk 9 (show 9∈[7,8,9] by decide)
     have v9:=qy e9
     have s58:=k9 58 rfl
     rw[v9] at s58
     obtain⟨⟨a0,c0,a1,c1,q1,q2⟩,_⟩:=m9.here hB
     clear k9 e9
     obtain⟨xa,xb⟩:=x9
     dsimp only at q1 q2
     subst q1 q2
     refine ZW (v:=.slice (some ⟨w.heap.size,0,none⟩) 1 1) (w':=w.alloc (.cells #[.int .i64 0,.int .i64 0,.int .i64 (-1),.slice a0 t c0,.slice a1 0 c1] 75)) hB rfl rfl (by unfold execOp;go_simp) (zR _ _) ⟨((.slice a0 t c0,.slice a1 0 c1),w.heap.size),?_,Made.new fun w1 _ _ hr=>?_⟩
     ·show [val 9,_]=_
      rw[v9]
      rfl
     ·exact fun j u hu=>((Bx.new w 75 [.int .i64 0,.int .i64 0,.int .i64 (-1),.slice a0 t c0,.slice a1 0 c1]).kept (hr _ zD (by simp))).cell j hu
    ·intro a w val own hB hf zy hk
     have s55:=zL hk 6 55
     obtain⟨k10,x10,e10,m10⟩:=hk 10 (show 10∈[2,3,4,5,6,7,8,9,10] by decide)
     have e10':[val 9,val 10]=_:=e10
     injection e10' with e10a e10b
     have v10:=qy e10b
     have s59:=k10 59 rfl
     rw[v10] at s59
     clear k10 e10 e10b
     obtain⟨⟨xa,xb⟩,gN⟩:=x10
     obtain⟨_,x9,e9,m9⟩:=hk 9 (show 9∈[2,3,4,5,6,7,8,9,10] by decide)
     have v9:=qy e9
     obtain⟨⟨a0,c0,a1,c1,q1,q2⟩,_⟩:=m9.here hB
     have hxx:x9=(xa,xb):=by rw[v9] at e10a;exact zdG e10a
     subst hxx
     dsimp only at q1 q2
     subst q1 q2
     obtain⟨cc,w',hrun,hrow',hb'⟩:=XK (P:=Tryz.prog) (ty:=76) Tryz.underlying76 fi fz0 fz1 rfl (by rw[fz2];omega) w gE [zI 0,zI 0,zI (-1),.slice a0 t c0,.slice a1 0 c1] rfl (fun u hu=>by simp at hu;rcases hu with rfl | rfl | rfl | rfl | rfl <;> rfl) gN 1 (m10.here hB)
     have K6:=hB.size
     refine ZW (v:=zK w.heap.size 0 1 cc) (w':=w') hB rfl rfl (uH rfl (by go_simp) (by go_simp) hrun) hb' ⟨((.slice a0 t c0,.slice a1 0 c1),w.heap.size,cc),?_,Made.new fun w1 hs _ hr=>?_⟩
     ·show [val 9,_]=_
      rw[v9]
      rfl
     ·have h9:=(hrow'.kept hs fun g e=>hr g (hrow'.lt g e).1 (hrow'.lt g e).2).mono K6
      exact h9.from.imp fun z q j u hu=>by have:=(q.cell (j:=j) hu).1;simpa using this
    ·intro a w val own hB hf zy hk
     have s50:=zL hk 1 50
     have hk0':0<k:=U9
     exact zC (v:=zJ gp op) hB
    ·intro a w val own hB hf zy hk
     have s61:=zL hk 12 61
     exact zC (v:=zJ gp (op+1)) hB
   intro aE vB val own hB hf zy hk
   have s62:=ZY (hk 13 (by decide)) 62
   obtain⟨k11,x11,e11,m11⟩:=hk 11 (by decide)
   have e11':[val 9,val 11]=_:=e11
   injection e11' with e11a e11b
   have v11:=qy e11b
   have s60:=k11 60 rfl
   rw[v11] at s60
   clear k11 e11 e11b
   obtain⟨⟨xa,xb⟩,gN,cN⟩:=x11
   obtain⟨_,x9,e9,m9⟩:=hk 9 (by decide)
   have v9:=qy e9
   have hxx:x9=(xa,xb):=by rw[v9] at e11a;exact zdG e11a
   subst hxx
   have F9:=(m9.here hB).2
   have F11:=m11.here hB
   clear m9 m11 e9 v9 e11a v11
   have s6:=hf.at (d:=6) (v:=zJ (wS.heap.size+1) 0) (by kernel_rfl) rfl
   have s7:=hf.at (d:=7) (v:=.bool false) (by kernel_rfl) rfl
   have s8:=hf.at (d:=8) (v:=zJ bm 0) (by kernel_rfl) rfl
   have ck1:=zc hB k1
   have cl1:=(World.frozen?_of_block (a:=⟨gp,op+1,none⟩) (hB.block gp zdP)).trans l1
   refine vM (w':=vB.setCell (zH gp (op+1)) (zK gN 0 1 cN)) rfl rfl (by unfold execOp;go_simp) ?_
   simp only[Act.put]
   obtain⟨u,Jx,hv⟩:=Xv aE.tmps (n:=64) hf.size
   have hu:aE.tmps=(u 0 :: u 1 :: u 2 :: u 3 :: u 4 :: u 5 :: u 6 :: u 7 :: u 8 :: u 9 :: u 10 :: u 11 :: u 12 :: u 13 :: u 14 :: u 15 :: u 16 :: u 17 :: u 18 :: u 19 :: u 20 :: u 21 :: u 22 :: u 23 :: u 24 :: u 25 :: u 26 :: u 27 :: u 28 :: u 29 :: u 30 :: u 31 :: u 32 :: u 33 :: u 34 :: u 35 :: u 36 :: u 37 :: u 38 :: u 39 :: u 40 :: u 41 :: u 42 :: u 43 :: u 44 :: u 45 :: u 46 :: u 47 :: u 48 :: u 49 :: u 50 :: u 51 :: u 52 :: u 53 :: u 54 :: u 55 :: u 56 :: u 57 :: u 58 :: u 59 :: u 60 :: u 61 :: u 62 :: u 63 :: []).toArray:=Jx
   rw[(hv 6).trans s6,(hv 7).trans s7,(hv 8).trans s8] at hu
   obtain rfl:=ZK hu (show aE.defers=[] from hf.defers)
   clear hu Jx hv hk zy hf s6 s7 s8 s62 s60
   refine wD (fun W=>zO wS W/\Bx W (wS.heap.size+1) 34 [zI 0,zQ,zQ,zI 0,zQ,zI 0,zQ,zI 0]/\Bx W bm 34 [zI c,zK gp op k cp,.slice ao (yK k k).length co,zI 0,zK gT 0 0 0,zI 1,zK gS 0 0 0,zI 0]/\From (wS.heap.size+1+1) W (fun z=>ql z (zK gp op k cp) (.slice ao (yK k k).length co) (zK gT 0 0 0) (zK gS 0 0 0) (yR k t c))/\Jr (wS.heap.size+1+1) W k (zK gp op k cp) (.slice ao (yK k k).length co) (zK gT 0 0 0) (zK gS 0 0 0)) ?_ ?_
   ·have HW:Wr (fun g=>g=gp) vB (vB.setCell (zH gp (op+1)) (zK gN 0 1 cN)):=(Wr.refl1 gp vB).set1 (o:=op+1) _
    refine⟨HW.below1 (hb.trans (hB.mono hb.size)) zD (by omega),HW.bx (hy.below hB) (by omega),HW.bx (hm.below hB) (by omega),?_,?_⟩
    rotate_left
    ·have e0:(ZF (zK gE 0 0 0 :: L0)).set 1 (zK gN 0 1 cN)=ZF (zK gN 0 1 cN :: L0):=by simp[ZF]
     have R9:=(zT.below hB).set 1 (zK gN 0 1 cN)
     rw[e0] at R9
     exact⟨W.heap.size,gp,op,cp,gT,gS,_,L0,rfl,rfl,rfl,R9,HW.ints (vN.below hB) (fun g e e2=>hap gp rfl (e2 ▸ e)),fun g e e2=>hap gp rfl (e2 ▸ e),HL0.out,HLL.out,by omega,hTS.1,by omega,by rw[World.size_setCell];have:=hB.size;omega⟩
    have RR:=((zT.below hB).set 1 (zK gN 0 1 cN)).from
    have OO:=(HW.ints (vN.below hB) (fun g e e2=>hap gp rfl (e2 ▸ e))).from
    have P9:=F9.wr1 HW zdP
    have P11:=F11.wr1 HW zdP
    exact UN RR OO P9 P11 HL0.out HLL.out (by omega) (by omega) (by omega) (by omega)
   rintro W6 ⟨B6,y6,m6,n6,sn6⟩
   obtain⟨⟨r0,r1,r2,r3,r4,r5,r6,r7⟩,⟨g0,g1,g2,g3,g4,g5,g6,g7⟩⟩:=uk y6
   obtain⟨⟨p0,p1,p2,p3,p4,p5,p6,p7⟩,_⟩:=uk m6
   go_wp2
   refine xU (fun W=>zO wS W/\Bx W (wS.heap.size+1) 34 [zI c,zK gp op k cp,.slice ao (yK k k).length co,zI 0,zK gT 0 0 0,zI 1,zK gS 0 0 0,zI 0]/\From (wS.heap.size+1+1) W (fun z=>ql z (zK gp op k cp) (.slice ao (yK k k).length co) (zK gT 0 0 0) (zK gS 0 0 0) (yR k t c))/\Jr (wS.heap.size+1+1) W k (zK gp op k cp) (.slice ao (yK k k).length co) (zK gT 0 0 0) (zK gS 0 0 0)) ?_ ?_
   ·have HW:=((((((((Wr.refl1 (wS.heap.size+1) W6).set1 (o:=0) (zI c)).set1 (o:=1) (zK gp op k cp)).set1 (o:=2) (.slice ao (yK k k).length co)).set1 (o:=3) (zI 0)).set1 (o:=4) (zK gT 0 0 0)).set1 (o:=5) (zI 1)).set1 (o:=6) (zK gS 0 0 0)).set1 (o:=7) (zI 0)
    exact⟨HW.below1 B6 zD (Nat.le_succ _),(((((((y6.set 0 _).set 1 _).set 2 _).set 3 _).set 4 _).set 5 _).set 6 _).set 7 _,n6.wr1 HW (Nat.lt_succ_self _),sn6.kept HW.size fun g h1 h2=>HW.block g h2 (by omega)⟩
   rintro W9 ⟨B9,x9,n9,sn9⟩
   obtain⟨⟨q0,q1,q2,q3,q4,q5,q6,q7⟩,_⟩:=uk x9
   exact bodyPost_ret (v:=.tuple #[.agg #[zI c,zK gp op k cp,.slice ao (yK k k).length co,zI 0,zK gT 0 0 0,zI 1,zK gS 0 0 0,zI 0],.bool true]) (by simp[results,Tryz.results14,go_sem,q0,q1,q2,q3,q4,q5,q6,q7]) rfl ⟨B9,_,_,_,_,rfl,by rw[HT.out];exact n9.mono (by omega),sn9.mono (by omega)⟩
theorem JL (vp:Value) (ms:zM) (r c:Int) (wS:World) (h:yD wS vp ms) :
 Calls Tryz.prog 14 #[.agg #[vp],zI r,zI c] wS fun e w'=>zO wS w' /\
  (((yr ms && qW r c)=false/\e=.returned (.tuple #[.agg #[zI 0,zQ,zQ,zI 0,zQ,zI 0,zQ,zI 0],.bool false])) \/
   ((yr ms && qW r c)=true/\∃v vo vt vs,e=.returned (.tuple #[.agg #[zI c,v,vo,zI 0,vt,zI 1,vs,zI 0],.bool true])/\From wS.heap.size w' (fun z=>ql z v vo vt vs (yR r.toNat (yx ms) c)))):=by
 refine(JM vp ms r c wS h).mono ?_
 rintro e w' ⟨hb,h1 | ⟨h1,v,vo,vt,vs,h2,h3,_⟩⟩
 ·exact⟨hb,.inl h1⟩
 ·exact⟨hb,.inr ⟨h1,v,vo,vt,vs,h2,h3⟩⟩
end Go.Proofs.YtbjgjjkgfnfejaaGreatDoor

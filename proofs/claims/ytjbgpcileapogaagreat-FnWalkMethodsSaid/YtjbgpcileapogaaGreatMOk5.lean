/-
  A piece of the program's MachOk: whether a page is in form. (Written by mkmo5.py.)
-/
import Derived.Test.YtjbgpcileapogaaGreatMOk3
namespace Go.Proofs.YtjbgpcileapogaaGreat
open Go.RowKit
def cellsTo (fs:List Fr) (k:Nat):Nat:=((fs.take k).map fun f=>10+f.temps.length).sum
theorem cellsTo_succ {fs:List Fr} {k:Nat} (h:k<fs.length):cellsTo fs (k+1)=cellsTo fs k+(10+fs[k].temps.length):=by
  unfold cellsTo
  rw[List.take_add_one,List.getElem?_eq_getElem h,List.map_append,List.sum_append]
  simp
theorem cellsTo_le {fs:List Fr} (ht:∀i,(hi:i<fs.length)→fs[i].temps.length≤1048576):∀k,k≤fs.length→cellsTo fs k≤k * 1048586
  | 0,_=>Nat.zero_le _
  | k+1,h=>by
    rw[cellsTo_succ (show k<fs.length from h)]
    have:=cellsTo_le ht k (by omega)
    have:=ht k h
    omega
def pageB (ms:List (Int × Int × List (Int × Int))) (m:Mc) (i:Nat) (p:Pg):Bool :=
  (List.range p.frames.length).all (fun k=>frameB ms m i k (p.frames.getD k Fr.none)) && (decide ((cellsTo p.frames p.frames.length:Int)≤m.cells) && baseB m p)
theorem pageB_no {ms:List (Int × Int × List (Int × Int))} {m:Mc} {i:Nat} {p:Pg} {k:Nat} (hk:k<p.frames.length) (h:frameB ms m i k p.frames[k]=false):pageB ms m i p=false:=by
  unfold pageB
  rw[Bool.and_eq_false_iff]
  left
  rw[List.all_eq_false]
  exact⟨k,List.mem_range.2 hk,by simp[hk,h]⟩
theorem pageB_yes {ms:List (Int × Int × List (Int × Int))} {m:Mc} {i:Nat} {p:Pg} (h:∀k,(hk:k<p.frames.length)→frameB ms m i k p.frames[k]=true):pageB ms m i p=(decide ((cellsTo p.frames p.frames.length:Int)≤m.cells) && baseB m p):=by
  unfold pageB
  have:(List.range p.frames.length).all (fun k=>frameB ms m i k (p.frames.getD k Fr.none))=true:=List.all_eq_true.2 fun k hk=>by
    have hk':=List.mem_range.1 hk
    simp[hk',h k hk']
  rw[this,Bool.true_and]
set_option maxRecDepth 100000 in
set_option maxHeartbeats 4000000 in
theorem pageOk_any (vq:Value) (ms:List (Int × Int × List (Int × Int))) (vp vo vt vs:Value) (m:Mc) (i:Nat) (w:World) (hq:MethsAt w vq ms) (h:MachAt w vp vo vt vs m) (hops:∀i,(h:i<ms.length)→ms[i].2.2.length≤1000000) (hi:i<m.pages.length) (P:Pg) (hP0:m.pages[i]=P) (hsm:∀i,(hi:i<m.pages.length)→m.pages[i].frames.length≤1099511627776) (htl:∀k,(hk:k<P.frames.length)→P.frames[k].temps.length≤1048576) :
    Calls Tryz.prog 77 #[.agg #[vq],.agg (mcCells vp vo vt vs m).toArray,.int .i64 (i:Int)] w fun e w'=>e=.returned (.bool (pageB ms m i P))∧Below w.heap.size w w':=by
  have HP:Hid (m.pages[i]=P):=hP0
  clear hP0
  have HOPS:Hid (∀i,(h:i<ms.length)→ms[i].2.2.length≤1000000):=hops
  have HSM:Hid (∀i,(hi:i<m.pages.length)→m.pages[i].frames.length≤1099511627776):=hsm
  have HTL:Hid (∀k,(hk:k<P.frames.length)→P.frames[k].temps.length≤1048576):=htl
  clear hops hsm htl
  obtain⟨aq,cq,hvq,hlq,hcq⟩:=id hq
  subst hvq
  obtain⟨ap,cp,hvp,hlp,hcp⟩:=id h.p
  obtain⟨ao,co,hvo,hlo,hco⟩:=id h.o
  obtain⟨at',ct,hvt,hlt',hct⟩:=id h.t
  obtain⟨as',cs,hvs⟩:=h.s.shape
  subst hvp hvo hvt hvs
  unfold mcCells
  go_enter Tryz.func77,Tryz.ntmps77
  go_upto_region 1 with fail
  refine wp_gen (fun W=>Below w.heap.size w W∧Bx W w.heap.size 25 [.slice aq ms.length cq]∧Bx W (w.heap.size+1) 42 [.int .i64 m.cells,.slice ap m.pages.length cp,.slice ao m.order.length co,.int .i64 m.now,.slice at' m.twins.length ct,.int .i64 m.born,.slice as' m.said.length cs,.int .i64 m.code]) ⟨((Below.refl _ _).alloc (Nat.le_refl _) _).alloc (by simp) _,(Bx.new w _ _).alloc _,Bx.newAt _ _ _ (by simp)⟩ ?_
  rintro W ⟨hb,hx,hm⟩
  have x0:=hx.cell 0 rfl
  obtain⟨⟨m0,m1,m2,m3,m4,m5,m6,m7⟩,_⟩:=bx8 hm
  obtain⟨bp,op,vf,hap,hpg⟩:=hcp i hi
  subst hap
  rw[HP.out] at hpg
  obtain⟨af,cf,hvf,hlf,hcf⟩:=id hpg.f
  have g0:=cell_below hb hpg.c0
  have g1:=cell_below hb hpg.c1
  rw[hvf] at g1
  have hnb:P.frames.length≤1099511627776:=by have:=HSM.out i hi;rw[HP.out] at this;exact this
  have hiz:(i:Int)<(m.pages.length:Int):=by omega
  have zb:=hb.size
  have HFR:Hid (∀k,(hk:k<P.frames.length)→∃hk':k<m.pages[i].frames.length,m.pages[i].frames[k]=P.frames[k]):=fun k hk=>by
    have e:=HP.out
    subst e
    exact⟨hk,rfl⟩
  have hMW:=h.below hb
  have hQW:=hq.below hb
  have HG:Hid (PgAt w bp (op+i * 2) vf P):=hpg
  clear hpg hcp
  go_wp2_with fail
  go_loopg [7,8,9,17] P.frames.length (fun d c _ _ v wr=>∃k:Nat,k≤P.frames.length∧d=P.frames.length - k∧v=.int .i64 (k:Int)∧c=.int .i64 (cellsTo P.frames k:Int)∧Below W.heap.size W wr∧∀q,(hq:q<P.frames.length)→q<k→frameB ms m i q P.frames[q]=true)
  case atStart=>exact⟨0,Nat.zero_le _,rfl,rfl,rfl,Below.refl _ _,fun q _ h=>absurd h (Nat.not_lt_zero _)⟩
  case round =>
    obtain⟨k,hk,rfl,rfl,rfl,hbr,hall⟩:=hrel
    have HALL:Hid (∀q,(hq:q<P.frames.length)→q<k→frameB ms m i q P.frames[q]=true):=hall
    clear hall
    have hxr:=hx.below hbr
    have hmr:=hm.below hbr
    have zr:=hbr.size
    have HBR:Hid (Below W.heap.size W wr):=hbr
    by_cases hlt:k<P.frames.length
    · obtain⟨bf,of,vt1,vs1,haf,hfr⟩:=hcf k hlt
      subst haf
      obtain⟨d0,d1,d2,d3,d4,dt,ds⟩:=(hfr.below hb).below hbr
      obtain⟨a1,k1,e1⟩:=dt.shape
      obtain⟨a2,k2,e2⟩:=ds.shape
      rw[e1] at d3
      rw[e2] at d4
      have hkz:(k:Int)<(P.frames.length:Int):=by omega
      have hcs:=cellsTo_succ hlt
      have hcl:=cellsTo_le HTL.out (k+1) hlt
      have htk:=HTL.out k hlt
      have hcb:cellsTo P.frames (k+1)≤1152932500506378240:=Nat.le_trans hcl (by omega)
      obtain⟨F,hF⟩:∃F,P.frames[k]=F:=⟨_,rfl⟩
      rw[hF] at d0 d1 d2 d3 d4 hcs htk
      obtain⟨C,hC⟩:∃C,cellsTo P.frames k=C:=⟨_,rfl⟩
      rw[hC] at hcs
      have HCS:Hid (cellsTo P.frames (k+1)=C+(10+F.temps.length)):=hcs
      have hcb2:C+(10+F.temps.length)≤1152932500506378240:=by omega
      rw[hC]
      obtain⟨hk',hFe⟩:=HFR.out k hlt
      have HFE:Hid (m.pages[i].frames[k]=F):=hFe.trans hF
      have HFF:Hid (P.frames[k]=F):=hF
      clear hcs hcl hcb hC hF hFe e1 e2 dt ds hfr hcf
      go_upto_region 5 with fail
      refine wp_gen (fun W'=>Below wr.heap.size wr W'∧Bx W' wr.heap.size 103 [.int .i64 F.m,.int .i64 F.pc,.int .i64 F.twin,.slice a1 F.temps.length k1,.slice a2 F.stack.length k2]) ⟨(Below.refl _ _).alloc (Nat.le_refl _) _,Bx.new _ _ _⟩ ?_
      rintro W2 ⟨t2,y2⟩
      have hb2:Below W.heap.size W W2:=HBR.out.trans (t2.mono zr)
      have hm2:=hmr.below t2
      have hx2:=hxr.below t2
      have z2:=hb2.size
      clear t2 hmr hxr d0 d1 d2 d3 d4 m0 m1 m2 m3 m4 m5 m6 m7 x0 g0 g1
      obtain⟨⟨m0,m1,m2,m3,m4,m5,m6,m7⟩,_⟩:=bx8 hm2
      have x0:=hx2.cell 0 rfl
      obtain⟨f,hf⟩:∃f,frameB ms m i k F=f:=⟨_,rfl⟩
      have HFO:=frameOk_any _ ms _ _ _ _ m i k W2 (hQW.below hb2) (hMW.below hb2) HOPS.out hi hk' F HFE.out
      rw[hf] at HFO
      unfold mcCells at HFO
      go_wp2_with fail
      refine HFO.mono ?_
      rintro e W3 ⟨rfl,t3⟩
      have hb3:Below W.heap.size W W3:=hb2.trans (t3.mono z2)
      have y3:=y2.below t3
      clear HFO t3 hm2 hx2 y2 hb2 z2 m0 m1 m2 m3 m4 m5 m6 m7 x0
      cases f
      · have HE:Hid (pageB ms m i P=false):=pageB_no hlt (by rw[HFF.out];exact hf)
        have hbe:=hb.trans (hb3.mono zb)
        go_wp2
        go_ret
        exact⟨ret_bool HE.out.symm,hbe⟩
      have HN:Hid (∀q,(hq:q<P.frames.length)→q<k+1→frameB ms m i q P.frames[q]=true):=fun q hq hqk=>by
        by_cases e:q=k
        · subst e;rw[HFF.out];exact hf
        · exact HALL.out q hq (by omega)
      have c3:=y3.cell 3 rfl
      clear hf HALL
      go_wp2_with fail
      refine(cellsOf_any _ F.temps.length _ _ (by omega)).mono ?_
      rintro e W4 ⟨rfl,hw⟩
      obtain rfl:=hw.symm
      clear hw
      go_wp2
      go_roundg (P.frames.length - (k+1))
      case measure=>omega
      case rel=>exact⟨k+1,by omega,rfl,by go_num,by rw[HCS.out];simp,hb3,HN.out⟩
    · obtain rfl:k=P.frames.length:=by omega
      have HE0:Hid (pageB ms m i P=(decide ((cellsTo P.frames P.frames.length:Int)≤m.cells) && baseB m P)):=pageB_yes fun q hq=>HALL.out q hq hq
      have hkz:¬((P.frames.length:Int)<(P.frames.length:Int)):=by omega
      go_upto_region 9 with fail
      obtain⟨⟨m0,m1,m2,m3,m4,m5,m6,m7⟩,_⟩:=bx8 hmr
      have G0:=Gr.cell (cell_below hbr g0)
      have G1:=Gr.cell (cell_below hbr g1)
      have L0:=Gr.cell m0
      have L1:=Gr.cell m1
      have L2:=Gr.cell m2
      have L3:=Gr.cell m3
      have L4:=Gr.cell m4
      have L5:=Gr.cell m5
      have L6:=Gr.cell m6
      have L7:=Gr.cell m7
      have HBO:=quiet_of_below (W:=wr) fun W' (hW:Below wr.heap.size wr W')=>baseOk_any _ _ _ _ m P af cf W' ((hMW.below hbr).below hW) HSM.out
      unfold mcCells at HBO
      have hbw:=hb.trans (hbr.mono zb)
      have zw:=hbw.size
      obtain⟨C,hC⟩:∃C,cellsTo P.frames P.frames.length=C:=⟨_,rfl⟩
      rw[hC] at HE0 ⊢
      clear hC
      by_cases hcc:(C:Int)≤m.cells
      · have HE:Hid (pageB ms m i P=baseB m P):=by show _=_;rw[HE0.out];simp[hcc]
        obtain⟨fb,hfb⟩:∃fb,baseB m P=fb:=⟨_,rfl⟩
        rw[hfb] at HBO HE
        clear HE0 hfb m0 m1 m2 m3 m4 m5 m6 m7 x0
        refine WQ.region (by kernel_rfl) (by kernel_rfl) ?_
        iterate 14 (refine WQ.step (fun K hK=>?_);go_simp;first
          | (with_reducible refine hK _ ?_;clear hK K)
          | (with_reducible refine quiet_eq ?_;refine hK _ ?_;clear hK K)
          | (simp(contextual:=true) only [L0,L1,L2,L3,L4,L5,L6,L7,G0,G1,Result.andThen_ok,true_and];with_reducible refine quiet_eq ?_;refine hK _ ?_;clear hK K)
          | (with_reducible refine quiet_call HBO ?_;refine hK _ ?_;clear hK K))
        refine WQ.nil ?_
        intro W3 hG3
        have hb3:=hbw.trans (hG3.to.mono zw)
        clear hG3 HBO L0 L1 L2 L3 L4 L5 L6 L7 G0 G1
        go_wp2
        go_ret
        exact⟨ret_bool HE.out.symm,hb3⟩
      · have HE:Hid (pageB ms m i P=false):=by show _=_;rw[HE0.out];simp[hcc]
        have hcc2:m.cells<(C:Int):=by omega
        clear HE0 m0 m1 m2 m3 m4 m5 m6 m7 x0
        refine WQ.region (by kernel_rfl) (by kernel_rfl) ?_
        iterate 14 (refine WQ.step (fun K hK=>?_);go_simp;first
          | (with_reducible refine hK _ ?_;clear hK K)
          | (with_reducible refine quiet_eq ?_;refine hK _ ?_;clear hK K)
          | (simp(contextual:=true) only [L0,Result.andThen_ok,true_and];with_reducible refine quiet_eq ?_;refine hK _ ?_;clear hK K)
          | (with_reducible refine quiet_call HBO ?_;refine hK _ ?_;clear hK K))
        refine WQ.nil ?_
        intro W3 hG3
        have hb3:=hbw.trans (hG3.to.mono zw)
        clear hG3 HBO L0 L1 L2 L3 L4 L5 L6 L7 G0 G1
        go_wp2
        go_ret
        exact⟨ret_bool HE.out.symm,hb3⟩
structure Pl (w:World) (vp vo vt vs vl:Value) (m:Mc):Prop where
  mach:MachAt w vp vo vt vs m
  low:IntsAt w vl (lows m.pages)
  fn:framesN m.pages≤1099511627776
  tn:m.twins.length≤1099511627776
theorem Pl.below {w w':World} {vp vo vt vs vl:Value} {m:Mc} (h:Pl w vp vo vt vs vl m) (hb:Below w.heap.size w w'):Pl w' vp vo vt vs vl m:=⟨h.mach.below hb,h.low.below hb,h.fn,h.tn⟩
def plFr (m:Mc) (i k:Int):Int:=(framesTo m.pages i.toNat:Int)+k
def plTw (m:Mc) (j:Int):Int:=if(twAt m j).page=-1 then(framesN m.pages:Int)+j else plFr m (twAt m j).page (twAt m j).place
def tellB (m:Mc) (j:Int):Bool:=inR j 0 ((m.twins.length:Int) - 1) && ((twAt m j).page == -1 || frB m (twAt m j).page (twAt m j).place)
def plCa (m:Mc) (j:Int):Int:=if j=-1 then -1 else plTw m j
theorem frB_bound {m:Mc} {i k:Int} (h:frB m i k=true):∃a:Nat,i=(a:Int)∧a<m.pages.length∧0≤k∧(framesTo m.pages a:Int)+k<(framesN m.pages:Int):=by
  obtain⟨a,b,ha,rfl,rfl,hb⟩:=fr_of h
  refine⟨a,rfl,ha,by omega,?_⟩
  have h1:=framesTo_succ ha
  have h2:=framesTo_leN m.pages (k:=a+1) ha
  omega
set_option maxRecDepth 100000 in
set_option maxHeartbeats 4000000 in
theorem ofFrame_any (vp vo vt vs vl:Value) (m:Mc) (i:Nat) (k:Int) (w:World) (h:Pl w vp vo vt vs vl m) (hi:i<m.pages.length) (hk0:-1≤k) (hk1:k≤1099511627776) :
    Calls Tryz.prog 163 #[.agg (mcCells vp vo vt vs m ++ [vl,.int .i64 (framesN m.pages:Int)]).toArray,.int .i64 (i:Int),.int .i64 k] w fun e w'=>e=.returned (.int .i64 (plFr m (i:Int) k))∧Below w.heap.size w w':=by
  obtain⟨hM,hL,hN,hTn⟩:=h
  obtain⟨ap,cp,hvp,hlp,hcp⟩:=id hM.p
  obtain⟨ao,co,hvo⟩:=hM.o.shape
  obtain⟨at',ct,hvt,hlt',hct⟩:=id hM.t
  obtain⟨as',cs,hvs⟩:=hM.s.shape
  obtain⟨al,cl,hvl,hll,hcl⟩:=id hL
  subst hvp hvo hvt hvs hvl
  unfold mcCells
  simp only[List.cons_append,List.nil_append]
  go_enter Tryz.func163,Tryz.ntmps163
  go_upto_region 1 with fail
  refine wp_gen (fun W=>Below w.heap.size w W∧Bx W w.heap.size 128 [.int .i64 m.cells,.slice ap m.pages.length cp,.slice ao m.order.length co,.int .i64 m.now,.slice at' m.twins.length ct,.int .i64 m.born,.slice as' m.said.length cs,.int .i64 m.code,.slice al (lows m.pages).length cl,.int .i64 (framesN m.pages:Int)]) ⟨(Below.refl _ _).alloc (Nat.le_refl _) _,Bx.new w _ _⟩ ?_
  rintro W ⟨hb,hx⟩
  obtain⟨⟨x0,x1,x2,x3,x4,x5,x6,x7,x8,x9⟩,_⟩:=bx10 hx
  have hil:i<(lows m.pages).length:=by rw[lows_length];exact hi
  obtain⟨b,o,hal,c0⟩:=hcl i hil
  subst hal
  have d0:=cell_below hb c0
  rw[lows_at] at d0
  have hiz:(i:Int)<((lows m.pages).length:Int):=by omega
  have hfl:=framesTo_leN m.pages (k:=i) (by omega)
  have HE:Hid (plFr m (i:Int) k=(framesTo m.pages i:Int)+k):=by show _=_;unfold plFr;rw[Int.toNat_natCast]
  obtain⟨F,hF⟩:∃F,framesTo m.pages i=F:=⟨_,rfl⟩
  rw[hF] at d0 HE hfl
  have hFb:F≤1099511627776:=by omega
  clear hF hcl c0
  go_wp2
  go_ret
  exact⟨ret_int HE.out.symm,hb⟩
set_option maxRecDepth 100000 in
set_option maxHeartbeats 4000000 in
theorem ofTwin_any (vp vo vt vs vl:Value) (m:Mc) (j:Int) (w:World) (h:Pl w vp vo vt vs vl m) (hj:tellB m j=true) :
    Calls Tryz.prog 165 #[.agg (mcCells vp vo vt vs m ++ [vl,.int .i64 (framesN m.pages:Int)]).toArray,.int .i64 j] w fun e w'=>e=.returned (.int .i64 (plTw m j))∧Below w.heap.size w w':=by
  unfold tellB at hj
  obtain⟨hj1,hj2⟩:=Bool.and_eq_true_iff.1 hj
  obtain⟨q,rfl,hq⟩:=tw_of hj1
  rw[twAt_at hq] at hj2
  have HE0:Hid (plTw m (q:Int)=if m.twins[q].page=-1 then(framesN m.pages:Int)+(q:Int) else plFr m m.twins[q].page m.twins[q].place):=by show _=_;unfold plTw;rw[twAt_at hq]
  have hPl:=h
  clear hj hj1
  obtain⟨hM,hL,hN,hTn⟩:=h
  obtain⟨ap,cp,hvp,hlp,hcp⟩:=id hM.p
  obtain⟨ao,co,hvo⟩:=hM.o.shape
  obtain⟨at',ct,hvt,hlt',hct⟩:=id hM.t
  obtain⟨as',cs,hvs⟩:=hM.s.shape
  obtain⟨al,cl,hvl,hll,hcl⟩:=id hL
  subst hvp hvo hvt hvs hvl
  unfold mcCells
  simp only[List.cons_append,List.nil_append]
  go_enter Tryz.func165,Tryz.ntmps165
  go_upto_region 1 with fail
  refine wp_gen (fun W=>Below w.heap.size w W∧Bx W w.heap.size 128 [.int .i64 m.cells,.slice ap m.pages.length cp,.slice ao m.order.length co,.int .i64 m.now,.slice at' m.twins.length ct,.int .i64 m.born,.slice as' m.said.length cs,.int .i64 m.code,.slice al (lows m.pages).length cl,.int .i64 (framesN m.pages:Int)]) ⟨(Below.refl _ _).alloc (Nat.le_refl _) _,Bx.new w _ _⟩ ?_
  rintro W ⟨hb,hx⟩
  obtain⟨⟨x0,x1,x2,x3,x4,x5,x6,x7,x8,x9⟩,_⟩:=bx10 hx
  obtain⟨b,o,vt',vs',hat,htw⟩:=hct q hq
  subst hat
  obtain⟨T,hT⟩:∃T,m.twins[q]=T:=⟨_,rfl⟩
  rw[hT] at htw HE0 hj2
  obtain⟨d0,d1,d2,d3,d4,d5,d6,d7,dt,ds⟩:=htw.below hb
  obtain⟨a1,k1,e1⟩:=dt.shape
  obtain⟨a2,k2,e2⟩:=ds.shape
  rw[e1] at d4
  rw[e2] at d5
  have hqz:(q:Int)<(m.twins.length:Int):=by omega
  have zb:=hb.size
  clear hct htw dt ds e1 e2 hT hcl hcp
  go_upto_region 2 with fail
  refine wp_gen (fun W'=>Below W.heap.size W W'∧Bx W' W.heap.size 90 [.int .i64 T.page,.int .i64 T.place,.int .i64 T.left.m,.int .i64 T.left.pc,.slice a1 T.left.temps.length k1,.slice a2 T.left.stack.length k2,.int .i64 T.left.sender,.bool T.left.dead]) ⟨(Below.refl _ _).alloc (Nat.le_refl _) _,Bx.new _ _ _⟩ ?_
  rintro W2 ⟨t2,y2⟩
  have hb2:=hb.trans (t2.mono zb)
  have hx2:=hx.below t2
  have z2:=hb2.size
  clear hb hx t2 zb d0 d1 d2 d3 d4 d5 d6 d7 x0 x1 x2 x3 x4 x5 x6 x7 x8 x9
  obtain⟨⟨x0,x1,x2,x3,x4,x5,x6,x7,x8,x9⟩,_⟩:=bx10 hx2
  have y0:=y2.cell 0 rfl
  have y1:=y2.cell 1 rfl
  by_cases hp:T.page=-1
  · have HE:Hid (plTw m (q:Int)=(framesN m.pages:Int)+(q:Int)):=by show _=_;rw[HE0.out,if_pos hp]
    rw[hp] at y0
    go_wp2
    go_ret
    exact⟨ret_int HE.out.symm,hb2⟩
  have hpe:(T.page == -1)=false:=by simpa using hp
  rw[hpe,Bool.false_or] at hj2
  obtain⟨a,ha,hal,hk0,hk1⟩:=frB_bound hj2
  have HE:Hid (plTw m (q:Int)=plFr m (a:Int) T.place):=by show _=_;rw[HE0.out,if_neg hp,ha]
  rw[ha] at y0 hpe
  have HC:=ofFrame_any _ _ _ _ _ m a T.place W2 (hPl.below hb2) hal (by omega) (by omega)
  unfold mcCells at HC
  simp only[List.cons_append,List.nil_append] at HC
  clear HE0 hj2 hp ha
  go_wp2_with fail
  refine HC.mono ?_
  rintro e W3 ⟨rfl,t3⟩
  have hb3:=hb2.trans (t3.mono z2)
  go_wp2
  go_ret
  exact⟨ret_int HE.out.symm,hb3⟩
set_option maxRecDepth 100000 in
set_option maxHeartbeats 4000000 in
theorem ofCaller_any (vp vo vt vs vl:Value) (m:Mc) (j:Int) (w:World) (h:Pl w vp vo vt vs vl m) (hj:(j == -1 || tellB m j)=true) :
    Calls Tryz.prog 164 #[.agg (mcCells vp vo vt vs m ++ [vl,.int .i64 (framesN m.pages:Int)]).toArray,.int .i64 j] w fun e w'=>e=.returned (.int .i64 (plCa m j))∧Below w.heap.size w w':=by
  have hPl:=h
  obtain⟨hM,hL,hN,hTn⟩:=h
  obtain⟨ap,cp,hvp,hlp,hcp⟩:=id hM.p
  obtain⟨ao,co,hvo⟩:=hM.o.shape
  obtain⟨at',ct,hvt,hlt',hct⟩:=id hM.t
  obtain⟨as',cs,hvs⟩:=hM.s.shape
  obtain⟨al,cl,hvl,hll,hcl⟩:=id hL
  subst hvp hvo hvt hvs hvl
  unfold mcCells
  simp only[List.cons_append,List.nil_append]
  go_enter Tryz.func164,Tryz.ntmps164
  go_upto_region 1 with fail
  refine wp_gen (fun W=>Below w.heap.size w W∧Bx W w.heap.size 128 [.int .i64 m.cells,.slice ap m.pages.length cp,.slice ao m.order.length co,.int .i64 m.now,.slice at' m.twins.length ct,.int .i64 m.born,.slice as' m.said.length cs,.int .i64 m.code,.slice al (lows m.pages).length cl,.int .i64 (framesN m.pages:Int)]) ⟨(Below.refl _ _).alloc (Nat.le_refl _) _,Bx.new w _ _⟩ ?_
  rintro W ⟨hb,hx⟩
  obtain⟨⟨x0,x1,x2,x3,x4,x5,x6,x7,x8,x9⟩,_⟩:=bx10 hx
  have zb:=hb.size
  by_cases h1:j=-1
  · subst h1
    go_wp2
    go_ret
    exact⟨rfl,hb⟩
  have hje:(j == -1)=false:=by simpa using h1
  rw[hje,Bool.false_or] at hj
  have HE:Hid (plCa m j=plTw m j):=by show _=_;unfold plCa;rw[if_neg h1]
  have HC:=ofTwin_any _ _ _ _ _ m j W (hPl.below hb) hj
  unfold mcCells at HC
  simp only[List.cons_append,List.nil_append] at HC
  clear hj
  go_wp2_with fail
  refine HC.mono ?_
  rintro e W3 ⟨rfl,t3⟩
  have hb3:=hb.trans (t3.mono zb)
  go_wp2
  go_ret
  exact⟨ret_int HE.out.symm,hb3⟩
def plNow (m:Mc):Int:=if inR m.now 0 ((m.pages.length:Int) - 1)=true∧(pgAt m m.now).frames.length≠0 then plFr m m.now (((pgAt m m.now).frames.length:Int) - 1) else -1
set_option maxRecDepth 100000 in
set_option maxHeartbeats 4000000 in
theorem ofRunning_any (vp vo vt vs vl:Value) (m:Mc) (w:World) (h:Pl w vp vo vt vs vl m) :
    Calls Tryz.prog 124 #[.agg (mcCells vp vo vt vs m ++ [vl,.int .i64 (framesN m.pages:Int)]).toArray] w fun e w'=>e=.returned (.int .i64 (plNow m))∧Below w.heap.size w w':=by
  have hPl:=h
  obtain⟨hM,hL,hN,hTn⟩:=h
  obtain⟨ap,cp,hvp,hlp,hcp⟩:=id hM.p
  obtain⟨ao,co,hvo⟩:=hM.o.shape
  obtain⟨at',ct,hvt,hlt',hct⟩:=id hM.t
  obtain⟨as',cs,hvs⟩:=hM.s.shape
  obtain⟨al,cl,hvl,hll,hcl⟩:=id hL
  subst hvp hvo hvt hvs hvl
  unfold mcCells
  simp only[List.cons_append,List.nil_append]
  go_enter Tryz.func124,Tryz.ntmps124
  go_upto_region 1 with fail
  refine wp_gen (fun W=>Below w.heap.size w W∧Bx W w.heap.size 128 [.int .i64 m.cells,.slice ap m.pages.length cp,.slice ao m.order.length co,.int .i64 m.now,.slice at' m.twins.length ct,.int .i64 m.born,.slice as' m.said.length cs,.int .i64 m.code,.slice al (lows m.pages).length cl,.int .i64 (framesN m.pages:Int)]) ⟨(Below.refl _ _).alloc (Nat.le_refl _) _,Bx.new w _ _⟩ ?_
  rintro W ⟨hb,hx⟩
  obtain⟨⟨x0,x1,x2,x3,x4,x5,x6,x7,x8,x9⟩,_⟩:=bx10 hx
  have zb:=hb.size
  obtain⟨f,hf⟩:∃f,inR m.now 0 ((m.pages.length:Int) - 1)=f:=⟨_,rfl⟩
  have HP:=isPlace_any m.now m.pages.length W
  rw[hf] at HP
  go_wp2_with fail
  refine HP.mono ?_
  rintro e W1 ⟨rfl,hw⟩
  obtain rfl:=hw.symm
  clear hw HP
  cases f
  · have HE:Hid (plNow m=-1):=by show _=_;unfold plNow;rw[hf];simp
    go_wp2
    go_ret
    exact⟨ret_int HE.out.symm,hb⟩
  obtain⟨i,hi,hil⟩:=pg_of hf
  obtain⟨bp,op,vf,hap,hpg⟩:=hcp i hil
  subst hap
  obtain⟨af,cf,hvf⟩:=hpg.f.shape
  have g1:=cell_below hb hpg.c1
  rw[hvf] at g1
  have HE0:Hid (plNow m=if m.pages[i].frames.length≠0 then plFr m (i:Int) ((m.pages[i].frames.length:Int) - 1) else -1):=by show _=_;unfold plNow;rw[hf,hi,pgAt_at hil];simp
  have hsu:=framesTo_succ hil
  have hsl:=framesTo_leN m.pages (k:=i+1) hil
  have HI:Hid (m.now=(i:Int)):=hi
  rw[hi] at x3 ⊢
  obtain⟨nf,hnf⟩:∃nf,m.pages[i].frames.length=nf:=⟨_,rfl⟩
  rw[hnf] at g1 HE0 hsu
  have hnb:nf≤1099511627776:=by omega
  have hiz:(i:Int)<(m.pages.length:Int):=by omega
  clear hcp hpg hvf hnf hsu hsl hcl hct hi hf
  by_cases h0:nf=0
  · have HE:Hid (plNow m=-1):=by show _=_;rw[HE0.out,h0];simp
    rw[h0] at g1
    go_wp2
    go_ret
    exact⟨ret_int HE.out.symm,hb⟩
  have h0z:¬((nf:Int)=0):=by omega
  have hwn:IntKind.i64.wrap ((nf:Int) - 1)=(nf:Int) - 1:=by rw[IntKind.wrap_i64];omega
  have HE:Hid (plNow m=plFr m (i:Int) ((nf:Int) - 1)):=by show _=_;rw[HE0.out,if_pos h0]
  clear HE0
  go_upto_region 4 with fail
  have HC:=quiet_of_below (W:=W) fun W' (hW:Below W.heap.size W W')=>ofFrame_any _ _ _ _ _ m i ((nf:Int) - 1) W' ((hPl.below hb).below hW) hil (by omega) (by omega)
  unfold mcCells at HC
  simp only[List.cons_append,List.nil_append] at HC
  rw[HI.out] at HC
  have L0:=Gr.cell x0
  have L1:=Gr.cell x1
  have L2:=Gr.cell x2
  have L3:=Gr.cell x3
  have L4:=Gr.cell x4
  have L5:=Gr.cell x5
  have L6:=Gr.cell x6
  have L7:=Gr.cell x7
  have L8:=Gr.cell x8
  have L9:=Gr.cell x9
  have G1:=Gr.cell g1
  clear x0 x1 x2 x3 x4 x5 x6 x7 x8 x9 g1
  refine WQ.region (by kernel_rfl) (by kernel_rfl) ?_
  iterate 13 (refine WQ.step (fun K hK=>?_);go_simp;first
    | (with_reducible refine hK _ ?_;clear hK K)
    | (with_reducible refine quiet_eq ?_;refine hK _ ?_;clear hK K)
    | (simp(contextual:=true) only [L0,L1,L2,L3,L4,L5,L6,L7,L8,L9,G1,Result.andThen_ok,true_and];with_reducible refine quiet_eq ?_;refine hK _ ?_;clear hK K)
    | (with_reducible refine quiet_call HC ?_;refine hK _ ?_;clear hK K))
  refine WQ.nil ?_
  intro W3 hG3
  have hb3:=hb.trans (hG3.to.mono zb)
  clear hG3 HC L0 L1 L2 L3 L4 L5 L6 L7 L8 L9 G1
  go_wp2
  go_ret
  exact⟨ret_int HE.out.symm,hb3⟩
end Go.Proofs.YtjbgpcileapogaaGreat

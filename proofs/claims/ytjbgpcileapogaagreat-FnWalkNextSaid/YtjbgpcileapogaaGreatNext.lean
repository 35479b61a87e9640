/-
  The operation that is next: both sides' HeapNext, whatever program and heap come in.
-/
import Derived.Test.YtjbgpcileapogaaGreatLStep1
import Derived.Test.YtjbgpcileapogaaGreatHHeapOk
import Derived.Test.YtjbgpcileapogaaGreatRunPlain
import Derived.Test.YtjbgpcileapogaaGreatHImpl5
import Derived.Deep.RegionHeld3
namespace Go.Proofs.YtjbgpcileapogaaGreat
open Go.RowKit
def runsH (ms:Ms) (h:Hp):Bool:=heapOk ms h && decide (h.code=0)
def nextOf (ms:Ms) (h:Hp):Int × Int:=if runsH ms h=true then(ms.getD (curC h).m.toNat (0,0,[])).2.2.getD (curC h).pc.toNat (0,0) else(0,0)
def hasNext (ms:Ms) (h:Hp):Bool:=runsH ms h && decide ((curC h).pc.toNat<(ms.getD (curC h).m.toNat (0,0,[])).2.2.length)
theorem next_not {ms:Ms} {h:Hp} (hr:runsH ms h=false):nextOf ms h=(0,0)∧hasNext ms h=false:=by
  unfold nextOf hasNext
  rw[hr]
  exact⟨if_neg Bool.false_ne_true,rfl⟩
theorem next_at {ms:Ms} {h:Hp} (ho:heapOk ms h=true) (hc:h.code=0):∃(j m pc:Nat) (hj:j<h.calls.length) (hm:m<ms.length),h.now=(j:Int)∧h.calls[j].m=(m:Int)∧h.calls[j].pc=(pc:Int) ∧
    nextOf ms h=ms[m].2.2.getD pc (0,0)∧hasNext ms h=decide (pc<ms[m].2.2.length):=by
  have hg:=good_iff.1 ho
  have hr:runsH ms h=true:=by unfold runsH;rw[ho,hc];rfl
  have hn0:0≤h.now:=by
    by_cases h':h.now<0
    · have:=hg.head.fin.2 h'
      omega
    · omega
  have hnl:=hg.head.now.2
  obtain⟨j,hj⟩:=Int.eq_ofNat_of_zero_le hn0
  have hjl:j<h.calls.length:=by omega
  have hcl:=hg.cl j hjl
  obtain⟨m,hm⟩:=Int.eq_ofNat_of_zero_le hcl.m.1
  obtain⟨pc,hpc⟩:=Int.eq_ofNat_of_zero_le hcl.pc.1
  have hml:m<ms.length:=by have:=hcl.m.2;omega
  have hcur:curC h=h.calls[j]:=by unfold curC;rw[hj];simp[hjl]
  refine⟨j,m,pc,hjl,hml,hj,hm,hpc,?_,?_⟩
  · unfold nextOf
    rw[if_pos hr,hcur,hm,hpc]
    simp[hml]
  · unfold hasNext
    rw[hr,hcur,hm,hpc]
    simp[hml]
set_option maxRecDepth 100000 in
set_option maxHeartbeats 2000000 in
theorem l32Op_any (vp:Value) (ms:Ms) (m pc:Nat) (w:World) (hM:MethsAt w vp ms) (hm:m<ms.length) :
    Calls Tryz.prog 44 #[.agg #[vp],.int .i64 m,.int .i64 pc] w fun e w'=>e=.returned (.tuple #[.agg #[.int .i64 (ms[m].2.2.getD pc (0,0)).1,.int .i64 (ms[m].2.2.getD pc (0,0)).2],.bool (decide (pc<ms[m].2.2.length))])∧Below w.heap.size w w':=by
  have hA:Below w.heap.size w ((w.alloc (.cells #[vp] 25)).alloc (.cells #[.int .i64 0,.int .i64 0] 33)):=((Below.refl _ _).alloc (Nat.le_refl _) _).alloc (by simp) _
  have hMA:=hM.below hA
  obtain⟨ap,cp,hvp,hlp,hms⟩:=id hMA
  obtain⟨pb,po,vo,hap,p0,p1,p2,p3⟩:=hms m hm
  obtain⟨oa,oc,hvo,hol,hops⟩:=id p3
  subst hvp hap hvo
  have r1:=two_new (w.alloc (.cells #[.slice (some ⟨pb,po,none⟩) ms.length cp] 25)) 33 (.int .i64 0) (.int .i64 0)
  simp only[World.size_alloc] at r1
  have hmz:(m:Int)<(ms.length:Int):=by omega
  clear hms hM hMA
  have r0:=(box_row w 25 (.slice (some ⟨pb,po,none⟩) ms.length cp)).alloc (.cells #[.int .i64 0,.int .i64 0] 33)
  by_cases hpl:pc<ms[m].2.2.length
  · rw[decide_eq_true hpl,getD_at hpl]
    obtain⟨ob,oo,hob,q0,q1⟩:=hops pc hpl
    subst hob
    have hpz:(pc:Int)<(ms[m].2.2.length:Int):=by omega
    clear hops p3
    generalize ms[m].2.2[pc]=op at *
    obtain⟨kk,a⟩:=op
    generalize ms[m].2.2.length=no at *
    go_enter Tryz.func44,Tryz.ntmps44
    go_upto_region 1 with fail
    generalize (w.alloc (.cells #[.slice (some ⟨pb,po,none⟩) ms.length cp] 25)).alloc (.cells #[.int .i64 0,.int .i64 0] 33)=W at *
    obtain⟨⟨u0,u1⟩,uf0,uf1⟩:=two_cells r1
    have v0:=r0.cell (i:=0) (by decide)
    go_wp2
    have R9:((W.setCell ⟨w.heap.size+1,0,none⟩ (.int .i64 kk)).setCell ⟨w.heap.size+1,1,none⟩ (.int .i64 a)).rowIs (w.heap.size+1) 33 2 (two (.int .i64 kk) (.int .i64 a)):=((two_set0 r1 (.int .i64 kk)).set 1 (.int .i64 a)).congr fun i hi=>by match i,hi with | 0,_=>rfl | 1,_=>rfl
    have B9:Below w.heap.size w ((W.setCell ⟨w.heap.size+1,0,none⟩ (.int .i64 kk)).setCell ⟨w.heap.size+1,1,none⟩ (.int .i64 a)):=(hA.setCell (p:=⟨w.heap.size+1,0,none⟩) (Nat.le_succ _) _).setCell (p:=⟨w.heap.size+1,1,none⟩) (Nat.le_succ _) _
    obtain⟨⟨s0,s1⟩,_⟩:=two_cells R9
    generalize (W.setCell ⟨w.heap.size+1,0,none⟩ (.int .i64 kk)).setCell ⟨w.heap.size+1,1,none⟩ (.int .i64 a)=W9 at *
    exact bodyPost_ret (v:=.tuple #[.agg #[.int .i64 kk,.int .i64 a],.bool true]) (by simp[results,Tryz.results44,go_sem,s0,s1]) rfl ⟨rfl,B9⟩
  · rw[decide_eq_false hpl,List.getD_eq_getElem?_getD,List.getElem?_eq_none (by omega)]
    have hpz:¬(pc:Int)<(ms[m].2.2.length:Int):=by omega
    have hpz2:(ms[m].2.2.length:Int)≤(pc:Int):=by omega
    clear hops
    generalize ms[m].2.2.length=no at *
    go_enter Tryz.func44,Tryz.ntmps44
    go_upto_region 1 with fail
    generalize (w.alloc (.cells #[.slice (some ⟨pb,po,none⟩) ms.length cp] 25)).alloc (.cells #[.int .i64 0,.int .i64 0] 33)=W at *
    obtain⟨⟨u0,u1⟩,uf0,uf1⟩:=two_cells r1
    have v0:=r0.cell (i:=0) (by decide)
    go_wp2
    have R9:((W.setCell ⟨w.heap.size+1,0,none⟩ (.int .i64 0)).setCell ⟨w.heap.size+1,1,none⟩ (.int .i64 0)).rowIs (w.heap.size+1) 33 2 (two (.int .i64 0) (.int .i64 0)):=((two_set0 r1 (.int .i64 0)).set 1 (.int .i64 0)).congr fun i hi=>by match i,hi with | 0,_=>rfl | 1,_=>rfl
    have B9:Below w.heap.size w ((W.setCell ⟨w.heap.size+1,0,none⟩ (.int .i64 0)).setCell ⟨w.heap.size+1,1,none⟩ (.int .i64 0)):=(hA.setCell (p:=⟨w.heap.size+1,0,none⟩) (Nat.le_succ _) _).setCell (p:=⟨w.heap.size+1,1,none⟩) (Nat.le_succ _) _
    obtain⟨⟨s0,s1⟩,_⟩:=two_cells R9
    generalize (W.setCell ⟨w.heap.size+1,0,none⟩ (.int .i64 0)).setCell ⟨w.heap.size+1,1,none⟩ (.int .i64 0)=W9 at *
    exact bodyPost_ret (v:=.tuple #[.agg #[.int .i64 0,.int .i64 0],.bool false]) (by simp[results,Tryz.results44,go_sem,s0,s1]) rfl ⟨rfl,B9⟩
set_option maxRecDepth 100000 in
set_option maxHeartbeats 4000000 in
theorem specHeapNext_any (vp vc vs:Value) (ms:Ms) (h:Hp) (w:World) (hp:MethsAt w vp ms) (hh:HeapAt w vc vs h) (hn:h.calls.length≤1048576) :
    Calls Tryz.prog 9 #[.agg #[vp],.agg (hpCells vc vs h)] w fun e w'=>e=.returned (.tuple #[.agg #[.int .i64 (nextOf ms h).1,.int .i64 (nextOf ms h).2],.bool (hasNext ms h)])∧Below w.heap.size w w':=by
  obtain⟨ac,kc,hvc⟩:=hh.c.shape
  obtain⟨aD,kD,hvs⟩:=hh.s.shape
  obtain⟨ap,cp,hvp,hlp,_⟩:=id hp
  subst hvc hvs hvp
  unfold hpCells
  obtain⟨⟨na,nb⟩,hnab⟩:∃q:Int × Int,nextOf ms h=q:=⟨_,rfl⟩
  obtain⟨nz,hnz⟩:∃q:Bool,hasNext ms h=q:=⟨_,rfl⟩
  rw[hnab,hnz]
  have HNX:Hid (nextOf ms h=(na,nb)∧hasNext ms h=nz):=⟨hnab,hnz⟩
  clear hnab hnz
  dsimp only
  have hA:Below w.heap.size w (((w.alloc (.cells #[.slice ap ms.length cp] 25)).alloc (.cells #[.slice ac h.calls.length kc,.int .i64 h.now,.int .i64 h.born,.slice aD h.said.length kD,.int .i64 h.code] 29)).alloc (.cells #[.int .i64 0,.int .i64 0] 33)):=(((Below.refl _ _).alloc (Nat.le_refl _) _).alloc (by simp) _).alloc (by simp;omega) _
  have bp:=((box_row w 25 (.slice ap ms.length cp)).alloc (.cells #[.slice ac h.calls.length kc,.int .i64 h.now,.int .i64 h.born,.slice aD h.said.length kD,.int .i64 h.code] 29)).alloc (.cells #[.int .i64 0,.int .i64 0] 33)
  have bh:=(five_new (w.alloc (.cells #[.slice ap ms.length cp] 25)) 29 (.slice ac h.calls.length kc) (.int .i64 h.now) (.int .i64 h.born) (.slice aD h.said.length kD) (.int .i64 h.code)).alloc (.cells #[.int .i64 0,.int .i64 0] 33)
  have bo:=two_new ((w.alloc (.cells #[.slice ap ms.length cp] 25)).alloc (.cells #[.slice ac h.calls.length kc,.int .i64 h.now,.int .i64 h.born,.slice aD h.said.length kD,.int .i64 h.code] 29)) 33 (.int .i64 0) (.int .i64 0)
  simp only[World.size_alloc] at bh bo
  go_enter Tryz.func9,Tryz.ntmps9
  go_upto_region 1 with fail
  generalize ((w.alloc (.cells #[.slice ap ms.length cp] 25)).alloc (.cells #[.slice ac h.calls.length kc,.int .i64 h.now,.int .i64 h.born,.slice aD h.said.length kD,.int .i64 h.code] 29)).alloc (.cells #[.int .i64 0,.int .i64 0] 33)=W0 at *
  have z0:=hA.size
  have HOK:=specHeapOk_any _ _ _ ms h W0 (hp.below hA) (hh.below hA) hn
  obtain⟨fb,hfb⟩:∃fb,heapOk ms h=fb:=⟨_,rfl⟩
  have HFB:Hid (heapOk ms h=fb):=hfb
  rw[hfb] at HOK
  clear hfb
  unfold hpCells at HOK
  have v0:=bp.cell (i:=0) (by decide)
  obtain⟨⟨x0,x1,x2,x3,x4⟩,_⟩:=five_cells bh
  go_wp2_with fail
  refine HOK.mono ?_
  rintro e w1 ⟨rfl,hb1⟩
  have B1:=hA.trans (hb1.mono z0)
  have bp1:=row_below hb1 bp
  have bh1:=row_below hb1 bh
  have bo1:=row_below hb1 bo
  have z1:=hb1.size
  clear HOK x0 x1 x2 x3 x4 v0 bp bh bo hb1 hA
  have v0:=bp1.cell (i:=0) (by decide)
  obtain⟨⟨x0,x1,x2,x3,x4⟩,_⟩:=five_cells bh1
  obtain⟨⟨u0,u1⟩,uf0,uf1⟩:=two_cells bo1
  have HZ:((w1.setCell ⟨w.heap.size+2,0,none⟩ (.int .i64 0)).setCell ⟨w.heap.size+2,1,none⟩ (.int .i64 0)).rowIs (w.heap.size+2) 33 2 (two (.int .i64 0) (.int .i64 0)):=((two_set0 bo1 (.int .i64 0)).set 1 (.int .i64 0)).congr fun i hi=>by match i,hi with | 0,_=>rfl | 1,_=>rfl
  have BZ:Below w.heap.size w ((w1.setCell ⟨w.heap.size+2,0,none⟩ (.int .i64 0)).setCell ⟨w.heap.size+2,1,none⟩ (.int .i64 0)):=(B1.setCell (p:=⟨w.heap.size+2,0,none⟩) (by show w.heap.size≤w.heap.size+2;omega) _).setCell (p:=⟨w.heap.size+2,1,none⟩) (by show w.heap.size≤w.heap.size+2;omega) _
  cases fb
  · have HE:Hid (nextOf ms h=(0,0)∧hasNext ms h=false):=next_not (by unfold runsH;rw[HFB.out];rfl)
    obtain⟨rfl,rfl⟩:na=0∧nb=0:=by have e:=HNX.out.1;rw[HE.out.1] at e;injection e with e1 e2;exact⟨e1.symm,e2.symm⟩
    obtain rfl:nz=false:=by rw[←HNX.out.2,HE.out.2]
    go_wp2
    obtain⟨⟨s0,s1⟩,_⟩:=two_cells HZ
    generalize (w1.setCell ⟨w.heap.size+2,0,none⟩ (.int .i64 0)).setCell ⟨w.heap.size+2,1,none⟩ (.int .i64 0)=W9 at *
    exact bodyPost_ret (v:=.tuple #[.agg #[.int .i64 0,.int .i64 0],.bool false]) (by simp[results,Tryz.results9,go_sem,s0,s1]) rfl ⟨rfl,BZ⟩
  by_cases hc:h.code=0
  case neg =>
    have HE:Hid (nextOf ms h=(0,0)∧hasNext ms h=false):=next_not (by unfold runsH;rw[HFB.out,decide_eq_false hc];rfl)
    obtain⟨rfl,rfl⟩:na=0∧nb=0:=by have e:=HNX.out.1;rw[HE.out.1] at e;injection e with e1 e2;exact⟨e1.symm,e2.symm⟩
    obtain rfl:nz=false:=by rw[←HNX.out.2,HE.out.2]
    go_wp2
    obtain⟨⟨s0,s1⟩,_⟩:=two_cells HZ
    generalize (w1.setCell ⟨w.heap.size+2,0,none⟩ (.int .i64 0)).setCell ⟨w.heap.size+2,1,none⟩ (.int .i64 0)=W9 at *
    exact bodyPost_ret (v:=.tuple #[.agg #[.int .i64 0,.int .i64 0],.bool false]) (by simp[results,Tryz.results9,go_sem,s0,s1]) rfl ⟨rfl,BZ⟩
  clear HZ BZ
  obtain⟨j,m,pc,hj,hm,en,em,ep,e1,e2⟩:=next_at HFB.out hc
  rw[hc] at x4
  rw[en] at x1
  have hnab:=e1.symm.trans HNX.out.1
  have hnz:=e2.symm.trans HNX.out.2
  clear e1 e2 hc
  obtain⟨ac',kc',hvc',_,hcl⟩:=id hh.c
  injection hvc' with hvc1 _ hvc2
  subst hvc1 hvc2
  obtain⟨b,o,vt,vs',rfl,hk0⟩:=hcl j hj
  have hbl:b<w.heap.size:=World.block_lt_of_cell? _ _ hk0.c0
  have hbne:b≠w.heap.size+1+1:=by omega
  have hk:=hk0.below B1
  obtain⟨k0,k1,k2,k3,k4,k5,kt,ks⟩:=hk
  rw[em] at k0
  rw[ep] at k1
  obtain⟨ta,tc,hvt⟩:=kt.shape
  obtain⟨sa,sc,hvs⟩:=ks.shape
  subst hvt hvs
  clear hcl hk0 kt ks
  have hjz:(j:Int)<(h.calls.length:Int):=by omega
  have HC:=l32Op_any _ ms m pc w1.drew ((hp.below B1).below (Below.refl _ _).drew) hm
  rw[hnab,hnz] at HC
  clear hnab hnz en em ep k2 k3 k4 k5 x2 x3
  dsimp only at HC
  have bod:w1.drew.rowIs (w.heap.size+2) 33 2 (two (.int .i64 0) (.int .i64 0)):=bo1
  go_wp2_with fail
  go_region_held3 (fun w'=>w'.cell? ⟨w.heap.size,0,none⟩=some (.slice ap ms.length cp)∧w'.cell? ⟨w.heap.size+1,0,none⟩=some (.slice (some ⟨b,o,none⟩) h.calls.length kc)∧w'.cell? ⟨w.heap.size+1,1,none⟩=some (.int .i64 (j:Int))∧w'.cell? ⟨b,o+j * 6,none⟩=some (.int .i64 (m:Int))∧w'.cell? ⟨b,o+j * 6+1,none⟩=some (.int .i64 (pc:Int)))
    (first | with_reducible exact SS | with_reducible exact SZ | go_keep)
    ((go_at_call 44;refine HC.mono ?_;rintro e w2 ⟨rfl,hb2⟩;have bo2:=row_below hb2 bod;obtain⟨⟨t0,t1⟩,tf0,tf1⟩:=two_cells bo2;have SS:w2.cell? ⟨w.heap.size,0,none⟩=some (.slice ap ms.length cp)∧w2.cell? ⟨w.heap.size+1,0,none⟩=some (.slice (some ⟨b,o,none⟩) h.calls.length kc)∧w2.cell? ⟨w.heap.size+1,1,none⟩=some (.int .i64 (j:Int))∧w2.cell? ⟨b,o+j * 6,none⟩=some (.int .i64 (m:Int))∧w2.cell? ⟨b,o+j * 6+1,none⟩=some (.int .i64 (pc:Int)):=⟨cell_below hb2 (show w1.drew.cell? _=_ from v0),cell_below hb2 (show w1.drew.cell? _=_ from x0),cell_below hb2 (show w1.drew.cell? _=_ from x1),cell_below hb2 (show w1.drew.cell? _=_ from k0),cell_below hb2 (show w1.drew.cell? _=_ from k1)⟩;have hst:∀q,q≠w.heap.size+1+1→((w2.setCell ⟨w.heap.size+1+1,0,none⟩ (.int .i64 na)).setCell ⟨w.heap.size+1+1,1,none⟩ (.int .i64 nb)).heap[q]?=w2.heap[q]?:=fun q hq=>(Below.heap_setCell _ _ _ _ hq).trans (Below.heap_setCell _ _ _ _ hq);have SZ:((w2.setCell ⟨w.heap.size+1+1,0,none⟩ (.int .i64 na)).setCell ⟨w.heap.size+1+1,1,none⟩ (.int .i64 nb)).cell? ⟨w.heap.size,0,none⟩=some (.slice ap ms.length cp)∧((w2.setCell ⟨w.heap.size+1+1,0,none⟩ (.int .i64 na)).setCell ⟨w.heap.size+1+1,1,none⟩ (.int .i64 nb)).cell? ⟨w.heap.size+1,0,none⟩=some (.slice (some ⟨b,o,none⟩) h.calls.length kc)∧((w2.setCell ⟨w.heap.size+1+1,0,none⟩ (.int .i64 na)).setCell ⟨w.heap.size+1+1,1,none⟩ (.int .i64 nb)).cell? ⟨w.heap.size+1,1,none⟩=some (.int .i64 (j:Int))∧((w2.setCell ⟨w.heap.size+1+1,0,none⟩ (.int .i64 na)).setCell ⟨w.heap.size+1+1,1,none⟩ (.int .i64 nb)).cell? ⟨b,o+j * 6,none⟩=some (.int .i64 (m:Int))∧((w2.setCell ⟨w.heap.size+1+1,0,none⟩ (.int .i64 na)).setCell ⟨w.heap.size+1+1,1,none⟩ (.int .i64 nb)).cell? ⟨b,o+j * 6+1,none⟩=some (.int .i64 (pc:Int)):=⟨(World.cell?_of_block (a:=⟨w.heap.size,0,none⟩) (hst w.heap.size (by omega))).trans SS.1,(World.cell?_of_block (a:=⟨w.heap.size+1,0,none⟩) (hst (w.heap.size+1) (by omega))).trans SS.2.1,(World.cell?_of_block (a:=⟨w.heap.size+1,1,none⟩) (hst (w.heap.size+1) (by omega))).trans SS.2.2.1,(World.cell?_of_block (a:=⟨b,o+j * 6,none⟩) (hst _ hbne)).trans SS.2.2.2.1,(World.cell?_of_block (a:=⟨b,o+j * 6+1,none⟩) (hst _ hbne)).trans SS.2.2.2.2⟩;clear hst))
  all_goals
    have B2:=B1.drew.trans (hb2.mono (show w.heap.size≤w1.heap.size by omega))
    have HZ:((w2.setCell ⟨w.heap.size+2,0,none⟩ (.int .i64 na)).setCell ⟨w.heap.size+2,1,none⟩ (.int .i64 nb)).rowIs (w.heap.size+2) 33 2 (two (.int .i64 na) (.int .i64 nb)):=((two_set0 bo2 (.int .i64 na)).set 1 (.int .i64 nb)).congr fun i hi=>by match i,hi with | 0,_=>rfl | 1,_=>rfl
    have BZ:Below w.heap.size w ((w2.setCell ⟨w.heap.size+2,0,none⟩ (.int .i64 na)).setCell ⟨w.heap.size+2,1,none⟩ (.int .i64 nb)):=(B2.setCell (p:=⟨w.heap.size+2,0,none⟩) (by show w.heap.size≤w.heap.size+2;omega) _).setCell (p:=⟨w.heap.size+2,1,none⟩) (by show w.heap.size≤w.heap.size+2;omega) _
    go_wp2
    obtain⟨⟨s0,s1⟩,_⟩:=two_cells HZ
    generalize (w2.setCell ⟨w.heap.size+2,0,none⟩ (.int .i64 na)).setCell ⟨w.heap.size+2,1,none⟩ (.int .i64 nb)=W9 at *
    exact bodyPost_ret (v:=.tuple #[.agg #[.int .i64 na,.int .i64 nb],.bool nz]) (by simp[results,Tryz.results9,go_sem,s0,s1]) rfl ⟨rfl,BZ⟩
set_option maxRecDepth 100000 in
set_option maxHeartbeats 4000000 in
theorem implHeapNext_any (vp vc vs:Value) (ms:Ms) (h:Hp) (w:World) (hp:MethsAt w vp ms) (hh:HeapAt w vc vs h) (hn:h.calls.length≤1048576) :
    Calls Tryz.prog 10 #[.agg #[vp],.agg (hpCells vc vs h)] w fun e w'=>e=.returned (.tuple #[.agg #[.int .i64 (nextOf ms h).1,.int .i64 (nextOf ms h).2],.bool (hasNext ms h)])∧Below w.heap.size w w':=by
  obtain⟨ac,kc,hvc⟩:=hh.c.shape
  obtain⟨aD,kD,hvs⟩:=hh.s.shape
  obtain⟨ap,cp,hvp,hlp,_⟩:=id hp
  subst hvc hvs hvp
  unfold hpCells
  obtain⟨⟨na,nb⟩,hnab⟩:∃q:Int × Int,nextOf ms h=q:=⟨_,rfl⟩
  obtain⟨nz,hnz⟩:∃q:Bool,hasNext ms h=q:=⟨_,rfl⟩
  rw[hnab,hnz]
  have HNX:Hid (nextOf ms h=(na,nb)∧hasNext ms h=nz):=⟨hnab,hnz⟩
  clear hnab hnz
  dsimp only
  have hA:Below w.heap.size w (((w.alloc (.cells #[.slice ap ms.length cp] 25)).alloc (.cells #[.slice ac h.calls.length kc,.int .i64 h.now,.int .i64 h.born,.slice aD h.said.length kD,.int .i64 h.code] 29)).alloc (.cells #[.int .i64 0,.int .i64 0] 33)):=(((Below.refl _ _).alloc (Nat.le_refl _) _).alloc (by simp) _).alloc (by simp;omega) _
  have bp:=((box_row w 25 (.slice ap ms.length cp)).alloc (.cells #[.slice ac h.calls.length kc,.int .i64 h.now,.int .i64 h.born,.slice aD h.said.length kD,.int .i64 h.code] 29)).alloc (.cells #[.int .i64 0,.int .i64 0] 33)
  have bh:=(five_new (w.alloc (.cells #[.slice ap ms.length cp] 25)) 29 (.slice ac h.calls.length kc) (.int .i64 h.now) (.int .i64 h.born) (.slice aD h.said.length kD) (.int .i64 h.code)).alloc (.cells #[.int .i64 0,.int .i64 0] 33)
  have bo:=two_new ((w.alloc (.cells #[.slice ap ms.length cp] 25)).alloc (.cells #[.slice ac h.calls.length kc,.int .i64 h.now,.int .i64 h.born,.slice aD h.said.length kD,.int .i64 h.code] 29)) 33 (.int .i64 0) (.int .i64 0)
  simp only[World.size_alloc] at bh bo
  go_enter Tryz.func10,Tryz.ntmps10
  go_upto_region 1 with fail
  generalize ((w.alloc (.cells #[.slice ap ms.length cp] 25)).alloc (.cells #[.slice ac h.calls.length kc,.int .i64 h.now,.int .i64 h.born,.slice aD h.said.length kD,.int .i64 h.code] 29)).alloc (.cells #[.int .i64 0,.int .i64 0] 33)=W0 at *
  have z0:=hA.size
  have HOK:=implHeapOk_any _ _ _ ms h W0 (hp.below hA) (hh.below hA) hn
  obtain⟨fb,hfb⟩:∃fb,heapOk ms h=fb:=⟨_,rfl⟩
  have HFB:Hid (heapOk ms h=fb):=hfb
  rw[hfb] at HOK
  clear hfb
  unfold hpCells at HOK
  have v0:=bp.cell (i:=0) (by decide)
  obtain⟨⟨x0,x1,x2,x3,x4⟩,_⟩:=five_cells bh
  go_wp2_with fail
  refine HOK.mono ?_
  rintro e w1 ⟨rfl,hb1⟩
  have B1:=hA.trans (hb1.mono z0)
  have bp1:=row_below hb1 bp
  have bh1:=row_below hb1 bh
  have bo1:=row_below hb1 bo
  have z1:=hb1.size
  clear HOK x0 x1 x2 x3 x4 v0 bp bh bo hb1 hA
  have v0:=bp1.cell (i:=0) (by decide)
  obtain⟨⟨x0,x1,x2,x3,x4⟩,_⟩:=five_cells bh1
  obtain⟨⟨u0,u1⟩,uf0,uf1⟩:=two_cells bo1
  have HZ:((w1.setCell ⟨w.heap.size+2,0,none⟩ (.int .i64 0)).setCell ⟨w.heap.size+2,1,none⟩ (.int .i64 0)).rowIs (w.heap.size+2) 33 2 (two (.int .i64 0) (.int .i64 0)):=((two_set0 bo1 (.int .i64 0)).set 1 (.int .i64 0)).congr fun i hi=>by match i,hi with | 0,_=>rfl | 1,_=>rfl
  have BZ:Below w.heap.size w ((w1.setCell ⟨w.heap.size+2,0,none⟩ (.int .i64 0)).setCell ⟨w.heap.size+2,1,none⟩ (.int .i64 0)):=(B1.setCell (p:=⟨w.heap.size+2,0,none⟩) (by show w.heap.size≤w.heap.size+2;omega) _).setCell (p:=⟨w.heap.size+2,1,none⟩) (by show w.heap.size≤w.heap.size+2;omega) _
  cases fb
  · have HE:Hid (nextOf ms h=(0,0)∧hasNext ms h=false):=next_not (by unfold runsH;rw[HFB.out];rfl)
    obtain⟨rfl,rfl⟩:na=0∧nb=0:=by have e:=HNX.out.1;rw[HE.out.1] at e;injection e with e1 e2;exact⟨e1.symm,e2.symm⟩
    obtain rfl:nz=false:=by rw[←HNX.out.2,HE.out.2]
    go_wp2
    obtain⟨⟨s0,s1⟩,_⟩:=two_cells HZ
    generalize (w1.setCell ⟨w.heap.size+2,0,none⟩ (.int .i64 0)).setCell ⟨w.heap.size+2,1,none⟩ (.int .i64 0)=W9 at *
    exact bodyPost_ret (v:=.tuple #[.agg #[.int .i64 0,.int .i64 0],.bool false]) (by simp[results,Tryz.results10,go_sem,s0,s1]) rfl ⟨rfl,BZ⟩
  by_cases hc:h.code=0
  case neg =>
    have HE:Hid (nextOf ms h=(0,0)∧hasNext ms h=false):=next_not (by unfold runsH;rw[HFB.out,decide_eq_false hc];rfl)
    obtain⟨rfl,rfl⟩:na=0∧nb=0:=by have e:=HNX.out.1;rw[HE.out.1] at e;injection e with e1 e2;exact⟨e1.symm,e2.symm⟩
    obtain rfl:nz=false:=by rw[←HNX.out.2,HE.out.2]
    go_wp2
    obtain⟨⟨s0,s1⟩,_⟩:=two_cells HZ
    generalize (w1.setCell ⟨w.heap.size+2,0,none⟩ (.int .i64 0)).setCell ⟨w.heap.size+2,1,none⟩ (.int .i64 0)=W9 at *
    exact bodyPost_ret (v:=.tuple #[.agg #[.int .i64 0,.int .i64 0],.bool false]) (by simp[results,Tryz.results10,go_sem,s0,s1]) rfl ⟨rfl,BZ⟩
  clear HZ BZ
  obtain⟨j,m,pc,hj,hm,en,em,ep,e1,e2⟩:=next_at HFB.out hc
  rw[hc] at x4
  rw[en] at x1
  have hnab:=e1.symm.trans HNX.out.1
  have hnz:=e2.symm.trans HNX.out.2
  clear e1 e2 hc
  obtain⟨ac',kc',hvc',_,hcl⟩:=id hh.c
  injection hvc' with hvc1 _ hvc2
  subst hvc1 hvc2
  obtain⟨b,o,vt,vs',rfl,hk0⟩:=hcl j hj
  have hbl:b<w.heap.size:=World.block_lt_of_cell? _ _ hk0.c0
  have hbne:b≠w.heap.size+1+1:=by omega
  have hk:=hk0.below B1
  obtain⟨k0,k1,k2,k3,k4,k5,kt,ks⟩:=hk
  rw[em] at k0
  rw[ep] at k1
  obtain⟨ta,tc,hvt⟩:=kt.shape
  obtain⟨sa,sc,hvs⟩:=ks.shape
  subst hvt hvs
  clear hcl hk0 kt ks
  have hjz:(j:Int)<(h.calls.length:Int):=by omega
  obtain⟨nt,hnt⟩:∃q,h.calls[j].temps.length=q:=⟨_,rfl⟩
  obtain⟨ns,hns⟩:∃q,h.calls[j].stack.length=q:=⟨_,rfl⟩
  obtain⟨sd,hsd⟩:∃q,h.calls[j].sender=q:=⟨_,rfl⟩
  obtain⟨dd,hdd⟩:∃q,h.calls[j].dead=q:=⟨_,rfl⟩
  rw[hnt] at k2
  rw[hns] at k3
  rw[hsd] at k4
  rw[hdd] at k5
  have N1:Below w1.heap.size w1 (w1.alloc (.cells #[.int .i64 (m:Int),.int .i64 (pc:Int),.slice ta nt tc,.slice sa ns sc,.int .i64 sd,.bool dd] 37)):=(Below.refl _ _).alloc (Nat.le_refl _) _
  have HC:=opAt_any _ ms m pc (w1.alloc (.cells #[.int .i64 (m:Int),.int .i64 (pc:Int),.slice ta nt tc,.slice sa ns sc,.int .i64 sd,.bool dd] 37)) ((hp.below B1).below N1) hm
  rw[hnab,hnz] at HC
  clear hnab hnz en em ep hnt hns hsd hdd x2 x3
  dsimp only at HC
  go_upto_region 4 with fail
  have y0:(w1.alloc (.cells #[.int .i64 (m:Int),.int .i64 (pc:Int),.slice ta nt tc,.slice sa ns sc,.int .i64 sd,.bool dd] 37)).cell? ⟨w1.heap.size,0,none⟩=some (.int .i64 (m:Int)):=by simp[go_sem]
  have y1:(w1.alloc (.cells #[.int .i64 (m:Int),.int .i64 (pc:Int),.slice ta nt tc,.slice sa ns sc,.int .i64 sd,.bool dd] 37)).cell? ⟨w1.heap.size,1,none⟩=some (.int .i64 (pc:Int)):=by simp[go_sem]
  have bp2:=row_below N1 bp1
  have bo2:=row_below N1 bo1
  have B2:=B1.trans (N1.mono (by omega))
  have z2:=N1.size
  clear bp1 bo1 bh1 x0 x1 x4 v0 u0 u1 uf0 uf1 k0 k1 k2 k3 k4 k5
  generalize (w1.alloc (.cells #[.int .i64 (m:Int),.int .i64 (pc:Int),.slice ta nt tc,.slice sa ns sc,.int .i64 sd,.bool dd] 37))=w2 at *
  have v0:=bp2.cell (i:=0) (by decide)
  go_wp2_with fail
  refine HC.mono ?_
  rintro e w3 ⟨rfl,hb3⟩
  have bo3:=row_below hb3 bo2
  have B3:=B2.trans (hb3.mono (by omega))
  obtain⟨⟨t0,t1⟩,tf0,tf1⟩:=two_cells bo3
  have HZ:((w3.setCell ⟨w.heap.size+2,0,none⟩ (.int .i64 na)).setCell ⟨w.heap.size+2,1,none⟩ (.int .i64 nb)).rowIs (w.heap.size+2) 33 2 (two (.int .i64 na) (.int .i64 nb)):=((two_set0 bo3 (.int .i64 na)).set 1 (.int .i64 nb)).congr fun i hi=>by match i,hi with | 0,_=>rfl | 1,_=>rfl
  have BZ:Below w.heap.size w ((w3.setCell ⟨w.heap.size+2,0,none⟩ (.int .i64 na)).setCell ⟨w.heap.size+2,1,none⟩ (.int .i64 nb)):=(B3.setCell (p:=⟨w.heap.size+2,0,none⟩) (by show w.heap.size≤w.heap.size+2;omega) _).setCell (p:=⟨w.heap.size+2,1,none⟩) (by show w.heap.size≤w.heap.size+2;omega) _
  go_wp2
  obtain⟨⟨s0,s1⟩,_⟩:=two_cells HZ
  generalize (w3.setCell ⟨w.heap.size+2,0,none⟩ (.int .i64 na)).setCell ⟨w.heap.size+2,1,none⟩ (.int .i64 nb)=W9 at *
  exact bodyPost_ret (v:=.tuple #[.agg #[.int .i64 na,.int .i64 nb],.bool nz]) (by simp[results,Tryz.results10,go_sem,s0,s1]) rfl ⟨rfl,BZ⟩
end Go.Proofs.YtjbgpcileapogaaGreat

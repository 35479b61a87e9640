/-
  What draws a heap: l71Heap.
-/
import Derived.Test.YtjbgpcileapogaaGreatSWalkA
import Derived.Test.YtjbgpcileapogaaGreatRep
import Derived.Test.YtjbgpcileapogaaGreatPiece
import Derived.Test.YtjbgpcileapogaaGreatRunPlain
import Derived.Deep.CutBlock
import Derived.Test.YtjbgpcileapogaaGreatDraw9
namespace Go.Proofs.YtjbgpcileapogaaGreat
open Go.RowKit
set_option maxRecDepth 100000 in
set_option maxHeartbeats 8000000 in
theorem l71Heap_said (w:World) (b:Nat) (a:Option Addr) (len cap p:Nat) (hr:Rd w b a len cap p) (hp:p+410≤1000000) :
    Calls Tryz.prog 42 #[.pointer (some ⟨b,0,none⟩)] w fun e w'=>∃(v vc vs:Value) (ms:List MM) (h:Hp) (p':Nat),e=.returned (.tuple #[.agg #[v],.agg (hpCells vc vs h)])∧Stays w.heap.size w' (fun x=>MethsAt x v (plainOf ms)∧HeapS w.heap.size x vc vs h)∧progOk (plainOf ms)=true∧HpFine h∧p≤p'∧p'≤p+410∧Rd w' b a len cap p'∧w.grownBy w' (some b):=by
  have hbw:b<w.heap.size:=World.block_lt_of_cell? _ _ hr.s
  have hrA:=(hr.alloc (.cells #[.slice none 0 0] 25)).alloc (.cells #[.slice none 0 0,.int .i64 0,.int .i64 0,.slice none 0 0,.int .i64 0] 29)
  have hgA:=grown_alloc (grown_alloc (grown_refl w (some b)) (.cells #[.slice none 0 0] 25)) (.cells #[.slice none 0 0,.int .i64 0,.int .i64 0,.slice none 0 0,.int .i64 0] 29)
  have rp:=(pbox_new w (.slice none 0 0)).alloc (.cells #[.slice none 0 0,.int .i64 0,.int .i64 0,.slice none 0 0,.int .i64 0] 29)
  have rh:=five_new (w.alloc (.cells #[.slice none 0 0] 25)) 29 (.slice none 0 0) (.int .i64 0) (.int .i64 0) (.slice none 0 0) (.int .i64 0)
  have zA:((w.alloc (.cells #[.slice none 0 0] 25)).alloc (.cells #[.slice none 0 0,.int .i64 0,.int .i64 0,.slice none 0 0,.int .i64 0] 29)).heap.size=w.heap.size+2:=by simp
  simp only[World.size_alloc] at rh
  go_enter Tryz.func42,Tryz.ntmps42
  go_upto_region 1 with fail
  generalize (w.alloc (.cells #[.slice none 0 0] 25)).alloc (.cells #[.slice none 0 0,.int .i64 0,.int .i64 0,.slice none 0 0,.int .i64 0] 29)=W0 at *
  go_upto_region 2 with(go_at_call 108;refine(l71Prog_fit _ _ _ _ _ _ hrA (by omega)).mono ?_;rintro e w1 ⟨v,ms,p1,rfl,hP1,hm2,hm4,hmo,hq1,hq1',hr1,hg1,hok⟩;obtain⟨ap,cp,hvp⟩:=hP1.shape;subst hvp)
  have gr1:=grown_trans hgA hg1
  have rp1:=row_kept rp hg1 (by intro e;injection e with e;omega)
  have rh1:=row_kept rh hg1 (by intro e;injection e with e;omega)
  have hM1:=hP1.meths (by unfold maxLen;omega) (fun m hm=>by have:=(hmo m hm).2;unfold maxLen;omega)
  have hpl:(plainOf ms).length=ms.length:=by simp[plainOf]
  have z1:=gr1.size
  have z01:=hg1.size
  have HMO:Hid (∀m∈ms,m.2.2.2.length≤14):=fun m hm=>(hmo m hm).2
  clear hrA hgA rp rh hg1 hmo
  have B2:Below w1.heap.size w1 (w1.alloc (.cells #[.slice ap ms.length cp] 25)):=(Below.refl _ _).alloc (Nat.le_refl _) _
  have rb2:(w1.alloc (.cells #[.slice ap ms.length cp] 25)).rowIs w1.heap.size 25 1 (fun _=>.slice ap ms.length cp):=pbox_new w1 _
  have hM2:=hM1.below B2
  have z2:(w1.alloc (.cells #[.slice ap ms.length cp] 25)).heap.size=w1.heap.size+1:=by simp
  have rb2c:=rb2.cell (i:=0) (by decide)
  generalize w1.alloc (.cells #[.slice ap ms.length cp] 25)=W2 at *
  have hN:=specHeapNew_kept _ _ _ hM2
  have hNok:=newHp_ok hok
  have hNsd:Hid ((newHp (plainOf ms)).said.length=0):=by show _=_;rw[newHp_yes hok];rfl
  have hNc:Hid ((newHp (plainOf ms)).calls.length=1):=by show _=_;rw[newHp_yes hok];rfl
  have hNd:Hid (Dn (newHp (plainOf ms))):=by
    show Dn _
    rw[newHp_yes hok]
    intro i hi
    have hi0:i=0:=by simp at hi;omega
    subst hi0
    simp
  unfold hpCells at hN
  have HOK:Hid (progOk (plainOf ms)=true):=hok
  have HNOK:Hid (heapOk (plainOf ms) (newHp (plainOf ms))=true):=hNok
  clear hok hNok
  generalize newHp (plainOf ms)=H1 at *
  have hP2:=hP1.kept (below_grown B2 none) (fun g e=>by cases e)
  clear hM1 hM2
  go_upto_region 3 with(go_at_call 109;refine hN.mono ?_;rintro e w3 ⟨hb3,vc,vs,rfl,hh3'⟩;have hh3:=hh3' w3 (Nat.le_refl _) (fun _ _ _=>rfl);obtain⟨ac,kc,hvc⟩:=hh3.c.shape;obtain⟨aD,kD,hvs⟩:=hh3.s.shape;subst hvc hvs;have HH3:Hid (∀w'':World,w3.heap.size≤w''.heap.size→(∀g,W2.heap.size≤g→g<w3.heap.size→w''.heap[g]?=w3.heap[g]?)→HeapAt w'' (.slice ac H1.calls.length kc) (.slice aD H1.said.length kD) H1):=hh3';clear hh3 hh3')
  have B4:Below w3.heap.size w3 (w3.alloc (.cells #[.slice ac H1.calls.length kc,.int .i64 H1.now,.int .i64 H1.born,.slice aD H1.said.length kD,.int .i64 H1.code] 29)):=(Below.refl _ _).alloc (Nat.le_refl _) _
  have r4:=five_new w3 29 (.slice ac H1.calls.length kc) (.int .i64 H1.now) (.int .i64 H1.born) (.slice aD H1.said.length kD) (.int .i64 H1.code)
  have z4:(w3.alloc (.cells #[.slice ac H1.calls.length kc,.int .i64 H1.now,.int .i64 H1.born,.slice aD H1.said.length kD,.int .i64 H1.code] 29)).heap.size=w3.heap.size+1:=by simp
  generalize w3.alloc (.cells #[.slice ac H1.calls.length kc,.int .i64 H1.now,.int .i64 H1.born,.slice aD H1.said.length kD,.int .i64 H1.code] 29)=W4 at *
  have z3:=hb3.size
  have B14:Below w1.heap.size w1 W4:=B2.trans ((hb3.trans (B4.mono z3)).mono B2.size)
  have hr4:Rd W4 b a len cap p1:=Rd.kept hr1 hr1 (Nat.le_refl _) (below_grown B14 none) (fun g e=>by cases e)
  have gr4:=grown_own gr1 (below_grown B14 none) (fun g e=>by cases e)
  have rp4:=row_below B14 rp1
  have rh4:=row_below B14 rh1
  have rb4:=row_below (hb3.trans (B4.mono z3)) rb2
  have hP4:=hP2.kept (below_grown (hb3.trans (B4.mono z3)) none) (fun g e=>by cases e)
  have HH4:Hid (∀w'':World,W4.heap.size≤w''.heap.size→(∀g,W2.heap.size≤g→g<W4.heap.size→w''.heap[g]?=W4.heap[g]?)→HeapAt w'' (.slice ac H1.calls.length kc) (.slice aD H1.said.length kD) H1):=fun w'' h1 h2=>HH3.out w'' (by omega) fun g h3 h4=>(h2 g h3 (by omega)).trans (B4.block g h4)
  have HPL:Hid ((∀g,(Value.slice ap ms.length cp).ownBlock=some g→g<w3.heap.size)∧∀m∈ms,∀g,m.2.2.1.ownBlock=some g→g<w3.heap.size):=⟨fun g e=>by have:=(hP2.row.lt _ e).2;omega,fun m hm g e=>by have:=((hP2.ops m hm).lt _ e).2;omega⟩
  clear hr1 gr1 rp1 rh1 rb2 rb2c hP1 hP2 HH3 hN B2 B4 hb3 B14
  obtain⟨⟨x0,x1,x2,x3,x4⟩,y0,y1,y2,y3,y4⟩:=five_cells r4
  have xb:=rb4.cell (i:=0) (by decide)
  have hPk:=pick_any W4.drew b a len cap p1 90 (Rd.heap hr4 rfl) (by omega) (by omega) (by omega)
  have HRn:Hid (∀(w5:World) (n:Int),0≤n→n<90→Rd w5 b a len cap (p1+1)→W4.drew.grownBy w5 (some b)→Calls Tryz.prog 110 #[.agg #[.slice ap ms.length cp],.agg #[.slice ac H1.calls.length kc,.int .i64 H1.now,.int .i64 H1.born,.slice aD H1.said.length kD,.int .i64 H1.code],.int .i64 n] w5 fun e w'=>(∃vc' vs' V',e=.returned (.tuple #[.agg (hpCells vc' vs' (hRun (plainOf ms) H1 n)),.bool (heapOk (plainOf ms) H1 && inR n 0 400)])∧OwnHeap w5.heap.size w' vc' vs' (hRun (plainOf ms) H1 n) V')∧Below w5.heap.size w5 w'):=by
    intro w5 n h0 h9 hr5 hg5
    have hg5':W4.grownBy w5 (some b):=⟨hg5.os,hg5.tape,hg5.output,hg5.size,hg5.block⟩
    have hPm:=(hP4.low hg5' (by omega)).meths (by unfold maxLen;omega) (fun m hm=>by have:=HMO.out m hm;unfold maxLen;omega)
    exact specHeapRun_any _ _ _ _ H1 n w5 hPm (HH4.out w5 hg5'.size fun g h1 h2=>hg5'.block g h2 (fun e=>by injection e with e;omega)) (by rw[hNc.out];omega) (by rw[hNsd.out];omega)
  unfold hpCells at HRn
  go_cut [] (fun wx=>∃(x:Int) (a6 a7:Option Addr) (k6 k7 B6:Nat) (V6:Nat→Value × Value),0≤x∧x<90∧w3.heap.size<B6∧B6≤wx.heap.size∧Rd wx b a len cap (p1+1)∧w.grownBy wx (some b)∧wx.rowIs w.heap.size 25 1 (fun _=>.slice none 0 0)∧wx.rowIs (w.heap.size+1) 29 5 (five (.slice none 0 0) (.int .i64 0) (.int .i64 0) (.slice none 0 0) (.int .i64 0))∧wx.rowIs w1.heap.size 25 1 (fun _=>.slice ap ms.length cp)∧wx.rowIs w3.heap.size 29 5 (five (.slice a6 (hRun (plainOf ms) H1 x).calls.length k6) (.int .i64 (hRun (plainOf ms) H1 x).now) (.int .i64 (hRun (plainOf ms) H1 x).born) (.slice a7 (hRun (plainOf ms) H1 x).said.length k7) (.int .i64 (hRun (plainOf ms) H1 x).code))∧PRow W0.heap.size wx (.slice ap ms.length cp) ms∧OwnHeap B6 wx (.slice a6 (hRun (plainOf ms) H1 x).calls.length k6) (.slice a7 (hRun (plainOf ms) H1 x).said.length k7) (hRun (plainOf ms) H1 x) V6)
  case first =>
    go_region_law (first
      | (go_simp;go_at_call 110;refine(HRn.out _ _ hx0 hx1 hr5 hg5).mono ?_;rintro e w6 ⟨⟨vc6,vs6,V6,rfl,ho6⟩,hb6⟩;obtain⟨a6,k6,hv6⟩:=ho6.at.c.shape;obtain⟨a7,k7,hv7⟩:=ho6.at.s.shape;subst hv6 hv7;obtain⟨⟨e0,e1,e2,e3,e4⟩,f0,f1,f2,f3,f4⟩:=five_cells (row_below hb6 R5))
      | (go_simp;go_at_call 111;refine hPk.mono ?_;rintro e w5 ⟨x,rfl,hx0,hx1,hr5,hg5⟩;have R5:=row_kept (w:=W4.drew) r4 hg5 (by intro e;injection e with e;omega);have R5b:=row_kept (w:=W4.drew) rb4 hg5 (by intro e;injection e with e;omega);obtain⟨⟨d0,d1,d2,d3,d4⟩,_⟩:=five_cells R5;have db:=R5b.cell (i:=0) (by decide)))
    all_goals
      have hg5':W4.grownBy w5 (some b):=⟨hg5.os,hg5.tape,hg5.output,hg5.size,hg5.block⟩
      have z5:=hg5'.size
      have z6:=hb6.size
      have g5:=grown_trans gr4 hg5'
      have g6:=grown_own g5 (below_grown hb6 none) (fun g e=>by cases e)
      have kF:w6.grownBy (((((w6.setCell ⟨w3.heap.size,0,none⟩ (.slice a6 (hRun (plainOf ms) H1 x).calls.length k6)).setCell ⟨w3.heap.size,1,none⟩ (.int .i64 (hRun (plainOf ms) H1 x).now)).setCell ⟨w3.heap.size,2,none⟩ (.int .i64 (hRun (plainOf ms) H1 x).born)).setCell ⟨w3.heap.size,3,none⟩ (.slice a7 (hRun (plainOf ms) H1 x).said.length k7)).setCell ⟨w3.heap.size,4,none⟩ (.int .i64 (hRun (plainOf ms) H1 x).code)) (some w3.heap.size):=(grown_trans (grown_trans (grown_trans (grown_trans (grown_set w6 w3.heap.size 0 (.slice a6 (hRun (plainOf ms) H1 x).calls.length k6)) (grown_set (w6.setCell ⟨w3.heap.size,0,none⟩ (.slice a6 (hRun (plainOf ms) H1 x).calls.length k6)) w3.heap.size 1 (.int .i64 (hRun (plainOf ms) H1 x).now))) (grown_set ((w6.setCell ⟨w3.heap.size,0,none⟩ (.slice a6 (hRun (plainOf ms) H1 x).calls.length k6)).setCell ⟨w3.heap.size,1,none⟩ (.int .i64 (hRun (plainOf ms) H1 x).now)) w3.heap.size 2 (.int .i64 (hRun (plainOf ms) H1 x).born))) (grown_set (((w6.setCell ⟨w3.heap.size,0,none⟩ (.slice a6 (hRun (plainOf ms) H1 x).calls.length k6)).setCell ⟨w3.heap.size,1,none⟩ (.int .i64 (hRun (plainOf ms) H1 x).now)).setCell ⟨w3.heap.size,2,none⟩ (.int .i64 (hRun (plainOf ms) H1 x).born)) w3.heap.size 3 (.slice a7 (hRun (plainOf ms) H1 x).said.length k7))) (grown_set ((((w6.setCell ⟨w3.heap.size,0,none⟩ (.slice a6 (hRun (plainOf ms) H1 x).calls.length k6)).setCell ⟨w3.heap.size,1,none⟩ (.int .i64 (hRun (plainOf ms) H1 x).now)).setCell ⟨w3.heap.size,2,none⟩ (.int .i64 (hRun (plainOf ms) H1 x).born)).setCell ⟨w3.heap.size,3,none⟩ (.slice a7 (hRun (plainOf ms) H1 x).said.length k7)) w3.heap.size 4 (.int .i64 (hRun (plainOf ms) H1 x).code)))
      have eF:∀g,some w3.heap.size=some g→w.heap.size≤g:=fun g e=>by injection e with e;omega
      have nb5:∀{q:Nat},w.heap.size≤q→some q≠some b:=fun h e=>by injection e with e;omega
      have rpF:=row_kept (row_below hb6 (row_kept rp4 hg5' (nb5 (Nat.le_refl _)))) kF (by intro e;injection e with e;omega)
      have rhF:=row_kept (row_below hb6 (row_kept rh4 hg5' (nb5 (by omega)))) kF (by intro e;injection e with e;omega)
      have rbF:=row_kept (row_below hb6 R5b) kF (by intro e;injection e with e;omega)
      have RF:=(five_set4 (five_set3 (five_set2 (five_set1 (five_set0 (row_below hb6 R5) (.slice a6 (hRun (plainOf ms) H1 x).calls.length k6)) (.int .i64 (hRun (plainOf ms) H1 x).now)) (.int .i64 (hRun (plainOf ms) H1 x).born)) (.slice a7 (hRun (plainOf ms) H1 x).said.length k7)) (.int .i64 (hRun (plainOf ms) H1 x).code))
      have rdF:=Rd.kept hr (Rd.kept hr hr5 g5.size (below_grown hb6 none) (fun g e=>by cases e)) g6.size kF eF
      have gF:=grown_own g6 kF eF
      have PF:=((hP4.low hg5' (by omega)).kept (below_grown hb6 none) (fun g e=>by cases e)).kept kF (fun g e=>by injection e with e;subst e;exact⟨fun e=>by have:=HPL.out.1 _ e;omega,fun m hm e=>by have:=HPL.out.2 m hm _ e;omega⟩)
      have OF:=ho6.kept (w':=(((((w6.setCell ⟨w3.heap.size,0,none⟩ (.slice a6 (hRun (plainOf ms) H1 x).calls.length k6)).setCell ⟨w3.heap.size,1,none⟩ (.int .i64 (hRun (plainOf ms) H1 x).now)).setCell ⟨w3.heap.size,2,none⟩ (.int .i64 (hRun (plainOf ms) H1 x).born)).setCell ⟨w3.heap.size,3,none⟩ (.slice a7 (hRun (plainOf ms) H1 x).said.length k7)).setCell ⟨w3.heap.size,4,none⟩ (.int .i64 (hRun (plainOf ms) H1 x).code))) kF.size (fun g e=>kF.block g (ho6.lt e).2 (fun e2=>by injection e2 with e2;have:=(ho6.lt e).1;omega))
      have zF:=kF.size
      clear hP4 R5 R5b rp4 rh4 rb4 r4 hPk HRn ho6 hb6 g5 g6 kF hr5 hg5 hg5' d0 d1 d2 d3 d4 db e0 e1 e2 e3 e4 f0 f1 f2 f3 f4 x0 x1 x2 x3 x4 y0 y1 y2 y3 y4 xb
      go_wp2_with fail
      go_meet
      exact⟨x,a6,a7,k6,k7,w5.heap.size,V6,hx0,hx1,by omega,by omega,rdF,gF,rpF,rhF,rbF,RF,PF,OF⟩
  case rest =>
    obtain⟨x,a6,a7,k6,k7,B6,V6,hx0,hx1,hB6,hB6',hr7,g7,rp7,rh7,rb7,R7,P7,O7⟩:=hcut
    have hHR:hRun (plainOf ms) H1 x=runH (plainOf ms) x.toNat H1:=by
      have e:inR x 0 400=true:=inR_true.2 ⟨hx0,by omega⟩
      simp[hRun,HNOK.out,e]
    have hgd:=Good.run x.toNat H1 (good_iff.1 HNOK.out)
    have hlen:=hgd.lens
    have hsa:=said_run (plainOf ms) x.toNat H1
    have hca:=len_run (plainOf ms) x.toNat H1
    have hdn:=Dn.run x.toNat H1 (good_iff.1 HNOK.out) hNd.out
    rw[←hHR] at hgd hlen hsa hca hdn
    rw[hNsd.out] at hsa
    rw[hNc.out] at hca
    generalize hRun (plainOf ms) H1 x=H at *
    obtain⟨hl30,hlts⟩:=hlen
    have hnw:=hgd.head.now
    have GD:Hid (Good (plainOf ms) H):=hgd
    have HFW:Hid (∀v∈H.said,Few v):=hgd.few
    have DN:Hid (Dn H):=hdn
    have HLT:Hid (∀c∈H.calls,c.temps.length≤5∧c.stack.length≤6∧-1≤c.sender∧c.sender<(H.calls.length:Int)):=fun c hc=>by
      obtain⟨i,hi,rfl⟩:=List.getElem_of_mem hc
      have h1:=hlts i hi
      have h2:=(hgd.cl i hi).sd
      omega
    clear hdn
    have hsa':H.said.length≤90:=by omega
    have z7:=g7.size
    have HHX:=O7.stays (bh:=w3.heap.size) hB6
    have k0:DH w b a len cap (p1+1) W0.heap.size w1.heap.size w3.heap.size (.slice ap ms.length cp) ms (.slice a6 H.calls.length k6) (.slice a7 H.said.length k7) H wc:=⟨hr7,g7,rp7,rh7,rb7,R7,fun w'' e1 e2=>P7.stay (by unfold maxLen;omega) (fun m hm=>by have:=HMO.out m hm;unfold maxLen;omega) HPL.out.1 HPL.out.2 e2,HHX,⟨_,hr⟩,by omega,by omega,by omega,by omega⟩
    clear hlts hHR hgd HH4 hP4 hPk HRn hr4 gr4 rp4 rh4 rb4 r4 x0 x1 x2 x3 x4 y0 y1 y2 y3 y4 xb HHX rp7 rh7 rb7 R7 P7 g7
    go_wp2_with fail
    refine(pick_any wc b a len cap (p1+1) 14 hr7 (by omega) (by omega) (by omega)).mono ?_
    rintro e w8 ⟨y,rfl,hy0,hy1,hr8,hg8⟩
    have k8:=k0.pick hr8 hg8
    have O8:OwnHeap B6 w8 (.slice a6 H.calls.length k6) (.slice a7 H.said.length k7) H V6:=O7.kept hg8.size fun g hg=>hg8.block g (O7.lt hg).2 (fun e=>by injection e with e;have:=(O7.lt hg).1;omega)
    clear k0 O7 hr7 hg8
    by_cases hy:0<y
    · clear O8
      obtain⟨WF,hWF,f1,f2,f3,f4,f5⟩:=k8.fin
      have cb:=k8.rb.cell (i:=0) (by decide)
      obtain⟨⟨d0,d1,d2,d3,d4⟩,_⟩:=five_cells k8.R
      have cp0:=k8.rp.cell (i:=0) (by decide)
      have cpf:=k8.rp.frozen 0
      obtain⟨⟨c0,c1,c2,c3,c4⟩,cf0,cf1,cf2,cf3,cf4⟩:=five_cells k8.rh
      go_wp2_with fail
      go_region
      all_goals
        rw[←hWF]
        obtain⟨⟨q0,q1,q2,q3,q4⟩,_⟩:=five_cells f2
        clear hWF cb d0 d1 d2 d3 d4 cp0 cpf c0 c1 c2 c3 c4 cf0 cf1 cf2 cf3 cf4
        go_wp2
        exact bodyPost_ret (v:=.tuple #[.agg #[.slice ap ms.length cp],.agg #[.slice a6 H.calls.length k6,.int .i64 H.now,.int .i64 H.born,.slice a7 H.said.length k7,.int .i64 H.code]]) (by simp[results,Tryz.results42,go_sem,f1,q0,q1,q2,q3,q4]) rfl ⟨_,_,_,ms,H,p1+1+1,rfl,f3,HOK.out,fine_of H.calls.length rfl hl30 (by omega) (fun c hc=>by have:=HLT.out c hc;omega) hnw.1 (by omega) HFW.out,by omega,by omega,Rd.heap f4 rfl,⟨f5.os,f5.tape,f5.output,f5.size,f5.block⟩⟩
    · obtain rfl:y=0:=by omega
      go_upto_block 0 with(go_at_call 111;refine(pick_any w8 b a len cap (p1+1+1) 8 hr8 (by omega) (by omega) (by omega)).mono ?_;rintro e w9 ⟨u,rfl,hu0,hu1,hr9,hg9⟩)
      have k9:=k8.pick hr9 hg9
      have O9:OwnHeap B6 w9 (.slice a6 H.calls.length k6) (.slice a7 H.said.length k7) H V6:=O8.kept hg9.size fun g hg=>hg9.block g (O8.lt hg).2 (fun e=>by injection e with e;have:=(O8.lt hg).1;omega)
      clear k8 O8 hr8 hg9
      obtain⟨gc,oc,kc6,hac,hgc,hgc'⟩:=O9.c.form (by omega)
      obtain rfl:a6=some ⟨gc,oc,none⟩:=by injection hac
      obtain rfl:kc6=k6:=by injection hac with _ _ e;exact e.symm
      clear hac
      obtain⟨⟨x0,x1,x2,x3,x4,x5⟩,xf⟩:=O9.c.cells (j:=0) (by omega)
      simp only[Nat.zero_mul,Nat.add_zero] at x0 x1 x2 x3 x4 x5 xf
      obtain⟨⟨d0,d1,d2,d3,d4⟩,e0,e1,e2,e3,e4⟩:=five_cells k9.R
      have xf2:=xf 2 (by omega)
      have xf4:=xf 4 (by omega)
      have xf5:=xf 5 (by omega)
      have HTS:Hid (∀c∈H.calls,c.temps.length≤6∧c.stack.length≤6∧-1≤c.sender∧c.sender<(H.calls.length:Int)):=fun c hc=>by have:=HLT.out c hc;omega
      have hclz:(1:Int)≤(H.calls.length:Int):=by omega
      have h0c:0<H.calls.length:=by omega
      have OC:=O9.c
      obtain⟨C0,hC0⟩:∃C0,H.calls[0]=C0:=⟨_,rfl⟩
      have HC0:Hid (H.calls[0]=C0):=hC0
      have hC0m:=HTS.out _ (List.getElem_mem h0c)
      rw[hC0] at x0 x1 x4 x5 hC0m
      clear hC0
      have HSET:Hid (∀c:Cl,(c.temps.length≤6∧c.stack.length≤6∧-1≤c.sender∧c.sender<(H.calls.length:Int))→∀c'∈H.calls.set 0 c,c'.temps.length≤6∧c'.stack.length≤6∧-1≤c'.sender∧c'.sender<(H.calls.length:Int)):=fun c h1 c' hc'=>by
        rcases List.mem_or_eq_of_mem_set hc' with h | rfl
        · exact HTS.out _ h
        · exact h1
      have z9b:w3.heap.size<w9.heap.size:=k9.R.lt
      go_cut [] (fun wx=>∃(q:Nat) (av as':Option Addr) (nv kv ns' ks':Nat) (h':Hp),p1≤q∧q≤p1+4∧DH w b a len cap q W0.heap.size w1.heap.size w3.heap.size (.slice ap ms.length cp) ms (.slice av nv kv) (.slice as' ns' ks') h' wx∧HpFine h')
      case rest =>
        clear k9 O9 d0 d1 d2 d3 d4 e0 e1 e2 e3 e4 x0 x1 x2 x3 x4 x5 xf xf2 xf4 xf5 OC hr9
        obtain⟨q,av,as',nv,kv,ns',ks',h',hq0,hq2,kz,bz1⟩:=hcut
        obtain⟨WF,hWF,f1,f2,f3,f4,f5⟩:=kz.fin
        have cb:=kz.rb.cell (i:=0) (by decide)
        obtain⟨⟨d0,d1,d2,d3,d4⟩,_⟩:=five_cells kz.R
        have cp0:=kz.rp.cell (i:=0) (by decide)
        have cpf:=kz.rp.frozen 0
        obtain⟨⟨c0,c1,c2,c3,c4⟩,cf0,cf1,cf2,cf3,cf4⟩:=five_cells kz.rh
        have HB3:Hid (HpFine h'):=bz1
        clear bz1
        go_wp2_with fail
        go_region
        all_goals
          rw[←hWF]
          obtain⟨⟨q0,q1,q2,q3,q4⟩,_⟩:=five_cells f2
          clear hWF cb d0 d1 d2 d3 d4 cp0 cpf c0 c1 c2 c3 c4 cf0 cf1 cf2 cf3 cf4 kz
          go_wp2
          exact bodyPost_ret (v:=.tuple #[.agg #[.slice ap ms.length cp],.agg #[.slice av nv kv,.int .i64 h'.now,.int .i64 h'.born,.slice as' ns' ks',.int .i64 h'.code]]) (by simp[results,Tryz.results42,go_sem,f1,q0,q1,q2,q3,q4]) rfl ⟨_,_,_,ms,h',q,rfl,f3,HOK.out,HB3.out,by omega,by omega,Rd.heap f4 rfl,⟨f5.os,f5.tape,f5.output,f5.size,f5.block⟩⟩
      by_cases hu_0:u=0
      · subst hu_0
        go_wp2_with fail
        refine(pick_any w9 b a len cap (p1+1+1+1) ((H.calls.length:Int)+2) hr9 (by omega) (by omega) (by omega)).mono ?_
        rintro e w10 ⟨z,rfl,hz0,hz1,hr10,hg10⟩
        have k10:=k9.pick hr10 hg10
        clear k9 O9 hr9 hg10 d0 d1 d2 d3 d4 e0 e1 e2 e3 e4 x0 x1 x2 x3 x4 x5 xf xf2 xf4 xf5
        obtain⟨⟨d0,d1,d2,d3,d4⟩,e0,e1,e2,e3,e4⟩:=five_cells k10.R
        have hE:∃(av as':Option Addr) (nv kv ns' ks':Nat) (h':Hp),DH w b a len cap (p1+1+1+1+1) W0.heap.size w1.heap.size w3.heap.size (.slice ap ms.length cp) ms (.slice av nv kv) (.slice as' ns' ks') h' (w10.setCell ⟨w3.heap.size,1,none⟩ (.int .i64 (z - 1)))∧HpFine h':=⟨_,_,_,_,_,_,{H with now:=z - 1},k10.num rfl rfl (five_set1 k10.R (.int .i64 (z - 1))),fine_of H.calls.length rfl hl30 (by show H.said.length≤100;omega) HTS.out (by show -1≤z - 1;omega) (by show z - 1≤(H.calls.length:Int);omega) HFW.out⟩
        go_wp2_with fail
        go_meet
        obtain⟨av,as',nv,kv,ns',ks',h',kz,bz⟩:=hE
        exact⟨p1+1+1+1+1,av,as',nv,kv,ns',ks',h',by omega,by omega,kz,bz⟩
      have ex_0:(u == 0)=false:=beq_eq_false_iff_ne.2 hu_0
      by_cases hu_1:u=1
      · subst hu_1
        have kA:=k9.alloc (.cells #[.int .i64 0,.int .i64 31] 3)
        have rA:=dtwo_new w9 3 (.int .i64 0) (.int .i64 31)
        have zA9:w3.heap.size<w9.heap.size:=k9.R.lt
        go_wp2_with fail
        refine(pick_any _ b a len cap (p1+1+1+1) 2 kA.rd (by omega) (by omega) (by omega)).mono ?_
        rintro e w10 ⟨z,rfl,hz0,hz1,hr10,hg10⟩
        have k10:=kA.pick hr10 hg10
        have rA10:=row_kept rA hg10 (by intro e;injection e with e;omega)
        clear kA rA k9 O9 hr9 hg10 d0 d1 d2 d3 d4 e0 e1 e2 e3 e4 x0 x1 x2 x3 x4 x5 xf xf2 xf4 xf5
        obtain⟨⟨d0,d1,d2,d3,d4⟩,e0,e1,e2,e3,e4⟩:=five_cells k10.R
        obtain⟨⟨l0,l1⟩,_⟩:=dtwo_cells rA10
        by_cases hz:z=0
        · subst hz
          have hE:∃(av as':Option Addr) (nv kv ns' ks':Nat) (h':Hp),DH w b a len cap (p1+1+1+1+1) W0.heap.size w1.heap.size w3.heap.size (.slice ap ms.length cp) ms (.slice av nv kv) (.slice as' ns' ks') h' (w10.setCell ⟨w3.heap.size,2,none⟩ (.int .i64 0))∧HpFine h':=⟨_,_,_,_,_,_,{H with born:=0},k10.num rfl rfl (five_set2 k10.R (.int .i64 0)),fine_of H.calls.length rfl hl30 (by show H.said.length≤100;omega) HTS.out hnw.1 (by show H.now≤(H.calls.length:Int);omega) HFW.out⟩
          go_wp2_with fail
          go_meet
          obtain⟨av,as',nv,kv,ns',ks',h',kz,bz⟩:=hE
          exact⟨p1+1+1+1+1,av,as',nv,kv,ns',ks',h',by omega,by omega,kz,bz⟩
        · obtain rfl:z=1:=by omega
          have hE:∃(av as':Option Addr) (nv kv ns' ks':Nat) (h':Hp),DH w b a len cap (p1+1+1+1+1) W0.heap.size w1.heap.size w3.heap.size (.slice ap ms.length cp) ms (.slice av nv kv) (.slice as' ns' ks') h' (w10.setCell ⟨w3.heap.size,2,none⟩ (.int .i64 31))∧HpFine h':=⟨_,_,_,_,_,_,{H with born:=31},k10.num rfl rfl (five_set2 k10.R (.int .i64 31)),fine_of H.calls.length rfl hl30 (by show H.said.length≤100;omega) HTS.out hnw.1 (by show H.now≤(H.calls.length:Int);omega) HFW.out⟩
          go_wp2_with fail
          go_meet
          obtain⟨av,as',nv,kv,ns',ks',h',kz,bz⟩:=hE
          exact⟨p1+1+1+1+1,av,as',nv,kv,ns',ks',h',by omega,by omega,kz,bz⟩
      have ex_1:(u == 1)=false:=beq_eq_false_iff_ne.2 hu_1
      by_cases hu_2:u=2
      · subst hu_2
        go_wp2_with fail
        refine(pick_any w9 b a len cap (p1+1+1+1) 6 hr9 (by omega) (by omega) (by omega)).mono ?_
        rintro e w10 ⟨z,rfl,hz0,hz1,hr10,hg10⟩
        have k10:=k9.pick hr10 hg10
        clear k9 O9 hr9 hg10 d0 d1 d2 d3 d4 e0 e1 e2 e3 e4 x0 x1 x2 x3 x4 x5 xf xf2 xf4 xf5
        obtain⟨⟨d0,d1,d2,d3,d4⟩,e0,e1,e2,e3,e4⟩:=five_cells k10.R
        have hE:∃(av as':Option Addr) (nv kv ns' ks':Nat) (h':Hp),DH w b a len cap (p1+1+1+1+1) W0.heap.size w1.heap.size w3.heap.size (.slice ap ms.length cp) ms (.slice av nv kv) (.slice as' ns' ks') h' (w10.setCell ⟨w3.heap.size,4,none⟩ (.int .i64 (z - 1)))∧HpFine h':=⟨_,_,_,_,_,_,{H with code:=z - 1},k10.num rfl rfl (five_set4 k10.R (.int .i64 (z - 1))),fine_of H.calls.length rfl hl30 (by show H.said.length≤100;omega) HTS.out hnw.1 (by show H.now≤(H.calls.length:Int);omega) HFW.out⟩
        go_wp2_with fail
        go_meet
        obtain⟨av,as',nv,kv,ns',ks',h',kz,bz⟩:=hE
        exact⟨p1+1+1+1+1,av,as',nv,kv,ns',ks',h',by omega,by omega,kz,bz⟩
      have ex_2:(u == 2)=false:=beq_eq_false_iff_ne.2 hu_2
      by_cases hu_3:u=3
      · subst hu_3
        have PP:=put_cell OC (j:=0) h0c 5 (.bool (!C0.dead)) {H.calls[0] with dead:=!C0.dead} (by omega) rfl rfl rfl (by first | rfl | simp) (by first | rfl | simp) (by first | rfl | simp)
        simp only[Nat.zero_mul,Nat.add_zero] at PP
        have OP:=O9.put h0c PP
        have hne:w3.heap.size≠gc:=by omega
        have kP:DH w b a len cap (p1+1+1+1) W0.heap.size w1.heap.size w3.heap.size (.slice ap ms.length cp) ms (.slice (some ⟨gc,oc,none⟩) H.calls.length kc6) (.slice a7 H.said.length k7) {H with calls:=H.calls.set 0 {H.calls[0] with dead:=!C0.dead}} (w9.setCell ⟨gc,oc+5,none⟩ (.bool (!C0.dead))):=k9.re ((Below.refl _ _).setCell (p:=⟨gc,oc+5,none⟩) (by show w3.heap.size≤gc;omega) _) (k9.R.of_block (Below.heap_setCell _ _ _ _ hne)) (OP.stays hB6)
        have bS:Hid (∀c'∈H.calls.set 0 {H.calls[0] with dead:=!C0.dead},c'.temps.length≤6∧c'.stack.length≤6∧-1≤c'.sender∧c'.sender<(H.calls.length:Int)):=HSET.out _ (by rw[HC0.out];dsimp only;omega)
        clear OP PP OC
        go_wp2_with fail
        go_region
        all_goals
          have hE:∃(av as':Option Addr) (nv kv ns' ks':Nat) (h':Hp),DH w b a len cap (p1+1+1+1) W0.heap.size w1.heap.size w3.heap.size (.slice ap ms.length cp) ms (.slice av nv kv) (.slice as' ns' ks') h' ((w9.setCell ⟨gc,oc+5,none⟩ (.bool (!C0.dead))).drew)∧HpFine h':=⟨_,_,_,_,_,_,_,kP.drew,fine_of H.calls.length (by simp) hl30 (by show H.said.length≤100;omega) bS.out hnw.1 (by show H.now≤(H.calls.length:Int);omega) HFW.out⟩
          go_wp2_with fail
          go_meet
          obtain⟨av,as',nv,kv,ns',ks',h',kz,bz⟩:=hE
          exact⟨p1+1+1+1,av,as',nv,kv,ns',ks',h',by omega,by omega,kz,bz⟩
      have ex_3:(u == 3)=false:=beq_eq_false_iff_ne.2 hu_3
      by_cases hu_4:u=4
      · subst hu_4
        obtain⟨aT,cT,hT,_⟩:=(OC.lists 0 h0c).1.slice
        have hrT:=(OC.lists 0 h0c).1
        rw[hT] at x2 hrT
        rw[HC0.out] at x2 hrT hT
        have HT:Hid ((V6 0).1=.slice aT C0.temps.length cT):=hT
        clear hT
        have NA:Below w9.heap.size w9 (w9.alloc (.cells #[.int .i64 0,.int .i64 0] 98)).drew:=((Below.refl _ _).alloc (Nat.le_refl _) _).drew
        have hownT:=hrT.below NA
        have zNA:(w9.alloc (.cells #[.int .i64 0,.int .i64 0] 98)).drew.heap.size=w9.heap.size+1:=by simp
        have hB9:B6≤(w9.alloc (.cells #[.int .i64 0,.int .i64 0] 98)).drew.heap.size:=by omega
        have HE4:Hid (∀v' w',PairRow B6 w' v' (C0.temps ++ [(0,0)])→(w9.alloc (.cells #[.int .i64 0,.int .i64 0] 98)).drew.grownBy w' (Value.slice aT C0.temps.length cT).ownBlock→(v'.ownBlock=(Value.slice aT C0.temps.length cT).ownBlock∨v'.ownBlock=some (w9.alloc (.cells #[.int .i64 0,.int .i64 0] 98)).drew.heap.size)→(w'.cell? ⟨gc,oc+2,none⟩=some (.slice aT C0.temps.length cT)∧w'.frozen? ⟨gc,oc+2,none⟩=false∧w'.cell? ⟨w3.heap.size,0,none⟩=some (.slice (some ⟨gc,oc,none⟩) H.calls.length kc6))∧DH w b a len cap (p1+1+1+1) W0.heap.size w1.heap.size w3.heap.size (.slice ap ms.length cp) ms (.slice (some ⟨gc,oc,none⟩) H.calls.length kc6) (.slice a7 H.said.length k7) {H with calls:=H.calls.set 0 {H.calls[0] with temps:=C0.temps ++ [(0,0)]}} (w'.setCell ⟨gc,oc+2,none⟩ v')):=by
          intro v' w' hr' hg' hv'
          have hz':=hg'.size
          have hbl:∀q,q<w9.heap.size→(V6 0).1.ownBlock≠some q→w'.heap[q]?=w9.heap[q]?:=fun q h1 h2=>(hg'.block q (by omega) (fun e=>h2 (by rw[HT.out];exact e.symm))).trans (NA.block q h1)
          have hvn:∀q,v'.ownBlock=some q→(V6 0).1.ownBlock=some q∨w9.heap.size≤q:=fun q e=>by
            rcases hv' with x | x
            · exact .inl (by rw[HT.out,←x];exact e)
            · rw[x] at e;injection e with e;exact .inr (by omega)
          have hap:=OC.apart 0 (by omega)
          have hgn:(V6 0).1.ownBlock≠some gc:=fun e=>(hap gc (by rw[show lst V6 0=(V6 0).1 from lst_0 V6 0];exact e)).1 rfl
          have hgb:w'.heap[gc]?=w9.heap[gc]?:=hbl gc hgc' hgn
          have hbn:(V6 0).1.ownBlock≠some w3.heap.size:=fun e=>by have:=((OC.lists 0 h0c).1.lt _ e).1;omega
          have hbb:w'.heap[w3.heap.size]?=w9.heap[w3.heap.size]?:=hbl _ z9b hbn
          have PP:=put_temps OC (j:=0) h0c v' (C0.temps ++ [(0,0)]) (by omega) hbl hr' hvn
          simp only[Nat.zero_mul,Nat.add_zero] at PP
          have OP:=O9.put h0c PP
          have hB':Below w3.heap.size w9 (w'.setCell ⟨gc,oc+2,none⟩ v'):=((NA.mono (by omega)).grown hg' (by omega) (fun q e=>by have:=(hrT.lt q e).1;omega)).setCell (p:=⟨gc,oc+2,none⟩) (by show w3.heap.size≤gc;omega) _
          exact⟨⟨(World.cell?_of_block (a:=⟨gc,oc+2,none⟩) hgb).trans x2,(World.frozen?_of_block (a:=⟨gc,oc+2,none⟩) hgb).trans xf2,(World.cell?_of_block (a:=⟨w3.heap.size,0,none⟩) hbb).trans d0⟩,k9.re hB' (k9.R.of_block ((Below.heap_setCell _ _ _ _ (by show w3.heap.size≠gc;omega)).trans hbb)) (OP.stays hB6)⟩
        have bS:Hid (∀c'∈H.calls.set 0 {H.calls[0] with temps:=C0.temps ++ [(0,0)]},c'.temps.length≤6∧c'.stack.length≤6∧-1≤c'.sender∧c'.sender<(H.calls.length:Int)):=HSET.out _ (by have:=HLT.out _ (List.getElem_mem h0c);rw[HC0.out] at this ⊢;simp only[List.length_append,List.length_singleton];omega)
        clear OC hrT
        go_wp2_with fail
        go_region_law (refine step_vals _ (by rfl) _ _ (by rfl) B6 _ _ C0.temps [(0,0)] (by rfl) (by rfl) hownT (one_drew w9 0 0 _ _) (by simp;omega) (by simp;omega) ?_;intro v' w' hrow hg hbk;obtain⟨a',c',hv',_⟩:=hrow.slice;rw[List.length_append,List.length_singleton] at hv';subst hv';obtain⟨⟨z4,f4,zb⟩,kP⟩:=HE4.out _ w' hrow hg hbk)
        all_goals
          have hE:∃(av as':Option Addr) (nv kv ns' ks':Nat) (h':Hp),DH w b a len cap (p1+1+1+1) W0.heap.size w1.heap.size w3.heap.size (.slice ap ms.length cp) ms (.slice av nv kv) (.slice as' ns' ks') h' (w'.setCell ⟨gc,oc+2,none⟩ (.slice a' (C0.temps.length+1) c'))∧HpFine h':=⟨_,_,_,_,_,_,_,kP,fine_of H.calls.length (by simp) hl30 (by show H.said.length≤100;omega) bS.out hnw.1 (by show H.now≤(H.calls.length:Int);omega) HFW.out⟩
          go_wp2_with fail
          go_meet
          obtain⟨av,as',nv,kv,ns',ks',h',kz,bz⟩:=hE
          exact⟨p1+1+1+1,av,as',nv,kv,ns',ks',h',by omega,by omega,kz,bz⟩
      have ex_4:(u == 4)=false:=beq_eq_false_iff_ne.2 hu_4
      by_cases hu_5:u=5
      · subst hu_5
        have PP:=put_cell OC (j:=0) h0c 4 (.int .i64 ((H.calls.length:Int) - 1)) {H.calls[0] with sender:=(H.calls.length:Int) - 1} (by omega) rfl rfl rfl (by first | rfl | simp) (by first | rfl | simp) (by first | rfl | simp)
        simp only[Nat.zero_mul,Nat.add_zero] at PP
        have OP:=O9.put h0c PP
        have hne:w3.heap.size≠gc:=by omega
        have kP:DH w b a len cap (p1+1+1+1) W0.heap.size w1.heap.size w3.heap.size (.slice ap ms.length cp) ms (.slice (some ⟨gc,oc,none⟩) H.calls.length kc6) (.slice a7 H.said.length k7) {H with calls:=H.calls.set 0 {H.calls[0] with sender:=(H.calls.length:Int) - 1}} (w9.setCell ⟨gc,oc+4,none⟩ (.int .i64 ((H.calls.length:Int) - 1))):=k9.re ((Below.refl _ _).setCell (p:=⟨gc,oc+4,none⟩) (by show w3.heap.size≤gc;omega) _) (k9.R.of_block (Below.heap_setCell _ _ _ _ hne)) (OP.stays hB6)
        have bS:Hid (∀c'∈H.calls.set 0 {H.calls[0] with sender:=(H.calls.length:Int) - 1},c'.temps.length≤6∧c'.stack.length≤6∧-1≤c'.sender∧c'.sender<(H.calls.length:Int)):=HSET.out _ (by rw[HC0.out];dsimp only;omega)
        clear OP PP OC
        have hE:∃(av as':Option Addr) (nv kv ns' ks':Nat) (h':Hp),DH w b a len cap (p1+1+1+1) W0.heap.size w1.heap.size w3.heap.size (.slice ap ms.length cp) ms (.slice av nv kv) (.slice as' ns' ks') h' (w9.setCell ⟨gc,oc+4,none⟩ (.int .i64 ((H.calls.length:Int) - 1)))∧HpFine h':=⟨_,_,_,_,_,_,_,kP,fine_of H.calls.length (by simp) hl30 (by show H.said.length≤100;omega) bS.out hnw.1 (by show H.now≤(H.calls.length:Int);omega) HFW.out⟩
        go_wp2_with fail
        go_meet
        obtain⟨av,as',nv,kv,ns',ks',h',kz,bz⟩:=hE
        exact⟨p1+1+1+1,av,as',nv,kv,ns',ks',h',by omega,by omega,kz,bz⟩
      have ex_5:(u == 5)=false:=beq_eq_false_iff_ne.2 hu_5
      by_cases hu_6:u=6
      · subst hu_6
        have NA:Below w9.heap.size w9 (w9.alloc (.cells #[.int .i64 2,.int .i64 9] 98)):=(Below.refl _ _).alloc (Nat.le_refl _) _
        have hownT:=O9.s.below NA
        have zNA:(w9.alloc (.cells #[.int .i64 2,.int .i64 9] 98)).heap.size=w9.heap.size+1:=by simp
        have HE4:Hid (∀v' w',PairRow B6 w' v' (H.said ++ [(2,9)])→(w9.alloc (.cells #[.int .i64 2,.int .i64 9] 98)).grownBy w' (Value.slice a7 H.said.length k7).ownBlock→(v'.ownBlock=(Value.slice a7 H.said.length k7).ownBlock∨v'.ownBlock=some (w9.alloc (.cells #[.int .i64 2,.int .i64 9] 98)).heap.size)→(w'.cell? ⟨w3.heap.size,3,none⟩=some (.slice a7 H.said.length k7)∧w'.frozen? ⟨w3.heap.size,3,none⟩=false)∧DH w b a len cap (p1+1+1+1) W0.heap.size w1.heap.size w3.heap.size (.slice ap ms.length cp) ms (.slice (some ⟨gc,oc,none⟩) H.calls.length kc6) v' {H with said:=H.said ++ [(2,9)]} (w'.setCell ⟨w3.heap.size,3,none⟩ v')):=by
          intro v' w' hr' hg' hv'
          have hz':=hg'.size
          have hbl:∀q,q<w9.heap.size→(Value.slice a7 H.said.length k7).ownBlock≠some q→w'.heap[q]?=w9.heap[q]?:=fun q h1 h2=>(hg'.block q (by omega) (fun e=>h2 e.symm)).trans (NA.block q h1)
          have hvn:∀q,v'.ownBlock=some q→(Value.slice a7 H.said.length k7).ownBlock=some q∨w9.heap.size≤q:=fun q e=>by
            rcases hv' with x | x
            · exact .inl (by rw[←x];exact e)
            · rw[x] at e;injection e with e;exact .inr (by omega)
          have hbn:(Value.slice a7 H.said.length k7).ownBlock≠some w3.heap.size:=fun e=>by have:=(O9.s.lt _ e).1;omega
          have hbb:w'.heap[w3.heap.size]?=w9.heap[w3.heap.size]?:=hbl _ z9b hbn
          have OP:=(O9.say v' _ (by omega) hbl hr' hvn).setLow (p:=⟨w3.heap.size,3,none⟩) (show w3.heap.size<B6 from hB6) v'
          have hB':Below w3.heap.size w9 (w'.setCell ⟨w3.heap.size,3,none⟩ v'):=((NA.mono (by omega)).grown hg' (by omega) (fun q e=>by have:=(O9.s.lt q e).1;omega)).setCell (p:=⟨w3.heap.size,3,none⟩) (show w3.heap.size≤w3.heap.size from Nat.le_refl _) _
          exact⟨⟨(World.cell?_of_block (a:=⟨w3.heap.size,3,none⟩) hbb).trans d3,(World.frozen?_of_block (a:=⟨w3.heap.size,3,none⟩) hbb).trans e3⟩,k9.re hB' (five_set3 (k9.R.of_block hbb) v') (OP.stays hB6)⟩
        clear OC
        have oneA:=one_at w9 2 9 98 1
        go_wp2_with (at_builtin;refine append_vals _ (by rfl) _ _ (by rfl) B6 _ _ H.said [(2,9)] (by rfl) (by rfl) hownT oneA (by simp;omega) (by simp;omega) ?_;intro v' w' hrow hg hbk;obtain⟨a',c',hv',_⟩:=hrow.slice;rw[List.length_append,List.length_singleton] at hv';subst hv';obtain⟨⟨z4,f4⟩,kP⟩:=HE4.out _ w' hrow hg hbk)
        have hE:∃(av as':Option Addr) (nv kv ns' ks':Nat) (h':Hp),DH w b a len cap (p1+1+1+1) W0.heap.size w1.heap.size w3.heap.size (.slice ap ms.length cp) ms (.slice av nv kv) (.slice as' ns' ks') h' (w'.setCell ⟨w3.heap.size,3,none⟩ (.slice a' (H.said.length+1) c'))∧HpFine h':=⟨_,_,_,_,_,_,_,kP,fine_of H.calls.length rfl hl30 (by simp;omega) HTS.out hnw.1 (by show H.now≤(H.calls.length:Int);omega) (few_snoc HFW.out ⟨by decide,by decide,by decide,by decide⟩)⟩
        go_wp2_with fail
        go_meet
        obtain⟨av,as',nv,kv,ns',ks',h',kz,bz⟩:=hE
        exact⟨p1+1+1+1,av,as',nv,kv,ns',ks',h',by omega,by omega,kz,bz⟩
      have ex_6:(u == 6)=false:=beq_eq_false_iff_ne.2 hu_6
      have hrl:H.calls.length≤kc6:=by
        rcases OC.row with⟨h1,_⟩ | ⟨_,_,kk,hv,_,_,hl,_⟩
        · cases h1
        · injection hv with _ _ e;omega
      clear OC
      by_cases hk1:kc6=1
      · subst hk1
        have kP:DH w b a len cap (p1+1+1+1) W0.heap.size w1.heap.size w3.heap.size (.slice ap ms.length cp) ms (.slice (some ⟨gc,oc,none⟩) 0 0) (.slice a7 H.said.length k7) {H with calls:=H.calls.drop 1} (w9.setCell ⟨w3.heap.size,0,none⟩ (.slice (some ⟨gc,oc,none⟩) 0 0)):=k9.re ((Below.refl _ _).setCell (p:=⟨w3.heap.size,0,none⟩) (Nat.le_refl _) _) (five_set0 k9.R _) fun w'' e1 e2=>by
          have hzz:(w9.setCell ⟨w3.heap.size,0,none⟩ (.slice (some ⟨gc,oc,none⟩) 0 0)).heap.size=w9.heap.size:=by simp[World.setCell]
          have HX:=k9.hx w'' (by omega) fun g y1 y2=>(e2 g y1 (by omega)).trans (Below.heap_setCell _ _ _ _ (by show g≠w3.heap.size;omega))
          have hl1:H.calls.length=1:=by omega
          have hdr:H.calls.drop 1=[]:=List.drop_eq_nil_of_le (by omega)
          refine⟨?_,HX.s,HX.r⟩
          show CallsAt w'' _ (H.calls.drop 1)
          rw[hdr]
          exact⟨some ⟨gc,oc,none⟩,0,rfl,Nat.zero_le _,fun _ hi=>absurd hi (Nat.not_lt_zero _)⟩
        have hE:∃(av as':Option Addr) (nv kv ns' ks':Nat) (h':Hp),DH w b a len cap (p1+1+1+1) W0.heap.size w1.heap.size w3.heap.size (.slice ap ms.length cp) ms (.slice av nv kv) (.slice as' ns' ks') h' (w9.setCell ⟨w3.heap.size,0,none⟩ (.slice (some ⟨gc,oc,none⟩) 0 0))∧HpFine h':=⟨_,_,_,_,_,_,_,kP,fine_tail GD.out DN.out (by omega) HTS.out⟩
        go_wp2_with fail
        go_meet
        obtain⟨av,as',nv,kv,ns',ks',h',kz,bz⟩:=hE
        exact⟨p1+1+1+1,av,as',nv,kv,ns',ks',h',by omega,by omega,kz,bz⟩
      · have hk2:1<kc6:=by omega
        have kP:DH w b a len cap (p1+1+1+1) W0.heap.size w1.heap.size w3.heap.size (.slice ap ms.length cp) ms (.slice (some ⟨gc,oc+6,none⟩) (H.calls.length - 1) (kc6 - 1)) (.slice a7 H.said.length k7) {H with calls:=H.calls.drop 1} (w9.setCell ⟨w3.heap.size,0,none⟩ (.slice (some ⟨gc,oc+6,none⟩) (H.calls.length - 1) (kc6 - 1))):=k9.re ((Below.refl _ _).setCell (p:=⟨w3.heap.size,0,none⟩) (Nat.le_refl _) _) (five_set0 k9.R _) fun w'' e1 e2=>by
          have hzz:(w9.setCell ⟨w3.heap.size,0,none⟩ (.slice (some ⟨gc,oc+6,none⟩) (H.calls.length - 1) (kc6 - 1))).heap.size=w9.heap.size:=by simp[World.setCell]
          have HX:=k9.hx w'' (by omega) fun g y1 y2=>(e2 g y1 (by omega)).trans (Below.heap_setCell _ _ _ _ (by show g≠w3.heap.size;omega))
          exact⟨HX.c.tail (by omega) _,HX.s,HX.r⟩
        have hE:∃(av as':Option Addr) (nv kv ns' ks':Nat) (h':Hp),DH w b a len cap (p1+1+1+1) W0.heap.size w1.heap.size w3.heap.size (.slice ap ms.length cp) ms (.slice av nv kv) (.slice as' ns' ks') h' (w9.setCell ⟨w3.heap.size,0,none⟩ (.slice (some ⟨gc,oc+6,none⟩) (H.calls.length - 1) (kc6 - 1)))∧HpFine h':=⟨_,_,_,_,_,_,_,kP,fine_tail GD.out DN.out (by omega) HTS.out⟩
        go_wp2_with fail
        go_meet
        obtain⟨av,as',nv,kv,ns',ks',h',kz,bz⟩:=hE
        exact⟨p1+1+1+1,av,as',nv,kv,ns',ks',h',by omega,by omega,kz,bz⟩
theorem l71Heap_any (w:World) (b:Nat) (a:Option Addr) (len cap p:Nat) (hr:Rd w b a len cap p) (hp:p+410≤1000000) :
    Calls Tryz.prog 42 #[.pointer (some ⟨b,0,none⟩)] w fun e w'=>∃(v vc vs:Value) (ms:List MM) (h:Hp) (p':Nat),e=.returned (.tuple #[.agg #[v],.agg (hpCells vc vs h)])∧Stays w.heap.size w' (fun x=>MethsAt x v (plainOf ms)∧HeapAt x vc vs h)∧progOk (plainOf ms)=true∧HpFine h∧p≤p'∧p'≤p+410∧Rd w' b a len cap p'∧w.grownBy w' (some b):=by
  refine(l71Heap_said w b a len cap p hr hp).mono ?_
  rintro e w' ⟨v,vc,vs,ms,h,p',rfl,st,rest⟩
  exact⟨v,vc,vs,ms,h,p',rfl,st.imp fun _ k=>⟨k.1,k.2.at⟩,rest⟩
structure DrawnHeap (B:Nat) (w:World) (v vc vs:Value) (ms:List (Int × Int × List (Int × Int))) (h:Hp):Prop where
  st:Stays B w (fun x=>MethsAt x v ms∧HeapAt x vc vs h)
  ok:progOk ms=true
  fine:HpFine h
theorem boxes_fin {w wx:World} {B:Nat} {P:World→Prop} (rp:wx.rowIs w.heap.size 25 1 (fun _=>.slice none 0 0)) (rh:wx.rowIs (w.heap.size+1) 29 5 (five (.slice none 0 0) (.int .i64 0) (.int .i64 0) (.slice none 0 0) (.int .i64 0)))
    (st:Stays B wx P) (hB:w.heap.size+1<B) (hw:Below w.heap.size w wx) (vp vc vs:Value) (x1 x2 x4:Int) :
    ∃WF:World,WF=((((((wx.setCell ⟨w.heap.size,0,none⟩ vp).setCell ⟨w.heap.size+1,0,none⟩ vc).setCell ⟨w.heap.size+1,1,none⟩ (.int .i64 x1)).setCell ⟨w.heap.size+1,2,none⟩ (.int .i64 x2)).setCell ⟨w.heap.size+1,3,none⟩ vs).setCell ⟨w.heap.size+1,4,none⟩ (.int .i64 x4)) ∧
      WF.cell? ⟨w.heap.size,0,none⟩=some vp∧WF.rowIs (w.heap.size+1) 29 5 (five vc (.int .i64 x1) (.int .i64 x2) vs (.int .i64 x4))∧Stays w.heap.size WF P∧Below w.heap.size w WF:=by
  have k1:=grown_set wx w.heap.size 0 vp
  have k2:=grown_trans (grown_trans (grown_trans (grown_trans (grown_set (wx.setCell ⟨w.heap.size,0,none⟩ vp) (w.heap.size+1) 0 vc) (grown_set _ (w.heap.size+1) 1 (.int .i64 x1))) (grown_set _ (w.heap.size+1) 2 (.int .i64 x2))) (grown_set _ (w.heap.size+1) 3 vs)) (grown_set _ (w.heap.size+1) 4 (.int .i64 x4))
  refine⟨_,rfl,k2.cell (World.cell?_setCell_same wx ⟨w.heap.size,0,none⟩ vp (rp.cell (i:=0) (by decide))) (by intro e;simp at e),five_set4 (five_set3 (five_set2 (five_set1 (five_set0 (row_kept rh k1 (by intro e;injection e with e;omega)) vc) (.int .i64 x1)) (.int .i64 x2)) vs) (.int .i64 x4),((st.grown k1 (by omega)).grown k2 hB).mono (by omega),?_⟩
  have hz:=hw.size
  exact(hw.grown k1 (by omega) (fun q e=>by cases e;omega)).grown k2 (by have:=k1.size;omega) (fun q e=>by cases e;omega)
set_option maxRecDepth 100000 in
set_option maxHeartbeats 4000000 in
theorem drawHeapMethods_any (w:World) (a:Option Addr) (len cap:Nat) (h:BytesAt w a len cap) :
    Calls Tryz.prog 13 #[.slice a len cap] w fun e w'=>∃(v vc vs:Value) (ms:List (Int × Int × List (Int × Int))) (H:Hp),e=.returned (.tuple #[.agg #[v],.agg (hpCells vc vs H)])∧DrawnHeap w.heap.size w' v vc vs ms H∧Below w.heap.size w w':=by
  have hA:Below w.heap.size w ((w.alloc (.cells #[.slice none 0 0] 25)).alloc (.cells #[.slice none 0 0,.int .i64 0,.int .i64 0,.slice none 0 0,.int .i64 0] 29)):=((Below.refl _ _).alloc (Nat.le_refl _) _).alloc (by simp) _
  have rA:=(pbox_new w (.slice none 0 0)).alloc (.cells #[.slice none 0 0,.int .i64 0,.int .i64 0,.slice none 0 0,.int .i64 0] 29)
  have sA:=five_new (w.alloc (.cells #[.slice none 0 0] 25)) 29 (.slice none 0 0) (.int .i64 0) (.int .i64 0) (.slice none 0 0) (.int .i64 0)
  have zA:((w.alloc (.cells #[.slice none 0 0] 25)).alloc (.cells #[.slice none 0 0,.int .i64 0,.int .i64 0,.slice none 0 0,.int .i64 0] 29)).heap.size=w.heap.size+2:=by simp
  simp only[World.size_alloc] at sA
  go_enter Tryz.func13,Tryz.ntmps13
  go_wp2_with fail
  generalize (w.alloc (.cells #[.slice none 0 0] 25)).alloc (.cells #[.slice none 0 0,.int .i64 0,.int .i64 0,.slice none 0 0,.int .i64 0] 29)=W1 at *
  refine(l6Open_any _ a len cap (h.below hA)).mono ?_
  rintro e w2 ⟨n,rfl,hr2,z2,hb2⟩
  have r2:=row_kept rA (below_grown hb2 none) (by simp)
  have s2:=row_kept sA (below_grown hb2 none) (by simp)
  have B2:Below w.heap.size w w2:=hA.trans (hb2.mono (by omega))
  clear hA rA sA hb2
  rw[zA] at hr2 ⊢
  go_wp2_with fail
  refine(l71Heap_any _ _ _ _ _ _ hr2 (by omega)).mono ?_
  rintro e w3 ⟨v,vc,vs,ms,H,p3,rfl,st3,ok3,fi3,hq3,hq3',hr3,hg3⟩
  have r3:=row_kept r2 hg3 (by intro e;injection e with e;omega)
  have s3:=row_kept s2 hg3 (by intro e;injection e with e;omega)
  have B3:Below w.heap.size w w3:=B2.grown hg3 (by omega) (fun k e=>by cases e;omega)
  have z3:=hg3.size
  obtain⟨hM,hH⟩:=st3.here
  obtain⟨aV,cV,hvV,_⟩:=id hM
  obtain⟨ac,kc,hvc⟩:=hH.c.shape
  obtain⟨aD,kD,hvs⟩:=hH.s.shape
  subst hvV hvc hvs
  clear hM hH hr2 r2 s2 B2 hg3 hr3
  have HFI:Hid (HpFine H):=fi3
  have HST:Hid (Stays w2.heap.size w3 (fun x=>MethsAt x (.slice aV (plainOf ms).length cV) (plainOf ms)∧HeapAt x (.slice ac H.calls.length kc) (.slice aD H.said.length kD) H)):=st3
  unfold hpCells
  have HOK:Hid (progOk (plainOf ms)=true):=ok3
  clear fi3 st3 ok3
  have z2':w2.heap.size=w.heap.size+3:=by omega
  generalize plainOf ms=MS at *
  obtain⟨WF,hWF,f1,f2,f3,f4⟩:=boxes_fin r3 s3 HST.out (by omega) B3 (.slice aV MS.length cV) (.slice ac H.calls.length kc) (.slice aD H.said.length kD) H.now H.born H.code
  have cp0:=r3.cell (i:=0) (by decide)
  have cpf:=r3.frozen 0
  obtain⟨⟨c0,c1,c2,c3,c4⟩,cf0,cf1,cf2,cf3,cf4⟩:=five_cells s3
  go_wp2
  rw[←hWF]
  obtain⟨⟨q0,q1,q2,q3,q4⟩,_⟩:=five_cells f2
  exact bodyPost_ret (v:=.tuple #[.agg #[.slice aV MS.length cV],.agg #[.slice ac H.calls.length kc,.int .i64 H.now,.int .i64 H.born,.slice aD H.said.length kD,.int .i64 H.code]]) (by simp[results,Tryz.results13,go_sem,f1,q0,q1,q2,q3,q4]) rfl ⟨_,_,_,MS,H,rfl,⟨f3,HOK.out,HFI.out⟩,f4⟩
end Go.Proofs.YtjbgpcileapogaaGreat

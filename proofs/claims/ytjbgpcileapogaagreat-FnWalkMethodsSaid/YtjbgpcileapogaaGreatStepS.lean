/-
  The program's HeapOk answers the plain heapOk; it writes to nothing that was there.
-/
import Derived.Test.YtjbgpcileapogaaGreatHImpl5
import Derived.Test.YtjbgpcileapogaaGreatImplOk
namespace Go.Proofs.YtjbgpcileapogaaGreat
open Go.RowKit
theorem ops_few {ms:List (Int × Int × List (Int × Int))} (h:progOk ms=true):∀i,(hi:i<ms.length)→ms[i].2.2.length≤1000000:=fun i hi=>by
  simp only[progOk,Bool.and_eq_true] at h
  have:=List.all_eq_true.1 h.2 ms[i] (List.getElem_mem hi)
  simp only[methOk,Bool.and_eq_true,inR_true,decide_eq_true_iff] at this
  omega
set_option maxRecDepth 100000 in
set_option maxHeartbeats 8000000 in
theorem implHeapOk_any (vp vc vs:Value) (ms:List (Int × Int × List (Int × Int))) (h:Hp) (w:World) (hp:MethsAt w vp ms) (hh:HeapAt w vc vs h) (hn:h.calls.length≤1048576) :
    Calls Tryz.prog 45 #[.agg #[vp],.agg (hpCells vc vs h)] w fun e w'=>e=.returned (.bool (heapOk ms h))∧Below w.heap.size w w':=by
  obtain⟨ac,kc,hvc⟩:=hh.c.shape
  obtain⟨aD,kD,hvs⟩:=hh.s.shape
  obtain⟨ap,cp,hvp,hlp,_⟩:=id hp
  subst hvc hvs hvp
  unfold maxLen at hlp
  unfold hpCells
  have hA:Below w.heap.size w ((w.alloc (.cells #[.slice ap ms.length cp] 25)).alloc (.cells #[.slice ac h.calls.length kc,.int .i64 h.now,.int .i64 h.born,.slice aD h.said.length kD,.int .i64 h.code] 29)):=((Below.refl _ _).alloc (Nat.le_refl _) _).alloc (by simp) _
  have bp:((w.alloc (.cells #[.slice ap ms.length cp] 25)).alloc (.cells #[.slice ac h.calls.length kc,.int .i64 h.now,.int .i64 h.born,.slice aD h.said.length kD,.int .i64 h.code] 29)).cell? ⟨w.heap.size,0,none⟩=some (.slice ap ms.length cp):=by simp[go_sem]
  have bh:=five_new (w.alloc (.cells #[.slice ap ms.length cp] 25)) 29 (.slice ac h.calls.length kc) (.int .i64 h.now) (.int .i64 h.born) (.slice aD h.said.length kD) (.int .i64 h.code)
  simp only[World.size_alloc] at bh
  go_enter Tryz.func45,Tryz.ntmps45
  go_upto_region 1 with fail
  generalize (w.alloc (.cells #[.slice ap ms.length cp] 25)).alloc (.cells #[.slice ac h.calls.length kc,.int .i64 h.now,.int .i64 h.born,.slice aD h.said.length kD,.int .i64 h.code] 29)=W0 at *
  obtain⟨⟨x0,x1,x2,x3,x4⟩,_⟩:=five_cells bh
  have zA:=hA.size
  go_wp2_with fail
  refine(implProgOk_any _ ms _ (hp.below hA)).mono ?_
  rintro e w1 ⟨rfl,hb1⟩
  have hB1:Below w.heap.size w w1:=hA.trans (hb1.mono zA)
  have bp1:=cell_below hb1 bp
  have bh1:=row_below hb1 bh
  have z1:=hB1.size
  clear hA bp bh x0 x1 x2 x3 x4 hb1
  obtain⟨⟨x0,x1,x2,x3,x4⟩,_⟩:=five_cells bh1
  have HH:Hid (headOk ms h=false→heapOk ms h=false):=heapOk_head
  cases h1:progOk ms
  · have HE:Hid (heapOk ms h=false):=HH.out (by simp[headOk,h1])
    go_wp2
    go_ret
    exact⟨ret_bool HE.out.symm,hB1⟩
  have HO:=ops_few h1
  have HOPS:Hid (∀i,(hi:i<ms.length)→ms[i].2.2.length≤1000000):=HO
  clear HO
  have hx:=@sender_or h.calls.length h.now
  cases h2:inR h.now (-1) ((h.calls.length:Int) - 1)
  · have HE:Hid (heapOk ms h=false):=HH.out (by simp[headOk,h2])
    rw[h2] at hx
    have HX:Hid ((h.now == -1 || inR h.now 0 ((h.calls.length:Int) - 1))=false):=hx
    clear hx
    go_wp2_with (go_at_call 112;refine(implIsCallOrNone_any _ _ _).mono ?_;rintro e w' ⟨rfl,hw⟩;obtain rfl:=hw.symm;rw[HX.out])
    go_ret
    exact⟨ret_bool HE.out.symm,hB1⟩
  rw[h2] at hx
  have HX:Hid ((h.now == -1 || inR h.now 0 ((h.calls.length:Int) - 1))=true):=hx
  clear hx
  have h2':=inR_true.1 h2
  cases h3:inR h.born 1 30
  · have HE:Hid (heapOk ms h=false):=HH.out (by simp[headOk,h3])
    go_wp2_with (first | (go_at_call 112;refine(implIsCallOrNone_any _ _ _).mono ?_;rintro e w' ⟨rfl,hw⟩;obtain rfl:=hw.symm;rw[HX.out]) | (go_at_call 73;refine(implBornOk_any _ _).mono ?_;rintro e w' ⟨rfl,hw⟩;obtain rfl:=hw.symm;rw[h3]))
    go_ret
    exact⟨ret_bool HE.out.symm,hB1⟩
  have h3':=inR_true.1 h3
  by_cases h4:h.born<(h.calls.length:Int)
  · have HE:Hid (heapOk ms h=false):=HH.out (by simp only[headOk,decide_eq_false (show ¬(h.calls.length:Int)≤h.born by omega),Bool.and_false,Bool.false_and])
    go_wp2_with (first | (go_at_call 112;refine(implIsCallOrNone_any _ _ _).mono ?_;rintro e w' ⟨rfl,hw⟩;obtain rfl:=hw.symm;rw[HX.out]) | (go_at_call 73;refine(implBornOk_any _ _).mono ?_;rintro e w' ⟨rfl,hw⟩;obtain rfl:=hw.symm;rw[h3]))
    go_ret
    exact⟨ret_bool HE.out.symm,hB1⟩
  have h4':(h.calls.length:Int)≤h.born:=by omega
  replace hn:h.calls.length≤900000:=by omega
  clear h4
  have HS:Hid (Calls Tryz.prog 75 #[.agg #[.slice ap ms.length cp],.slice aD h.said.length kD] w1 fun e w'=>e=.returned (.bool (valsOk ms.length h.said))∧Below w1.heap.size w1 w'):=implSaidOk_any _ _ ms h.said _ (hp.below hB1) (hh.below hB1).s
  obtain⟨r6,hr6⟩:∃r,valsOk ms.length h.said=r:=⟨_,rfl⟩
  have H6:Hid (valsOk ms.length h.said=r6):=hr6
  clear hr6
  cases r6
  · have HE:Hid (heapOk ms h=false):=HH.out (by simp[headOk,H6.out])
    go_wp2_with (first | (go_at_call 112;refine(implIsCallOrNone_any _ _ _).mono ?_;rintro e w' ⟨rfl,hw⟩;obtain rfl:=hw.symm;rw[HX.out]) | (go_at_call 73;refine(implBornOk_any _ _).mono ?_;rintro e w' ⟨rfl,hw⟩;obtain rfl:=hw.symm;rw[h3]) | (go_at_call 75;refine HS.out.mono ?_;rintro e w2 ⟨rfl,hb2⟩;rw[H6.out]))
    go_ret
    exact⟨ret_bool HE.out.symm,hB1.trans (hb2.mono z1)⟩
  have hcd:((h.code == 1) == (h.now == -1))=((h.code == 1) == decide (h.now<0)):=by
    have:(h.now == -1)=decide (h.now<0):=by rw[Bool.eq_iff_iff,beq_iff_eq,decide_eq_true_iff];omega
    rw[this]
  obtain⟨r7,hr7⟩:∃r,(inR h.code 0 3 && ((h.code == 1) == (h.now == -1)))=r:=⟨_,rfl⟩
  have H7:Hid ((inR h.code 0 3 && ((h.code == 1) == (h.now == -1)))=r7):=hr7
  have H7':Hid ((inR h.code 0 3 && ((h.code == 1) == decide (h.now<0)))=r7):=by show _=_;rw[←hcd];exact hr7
  clear hr7 hcd
  cases r7
  · have HE:Hid (heapOk ms h=false):=HH.out (by
      have e:=H7'.out
      cases h5:inR h.code 0 3
      · simp[headOk,h5]
      · rw[h5,Bool.true_and] at e
        simp only[headOk,e,Bool.and_false])
    go_wp2_with (first | (go_at_call 112;refine(implIsCallOrNone_any _ _ _).mono ?_;rintro e w' ⟨rfl,hw⟩;obtain rfl:=hw.symm;rw[HX.out]) | (go_at_call 73;refine(implBornOk_any _ _).mono ?_;rintro e w' ⟨rfl,hw⟩;obtain rfl:=hw.symm;rw[h3]) | (go_at_call 75;refine HS.out.mono ?_;rintro e w2 ⟨rfl,hb2⟩;rw[H6.out];have y4:=cell_below hb2 x4;have y1:=cell_below hb2 x1) | (go_at_call 76;refine(implCodeOk_any _ _ _).mono ?_;rintro e w' ⟨rfl,hw⟩;obtain rfl:=hw.symm;rw[H7.out]))
    go_ret
    exact⟨ret_bool HE.out.symm,hB1.trans (hb2.mono z1)⟩
  have HEND:Hid ((∀i,(hi:i<h.calls.length)→clOk ms h.calls.length h.calls[i]=true)→heapOk ms h=waitP h.calls h.now):=fun hc=>by
    have e:=Bool.and_eq_true_iff.1 H7'.out
    rw[heapOk_end (by simp only[headOk,h1,h2,h3,decide_eq_true h4',e.1,e.2,H6.out,Bool.true_and]) hc,wait_end hc h2'.1 (by omega)]
  go_wp2_with (first | (go_at_call 112;refine(implIsCallOrNone_any _ _ _).mono ?_;rintro e w' ⟨rfl,hw⟩;obtain rfl:=hw.symm;rw[HX.out]) | (go_at_call 73;refine(implBornOk_any _ _).mono ?_;rintro e w' ⟨rfl,hw⟩;obtain rfl:=hw.symm;rw[h3]) | (go_at_call 75;refine HS.out.mono ?_;rintro e w2 ⟨rfl,hb2⟩;rw[H6.out];have y4:=cell_below hb2 x4;have y1:=cell_below hb2 x1;have y0:=cell_below hb2 x0) | (go_at_call 76;refine(implCodeOk_any _ _ _).mono ?_;rintro e w' ⟨rfl,hw⟩;obtain rfl:=hw.symm;rw[H7.out]))
  have hB2:Below w.heap.size w w2:=hB1.trans (hb2.mono z1)
  have bp2:=cell_below hb2 bp1
  have bh2:=row_below hb2 bh1
  have z2:=hB2.size
  clear hB1 bp1 bh1 x0 x1 x2 x3 x4 hb2 y0 y1 y4 HS H6 H7 H7' HX HH h1 h2 h3
  go_loopg [49] h.calls.length (fun d i wr=>∃k:Nat,k≤h.calls.length∧d=h.calls.length - k∧i=.int .i64 (k:Nat)∧Below w2.heap.size w2 wr∧∀j,(hj:j<h.calls.length)→j<k→clOk ms h.calls.length h.calls[j]=true)
  case atStart=>exact⟨0,Nat.zero_le _,rfl,rfl,Below.refl _ _,fun j _ hj=>absurd hj (Nat.not_lt_zero _)⟩
  case round =>
    obtain⟨k,hk,rfl,rfl,hbr,hall⟩:=hrel
    have HA:Hid (∀j,(hj:j<h.calls.length)→j<k→clOk ms h.calls.length h.calls[j]=true):=hall
    clear hall
    have hBr:Below w.heap.size w wr:=hB2.trans (hbr.mono z2)
    have zr:=hBr.size
    have bpr:=cell_below hbr bp2
    have bhr:=row_below hbr bh2
    obtain⟨⟨y0,y1,y2,y3,y4⟩,_⟩:=five_cells bhr
    by_cases hlt:k<h.calls.length
    · have hkz:(k:Int)<(h.calls.length:Int):=by omega
      obtain⟨_,_,hx,_,hcl⟩:=(hh.below hBr).c
      cases hx
      obtain⟨b,o,vt,vs',rfl,hc⟩:=hcl k hlt
      obtain⟨d0,d1,d2,d3,d4,d5,dt,ds⟩:=hc
      obtain⟨a1,k1,e1⟩:=dt.shape
      obtain⟨a2,k2,e2⟩:=ds.shape
      subst e1 e2
      clear hcl
      have HCL:Hid (∀W,Below wr.heap.size wr W→Calls Tryz.prog 113 #[.agg #[.slice ap ms.length cp],.agg #[.int .i64 h.calls[k].m,.int .i64 h.calls[k].pc,.slice a1 h.calls[k].temps.length k1,.slice a2 h.calls[k].stack.length k2,.int .i64 h.calls[k].sender,.bool h.calls[k].dead],.int .i64 (h.calls.length:Nat)] W fun e w'=>e=.returned (.bool (clOk ms h.calls.length h.calls[k]))∧Below W.heap.size W w'):=fun W hb=>implCallOk_any _ _ _ ms h.calls[k] h.calls.length W ((hp.below hBr).below hb) (dt.below hb) (ds.below hb) (by unfold maxLen;omega) HOPS.out
      clear dt ds
      have qN:=fun o=>cell_below ((Below.refl _ _).alloc (Nat.le_refl _) o) bpr
      have q0N:=fun o=>cell_below ((Below.refl _ _).alloc (Nat.le_refl _) o) y0
      have hbN:=fun o=>(Below.refl wr.heap.size wr).alloc (Nat.le_refl _) o
      obtain⟨r,hr⟩:∃r,clOk ms h.calls.length h.calls[k]=r:=⟨_,rfl⟩
      have HR:Hid (clOk ms h.calls.length h.calls[k]=r):=hr
      clear hr
      cases r
      · go_wp2_with (go_at_call 113;refine(HCL.out _ (hbN _)).mono ?_;rintro e w3 ⟨rfl,hb3⟩;rw[HR.out])
        go_ret
        exact⟨ret_bool (heapOk_call hlt HR.out).symm,(hBr.alloc zr _).trans (hb3.mono (by simp;omega))⟩
      · go_wp2_with (go_at_call 113;refine(HCL.out _ (hbN _)).mono ?_;rintro e w3 ⟨rfl,hb3⟩;rw[HR.out])
        go_roundg (h.calls.length - (k+1))
        case measure=>omega
        case rel =>
          refine⟨k+1,by omega,rfl,by go_num,(hbr.alloc hbr.size _).trans (hb3.mono (by have:=hbr.size;simp;omega)),fun j hj hjk=>?_⟩
          by_cases e:j=k
          · subst e;exact HR.out
          · exact HA.out j hj (by omega)
    · obtain rfl:k=h.calls.length:=by omega
      have HE:Hid (heapOk ms h=waitP h.calls h.now):=HEND.out fun i hi=>HA.out i hi hi
      have HWT:Hid (Calls Tryz.prog 79 #[.agg #[.slice ac h.calls.length kc,.int .i64 h.now,.int .i64 h.born,.slice aD h.said.length kD,.int .i64 h.code]] wr fun e w'=>e=.returned (.bool (waitP h.calls h.now))∧Below wr.heap.size wr w'):=implWaitOk_any _ _ h wr (hh.below hBr) hn
      go_wp2_with (go_at_call 79;refine HWT.out.mono ?_;rintro e w3 ⟨rfl,hb3⟩)
      go_ret
      exact⟨ret_bool HE.out.symm,hBr.trans (hb3.mono zr)⟩
end Go.Proofs.YtjbgpcileapogaaGreat
namespace Go.Proofs.YtjbgpcileapogaaGreat
theorem getD_at {α:Type} {l:List α} {i:Nat} (h:i<l.length) (d:α):l.getD i d=l[i]:=by simp[h]
structure Doing (ms:Ms) (h:Hp) (j:Nat) (k a:Int) (args:List (Int × Int)):Prop where
  g:Good ms h
  code:h.code=0
  now:h.now=j
  lt:j<h.calls.length
  live:h.calls[j].dead=false
  kind:1≤k∧k≤18
  op:∃(m:Nat) (hm:m<ms.length),h.calls[j].m=m∧opOk ms.length ms[m].2.2.length ms[m].2.1 k a=true
  takes:(args.length:Int)=(takesOf ms k a).1
  room:(h.calls[j].stack.length:Int)+(takesOf ms k a).2≤6
  vals:valsOk h.calls.length args=true
  kinds:kindsOk k args=true
theorem takes_num {ms:Ms} {k a:Int} (h:k≠9):takesOf ms k a=(tk k,lv k):=by
  unfold takesOf
  rw[if_neg h]
theorem Doing.free {ms:Ms} {h:Hp} {j:Nat} {k a:Int} {args:List (Int × Int)} (d:Doing ms h j k a args) (hl:(takesOf ms k a).2=1):(h.calls[j]'d.lt).stack.length<6:=by
  have:=d.room
  rw[hl] at this
  omega
theorem Doing.push {ms:Ms} {h:Hp} {j:Nat} {k a:Int} {args:List (Int × Int)} (d:Doing ms h j k a args) (hl:(takesOf ms k a).2=1) {v:Int × Int} (hv:valOk h.calls.length v.1 v.2=true):Good ms (pushH h v) :=
  d.g.push d.now d.lt (d.free hl) hv d.live
theorem opOk_kind {nm no:Nat} {t k a:Int} (h:opOk nm no t k a=true):1≤k∧k≤18:=by
  unfold opOk at h
  by_cases h1:k=1
  · omega
  rw[if_neg h1] at h
  by_cases h2:k=2∨k=3
  · omega
  rw[if_neg h2] at h
  by_cases h3:k=7∨k=8
  · omega
  rw[if_neg h3] at h
  by_cases h4:k=9
  · omega
  rw[if_neg h4] at h
  by_cases h5:k=13∨k=14
  · omega
  rw[if_neg h5] at h
  simp only[Bool.and_eq_true,inR_true] at h
  exact h.1
theorem Doing.first {ms:Ms} {h:Hp} {j:Nat} {k a:Int} {args:List (Int × Int)} (d:Doing ms h j k a args) (i:Nat):valOk h.calls.length (args.getD i (0,0)).1 (args.getD i (0,0)).2=true:=vals_getD d.vals i
theorem Doing.ref {ms:Ms} {h:Hp} {j:Nat} {k a:Int} {args:List (Int × Int)} (d:Doing ms h j k a args) (hk:k=12∨k=13∨k=14∨k=15∨k=17∨k=18):(args.getD 0 (0,0)).1=2∧0≤(args.getD 0 (0,0)).2∧(args.getD 0 (0,0)).2.toNat<h.calls.length:=by
  have hq:=d.kinds
  unfold kindsOk at hq
  rw[if_neg (by omega),if_pos hk,beq_iff_eq] at hq
  have hv:=d.first 0
  rw[hq] at hv
  have:=valOk_ref' hv
  exact⟨hq,this.1,by omega⟩
theorem Good.do {ms:Ms} {h:Hp} {j:Nat} {k a:Int} {args:List (Int × Int)} (d:Doing ms h j k a args):Good ms (doH ms h k a args):=by
  have hlt:=d.lt
  obtain⟨m,hm,hcm,hop⟩:=d.op
  have hP:=prog_meth d.g.head.p hm
  have c:=d.g.cl j d.lt
  have hmg:ms.getD h.calls[j].m.toNat (0,0,[])=ms[m]:=by rw[hcm];simp[hm]
  have hcur:=cur_at d.now d.lt
  have hn0:0≤h.now:=by rw[d.now];omega
  have hset:∀c':Cl,ClP ms h.calls.length c'→c'.dead=h.calls[j].dead→c'.sender=h.calls[j].sender→Good ms (setH h c'):=fun c' q1 q2 q3=>d.g.cur d.now d.lt q1 q2 q3
  unfold doH
  simp only[]
  by_cases h1:k=1
  · rw[if_pos h1];subst h1
    refine d.push (by rw[takes_num (by decide)];rfl) (valOk_num ?_ ?_)
    all_goals
      have:=hop
      simp only[opOk,if_true,inR_true] at this
      simp only[]
      omega
  rw[if_neg h1]
  by_cases h5:k=5
  · rw[if_pos h5];subst h5
    refine d.push (by rw[takes_num (by decide)];rfl) (valOk_num ?_ ?_)
    · exact Int.emod_nonneg _ (by decide)
    · have:=Int.emod_lt_of_pos ((args.getD 0 (0,0)).2+(args.getD 1 (0,0)).2) (show(0:Int)<1000 by decide)
      simp only[]
      omega
  rw[if_neg h5]
  by_cases h6:k=6
  · rw[if_pos h6];subst h6
    exact d.push (by rw[takes_num (by decide)];rfl) (valOk_bit _ _)
  rw[if_neg h6]
  by_cases h2:k=2
  · rw[if_pos h2];subst h2
    refine d.push (by rw[takes_num (by decide)];rfl) ?_
    rw[hcur]
    exact vals_getD c.vt _
  rw[if_neg h2]
  by_cases h3:k=3
  · rw[if_pos h3];subst h3
    rw[hcur]
    exact hset _ ⟨c.m,c.pc,by simp only[List.length_set];exact c.t,c.s,c.sd,vals_set c.vt _ (d.first 0),c.vs,c.dd⟩ rfl rfl
  rw[if_neg h3]
  have hjump:k=7∨k=8→Good ms (setH h {curC h with pc:=a}):=fun hk=>by
    rw[hcur]
    have ho:=hop
    unfold opOk at ho
    rw[if_neg (by omega),if_neg (by omega),if_pos hk,inR_true] at ho
    exact hset _ ⟨c.m,by simp only[];rw[hmg];omega,c.t,c.s,c.sd,c.vt,c.vs,c.dd⟩ rfl rfl
  by_cases h7:k=7
  · rw[if_pos h7];exact hjump (.inl h7)
  rw[if_neg h7]
  by_cases h8:k=8
  · rw[if_pos h8]
    split
    · exact hjump (.inr h8)
    · exact d.g
  rw[if_neg h8]
  by_cases h9:k=9
  · rw[if_pos h9];subst h9
    unfold callH
    by_cases hb:30≤h.born
    · rw[if_pos hb];exact d.g.code hn0 (.inr rfl)
    rw[if_neg hb]
    have ho:=hop
    unfold opOk at ho
    rw[if_neg (by decide),if_neg (by decide),if_neg (by decide),if_pos rfl,inR_true] at ho
    obtain⟨a',rfl⟩:=Int.eq_ofNat_of_zero_le ho.1
    have ha:a'<ms.length:=by omega
    have hA:=prog_meth d.g.head.p ha
    have htk:=takesOf_call ha
    have h6:=d.free (by rw[htk])
    have hal:(args.length:Int)=ms[a'].1:=by rw[d.takes,htk]
    have hga:ms.getD ((a':Int)).toNat (0,0,[])=ms[a']:=by simp[ha]
    rw[hga]
    obtain⟨l,hw⟩:=d.g.w
    rw[d.now] at hw
    have hw':=hw.call d.lt h6 ⟨(a':Int),0,args ++ List.replicate (ms[a'].2.1.toNat - args.length) (0,0),[],h.now,false⟩ rfl d.now
    have hlen:(h.calls ++ [(⟨(a':Int),0,args ++ List.replicate (ms[a'].2.1.toNat - args.length) (0,0),[],h.now,false⟩:Cl)]).length=h.calls.length+1:=by simp
    have hb1:=d.g.head.born
    have hb2:=d.g.head.few
    refine⟨⟨d.g.head.p,?_,by simp only[];omega,by simp only[hlen];omega,d.g.head.code,d.g.head.said,⟨fun e=>by(have e':h.code=1:=e;rw[d.code] at e';cases e'),fun e=>by(have e':((h.calls.length:Nat):Int)<0:=e;omega)⟩⟩,fun i hi=>?_,_,hw'⟩
    · simp only[hlen];omega
    · simp only[hlen] at hi ⊢
      by_cases e:i<h.calls.length
      · rw[List.getElem_append_left e]
        exact(d.g.cl i e).mono (Nat.le_succ _)
      · obtain rfl:i=h.calls.length:=by omega
        simp only[List.getElem_append_right (Nat.le_refl _),Nat.sub_self,List.getElem_singleton]
        refine⟨by simp only[];omega,by simp only[hga];omega,?_,by simp,by simp only[];rw[d.now];omega,?_,rfl,fun e=>by cases e⟩
        · simp only[hga,List.length_append,List.length_replicate]
          have:=hA.temps
          omega
        · exact vals_append (valsOk_mono (Nat.le_succ _) d.vals) (vals_nones _ _)
  rw[if_neg h9]
  by_cases h10:k=10
  · rw[if_pos h10];subst h10
    unfold retH
    rw[hcur]
    by_cases hs:h.calls[j].sender<0
    · rw[if_pos hs]
      exact d.g.fin d.now d.lt hs (d.first 0)
    · rw[if_neg hs]
      have hs0:0≤h.calls[j].sender:=by omega
      obtain⟨a1,a2,_⟩:=leave_at d.now d.lt
      have hg:=d.g.leave d.now d.lt hs0 d.code
      obtain⟨l,hw⟩:=d.g.w
      rw[d.now] at hw
      obtain⟨t,_,hw',hr⟩:=hw.leave d.lt (dieC h.calls[j]) rfl
      obtain⟨s,hse⟩:∃s:Nat,h.calls[j].sender=s:=⟨h.calls[j].sender.toNat,by omega⟩
      rw[hse] at hw'
      obtain⟨hsl,t',rfl,hsd,_,_⟩:=hw'.head
      have hlen:(leaveH h).calls.length=h.calls.length:=by rw[a1];simp
      have hsl':s<h.calls.length:=by simpa using hsl
      have hjs:j≠s:=fun q=>by
        subst q
        simp only[List.getElem_set_self] at hsd
        cases hsd
      have hat:∀q:s<(leaveH h).calls.length,(leaveH h).calls[s]=h.calls[s]:=fun q=>by
        simp only[a1]
        rw[List.getElem_set_ne hjs]
      have hlv:s<(leaveH h).calls.length:=by omega
      refine hg.push (j:=s) (by rw[a2,hse]) hlv (by rw[hat];exact hr s List.mem_cons_self hsl') (by rw[hlen];exact d.first 0) ?_
      rw[hat]
      rw[List.getElem_set_ne hjs] at hsd
      exact hsd
  rw[if_neg h10]
  by_cases h11:k=11
  · rw[if_pos h11];subst h11
    refine d.push (by rw[takes_num (by decide)];rfl) (valOk_ref hn0 ?_)
    rw[d.now]
    have:=d.lt
    simp only[]
    omega
  rw[if_neg h11]
  by_cases hl:k=12∨k=13∨k=17∨k=18
  · rw[if_pos hl]
    obtain⟨_,_,hr⟩:=d.ref (by omega)
    have hlv:(takesOf ms k a).2=1:=by
      rw[takes_num (by omega)]
      rcases hl with e | e | e | e <;> subst e <;> rfl
    refine d.push hlv ?_
    have cr:=d.g.cl _ hr
    unfold lookV
    simp only[]
    rw[getD_at hr]
    by_cases e12:k=12
    · rw[if_pos e12]
      split
      · rename_i q;exact valOk_ref q cr.sd.2
      · exact valOk_none _
    rw[if_neg e12]
    by_cases e13:k=13
    · rw[if_pos e13];exact vals_getD cr.vt _
    rw[if_neg e13]
    by_cases e17:k=17
    · rw[if_pos e17];exact valOk_bit _ _
    rw[if_neg e17]
    have hlm:h.calls[(args.getD 0 (0,0)).2.toNat].m.toNat<ms.length:=by have:=cr.m;omega
    have hfew:=(prog_meth d.g.head.p hlm).few
    have hpc:=cr.pc
    rw[getD_at hlm] at hpc
    exact valOk_num hpc.1 (by simp only[];omega)
  rw[if_neg hl]
  by_cases h14:k=14
  · rw[if_pos h14]
    obtain⟨_,_,hr⟩:=d.ref (by omega)
    have cr:=d.g.cl _ hr
    unfold pokeH
    rw[getD_at hr]
    obtain⟨l,hw⟩:=d.g.w
    exact d.g.set hr ⟨cr.m,cr.pc,by simp only[List.length_set];exact cr.t,cr.s,cr.sd,vals_set cr.vt _ (d.first 1),cr.vs,cr.dd⟩ (hw.set_like _ hr _ rfl rfl (fun q=>hw.room _ q hr))
  rw[if_neg h14]
  by_cases h15:k=15
  · rw[if_pos h15];subst h15
    obtain⟨_,_,hr⟩:=d.ref (by decide)
    unfold backH
    rw[getD_at hr]
    by_cases hd:h.calls[(args.getD 0 (0,0)).2.toNat].dead=true
    · rw[if_pos hd];exact d.g.code hn0 (.inl rfl)
    rw[if_neg hd]
    obtain⟨l,hw⟩:=d.g.w
    have hbl:(args.getD 0 (0,0)).2.toNat∈l:=hw.all _ hr (by simpa using hd)
    have h6:∀hb:(args.getD 0 (0,0)).2.toNat<h.calls.length,h.calls[(args.getD 0 (0,0)).2.toNat].stack.length<6:=fun hb=>by
      have hw2:=hw
      rw[d.now] at hw2
      obtain⟨_,t,rfl,_⟩:=hw2.head
      rcases List.mem_cons.1 hbl with q | q
      · have:=d.free (by rw[takes_num (by decide)];rfl)
        simp only[q]
        exact this
      · exact hw.room _ (by simpa using q) hb
    obtain⟨r1,_,r3,r4,r5⟩:=Good.back h.calls.length h _ l d.g d.code hw hbl hw.len h6
    have hlt:(args.getD 0 (0,0)).2.toNat<(backTo h.calls.length h (args.getD 0 (0,0)).2.toNat).calls.length:=by rw[r4];exact hr
    exact r1.push r3 hlt (r5 hlt).1 (by rw[r4];exact d.first 1) (r5 hlt).2
  rw[if_neg h15]
  by_cases h16:k=16
  · rw[if_pos h16]
    exact⟨⟨d.g.head.p,d.g.head.now,d.g.head.born,d.g.head.few,d.g.head.code,vals_append d.g.head.said (vals_one (vals_say d.g (d.first 0))),d.g.head.fin⟩,d.g.cl,d.g.w⟩
  rw[if_neg h16]
  exact d.g
theorem Good.doing {ms:Ms} {h:Hp} (g:Good ms h) (hc:h.code=0) (h1:¬((ms.getD (curC h).m.toNat (0,0,[])).2.2.length:Int)≤(curC h).pc)
    (h2:¬(((curC h).stack.length:Int) - (takesOf ms (opNext ms (curC h)).1 (opNext ms (curC h)).2).1<0∨6<((curC h).stack.length:Int) - (takesOf ms (opNext ms (curC h)).1 (opNext ms (curC h)).2).1+(takesOf ms (opNext ms (curC h)).1 (opNext ms (curC h)).2).2))
    (h3:kindsOk (opNext ms (curC h)).1 ((curC h).stack.drop (((curC h).stack.length:Int) - (takesOf ms (opNext ms (curC h)).1 (opNext ms (curC h)).2).1).toNat)=true) :
    ∃j:Nat,Doing ms (setH h {curC h with stack:=(curC h).stack.take (((curC h).stack.length:Int) - (takesOf ms (opNext ms (curC h)).1 (opNext ms (curC h)).2).1).toNat,pc:=(curC h).pc+1}) j (opNext ms (curC h)).1 (opNext ms (curC h)).2 ((curC h).stack.drop (((curC h).stack.length:Int) - (takesOf ms (opNext ms (curC h)).1 (opNext ms (curC h)).2).1).toNat):=by
  have hn0:0≤h.now:=by
    by_cases q:h.now<0
    · have:=g.head.fin.2 q;omega
    · omega
  obtain⟨j,hn⟩:∃j:Nat,h.now=j:=⟨h.now.toNat,by omega⟩
  have hj:j<h.calls.length:=by have:=g.head.now;omega
  have hcur:=cur_at hn hj
  have c:=g.cl j hj
  obtain⟨l,hw⟩:=g.w
  rw[hn] at hw
  obtain⟨_,_,_,hlive,_⟩:=hw.head
  rw[hcur] at h1 h2 h3 ⊢
  have hml:h.calls[j].m.toNat<ms.length:=by have:=c.m;omega
  have hmg:ms.getD h.calls[j].m.toNat (0,0,[])=ms[h.calls[j].m.toNat]:=by simp[hml]
  have hpc:=c.pc
  rw[hmg] at h1 hpc
  have hpl:h.calls[j].pc.toNat<ms[h.calls[j].m.toNat].2.2.length:=by omega
  have hon:opNext ms h.calls[j]=ms[h.calls[j].m.toNat].2.2[h.calls[j].pc.toNat]:=by
    unfold opNext
    rw[hmg]
    simp[hpl]
  have hop:=(prog_meth g.head.p hml).ops _ (List.getElem_mem hpl)
  rw[←hon] at hop
  generalize opNext ms h.calls[j]=op at *
  generalize hT:takesOf ms op.1 op.2=T at *
  have hs:=c.s
  have hlen:∀c':Cl,(setH h c').calls.length=h.calls.length:=fun c'=>by unfold setH;simp
  have hat:∀(c':Cl) (q:j<(setH h c').calls.length),(setH h c').calls[j]=c':=fun c' q=>by
    have e:h.now.toNat=j:=by omega
    unfold setH
    simp only[e,List.getElem_set_self]
  have hT1:0≤T.1:=by
    rw[←hT]
    unfold takesOf
    split
    · split
      · rename_i q
        rw[inR_true] at q
        have hq:op.2.toNat<ms.length:=by omega
        rw[show ms.getD op.2.toNat (0,0,[])=ms[op.2.toNat] by simp[hq]]
        exact(prog_meth g.head.p hq).args.1
      · exact Int.le_refl _
    · simp only[]
      unfold tk
      split
      · decide
      · split <;> decide
  refine⟨j,?_,hc,hn,by rw[hlen];exact hj,?_,opOk_kind hop,⟨_,hml,?_,hop⟩,?_,?_,?_,h3⟩
  · exact g.cur hn hj ⟨c.m,by simp only[];rw[hmg];omega,c.t,by simp only[List.length_take];omega,c.sd,c.vt,vals_take c.vs _,fun q=>by simp only[] at q;rw[hlive] at q;cases q⟩ rfl rfl
  · rw[hat];exact hlive
  · rw[hat];simp only[];have:=c.m;omega
  · rw[hT,List.length_drop];omega
  · rw[hat,hT];simp only[List.length_take];omega
  · rw[hlen];exact vals_drop c.vs _
theorem Good.step {ms:Ms} {h:Hp} (g:Good ms h) (hc:h.code=0):Good ms (stepH ms h):=by
  have hn0:0≤h.now:=by
    by_cases q:h.now<0
    · have:=g.head.fin.2 q;omega
    · omega
  unfold stepH
  simp only[]
  by_cases h1:((ms.getD (curC h).m.toNat (0,0,[])).2.2.length:Int)≤(curC h).pc
  · rw[if_pos h1];exact g.code hn0 (.inl rfl)
  rw[if_neg h1]
  split
  · exact g.code hn0 (.inl rfl)
  rename_i h2
  split
  · exact g.code hn0 (.inl rfl)
  rename_i h3
  obtain⟨j,d⟩:=g.doing hc h1 h2 (by simpa using h3)
  exact Good.do d
theorem Good.run {ms:Ms}:∀(n:Nat) (h:Hp),Good ms h→Good ms (runH ms n h)
  | 0,h,g=>g
  | n+1,h,g=>by
    unfold runH
    by_cases hc:h.code=0
    · rw[if_pos hc];exact Good.run n _ (g.step hc)
    · rw[if_neg hc];exact g
end Go.Proofs.YtjbgpcileapogaaGreat

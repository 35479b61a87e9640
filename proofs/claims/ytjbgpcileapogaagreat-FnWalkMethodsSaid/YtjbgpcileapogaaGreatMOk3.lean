/-
  What is seen of a heap, by the model: l11Names, l11Copy.
-/
import Derived.Test.YtjbgpcileapogaaGreatVSpec
namespace Go.Proofs.YtjbgpcileapogaaGreat
open Go.RowKit
set_option maxRecDepth 100000 in
set_option maxHeartbeats 2000000 in
theorem l11Copy_any (vt vs:Value) (c:Cl) (w:World) (ht:OpsAt w vt c.temps) (hs:OpsAt w vs c.stack) (hb:c.temps.length≤1000∧c.stack.length≤1000) :
    Calls Tryz.prog 65 #[.agg (clCells vt vs c)] w fun e w'=>∃vt' vs',e=.returned (.agg (clCells vt' vs' c))∧PairRow w.heap.size w' vt' c.temps∧PairRow w.heap.size w' vs' c.stack∧(∀g,vt'.ownBlock=some g→vs'.ownBlock≠some g)∧Below w.heap.size w w':=by
  obtain⟨at',ct',hvt⟩:=ht.shape
  obtain⟨as',cs',hvs⟩:=hs.shape
  subst hvt hvs
  unfold clCells
  obtain⟨hb1,hb2⟩:=hb
  have hA:Below w.heap.size w ((w.alloc (.cells #[.int .i64 c.m,.int .i64 c.pc,.slice at' c.temps.length ct',.slice as' c.stack.length cs',.int .i64 c.sender,.bool c.dead] 37)).alloc (.cells #[.int .i64 0,.int .i64 0,.slice none 0 0,.slice none 0 0,.int .i64 0,.bool false] 37)):=((Below.refl _ _).alloc (Nat.le_refl _) _).alloc (by simp) _
  have bc:=(six_new w 37 (.int .i64 c.m) (.int .i64 c.pc) (.slice at' c.temps.length ct') (.slice as' c.stack.length cs') (.int .i64 c.sender) (.bool c.dead)).alloc (.cells #[.int .i64 0,.int .i64 0,.slice none 0 0,.slice none 0 0,.int .i64 0,.bool false] 37)
  have bz:=six_new (w.alloc (.cells #[.int .i64 c.m,.int .i64 c.pc,.slice at' c.temps.length ct',.slice as' c.stack.length cs',.int .i64 c.sender,.bool c.dead] 37)) 37 (.int .i64 0) (.int .i64 0) (.slice none 0 0) (.slice none 0 0) (.int .i64 0) (.bool false)
  simp only[World.size_alloc] at bz
  go_enter Tryz.func65,Tryz.ntmps65
  go_upto_region 1 with fail
  generalize (w.alloc (.cells #[.int .i64 c.m,.int .i64 c.pc,.slice at' c.temps.length ct',.slice as' c.stack.length cs',.int .i64 c.sender,.bool c.dead] 37)).alloc (.cells #[.int .i64 0,.int .i64 0,.slice none 0 0,.slice none 0 0,.int .i64 0,.bool false] 37)=W1 at *
  have zA:=hA.size
  have yA:=bz.lt
  have N1:=(Below.refl W1.heap.size W1).alloc (Nat.le_refl _) (.cells #[] 98)
  have mk1:=PairRow.made (B:=W1.heap.size) (w:=W1) (e:=98) (Nat.le_refl _)
  have ht1:=(ht.below hA).below N1
  have bc1:=row_below N1 bc
  have bz1:=row_below N1 bz
  obtain⟨⟨x0,x1,x2,x3,x4,x5⟩,xf⟩:=six_cells bc1
  clear xf
  go_upto_region 2 with(at_builtin;refine append_vals _ (by rfl) _ _ (by rfl) W1.heap.size _ _ [] c.temps (by rfl) (by rfl) mk1 ht1 (by simp;omega) N1.size ?_;intro v2 w2 hrow2 hg2 hbk2;rw[List.nil_append] at hrow2;obtain⟨a2,c2,hv2,_⟩:=hrow2.slice;subst hv2;have bc2:=bc1.of_block (hg2.block w.heap.size bc1.lt (fun e=>by have:=(mk1.lt _ e.symm).1;omega));have bz2:=bz1.of_block (hg2.block (w.heap.size+1) bz1.lt (fun e=>by have:=(mk1.lt _ e.symm).1;omega));obtain⟨⟨y0,y1,y2,y3,y4,y5⟩,k0,k1,k2,k3,k4,k5⟩:=six_cells bc2)
  have B2:Below w.heap.size w w2:=(hA.trans (N1.mono zA)).grown hg2 (by have:=N1.size;omega) (fun q e=>by have:=(mk1.lt q e).1;omega)
  have hz2:W1.heap.size≤w2.heap.size:=Nat.le_trans N1.size hg2.size
  clear hg2 hbk2 mk1 ht1 bc1 bz1 N1 x0 x1 x2 x3 x4 x5 y0 y1 y2 y3 y4 y5 k0 k1 k2 k3 k4 k5 bc bz hA
  have hne2:(Value.slice a2 c.temps.length c2).ownBlock≠some w.heap.size:=fun e=>by have:=(hrow2.lt _ e).1;omega
  have P3:=hrow2.set_other (p:=⟨w.heap.size,2,none⟩) (.slice a2 c.temps.length c2) hne2
  have bc3:=six_set2 bc2 (.slice a2 c.temps.length c2)
  have bz3:=row_set (k:=w.heap.size) (o:=2) bz2 (by omega) (.slice a2 c.temps.length c2)
  have B3:=B2.setCell (p:=⟨w.heap.size,2,none⟩) (Nat.le_refl _) (.slice a2 c.temps.length c2)
  have hz3:W1.heap.size≤(w2.setCell ⟨w.heap.size,2,none⟩ (.slice a2 c.temps.length c2)).heap.size:=by simp[World.setCell];exact hz2
  generalize w2.setCell ⟨w.heap.size,2,none⟩ (.slice a2 c.temps.length c2)=w3 at *
  clear bc2 bz2 B2 hrow2
  have N3:=(Below.refl w3.heap.size w3).alloc (Nat.le_refl _) (.cells #[] 98)
  have mk3:=PairRow.made (B:=w3.heap.size) (w:=w3) (e:=98) (Nat.le_refl _)
  have hs3:=(hs.below B3).below N3
  have bc4:=row_below N3 bc3
  have bz4:=row_below N3 bz3
  have P4:=P3.below N3
  have z3:=B3.size
  obtain⟨⟨x0,x1,x2,x3,x4,x5⟩,xf⟩:=six_cells bc4
  clear xf
  go_upto_region 3 with(at_builtin;refine append_vals _ (by rfl) _ _ (by rfl) w3.heap.size _ _ [] c.stack (by rfl) (by rfl) mk3 hs3 (by simp;omega) N3.size ?_;intro v5 w5 hrow5 hg5 hbk5;rw[List.nil_append] at hrow5;obtain⟨a5,c5,hv5,_⟩:=hrow5.slice;subst hv5;have bc5:=bc4.of_block (hg5.block w.heap.size bc4.lt (fun e=>by have:=(mk3.lt _ e.symm).1;omega));have bz5:=bz4.of_block (hg5.block (w.heap.size+1) bz4.lt (fun e=>by have:=(mk3.lt _ e.symm).1;omega));obtain⟨⟨y0,y1,y2,y3,y4,y5⟩,k0,k1,k2,k3,k4,k5⟩:=six_cells bc5)
  have B5:Below w.heap.size w w5:=(B3.trans (N3.mono z3)).grown hg5 (by have:=N3.size;omega) (fun q e=>by have:=(mk3.lt q e).1;omega)
  have P5:=P4.kept hg5.size fun q e=>hg5.block q (P4.lt q e).2 (fun e2=>by have h1:=(mk3.lt _ e2.symm).1;have h2:=(P3.lt q e).2;omega)
  have hap:∀q,(Value.slice a2 c.temps.length c2).ownBlock=some q→(Value.slice a5 c.stack.length c5).ownBlock≠some q:=fun q e e2=>by have h1:=(P3.lt q e).2;have h2:=(hrow5.lt q e2).1;omega
  clear hg5 hbk5 mk3 hs3 bc4 bz4 N3 x0 x1 x2 x3 x4 x5 y0 y1 y2 y3 y4 y5 k0 k1 k2 k3 k4 k5 bc3 bz3 P3 P4 B3
  have hne5:(Value.slice a5 c.stack.length c5).ownBlock≠some w.heap.size:=fun e=>by have:=(hrow5.lt _ e).1;omega
  have P6:=P5.set_other (p:=⟨w.heap.size,3,none⟩) (.slice a5 c.stack.length c5) hne2
  have Q6:=hrow5.set_other (p:=⟨w.heap.size,3,none⟩) (.slice a5 c.stack.length c5) hne5
  have bc6:=six_set3 bc5 (.slice a5 c.stack.length c5)
  have bz6:=row_set (k:=w.heap.size) (o:=3) bz5 (by omega) (.slice a5 c.stack.length c5)
  have B6:=B5.setCell (p:=⟨w.heap.size,3,none⟩) (Nat.le_refl _) (.slice a5 c.stack.length c5)
  generalize w5.setCell ⟨w.heap.size,3,none⟩ (.slice a5 c.stack.length c5)=w6 at *
  clear P5 hrow5 bc5 bz5 B5
  have nt1:(Value.slice a2 c.temps.length c2).ownBlock≠some (w.heap.size+1):=fun e=>by have:=(P6.lt _ e).1;omega
  have ns1:(Value.slice a5 c.stack.length c5).ownBlock≠some (w.heap.size+1):=fun e=>by have:=(Q6.lt _ e).1;omega
  obtain⟨⟨x0,x1,x2,x3,x4,x5⟩,xf⟩:=six_cells bc6
  obtain⟨⟨y0,y1,y2,y3,y4,y5⟩,k0,k1,k2,k3,k4,k5⟩:=six_cells bz6
  clear xf
  have R9:=six_set5 (six_set4 (six_set3 (six_set2 (six_set1 (six_set0 bz6 (.int .i64 c.m)) (.int .i64 c.pc)) (.slice a2 c.temps.length c2)) (.slice a5 c.stack.length c5)) (.int .i64 c.sender)) (.bool c.dead)
  have P9:=(((((P6.set_other (p:=⟨w.heap.size+1,0,none⟩) (.int .i64 c.m) nt1).set_other (p:=⟨w.heap.size+1,1,none⟩) (.int .i64 c.pc) nt1).set_other (p:=⟨w.heap.size+1,2,none⟩) (.slice a2 c.temps.length c2) nt1).set_other (p:=⟨w.heap.size+1,3,none⟩) (.slice a5 c.stack.length c5) nt1).set_other (p:=⟨w.heap.size+1,4,none⟩) (.int .i64 c.sender) nt1).set_other (p:=⟨w.heap.size+1,5,none⟩) (.bool c.dead) nt1
  have Q9:=(((((Q6.set_other (p:=⟨w.heap.size+1,0,none⟩) (.int .i64 c.m) ns1).set_other (p:=⟨w.heap.size+1,1,none⟩) (.int .i64 c.pc) ns1).set_other (p:=⟨w.heap.size+1,2,none⟩) (.slice a2 c.temps.length c2) ns1).set_other (p:=⟨w.heap.size+1,3,none⟩) (.slice a5 c.stack.length c5) ns1).set_other (p:=⟨w.heap.size+1,4,none⟩) (.int .i64 c.sender) ns1).set_other (p:=⟨w.heap.size+1,5,none⟩) (.bool c.dead) ns1
  have B9:=(((((B6.setCell (p:=⟨w.heap.size+1,0,none⟩) (Nat.le_succ _) (.int .i64 c.m)).setCell (p:=⟨w.heap.size+1,1,none⟩) (Nat.le_succ _) (.int .i64 c.pc)).setCell (p:=⟨w.heap.size+1,2,none⟩) (Nat.le_succ _) (.slice a2 c.temps.length c2)).setCell (p:=⟨w.heap.size+1,3,none⟩) (Nat.le_succ _) (.slice a5 c.stack.length c5)).setCell (p:=⟨w.heap.size+1,4,none⟩) (Nat.le_succ _) (.int .i64 c.sender)).setCell (p:=⟨w.heap.size+1,5,none⟩) (Nat.le_succ _) (.bool c.dead)
  go_wp2
  generalize (((((w6.setCell ⟨w.heap.size+1,0,none⟩ (.int .i64 c.m)).setCell ⟨w.heap.size+1,1,none⟩ (.int .i64 c.pc)).setCell ⟨w.heap.size+1,2,none⟩ (.slice a2 c.temps.length c2)).setCell ⟨w.heap.size+1,3,none⟩ (.slice a5 c.stack.length c5)).setCell ⟨w.heap.size+1,4,none⟩ (.int .i64 c.sender)).setCell ⟨w.heap.size+1,5,none⟩ (.bool c.dead)=W9 at *
  obtain⟨⟨q0,q1,q2,q3,q4,q5⟩,_⟩:=six_cells R9
  exact bodyPost_ret (v:=.agg #[.int .i64 c.m,.int .i64 c.pc,.slice a2 c.temps.length c2,.slice a5 c.stack.length c5,.int .i64 c.sender,.bool c.dead]) (by simp[results,Tryz.results65,go_sem,q0,q1,q2,q3,q4,q5]) rfl ⟨_,_,rfl,P9.mono (by omega),Q9.mono (by omega),hap,B9⟩
def frB (m:Mc) (i k:Int):Bool:=inR i 0 ((m.pages.length:Int) - 1) && inR k 0 (((pgAt m i).frames.length:Int) - 1)
theorem pg_of {m:Mc} {i:Int} (h:inR i 0 ((m.pages.length:Int) - 1)=true):∃k:Nat,i=(k:Int)∧k<m.pages.length:=by
  have:=inR_true.1 h
  obtain⟨k,rfl⟩:=Int.eq_ofNat_of_zero_le this.1
  exact⟨k,rfl,by omega⟩
set_option maxRecDepth 100000 in
set_option maxHeartbeats 4000000 in
theorem isFrame_any (vp vo vt vs:Value) (m:Mc) (i k:Int) (w:World) (h:MachAt w vp vo vt vs m) :
    Calls Tryz.prog 134 #[.agg (mcCells vp vo vt vs m).toArray,.int .i64 i,.int .i64 k] w fun e w'=>e=.returned (.bool (frB m i k))∧Below w.heap.size w w':=by
  obtain⟨ap,cp,hvp,hlp,hcp⟩:=id h.p
  obtain⟨ao,co,hvo,hlo,hco⟩:=id h.o
  obtain⟨at',ct,hvt,hlt',hct⟩:=id h.t
  obtain⟨as',cs,hvs⟩:=h.s.shape
  subst hvp hvo hvt hvs
  unfold mcCells
  go_enter Tryz.func134,Tryz.ntmps134
  go_upto_region 1 with fail
  refine wp_gen (fun W=>Below w.heap.size w W∧Bx W w.heap.size 42 [.int .i64 m.cells,.slice ap m.pages.length cp,.slice ao m.order.length co,.int .i64 m.now,.slice at' m.twins.length ct,.int .i64 m.born,.slice as' m.said.length cs,.int .i64 m.code]) ⟨(Below.refl _ _).alloc (Nat.le_refl _) _,Bx.new w _ _⟩ ?_
  rintro W ⟨hb,hm⟩
  obtain⟨⟨m0,m1,m2,m3,m4,m5,m6,m7⟩,_⟩:=bx8 hm
  obtain⟨f,hf⟩:∃f,inR i 0 ((m.pages.length:Int) - 1)=f:=⟨_,rfl⟩
  have HP:=isPlace_any i m.pages.length W
  rw[hf] at HP
  go_wp2_with fail
  refine HP.mono ?_
  rintro e W1 ⟨rfl,hw⟩
  obtain rfl:=hw.symm
  clear hw HP
  cases f
  · have HE:Hid (frB m i k=false):=by show _=_;unfold frB;rw[hf];rfl
    go_wp2
    go_ret
    exact⟨ret_bool HE.out.symm,hb⟩
  obtain⟨j,rfl,hj⟩:=pg_of hf
  obtain⟨b2,o2,vf,hap,hpg⟩:=hcp j hj
  subst hap
  obtain⟨af,cf,hvf⟩:=hpg.f.shape
  have e1:=cell_below hb hpg.c1
  rw[hvf] at e1
  have hjz:(j:Int)<(m.pages.length:Int):=by omega
  have HE:Hid (frB m (j:Int) k=inR k 0 ((m.pages[j].frames.length:Int) - 1)):=by show _=_;unfold frB;rw[hf,pgAt_at hj];rfl
  clear hf hcp hpg hvf
  go_wp2_with fail
  refine(isPlace_any _ _ _).mono ?_
  rintro e W1 ⟨rfl,hw⟩
  obtain rfl:=hw.symm
  clear hw
  go_wp2
  go_ret
  exact⟨ret_bool HE.out.symm,hb⟩
def emptyB (c:Cl):Bool:=c.m == 0 && c.pc == 0 && decide (c.temps.length=0) && decide (c.stack.length=0) && c.sender == 0 && !c.dead
set_option maxRecDepth 100000 in
set_option maxHeartbeats 4000000 in
theorem isEmptyCall_any (c:Cl) (vt vs:Value) (w:World) (ht:OpsAt w vt c.temps) (hs:OpsAt w vs c.stack) :
    Calls Tryz.prog 135 #[.agg #[.int .i64 c.m,.int .i64 c.pc,vt,vs,.int .i64 c.sender,.bool c.dead]] w fun e w'=>e=.returned (.bool (emptyB c))∧Below w.heap.size w w':=by
  obtain⟨a1,c1,e1,hl1,_⟩:=ht
  obtain⟨a2,c2,e2,hl2,_⟩:=hs
  subst e1 e2
  have hB:∀o,Below w.heap.size w (w.alloc o):=fun o=>(Below.refl _ _).alloc (Nat.le_refl _) _
  go_enter Tryz.func135,Tryz.ntmps135
  by_cases h0:c.m=0
  case neg =>
    have HE:Hid (emptyB c=false):=by show _=_;unfold emptyB;simp[h0]
    have e:(c.m == 0)=false:=by simpa using h0
    go_wp2
    go_ret
    exact⟨ret_bool HE.out.symm,hB _⟩
  by_cases h1:c.pc=0
  case neg =>
    have HE:Hid (emptyB c=false):=by show _=_;unfold emptyB;simp[h1]
    have e:(c.pc == 0)=false:=by simpa using h1
    go_wp2
    go_ret
    exact⟨ret_bool HE.out.symm,hB _⟩
  by_cases h2:c.temps.length=0
  case neg =>
    have HE:Hid (emptyB c=false):=by show _=_;unfold emptyB;simp[h2]
    go_wp2
    go_ret
    exact⟨ret_bool HE.out.symm,hB _⟩
  by_cases h3:c.stack.length=0
  case neg =>
    have HE:Hid (emptyB c=false):=by show _=_;unfold emptyB;simp[h3]
    go_wp2
    go_ret
    exact⟨ret_bool HE.out.symm,hB _⟩
  by_cases h4:c.sender=0
  case neg =>
    have HE:Hid (emptyB c=false):=by show _=_;unfold emptyB;simp[h4]
    have e:(c.sender == 0)=false:=by simpa using h4
    go_wp2
    go_ret
    exact⟨ret_bool HE.out.symm,hB _⟩
  have HE:Hid (emptyB c=!c.dead):=by show _=_;unfold emptyB;simp[h0,h1,h2,h3,h4]
  go_wp2
  go_ret
  exact⟨ret_bool HE.out.symm,hB _⟩
def Tw.none:Tw:=⟨-1,0,⟨0,0,[],[],0,false⟩⟩
def twAt (m:Mc) (i:Int):Tw:=m.twins.getD i.toNat Tw.none
theorem twAt_at {m:Mc} {k:Nat} (h:k<m.twins.length):twAt m (k:Int)=m.twins[k]:=by simp[twAt,h]
theorem tw_of {m:Mc} {i:Int} (h:inR i 0 ((m.twins.length:Int) - 1)=true):∃k:Nat,i=(k:Int)∧k<m.twins.length:=by
  have:=inR_true.1 h
  obtain⟨k,rfl⟩:=Int.eq_ofNat_of_zero_le this.1
  exact⟨k,rfl,by omega⟩
def baseB (m:Mc) (p:Pg):Bool :=
  p.base == -1 || (decide (p.frames.length≠0) && inR p.base 0 ((m.twins.length:Int) - 1) && ((twAt m p.base).page == -1 || (inR (twAt m p.base).page 0 ((m.pages.length:Int) - 1) && (twAt m p.base).place == ((pgAt m (twAt m p.base).page).frames.length:Int) - 1)))
set_option maxRecDepth 100000 in
set_option maxHeartbeats 4000000 in
theorem baseOk_any (vp vo vt vs:Value) (m:Mc) (p:Pg) (af:Option Addr) (cf:Nat) (w:World) (h:MachAt w vp vo vt vs m) (hsm:∀i,(hi:i<m.pages.length)→m.pages[i].frames.length≤1099511627776) :
    Calls Tryz.prog 133 #[.agg (mcCells vp vo vt vs m).toArray,.agg #[.int .i64 p.base,.slice af p.frames.length cf]] w fun e w'=>e=.returned (.bool (baseB m p))∧Below w.heap.size w w':=by
  obtain⟨ap,cp,hvp,hlp,hcp⟩:=id h.p
  obtain⟨ao,co,hvo,hlo,hco⟩:=id h.o
  obtain⟨at',ct,hvt,hlt',hct⟩:=id h.t
  obtain⟨as',cs,hvs⟩:=h.s.shape
  subst hvp hvo hvt hvs
  unfold mcCells
  have HSM:Hid (∀i,(hi:i<m.pages.length)→m.pages[i].frames.length≤1099511627776):=hsm
  clear hsm
  go_enter Tryz.func133,Tryz.ntmps133
  go_upto_region 1 with fail
  refine wp_gen (fun W=>Below w.heap.size w W∧Bx W w.heap.size 42 [.int .i64 m.cells,.slice ap m.pages.length cp,.slice ao m.order.length co,.int .i64 m.now,.slice at' m.twins.length ct,.int .i64 m.born,.slice as' m.said.length cs,.int .i64 m.code]∧Bx W (w.heap.size+1) 101 [.int .i64 p.base,.slice af p.frames.length cf]) ⟨((Below.refl _ _).alloc (Nat.le_refl _) _).alloc (by simp) _,(Bx.new w _ _).alloc _,Bx.newAt _ _ _ (by simp)⟩ ?_
  rintro W ⟨hb,hm,hx⟩
  obtain⟨⟨m0,m1,m2,m3,m4,m5,m6,m7⟩,_⟩:=bx8 hm
  have x0:=hx.cell 0 rfl
  have x1:=hx.cell 1 rfl
  by_cases hb1:p.base=-1
  · have HE:Hid (baseB m p=true):=by show _=_;unfold baseB;rw[hb1];rfl
    rw[hb1] at x0
    go_wp2
    go_ret
    exact⟨ret_bool HE.out.symm,hb⟩
  have hbe:(p.base == -1)=false:=by simpa using hb1
  by_cases hf0:p.frames.length=0
  · have HE:Hid (baseB m p=false):=by show _=_;unfold baseB;rw[hbe,hf0];rfl
    rw[hf0] at x1
    go_wp2
    go_ret
    exact⟨ret_bool HE.out.symm,hb⟩
  have hfz:¬((p.frames.length:Int)=0):=by omega
  obtain⟨f,hf⟩:∃f,inR p.base 0 ((m.twins.length:Int) - 1)=f:=⟨_,rfl⟩
  have HP:=isPlace_any p.base m.twins.length W
  rw[hf] at HP
  go_wp2_with fail
  refine HP.mono ?_
  rintro e W1 ⟨rfl,hw⟩
  obtain rfl:=hw.symm
  clear hw HP
  cases f
  · have HE:Hid (baseB m p=false):=by show _=_;unfold baseB;rw[hbe,hf];simp
    go_wp2
    go_ret
    exact⟨ret_bool HE.out.symm,hb⟩
  obtain⟨j,hj,hjl⟩:=tw_of hf
  have HB0:Hid (baseB m p=((twAt m p.base).page == -1 || (inR (twAt m p.base).page 0 ((m.pages.length:Int) - 1) && (twAt m p.base).place == ((pgAt m (twAt m p.base).page).frames.length:Int) - 1))):=by show _=_;unfold baseB;rw[hbe,hf];simp[hf0]
  rw[hj] at x0 HB0 hbe
  rw[twAt_at hjl] at HB0
  obtain⟨b,o,vt,vs,hat,htw⟩:=hct j hjl
  subst hat
  obtain⟨d0,d1,d2,d3,d4,d5,d6,d7,dt,ds⟩:=htw.below hb
  obtain⟨a1,k1,e1⟩:=dt.shape
  obtain⟨a2,k2,e2⟩:=ds.shape
  rw[e1] at d4
  rw[e2] at d5
  have hjz:(j:Int)<(m.twins.length:Int):=by omega
  have zb:=hb.size
  have lm:=hm.lt
  clear hf hct htw dt ds e1 e2 hj hb1
  obtain⟨T,hT⟩:∃T,m.twins[j]=T:=⟨_,rfl⟩
  rw[hT] at d0 d1 d2 d3 d4 d5 d6 d7 HB0
  clear hT
  go_upto_region 6 with fail
  refine wp_gen (fun W'=>Below W.heap.size W W'∧Bx W' W.heap.size 90 [.int .i64 T.page,.int .i64 T.place,.int .i64 T.left.m,.int .i64 T.left.pc,.slice a1 T.left.temps.length k1,.slice a2 T.left.stack.length k2,.int .i64 T.left.sender,.bool T.left.dead]) ⟨(Below.refl _ _).alloc (Nat.le_refl _) _,Bx.new _ _ _⟩ ?_
  rintro W2 ⟨t2,y2⟩
  have hb2:=hb.trans (t2.mono zb)
  have hm2:=hm.below t2
  clear hb hm hx t2 zb lm d0 d1 d2 d3 d4 d5 d6 d7 m0 m1 m2 m3 m4 m5 m6 m7 x0 x1
  obtain⟨⟨m0,m1,m2,m3,m4,m5,m6,m7⟩,_⟩:=bx8 hm2
  have y0:=y2.cell 0 rfl
  have y1:=y2.cell 1 rfl
  by_cases hpn:T.page=-1
  · have HE:Hid (baseB m p=true):=by rw[HB0.out,hpn];rfl
    rw[hpn] at y0
    go_wp2
    go_ret
    exact⟨ret_bool HE.out.symm,hb2⟩
  have hpe:(T.page == -1)=false:=by simpa using hpn
  obtain⟨f,hf⟩:∃f,inR T.page 0 ((m.pages.length:Int) - 1)=f:=⟨_,rfl⟩
  have HP:=fun W=>isPlace_any T.page m.pages.length W
  rw[hf] at HP
  cases f
  · have HE:Hid (baseB m p=false):=by rw[HB0.out,hpe,hf];rfl
    clear HB0 hf
    go_wp2_with fail
    go_quiet ((go_at_call 61;exact Calls.quiet_of_same (HP _)))
    go_wp2
    go_ret
    exact⟨ret_bool HE.out.symm,bel_drewN hb2 _⟩
  obtain⟨i,hi,hil⟩:=pg_of hf
  rw[hi] at HB0 y0 HP hf hpe
  rw[pgAt_at hil,hf,hpe] at HB0
  obtain⟨b2,o2,vf,hap,hpg⟩:=hcp i hil
  subst hap
  obtain⟨ag,cg,hvf⟩:=hpg.f.shape
  have g1:=cell_below hb2 hpg.c1
  rw[hvf] at g1
  have hnb:=HSM.out i hil
  obtain⟨nf,hnf⟩:∃nf,m.pages[i].frames.length=nf:=⟨_,rfl⟩
  rw[hnf] at g1 HB0 hnb
  have hiz:(i:Int)<(m.pages.length:Int):=by omega
  have hwn:IntKind.i64.wrap ((nf:Int) - 1)=(nf:Int) - 1:=by rw[IntKind.wrap_i64];omega
  have HE:Hid (baseB m p=(T.place == (nf:Int) - 1)):=by rw[HB0.out];rfl
  clear HB0 hf hcp hpg hvf hnf hi hpn
  go_wp2_with fail
  go_quiet ((go_at_call 61;exact Calls.quiet_of_same (HP _)))
  go_wp2
  go_ret
  exact⟨ret_bool HE.out.symm,bel_drewN hb2 _⟩
def frCl (f:Fr):Cl:=⟨f.m,f.pc,f.temps,f.stack,-1,false⟩
def frameB (ms:List (Int × Int × List (Int × Int))) (m:Mc) (i k:Nat) (f:Fr):Bool :=
  clOk ms m.twins.length (frCl f) && (f.twin == -1 || (inR f.twin 0 ((m.twins.length:Int) - 1) && ((twAt m f.twin).page == (i:Int) && (twAt m f.twin).place == (k:Int))))
set_option maxRecDepth 100000 in
set_option maxHeartbeats 4000000 in
theorem frameOk_any (vq:Value) (ms:List (Int × Int × List (Int × Int))) (vp vo vt vs:Value) (m:Mc) (i k:Nat) (w:World) (hq:MethsAt w vq ms) (h:MachAt w vp vo vt vs m) (hops:∀i,(h:i<ms.length)→ms[i].2.2.length≤1000000) (hi:i<m.pages.length) (hk:k<m.pages[i].frames.length) (F:Fr) (hF0:m.pages[i].frames[k]=F) :
    Calls Tryz.prog 131 #[.agg #[vq],.agg (mcCells vp vo vt vs m).toArray,.int .i64 (i:Int),.int .i64 (k:Int)] w fun e w'=>e=.returned (.bool (frameB ms m i k F))∧Below w.heap.size w w':=by
  have HF:Hid (m.pages[i].frames[k]=F):=hF0
  clear hF0
  have HOPS:Hid (∀i,(h:i<ms.length)→ms[i].2.2.length≤1000000):=hops
  clear hops
  have htm:m.twins.length≤maxLen:=by obtain⟨_,_,_,hl,_⟩:=id h.t;exact hl
  obtain⟨aq,cq,hvq,hlq,hcq⟩:=id hq
  subst hvq
  obtain⟨ap,cp,hvp,hlp,hcp⟩:=id h.p
  obtain⟨ao,co,hvo,hlo,hco⟩:=id h.o
  obtain⟨at',ct,hvt,hlt',hct⟩:=id h.t
  obtain⟨as',cs,hvs⟩:=h.s.shape
  subst hvp hvo hvt hvs
  unfold mcCells
  go_enter Tryz.func131,Tryz.ntmps131
  go_upto_region 1 with fail
  refine wp_gen (fun W=>Below w.heap.size w W∧Bx W w.heap.size 25 [.slice aq ms.length cq]∧Bx W (w.heap.size+1) 42 [.int .i64 m.cells,.slice ap m.pages.length cp,.slice ao m.order.length co,.int .i64 m.now,.slice at' m.twins.length ct,.int .i64 m.born,.slice as' m.said.length cs,.int .i64 m.code]) ⟨((Below.refl _ _).alloc (Nat.le_refl _) _).alloc (by simp) _,(Bx.new w _ _).alloc _,Bx.newAt _ _ _ (by simp)⟩ ?_
  rintro W ⟨hb,hx,hm⟩
  have x0:=hx.cell 0 rfl
  obtain⟨⟨m0,m1,m2,m3,m4,m5,m6,m7⟩,_⟩:=bx8 hm
  obtain⟨bp,op,vf,hap,hpg⟩:=hcp i hi
  subst hap
  obtain⟨af,cf,hvf,_,hcf⟩:=id hpg.f
  obtain⟨bf,of,vt1,vs1,haf,hfr⟩:=hcf k hk
  subst haf
  have g1:=cell_below hb hpg.c1
  rw[hvf] at g1
  obtain⟨nf,hnf⟩:∃nf,m.pages[i].frames.length=nf:=⟨_,rfl⟩
  rw[HF.out] at hfr
  rw[hnf] at g1
  obtain⟨d0,d1,d2,d3,d4,dt,ds⟩:=hfr.below hb
  obtain⟨a1,k1,e1⟩:=dt.shape
  obtain⟨a2,k2,e2⟩:=ds.shape
  rw[e1] at d3 dt
  rw[e2] at d4 ds
  have hiz:(i:Int)<(m.pages.length:Int):=by omega
  have hkz:(k:Int)<(nf:Int):=by omega
  have hkn:k<nf:=by omega
  have zb:=hb.size
  clear hcp hpg hvf hcf hfr HF e1 e2
  have HK0:Hid (m.pages[i].frames.length=nf):=hnf
  clear hnf hk
  go_upto_region 2 with fail
  refine wp_gen (fun W'=>Below W.heap.size W W'∧Bx W' W.heap.size 103 [.int .i64 F.m,.int .i64 F.pc,.int .i64 F.twin,.slice a1 F.temps.length k1,.slice a2 F.stack.length k2]) ⟨(Below.refl _ _).alloc (Nat.le_refl _) _,Bx.new _ _ _⟩ ?_
  rintro W2 ⟨t2,y2⟩
  have hb2:=hb.trans (t2.mono zb)
  have hm2:=hm.below t2
  have hx2:=hx.below t2
  have z2:=hb2.size
  have dt2:=dt.below t2
  have ds2:=ds.below t2
  clear hb hm hx t2 zb d0 d1 d2 d3 d4 dt ds m0 m1 m2 m3 m4 m5 m6 m7 x0 g1
  obtain⟨⟨m0,m1,m2,m3,m4,m5,m6,m7⟩,_⟩:=bx8 hm2
  have x0:=hx2.cell 0 rfl
  have y0:=y2.cell 0 rfl
  have y1:=y2.cell 1 rfl
  have y2':=y2.cell 2 rfl
  have y3:=y2.cell 3 rfl
  have y4:=y2.cell 4 rfl
  obtain⟨f,hf⟩:∃f,clOk ms m.twins.length (frCl F)=f:=⟨_,rfl⟩
  have HC:=implCallOk_any _ _ _ ms (frCl F) m.twins.length W2 (hq.below hb2) (show OpsAt W2 (.slice a1 F.temps.length k1) (frCl F).temps from dt2) (show OpsAt W2 (.slice a2 F.stack.length k2) (frCl F).stack from ds2) htm HOPS.out
  rw[hf] at HC
  unfold clCells frCl at HC
  go_wp2_with fail
  refine HC.mono ?_
  rintro e W3 ⟨rfl,t3⟩
  have hb3:=hb2.trans (t3.mono z2)
  have hm3:=hm2.below t3
  have y3r:=y2.below t3
  clear HC t3 hm2 hx2 y2 hb2 z2 dt2 ds2 m0 m1 m2 m3 m4 m5 m6 m7 x0 y0 y1 y2' y3 y4
  cases f
  · have HE:Hid (frameB ms m i k F=false):=by show _=_;unfold frameB;rw[hf];rfl
    go_wp2
    go_ret
    exact⟨ret_bool HE.out.symm,hb3⟩
  have HE0:Hid (frameB ms m i k F=(F.twin == -1 || (inR F.twin 0 ((m.twins.length:Int) - 1) && ((twAt m F.twin).page == (i:Int) && (twAt m F.twin).place == (k:Int))))):=by show _=_;unfold frameB;rw[hf];rfl
  clear hf
  have y2':=y3r.cell 2 rfl
  obtain⟨⟨m0,m1,m2,m3,m4,m5,m6,m7⟩,_⟩:=bx8 hm3
  by_cases htw1:F.twin=-1
  · have HE:Hid (frameB ms m i k F=true):=by rw[HE0.out,htw1];rfl
    rw[htw1] at y2'
    go_wp2
    go_ret
    exact⟨ret_bool HE.out.symm,hb3⟩
  have hte:(F.twin == -1)=false:=by simpa using htw1
  obtain⟨f,hf⟩:∃f,inR F.twin 0 ((m.twins.length:Int) - 1)=f:=⟨_,rfl⟩
  have HP:=isPlace_any F.twin m.twins.length W3
  rw[hf] at HP
  go_wp2_with fail
  refine HP.mono ?_
  rintro e W4 ⟨rfl,hw⟩
  obtain rfl:=hw.symm
  clear hw HP
  cases f
  · have HE:Hid (frameB ms m i k F=false):=by rw[HE0.out,hte,hf];rfl
    go_wp2
    go_ret
    exact⟨ret_bool HE.out.symm,hb3⟩
  obtain⟨j,hj,hjl⟩:=tw_of hf
  rw[hte,hf,hj,twAt_at hjl] at HE0
  rw[hj] at y2' hte
  obtain⟨b,o,vt,vs,hat,htw⟩:=hct j hjl
  subst hat
  obtain⟨c0,c1,_,_,_,_,_,_,_,_⟩:=htw.below hb3
  have hjz:(j:Int)<(m.twins.length:Int):=by omega
  have HE1:Hid (frameB ms m i k F=(m.twins[j].page == (i:Int) && m.twins[j].place == (k:Int))):=by rw[HE0.out];rfl
  clear HE0 hf hct htw hj htw1
  obtain⟨pgv,hpgv⟩:∃x,m.twins[j].page=x:=⟨_,rfl⟩
  obtain⟨plv,hplv⟩:∃x,m.twins[j].place=x:=⟨_,rfl⟩
  rw[hpgv] at c0 HE1
  rw[hplv] at c1 HE1
  clear hpgv hplv
  by_cases hpp:pgv=(i:Int)
  · rw[hpp] at c0
    have HE:Hid (frameB ms m i k F=(plv == (k:Int))):=by show _=_;rw[HE1.out,hpp];simp
    go_wp2
    go_ret
    exact⟨ret_bool HE.out.symm,hb3⟩
  · have hpf:(pgv == (i:Int))=false:=by simpa using hpp
    have HE:Hid (frameB ms m i k F=false):=by rw[HE1.out,hpf];rfl
    go_wp2
    go_ret
    exact⟨ret_bool HE.out.symm,hb3⟩
def Fr.none:Fr:=⟨0,0,-1,[],[]⟩
def frAt (m:Mc) (i k:Int):Fr:=(pgAt m i).frames.getD k.toNat Fr.none
theorem frAt_at {m:Mc} {i k:Nat} (hi:i<m.pages.length) (hk:k<m.pages[i].frames.length):frAt m (i:Int) (k:Int)=m.pages[i].frames[k]:=by unfold frAt;rw[pgAt_at hi];simp[hk]
theorem fr_of {m:Mc} {i k:Int} (h:frB m i k=true):∃(a b:Nat) (ha:a<m.pages.length),i=(a:Int)∧k=(b:Int)∧b<m.pages[a].frames.length:=by
  unfold frB at h
  obtain⟨h1,h2⟩:=Bool.and_eq_true_iff.1 h
  obtain⟨a,rfl,ha⟩:=pg_of h1
  rw[pgAt_at ha] at h2
  have h3:=inR_true.1 h2
  obtain⟨b,rfl⟩:=Int.eq_ofNat_of_zero_le h3.1
  exact⟨a,b,ha,rfl,rfl,by omega⟩
def twinB (ms:List (Int × Int × List (Int × Int))) (m:Mc) (j:Nat) (t:Tw):Bool :=
  if t.page=-1 then t.place == 0 && clOk ms m.twins.length t.left else frB m t.page t.place && ((frAt m t.page t.place).twin == (j:Int) && emptyB t.left)
set_option maxRecDepth 100000 in
set_option maxHeartbeats 4000000 in
theorem twinOk_any (vq:Value) (ms:List (Int × Int × List (Int × Int))) (vp vo vt vs:Value) (m:Mc) (j:Nat) (w:World) (hq:MethsAt w vq ms) (h:MachAt w vp vo vt vs m) (hops:∀i,(h:i<ms.length)→ms[i].2.2.length≤1000000) (hj:j<m.twins.length) (T:Tw) (hT0:m.twins[j]=T) :
    Calls Tryz.prog 78 #[.agg #[vq],.agg (mcCells vp vo vt vs m).toArray,.int .i64 (j:Int)] w fun e w'=>e=.returned (.bool (twinB ms m j T))∧Below w.heap.size w w':=by
  have HT:Hid (m.twins[j]=T):=hT0
  clear hT0
  have HOPS:Hid (∀i,(h:i<ms.length)→ms[i].2.2.length≤1000000):=hops
  clear hops
  have htm:m.twins.length≤maxLen:=by obtain⟨_,_,_,hl,_⟩:=id h.t;exact hl
  obtain⟨aq,cq,hvq,hlq,hcq⟩:=id hq
  subst hvq
  obtain⟨ap,cp,hvp,hlp,hcp⟩:=id h.p
  obtain⟨ao,co,hvo,hlo,hco⟩:=id h.o
  obtain⟨at',ct,hvt,hlt',hct⟩:=id h.t
  obtain⟨as',cs,hvs⟩:=h.s.shape
  subst hvp hvo hvt hvs
  unfold mcCells
  go_enter Tryz.func78,Tryz.ntmps78
  go_upto_region 1 with fail
  refine wp_gen (fun W=>Below w.heap.size w W∧Bx W w.heap.size 25 [.slice aq ms.length cq]∧Bx W (w.heap.size+1) 42 [.int .i64 m.cells,.slice ap m.pages.length cp,.slice ao m.order.length co,.int .i64 m.now,.slice at' m.twins.length ct,.int .i64 m.born,.slice as' m.said.length cs,.int .i64 m.code]) ⟨((Below.refl _ _).alloc (Nat.le_refl _) _).alloc (by simp) _,(Bx.new w _ _).alloc _,Bx.newAt _ _ _ (by simp)⟩ ?_
  rintro W ⟨hb,hx,hm⟩
  have x0:=hx.cell 0 rfl
  obtain⟨⟨m0,m1,m2,m3,m4,m5,m6,m7⟩,_⟩:=bx8 hm
  obtain⟨b,o,vt,vs,hat,htw⟩:=hct j hj
  subst hat
  rw[HT.out] at htw
  obtain⟨d0,d1,d2,d3,d4,d5,d6,d7,dt,ds⟩:=htw.below hb
  obtain⟨a1,k1,e1⟩:=dt.shape
  obtain⟨a2,k2,e2⟩:=ds.shape
  rw[e1] at d4 dt
  rw[e2] at d5 ds
  have hjz:(j:Int)<(m.twins.length:Int):=by omega
  have zb:=hb.size
  clear hct htw e1 e2 HT
  go_upto_region 2 with fail
  refine wp_gen (fun W'=>Below W.heap.size W W'∧Bx W' W.heap.size 90 [.int .i64 T.page,.int .i64 T.place,.int .i64 T.left.m,.int .i64 T.left.pc,.slice a1 T.left.temps.length k1,.slice a2 T.left.stack.length k2,.int .i64 T.left.sender,.bool T.left.dead]) ⟨(Below.refl _ _).alloc (Nat.le_refl _) _,Bx.new _ _ _⟩ ?_
  rintro W2 ⟨t2,y2⟩
  have hb2:=hb.trans (t2.mono zb)
  have hm2:=hm.below t2
  have hx2:=hx.below t2
  have z2:=hb2.size
  have dt2:=dt.below t2
  have ds2:=ds.below t2
  clear hb hm hx t2 zb d0 d1 d2 d3 d4 d5 d6 d7 dt ds m0 m1 m2 m3 m4 m5 m6 m7 x0
  obtain⟨⟨m0,m1,m2,m3,m4,m5,m6,m7⟩,_⟩:=bx8 hm2
  obtain⟨⟨y0,y1,y2',y3,y4,y5,y6,y7⟩,_⟩:=bx8 y2
  have x0:=hx2.cell 0 rfl
  by_cases hp:T.page=-1
  · have HE0:Hid (twinB ms m j T=(T.place == 0 && clOk ms m.twins.length T.left)):=by show _=_;unfold twinB;rw[if_pos hp]
    rw[hp] at y0
    by_cases hz:T.place=0
    · have HE:Hid (twinB ms m j T=clOk ms m.twins.length T.left):=by rw[HE0.out,hz];rfl
      rw[hz] at y1
      have HC:=implCallOk_any _ _ _ ms T.left m.twins.length W2 (hq.below hb2) dt2 ds2 htm HOPS.out
      unfold clCells at HC
      go_wp2_with fail
      refine HC.mono ?_
      rintro e W3 ⟨rfl,t3⟩
      have hb3:=hb2.trans (t3.mono z2)
      go_wp2
      go_ret
      exact⟨ret_bool HE.out.symm,hb3⟩
    · have hze:(T.place == 0)=false:=by simpa using hz
      have HE:Hid (twinB ms m j T=false):=by rw[HE0.out,hze];rfl
      go_wp2
      go_ret
      exact⟨ret_bool HE.out.symm,hb2⟩
  have hpe:(T.page == -1)=false:=by simpa using hp
  have HE0:Hid (twinB ms m j T=(frB m T.page T.place && ((frAt m T.page T.place).twin == (j:Int) && emptyB T.left))):=by show _=_;unfold twinB;rw[if_neg hp]
  go_upto_region 4 with fail
  have L0:=Gr.cell m0
  have L1:=Gr.cell m1
  have L2:=Gr.cell m2
  have L3:=Gr.cell m3
  have L4:=Gr.cell m4
  have L5:=Gr.cell m5
  have L6:=Gr.cell m6
  have L7:=Gr.cell m7
  have Y0:=Gr.cell y0
  have Y1:=Gr.cell y1
  have Y2:=Gr.cell y2'
  have Y3:=Gr.cell y3
  have Y4:=Gr.cell y4
  have Y5:=Gr.cell y5
  have Y6:=Gr.cell y6
  have Y7:=Gr.cell y7
  obtain⟨f,hf⟩:∃f,frB m T.page T.place=f:=⟨_,rfl⟩
  have HI:=quiet_of_below (W:=W2) fun W' (hW:Below W2.heap.size W2 W')=>isFrame_any _ _ _ _ m T.page T.place W' ((h.below hb2).below hW)
  rw[hf] at HI
  unfold mcCells at HI
  cases f
  · have HE:Hid (twinB ms m j T=false):=by rw[HE0.out,hf];rfl
    clear HE0 hf
    refine WQ.region (by kernel_rfl) (by kernel_rfl) ?_
    iterate 28 (refine WQ.step (fun K hK=>?_);go_simp;first
      | (with_reducible refine hK _ ?_;clear hK K)
      | (with_reducible refine quiet_eq ?_;refine hK _ ?_;clear hK K)
      | (simp(contextual:=true) only [L0,L1,L2,L3,L4,L5,L6,L7,Y0,Y1,Result.andThen_ok,true_and];with_reducible refine quiet_eq ?_;refine hK _ ?_;clear hK K)
      | (with_reducible refine quiet_call HI ?_;refine hK _ ?_;clear hK K))
    refine WQ.nil ?_
    intro W3 hG3
    have hb3:=hb2.trans (hG3.to.mono z2)
    clear hG3 HI L0 L1 L2 L3 L4 L5 L6 L7 Y0 Y1 Y2 Y3 Y4 Y5 Y6 Y7
    go_wp2
    go_ret
    exact⟨ret_bool HE.out.symm,hb3⟩
  obtain⟨i,k,hi,hie,hke,hk⟩:=fr_of hf
  obtain⟨bp,op,vf,hap,hpg⟩:=hcp i hi
  subst hap
  obtain⟨af,cf,hvf,_,hcf⟩:=id hpg.f
  obtain⟨bf,of,vt1,vs1,haf,hfr⟩:=hcf k hk
  subst haf
  have g1:=Gr.cell (cell_below hb2 hpg.c1)
  rw[hvf] at g1
  have q2:=Gr.cell (cell_below hb2 hfr.c2)
  rw[hie,hke,frAt_at hi hk] at HE0
  rw[hie,hke] at hf HI
  rw[hie] at Y0 hpe
  rw[hke] at Y1
  have hiz:(i:Int)<(m.pages.length:Int):=by omega
  have hkz:(k:Int)<(m.pages[i].frames.length:Int):=by omega
  obtain⟨nf,hnf⟩:∃nf,m.pages[i].frames.length=nf:=⟨_,rfl⟩
  rw[hnf] at g1 hkz
  have hkn:k<nf:=by omega
  obtain⟨tv,htv⟩:∃tv,m.pages[i].frames[k].twin=tv:=⟨_,rfl⟩
  rw[htv] at q2 HE0
  clear hcp hpg hvf hcf hfr hnf hie hke htv hk y0 y1 y2' y3 y4 y5 y6 y7 m0 m1 m2 m3 m4 m5 m6 m7
  by_cases htj:tv=(j:Int)
  · have HE:Hid (twinB ms m j T=emptyB T.left):=by show _=_;rw[HE0.out,hf,htj];simp
    rw[htj] at q2
    have HM:=quiet_of_below (W:=W2) fun W' (hW:Below W2.heap.size W2 W')=>isEmptyCall_any T.left _ _ W' (dt2.below hW) (ds2.below hW)
    clear HE0 hf
    refine WQ.region (by kernel_rfl) (by kernel_rfl) ?_
    iterate 28 (refine WQ.step (fun K hK=>?_);go_simp;first
      | (with_reducible refine hK _ ?_;clear hK K)
      | (with_reducible refine quiet_eq ?_;refine hK _ ?_;clear hK K)
      | (simp(contextual:=true) only [L0,L1,L2,L3,L4,L5,L6,L7,Y0,Y1,Y2,Y3,Y4,Y5,Y6,Y7,g1,q2,Result.andThen_ok,true_and];with_reducible refine quiet_eq ?_;refine hK _ ?_;clear hK K)
      | (with_reducible refine quiet_call HI ?_;refine hK _ ?_;clear hK K)
      | (with_reducible refine quiet_call HM ?_;refine hK _ ?_;clear hK K))
    refine WQ.nil ?_
    intro W3 hG3
    have hb3:=hb2.trans (hG3.to.mono z2)
    clear hG3 HI HM L0 L1 L2 L3 L4 L5 L6 L7 Y0 Y1 Y2 Y3 Y4 Y5 Y6 Y7 g1 q2
    go_wp2
    go_ret
    exact⟨ret_bool HE.out.symm,hb3⟩
  · have hte:(tv == (j:Int))=false:=by simpa using htj
    have HE:Hid (twinB ms m j T=false):=by show _=_;rw[HE0.out,hte];simp
    clear HE0 hf
    refine WQ.region (by kernel_rfl) (by kernel_rfl) ?_
    iterate 28 (refine WQ.step (fun K hK=>?_);go_simp;first
      | (with_reducible refine hK _ ?_;clear hK K)
      | (with_reducible refine quiet_eq ?_;refine hK _ ?_;clear hK K)
      | (simp(contextual:=true) only [L0,L1,L2,L3,L4,L5,L6,L7,Y0,Y1,g1,q2,Result.andThen_ok,true_and];with_reducible refine quiet_eq ?_;refine hK _ ?_;clear hK K)
      | (with_reducible refine quiet_call HI ?_;refine hK _ ?_;clear hK K))
    refine WQ.nil ?_
    intro W3 hG3
    have hb3:=hb2.trans (hG3.to.mono z2)
    clear hG3 HI L0 L1 L2 L3 L4 L5 L6 L7 Y0 Y1 Y2 Y3 Y4 Y5 Y6 Y7 g1 q2
    go_wp2
    go_ret
    exact⟨ret_bool HE.out.symm,hb3⟩
end Go.Proofs.YtjbgpcileapogaaGreat

/-
  Pieces of the program's MachOk: frames, bases and twins. (Written by mkmo3.py.)
-/
import Derived.Test.YtjbgpcileapogaaGreatLStep1
import Derived.Test.YtjbgpcileapogaaGreatCRow
namespace Go.Proofs.YtjbgpcileapogaaGreat
open Go.RowKit
def frB (m:Mc) (i k:Int):Bool:=inR i 0 ((m.pages.length:Int) - 1) && inR k 0 (((pgAt m i).frames.length:Int) - 1)
theorem pg_of {m:Mc} {i:Int} (h:inR i 0 ((m.pages.length:Int) - 1)=true):∃k:Nat,i=(k:Int)∧k<m.pages.length:=by
  have:=inR_true.1 h
  obtain⟨k,rfl⟩:=Int.eq_ofNat_of_zero_le this.1
  exact⟨k,rfl,by omega⟩
set_option maxRecDepth 100000 in
set_option maxHeartbeats 4000000 in
theorem isFrame_any (vp vo vt vs:Value) (m:Mc) (i k:Int) (w:World) (h:MachAt w vp vo vt vs m) :
    Calls Tryz.prog 134 #[.agg (mcCells vp vo vt vs m).toArray,.int .i64 i,.int .i64 k] w fun e w'=>e=.returned (.bool (frB m i k))∧Below w.heap.size w w':=by
  obtain⟨ap,cp,hvp,hlp,hcp⟩:=id h.p
  obtain⟨ao,co,hvo,hlo,hco⟩:=id h.o
  obtain⟨at',ct,hvt,hlt',hct⟩:=id h.t
  obtain⟨as',cs,hvs⟩:=h.s.shape
  subst hvp hvo hvt hvs
  unfold mcCells
  go_enter Tryz.func134,Tryz.ntmps134
  go_upto_region 1 with fail
  refine wp_gen (fun W=>Below w.heap.size w W∧Bx W w.heap.size 42 [.int .i64 m.cells,.slice ap m.pages.length cp,.slice ao m.order.length co,.int .i64 m.now,.slice at' m.twins.length ct,.int .i64 m.born,.slice as' m.said.length cs,.int .i64 m.code]) ⟨(Below.refl _ _).alloc (Nat.le_refl _) _,Bx.new w _ _⟩ ?_
  rintro W ⟨hb,hm⟩
  obtain⟨⟨m0,m1,m2,m3,m4,m5,m6,m7⟩,_⟩:=bx8 hm
  obtain⟨f,hf⟩:∃f,inR i 0 ((m.pages.length:Int) - 1)=f:=⟨_,rfl⟩
  have HP:=isPlace_any i m.pages.length W
  rw[hf] at HP
  go_wp2_with fail
  refine HP.mono ?_
  rintro e W1 ⟨rfl,hw⟩
  obtain rfl:=hw.symm
  clear hw HP
  cases f
  · have HE:Hid (frB m i k=false):=by show _=_;unfold frB;rw[hf];rfl
    go_wp2
    go_ret
    exact⟨ret_bool HE.out.symm,hb⟩
  obtain⟨j,rfl,hj⟩:=pg_of hf
  obtain⟨b2,o2,vf,hap,hpg⟩:=hcp j hj
  subst hap
  obtain⟨af,cf,hvf⟩:=hpg.f.shape
  have e1:=cell_below hb hpg.c1
  rw[hvf] at e1
  have hjz:(j:Int)<(m.pages.length:Int):=by omega
  have HE:Hid (frB m (j:Int) k=inR k 0 ((m.pages[j].frames.length:Int) - 1)):=by show _=_;unfold frB;rw[hf,pgAt_at hj];rfl
  clear hf hcp hpg hvf
  go_wp2_with fail
  refine(isPlace_any _ _ _).mono ?_
  rintro e W1 ⟨rfl,hw⟩
  obtain rfl:=hw.symm
  clear hw
  go_wp2
  go_ret
  exact⟨ret_bool HE.out.symm,hb⟩
def emptyB (c:Cl):Bool:=c.m == 0 && c.pc == 0 && decide (c.temps.length=0) && decide (c.stack.length=0) && c.sender == 0 && !c.dead
set_option maxRecDepth 100000 in
set_option maxHeartbeats 4000000 in
theorem isEmptyCall_any (c:Cl) (vt vs:Value) (w:World) (ht:OpsAt w vt c.temps) (hs:OpsAt w vs c.stack) :
    Calls Tryz.prog 135 #[.agg #[.int .i64 c.m,.int .i64 c.pc,vt,vs,.int .i64 c.sender,.bool c.dead]] w fun e w'=>e=.returned (.bool (emptyB c))∧Below w.heap.size w w':=by
  obtain⟨a1,c1,e1,hl1,_⟩:=ht
  obtain⟨a2,c2,e2,hl2,_⟩:=hs
  subst e1 e2
  have hB:∀o,Below w.heap.size w (w.alloc o):=fun o=>(Below.refl _ _).alloc (Nat.le_refl _) _
  go_enter Tryz.func135,Tryz.ntmps135
  by_cases h0:c.m=0
  case neg =>
    have HE:Hid (emptyB c=false):=by show _=_;unfold emptyB;simp[h0]
    have e:(c.m == 0)=false:=by simpa using h0
    go_wp2
    go_ret
    exact⟨ret_bool HE.out.symm,hB _⟩
  by_cases h1:c.pc=0
  case neg =>
    have HE:Hid (emptyB c=false):=by show _=_;unfold emptyB;simp[h1]
    have e:(c.pc == 0)=false:=by simpa using h1
    go_wp2
    go_ret
    exact⟨ret_bool HE.out.symm,hB _⟩
  by_cases h2:c.temps.length=0
  case neg =>
    have HE:Hid (emptyB c=false):=by show _=_;unfold emptyB;simp[h2]
    go_wp2
    go_ret
    exact⟨ret_bool HE.out.symm,hB _⟩
  by_cases h3:c.stack.length=0
  case neg =>
    have HE:Hid (emptyB c=false):=by show _=_;unfold emptyB;simp[h3]
    go_wp2
    go_ret
    exact⟨ret_bool HE.out.symm,hB _⟩
  by_cases h4:c.sender=0
  case neg =>
    have HE:Hid (emptyB c=false):=by show _=_;unfold emptyB;simp[h4]
    have e:(c.sender == 0)=false:=by simpa using h4
    go_wp2
    go_ret
    exact⟨ret_bool HE.out.symm,hB _⟩
  have HE:Hid (emptyB c=!c.dead):=by show _=_;unfold emptyB;simp[h0,h1,h2,h3,h4]
  go_wp2
  go_ret
  exact⟨ret_bool HE.out.symm,hB _⟩
def Tw.none:Tw:=⟨-1,0,⟨0,0,[],[],0,false⟩⟩
def twAt (m:Mc) (i:Int):Tw:=m.twins.getD i.toNat Tw.none
theorem twAt_at {m:Mc} {k:Nat} (h:k<m.twins.length):twAt m (k:Int)=m.twins[k]:=by simp[twAt,h]
theorem tw_of {m:Mc} {i:Int} (h:inR i 0 ((m.twins.length:Int) - 1)=true):∃k:Nat,i=(k:Int)∧k<m.twins.length:=by
  have:=inR_true.1 h
  obtain⟨k,rfl⟩:=Int.eq_ofNat_of_zero_le this.1
  exact⟨k,rfl,by omega⟩
def baseB (m:Mc) (p:Pg):Bool :=
  p.base == -1 || (decide (p.frames.length≠0) && inR p.base 0 ((m.twins.length:Int) - 1) && ((twAt m p.base).page == -1 || (inR (twAt m p.base).page 0 ((m.pages.length:Int) - 1) && (twAt m p.base).place == ((pgAt m (twAt m p.base).page).frames.length:Int) - 1)))
set_option maxRecDepth 100000 in
set_option maxHeartbeats 4000000 in
theorem baseOk_any (vp vo vt vs:Value) (m:Mc) (p:Pg) (af:Option Addr) (cf:Nat) (w:World) (h:MachAt w vp vo vt vs m) (hsm:∀i,(hi:i<m.pages.length)→m.pages[i].frames.length≤1099511627776) :
    Calls Tryz.prog 133 #[.agg (mcCells vp vo vt vs m).toArray,.agg #[.int .i64 p.base,.slice af p.frames.length cf]] w fun e w'=>e=.returned (.bool (baseB m p))∧Below w.heap.size w w':=by
  obtain⟨ap,cp,hvp,hlp,hcp⟩:=id h.p
  obtain⟨ao,co,hvo,hlo,hco⟩:=id h.o
  obtain⟨at',ct,hvt,hlt',hct⟩:=id h.t
  obtain⟨as',cs,hvs⟩:=h.s.shape
  subst hvp hvo hvt hvs
  unfold mcCells
  have HSM:Hid (∀i,(hi:i<m.pages.length)→m.pages[i].frames.length≤1099511627776):=hsm
  clear hsm
  go_enter Tryz.func133,Tryz.ntmps133
  go_upto_region 1 with fail
  refine wp_gen (fun W=>Below w.heap.size w W∧Bx W w.heap.size 42 [.int .i64 m.cells,.slice ap m.pages.length cp,.slice ao m.order.length co,.int .i64 m.now,.slice at' m.twins.length ct,.int .i64 m.born,.slice as' m.said.length cs,.int .i64 m.code]∧Bx W (w.heap.size+1) 101 [.int .i64 p.base,.slice af p.frames.length cf]) ⟨((Below.refl _ _).alloc (Nat.le_refl _) _).alloc (by simp) _,(Bx.new w _ _).alloc _,Bx.newAt _ _ _ (by simp)⟩ ?_
  rintro W ⟨hb,hm,hx⟩
  obtain⟨⟨m0,m1,m2,m3,m4,m5,m6,m7⟩,_⟩:=bx8 hm
  have x0:=hx.cell 0 rfl
  have x1:=hx.cell 1 rfl
  by_cases hb1:p.base=-1
  · have HE:Hid (baseB m p=true):=by show _=_;unfold baseB;rw[hb1];rfl
    rw[hb1] at x0
    go_wp2
    go_ret
    exact⟨ret_bool HE.out.symm,hb⟩
  have hbe:(p.base == -1)=false:=by simpa using hb1
  by_cases hf0:p.frames.length=0
  · have HE:Hid (baseB m p=false):=by show _=_;unfold baseB;rw[hbe,hf0];rfl
    rw[hf0] at x1
    go_wp2
    go_ret
    exact⟨ret_bool HE.out.symm,hb⟩
  have hfz:¬((p.frames.length:Int)=0):=by omega
  obtain⟨f,hf⟩:∃f,inR p.base 0 ((m.twins.length:Int) - 1)=f:=⟨_,rfl⟩
  have HP:=isPlace_any p.base m.twins.length W
  rw[hf] at HP
  go_wp2_with fail
  refine HP.mono ?_
  rintro e W1 ⟨rfl,hw⟩
  obtain rfl:=hw.symm
  clear hw HP
  cases f
  · have HE:Hid (baseB m p=false):=by show _=_;unfold baseB;rw[hbe,hf];simp
    go_wp2
    go_ret
    exact⟨ret_bool HE.out.symm,hb⟩
  obtain⟨j,hj,hjl⟩:=tw_of hf
  have HB0:Hid (baseB m p=((twAt m p.base).page == -1 || (inR (twAt m p.base).page 0 ((m.pages.length:Int) - 1) && (twAt m p.base).place == ((pgAt m (twAt m p.base).page).frames.length:Int) - 1))):=by show _=_;unfold baseB;rw[hbe,hf];simp[hf0]
  rw[hj] at x0 HB0 hbe
  rw[twAt_at hjl] at HB0
  obtain⟨b,o,vt,vs,hat,htw⟩:=hct j hjl
  subst hat
  obtain⟨d0,d1,d2,d3,d4,d5,d6,d7,dt,ds⟩:=htw.below hb
  obtain⟨a1,k1,e1⟩:=dt.shape
  obtain⟨a2,k2,e2⟩:=ds.shape
  rw[e1] at d4
  rw[e2] at d5
  have hjz:(j:Int)<(m.twins.length:Int):=by omega
  have zb:=hb.size
  have lm:=hm.lt
  clear hf hct htw dt ds e1 e2 hj hb1
  obtain⟨T,hT⟩:∃T,m.twins[j]=T:=⟨_,rfl⟩
  rw[hT] at d0 d1 d2 d3 d4 d5 d6 d7 HB0
  clear hT
  go_upto_region 6 with fail
  refine wp_gen (fun W'=>Below W.heap.size W W'∧Bx W' W.heap.size 90 [.int .i64 T.page,.int .i64 T.place,.int .i64 T.left.m,.int .i64 T.left.pc,.slice a1 T.left.temps.length k1,.slice a2 T.left.stack.length k2,.int .i64 T.left.sender,.bool T.left.dead]) ⟨(Below.refl _ _).alloc (Nat.le_refl _) _,Bx.new _ _ _⟩ ?_
  rintro W2 ⟨t2,y2⟩
  have hb2:=hb.trans (t2.mono zb)
  have hm2:=hm.below t2
  clear hb hm hx t2 zb lm d0 d1 d2 d3 d4 d5 d6 d7 m0 m1 m2 m3 m4 m5 m6 m7 x0 x1
  obtain⟨⟨m0,m1,m2,m3,m4,m5,m6,m7⟩,_⟩:=bx8 hm2
  have y0:=y2.cell 0 rfl
  have y1:=y2.cell 1 rfl
  by_cases hpn:T.page=-1
  · have HE:Hid (baseB m p=true):=by rw[HB0.out,hpn];rfl
    rw[hpn] at y0
    go_wp2
    go_ret
    exact⟨ret_bool HE.out.symm,hb2⟩
  have hpe:(T.page == -1)=false:=by simpa using hpn
  obtain⟨f,hf⟩:∃f,inR T.page 0 ((m.pages.length:Int) - 1)=f:=⟨_,rfl⟩
  have HP:=fun W=>isPlace_any T.page m.pages.length W
  rw[hf] at HP
  cases f
  · have HE:Hid (baseB m p=false):=by rw[HB0.out,hpe,hf];rfl
    clear HB0 hf
    go_wp2_with fail
    go_quiet ((go_at_call 61;exact Calls.quiet_of_same (HP _)))
    go_wp2
    go_ret
    exact⟨ret_bool HE.out.symm,bel_drewN hb2 _⟩
  obtain⟨i,hi,hil⟩:=pg_of hf
  rw[hi] at HB0 y0 HP hf hpe
  rw[pgAt_at hil,hf,hpe] at HB0
  obtain⟨b2,o2,vf,hap,hpg⟩:=hcp i hil
  subst hap
  obtain⟨ag,cg,hvf⟩:=hpg.f.shape
  have g1:=cell_below hb2 hpg.c1
  rw[hvf] at g1
  have hnb:=HSM.out i hil
  obtain⟨nf,hnf⟩:∃nf,m.pages[i].frames.length=nf:=⟨_,rfl⟩
  rw[hnf] at g1 HB0 hnb
  have hiz:(i:Int)<(m.pages.length:Int):=by omega
  have hwn:IntKind.i64.wrap ((nf:Int) - 1)=(nf:Int) - 1:=by rw[IntKind.wrap_i64];omega
  have HE:Hid (baseB m p=(T.place == (nf:Int) - 1)):=by rw[HB0.out];rfl
  clear HB0 hf hcp hpg hvf hnf hi hpn
  go_wp2_with fail
  go_quiet ((go_at_call 61;exact Calls.quiet_of_same (HP _)))
  go_wp2
  go_ret
  exact⟨ret_bool HE.out.symm,bel_drewN hb2 _⟩
def frCl (f:Fr):Cl:=⟨f.m,f.pc,f.temps,f.stack,-1,false⟩
def frameB (ms:List (Int × Int × List (Int × Int))) (m:Mc) (i k:Nat) (f:Fr):Bool :=
  clOk ms m.twins.length (frCl f) && (f.twin == -1 || (inR f.twin 0 ((m.twins.length:Int) - 1) && ((twAt m f.twin).page == (i:Int) && (twAt m f.twin).place == (k:Int))))
set_option maxRecDepth 100000 in
set_option maxHeartbeats 4000000 in
theorem frameOk_any (vq:Value) (ms:List (Int × Int × List (Int × Int))) (vp vo vt vs:Value) (m:Mc) (i k:Nat) (w:World) (hq:MethsAt w vq ms) (h:MachAt w vp vo vt vs m) (hops:∀i,(h:i<ms.length)→ms[i].2.2.length≤1000000) (hi:i<m.pages.length) (hk:k<m.pages[i].frames.length) (F:Fr) (hF0:m.pages[i].frames[k]=F) :
    Calls Tryz.prog 131 #[.agg #[vq],.agg (mcCells vp vo vt vs m).toArray,.int .i64 (i:Int),.int .i64 (k:Int)] w fun e w'=>e=.returned (.bool (frameB ms m i k F))∧Below w.heap.size w w':=by
  have HF:Hid (m.pages[i].frames[k]=F):=hF0
  clear hF0
  have HOPS:Hid (∀i,(h:i<ms.length)→ms[i].2.2.length≤1000000):=hops
  clear hops
  have htm:m.twins.length≤maxLen:=by obtain⟨_,_,_,hl,_⟩:=id h.t;exact hl
  obtain⟨aq,cq,hvq,hlq,hcq⟩:=id hq
  subst hvq
  obtain⟨ap,cp,hvp,hlp,hcp⟩:=id h.p
  obtain⟨ao,co,hvo,hlo,hco⟩:=id h.o
  obtain⟨at',ct,hvt,hlt',hct⟩:=id h.t
  obtain⟨as',cs,hvs⟩:=h.s.shape
  subst hvp hvo hvt hvs
  unfold mcCells
  go_enter Tryz.func131,Tryz.ntmps131
  go_upto_region 1 with fail
  refine wp_gen (fun W=>Below w.heap.size w W∧Bx W w.heap.size 25 [.slice aq ms.length cq]∧Bx W (w.heap.size+1) 42 [.int .i64 m.cells,.slice ap m.pages.length cp,.slice ao m.order.length co,.int .i64 m.now,.slice at' m.twins.length ct,.int .i64 m.born,.slice as' m.said.length cs,.int .i64 m.code]) ⟨((Below.refl _ _).alloc (Nat.le_refl _) _).alloc (by simp) _,(Bx.new w _ _).alloc _,Bx.newAt _ _ _ (by simp)⟩ ?_
  rintro W ⟨hb,hx,hm⟩
  have x0:=hx.cell 0 rfl
  obtain⟨⟨m0,m1,m2,m3,m4,m5,m6,m7⟩,_⟩:=bx8 hm
  obtain⟨bp,op,vf,hap,hpg⟩:=hcp i hi
  subst hap
  obtain⟨af,cf,hvf,_,hcf⟩:=id hpg.f
  obtain⟨bf,of,vt1,vs1,haf,hfr⟩:=hcf k hk
  subst haf
  have g1:=cell_below hb hpg.c1
  rw[hvf] at g1
  obtain⟨nf,hnf⟩:∃nf,m.pages[i].frames.length=nf:=⟨_,rfl⟩
  rw[HF.out] at hfr
  rw[hnf] at g1
  obtain⟨d0,d1,d2,d3,d4,dt,ds⟩:=hfr.below hb
  obtain⟨a1,k1,e1⟩:=dt.shape
  obtain⟨a2,k2,e2⟩:=ds.shape
  rw[e1] at d3 dt
  rw[e2] at d4 ds
  have hiz:(i:Int)<(m.pages.length:Int):=by omega
  have hkz:(k:Int)<(nf:Int):=by omega
  have hkn:k<nf:=by omega
  have zb:=hb.size
  clear hcp hpg hvf hcf hfr HF e1 e2
  have HK0:Hid (m.pages[i].frames.length=nf):=hnf
  clear hnf hk
  go_upto_region 2 with fail
  refine wp_gen (fun W'=>Below W.heap.size W W'∧Bx W' W.heap.size 103 [.int .i64 F.m,.int .i64 F.pc,.int .i64 F.twin,.slice a1 F.temps.length k1,.slice a2 F.stack.length k2]) ⟨(Below.refl _ _).alloc (Nat.le_refl _) _,Bx.new _ _ _⟩ ?_
  rintro W2 ⟨t2,y2⟩
  have hb2:=hb.trans (t2.mono zb)
  have hm2:=hm.below t2
  have hx2:=hx.below t2
  have z2:=hb2.size
  have dt2:=dt.below t2
  have ds2:=ds.below t2
  clear hb hm hx t2 zb d0 d1 d2 d3 d4 dt ds m0 m1 m2 m3 m4 m5 m6 m7 x0 g1
  obtain⟨⟨m0,m1,m2,m3,m4,m5,m6,m7⟩,_⟩:=bx8 hm2
  have x0:=hx2.cell 0 rfl
  have y0:=y2.cell 0 rfl
  have y1:=y2.cell 1 rfl
  have y2':=y2.cell 2 rfl
  have y3:=y2.cell 3 rfl
  have y4:=y2.cell 4 rfl
  obtain⟨f,hf⟩:∃f,clOk ms m.twins.length (frCl F)=f:=⟨_,rfl⟩
  have HC:=implCallOk_any _ _ _ ms (frCl F) m.twins.length W2 (hq.below hb2) (show OpsAt W2 (.slice a1 F.temps.length k1) (frCl F).temps from dt2) (show OpsAt W2 (.slice a2 F.stack.length k2) (frCl F).stack from ds2) htm HOPS.out
  rw[hf] at HC
  unfold clCells frCl at HC
  go_wp2_with fail
  refine HC.mono ?_
  rintro e W3 ⟨rfl,t3⟩
  have hb3:=hb2.trans (t3.mono z2)
  have hm3:=hm2.below t3
  have y3r:=y2.below t3
  clear HC t3 hm2 hx2 y2 hb2 z2 dt2 ds2 m0 m1 m2 m3 m4 m5 m6 m7 x0 y0 y1 y2' y3 y4
  cases f
  · have HE:Hid (frameB ms m i k F=false):=by show _=_;unfold frameB;rw[hf];rfl
    go_wp2
    go_ret
    exact⟨ret_bool HE.out.symm,hb3⟩
  have HE0:Hid (frameB ms m i k F=(F.twin == -1 || (inR F.twin 0 ((m.twins.length:Int) - 1) && ((twAt m F.twin).page == (i:Int) && (twAt m F.twin).place == (k:Int))))):=by show _=_;unfold frameB;rw[hf];rfl
  clear hf
  have y2':=y3r.cell 2 rfl
  obtain⟨⟨m0,m1,m2,m3,m4,m5,m6,m7⟩,_⟩:=bx8 hm3
  by_cases htw1:F.twin=-1
  · have HE:Hid (frameB ms m i k F=true):=by rw[HE0.out,htw1];rfl
    rw[htw1] at y2'
    go_wp2
    go_ret
    exact⟨ret_bool HE.out.symm,hb3⟩
  have hte:(F.twin == -1)=false:=by simpa using htw1
  obtain⟨f,hf⟩:∃f,inR F.twin 0 ((m.twins.length:Int) - 1)=f:=⟨_,rfl⟩
  have HP:=isPlace_any F.twin m.twins.length W3
  rw[hf] at HP
  go_wp2_with fail
  refine HP.mono ?_
  rintro e W4 ⟨rfl,hw⟩
  obtain rfl:=hw.symm
  clear hw HP
  cases f
  · have HE:Hid (frameB ms m i k F=false):=by rw[HE0.out,hte,hf];rfl
    go_wp2
    go_ret
    exact⟨ret_bool HE.out.symm,hb3⟩
  obtain⟨j,hj,hjl⟩:=tw_of hf
  rw[hte,hf,hj,twAt_at hjl] at HE0
  rw[hj] at y2' hte
  obtain⟨b,o,vt,vs,hat,htw⟩:=hct j hjl
  subst hat
  obtain⟨c0,c1,_,_,_,_,_,_,_,_⟩:=htw.below hb3
  have hjz:(j:Int)<(m.twins.length:Int):=by omega
  have HE1:Hid (frameB ms m i k F=(m.twins[j].page == (i:Int) && m.twins[j].place == (k:Int))):=by rw[HE0.out];rfl
  clear HE0 hf hct htw hj htw1
  obtain⟨pgv,hpgv⟩:∃x,m.twins[j].page=x:=⟨_,rfl⟩
  obtain⟨plv,hplv⟩:∃x,m.twins[j].place=x:=⟨_,rfl⟩
  rw[hpgv] at c0 HE1
  rw[hplv] at c1 HE1
  clear hpgv hplv
  by_cases hpp:pgv=(i:Int)
  · rw[hpp] at c0
    have HE:Hid (frameB ms m i k F=(plv == (k:Int))):=by show _=_;rw[HE1.out,hpp];simp
    go_wp2
    go_ret
    exact⟨ret_bool HE.out.symm,hb3⟩
  · have hpf:(pgv == (i:Int))=false:=by simpa using hpp
    have HE:Hid (frameB ms m i k F=false):=by rw[HE1.out,hpf];rfl
    go_wp2
    go_ret
    exact⟨ret_bool HE.out.symm,hb3⟩
def Fr.none:Fr:=⟨0,0,-1,[],[]⟩
def frAt (m:Mc) (i k:Int):Fr:=(pgAt m i).frames.getD k.toNat Fr.none
theorem frAt_at {m:Mc} {i k:Nat} (hi:i<m.pages.length) (hk:k<m.pages[i].frames.length):frAt m (i:Int) (k:Int)=m.pages[i].frames[k]:=by unfold frAt;rw[pgAt_at hi];simp[hk]
theorem fr_of {m:Mc} {i k:Int} (h:frB m i k=true):∃(a b:Nat) (ha:a<m.pages.length),i=(a:Int)∧k=(b:Int)∧b<m.pages[a].frames.length:=by
  unfold frB at h
  obtain⟨h1,h2⟩:=Bool.and_eq_true_iff.1 h
  obtain⟨a,rfl,ha⟩:=pg_of h1
  rw[pgAt_at ha] at h2
  have h3:=inR_true.1 h2
  obtain⟨b,rfl⟩:=Int.eq_ofNat_of_zero_le h3.1
  exact⟨a,b,ha,rfl,rfl,by omega⟩
def twinB (ms:List (Int × Int × List (Int × Int))) (m:Mc) (j:Nat) (t:Tw):Bool :=
  if t.page=-1 then t.place == 0 && clOk ms m.twins.length t.left else frB m t.page t.place && ((frAt m t.page t.place).twin == (j:Int) && emptyB t.left)
set_option maxRecDepth 100000 in
set_option maxHeartbeats 4000000 in
theorem twinOk_any (vq:Value) (ms:List (Int × Int × List (Int × Int))) (vp vo vt vs:Value) (m:Mc) (j:Nat) (w:World) (hq:MethsAt w vq ms) (h:MachAt w vp vo vt vs m) (hops:∀i,(h:i<ms.length)→ms[i].2.2.length≤1000000) (hj:j<m.twins.length) (T:Tw) (hT0:m.twins[j]=T) :
    Calls Tryz.prog 78 #[.agg #[vq],.agg (mcCells vp vo vt vs m).toArray,.int .i64 (j:Int)] w fun e w'=>e=.returned (.bool (twinB ms m j T))∧Below w.heap.size w w':=by
  have HT:Hid (m.twins[j]=T):=hT0
  clear hT0
  have HOPS:Hid (∀i,(h:i<ms.length)→ms[i].2.2.length≤1000000):=hops
  clear hops
  have htm:m.twins.length≤maxLen:=by obtain⟨_,_,_,hl,_⟩:=id h.t;exact hl
  obtain⟨aq,cq,hvq,hlq,hcq⟩:=id hq
  subst hvq
  obtain⟨ap,cp,hvp,hlp,hcp⟩:=id h.p
  obtain⟨ao,co,hvo,hlo,hco⟩:=id h.o
  obtain⟨at',ct,hvt,hlt',hct⟩:=id h.t
  obtain⟨as',cs,hvs⟩:=h.s.shape
  subst hvp hvo hvt hvs
  unfold mcCells
  go_enter Tryz.func78,Tryz.ntmps78
  go_upto_region 1 with fail
  refine wp_gen (fun W=>Below w.heap.size w W∧Bx W w.heap.size 25 [.slice aq ms.length cq]∧Bx W (w.heap.size+1) 42 [.int .i64 m.cells,.slice ap m.pages.length cp,.slice ao m.order.length co,.int .i64 m.now,.slice at' m.twins.length ct,.int .i64 m.born,.slice as' m.said.length cs,.int .i64 m.code]) ⟨((Below.refl _ _).alloc (Nat.le_refl _) _).alloc (by simp) _,(Bx.new w _ _).alloc _,Bx.newAt _ _ _ (by simp)⟩ ?_
  rintro W ⟨hb,hx,hm⟩
  have x0:=hx.cell 0 rfl
  obtain⟨⟨m0,m1,m2,m3,m4,m5,m6,m7⟩,_⟩:=bx8 hm
  obtain⟨b,o,vt,vs,hat,htw⟩:=hct j hj
  subst hat
  rw[HT.out] at htw
  obtain⟨d0,d1,d2,d3,d4,d5,d6,d7,dt,ds⟩:=htw.below hb
  obtain⟨a1,k1,e1⟩:=dt.shape
  obtain⟨a2,k2,e2⟩:=ds.shape
  rw[e1] at d4 dt
  rw[e2] at d5 ds
  have hjz:(j:Int)<(m.twins.length:Int):=by omega
  have zb:=hb.size
  clear hct htw e1 e2 HT
  go_upto_region 2 with fail
  refine wp_gen (fun W'=>Below W.heap.size W W'∧Bx W' W.heap.size 90 [.int .i64 T.page,.int .i64 T.place,.int .i64 T.left.m,.int .i64 T.left.pc,.slice a1 T.left.temps.length k1,.slice a2 T.left.stack.length k2,.int .i64 T.left.sender,.bool T.left.dead]) ⟨(Below.refl _ _).alloc (Nat.le_refl _) _,Bx.new _ _ _⟩ ?_
  rintro W2 ⟨t2,y2⟩
  have hb2:=hb.trans (t2.mono zb)
  have hm2:=hm.below t2
  have hx2:=hx.below t2
  have z2:=hb2.size
  have dt2:=dt.below t2
  have ds2:=ds.below t2
  clear hb hm hx t2 zb d0 d1 d2 d3 d4 d5 d6 d7 dt ds m0 m1 m2 m3 m4 m5 m6 m7 x0
  obtain⟨⟨m0,m1,m2,m3,m4,m5,m6,m7⟩,_⟩:=bx8 hm2
  obtain⟨⟨y0,y1,y2',y3,y4,y5,y6,y7⟩,_⟩:=bx8 y2
  have x0:=hx2.cell 0 rfl
  by_cases hp:T.page=-1
  · have HE0:Hid (twinB ms m j T=(T.place == 0 && clOk ms m.twins.length T.left)):=by show _=_;unfold twinB;rw[if_pos hp]
    rw[hp] at y0
    by_cases hz:T.place=0
    · have HE:Hid (twinB ms m j T=clOk ms m.twins.length T.left):=by rw[HE0.out,hz];rfl
      rw[hz] at y1
      have HC:=implCallOk_any _ _ _ ms T.left m.twins.length W2 (hq.below hb2) dt2 ds2 htm HOPS.out
      unfold clCells at HC
      go_wp2_with fail
      refine HC.mono ?_
      rintro e W3 ⟨rfl,t3⟩
      have hb3:=hb2.trans (t3.mono z2)
      go_wp2
      go_ret
      exact⟨ret_bool HE.out.symm,hb3⟩
    · have hze:(T.place == 0)=false:=by simpa using hz
      have HE:Hid (twinB ms m j T=false):=by rw[HE0.out,hze];rfl
      go_wp2
      go_ret
      exact⟨ret_bool HE.out.symm,hb2⟩
  have hpe:(T.page == -1)=false:=by simpa using hp
  have HE0:Hid (twinB ms m j T=(frB m T.page T.place && ((frAt m T.page T.place).twin == (j:Int) && emptyB T.left))):=by show _=_;unfold twinB;rw[if_neg hp]
  go_upto_region 4 with fail
  have L0:=Gr.cell m0
  have L1:=Gr.cell m1
  have L2:=Gr.cell m2
  have L3:=Gr.cell m3
  have L4:=Gr.cell m4
  have L5:=Gr.cell m5
  have L6:=Gr.cell m6
  have L7:=Gr.cell m7
  have Y0:=Gr.cell y0
  have Y1:=Gr.cell y1
  have Y2:=Gr.cell y2'
  have Y3:=Gr.cell y3
  have Y4:=Gr.cell y4
  have Y5:=Gr.cell y5
  have Y6:=Gr.cell y6
  have Y7:=Gr.cell y7
  obtain⟨f,hf⟩:∃f,frB m T.page T.place=f:=⟨_,rfl⟩
  have HI:=quiet_of_below (W:=W2) fun W' (hW:Below W2.heap.size W2 W')=>isFrame_any _ _ _ _ m T.page T.place W' ((h.below hb2).below hW)
  rw[hf] at HI
  unfold mcCells at HI
  cases f
  · have HE:Hid (twinB ms m j T=false):=by rw[HE0.out,hf];rfl
    clear HE0 hf
    refine WQ.region (by kernel_rfl) (by kernel_rfl) ?_
    iterate 28 (refine WQ.step (fun K hK=>?_);go_simp;first
      | (with_reducible refine hK _ ?_;clear hK K)
      | (with_reducible refine quiet_eq ?_;refine hK _ ?_;clear hK K)
      | (simp(contextual:=true) only [L0,L1,L2,L3,L4,L5,L6,L7,Y0,Y1,Result.andThen_ok,true_and];with_reducible refine quiet_eq ?_;refine hK _ ?_;clear hK K)
      | (with_reducible refine quiet_call HI ?_;refine hK _ ?_;clear hK K))
    refine WQ.nil ?_
    intro W3 hG3
    have hb3:=hb2.trans (hG3.to.mono z2)
    clear hG3 HI L0 L1 L2 L3 L4 L5 L6 L7 Y0 Y1 Y2 Y3 Y4 Y5 Y6 Y7
    go_wp2
    go_ret
    exact⟨ret_bool HE.out.symm,hb3⟩
  obtain⟨i,k,hi,hie,hke,hk⟩:=fr_of hf
  obtain⟨bp,op,vf,hap,hpg⟩:=hcp i hi
  subst hap
  obtain⟨af,cf,hvf,_,hcf⟩:=id hpg.f
  obtain⟨bf,of,vt1,vs1,haf,hfr⟩:=hcf k hk
  subst haf
  have g1:=Gr.cell (cell_below hb2 hpg.c1)
  rw[hvf] at g1
  have q2:=Gr.cell (cell_below hb2 hfr.c2)
  rw[hie,hke,frAt_at hi hk] at HE0
  rw[hie,hke] at hf HI
  rw[hie] at Y0 hpe
  rw[hke] at Y1
  have hiz:(i:Int)<(m.pages.length:Int):=by omega
  have hkz:(k:Int)<(m.pages[i].frames.length:Int):=by omega
  obtain⟨nf,hnf⟩:∃nf,m.pages[i].frames.length=nf:=⟨_,rfl⟩
  rw[hnf] at g1 hkz
  have hkn:k<nf:=by omega
  obtain⟨tv,htv⟩:∃tv,m.pages[i].frames[k].twin=tv:=⟨_,rfl⟩
  rw[htv] at q2 HE0
  clear hcp hpg hvf hcf hfr hnf hie hke htv hk y0 y1 y2' y3 y4 y5 y6 y7 m0 m1 m2 m3 m4 m5 m6 m7
  by_cases htj:tv=(j:Int)
  · have HE:Hid (twinB ms m j T=emptyB T.left):=by show _=_;rw[HE0.out,hf,htj];simp
    rw[htj] at q2
    have HM:=quiet_of_below (W:=W2) fun W' (hW:Below W2.heap.size W2 W')=>isEmptyCall_any T.left _ _ W' (dt2.below hW) (ds2.below hW)
    clear HE0 hf
    refine WQ.region (by kernel_rfl) (by kernel_rfl) ?_
    iterate 28 (refine WQ.step (fun K hK=>?_);go_simp;first
      | (with_reducible refine hK _ ?_;clear hK K)
      | (with_reducible refine quiet_eq ?_;refine hK _ ?_;clear hK K)
      | (simp(contextual:=true) only [L0,L1,L2,L3,L4,L5,L6,L7,Y0,Y1,Y2,Y3,Y4,Y5,Y6,Y7,g1,q2,Result.andThen_ok,true_and];with_reducible refine quiet_eq ?_;refine hK _ ?_;clear hK K)
      | (with_reducible refine quiet_call HI ?_;refine hK _ ?_;clear hK K)
      | (with_reducible refine quiet_call HM ?_;refine hK _ ?_;clear hK K))
    refine WQ.nil ?_
    intro W3 hG3
    have hb3:=hb2.trans (hG3.to.mono z2)
    clear hG3 HI HM L0 L1 L2 L3 L4 L5 L6 L7 Y0 Y1 Y2 Y3 Y4 Y5 Y6 Y7 g1 q2
    go_wp2
    go_ret
    exact⟨ret_bool HE.out.symm,hb3⟩
  · have hte:(tv == (j:Int))=false:=by simpa using htj
    have HE:Hid (twinB ms m j T=false):=by show _=_;rw[HE0.out,hte];simp
    clear HE0 hf
    refine WQ.region (by kernel_rfl) (by kernel_rfl) ?_
    iterate 28 (refine WQ.step (fun K hK=>?_);go_simp;first
      | (with_reducible refine hK _ ?_;clear hK K)
      | (with_reducible refine quiet_eq ?_;refine hK _ ?_;clear hK K)
      | (simp(contextual:=true) only [L0,L1,L2,L3,L4,L5,L6,L7,Y0,Y1,g1,q2,Result.andThen_ok,true_and];with_reducible refine quiet_eq ?_;refine hK _ ?_;clear hK K)
      | (with_reducible refine quiet_call HI ?_;refine hK _ ?_;clear hK K))
    refine WQ.nil ?_
    intro W3 hG3
    have hb3:=hb2.trans (hG3.to.mono z2)
    clear hG3 HI L0 L1 L2 L3 L4 L5 L6 L7 Y0 Y1 Y2 Y3 Y4 Y5 Y6 Y7 g1 q2
    go_wp2
    go_ret
    exact⟨ret_bool HE.out.symm,hb3⟩
theorem LvAt.addPage {B:Nat} {P:Lay} {ρ:Nat→Rl} {w W:World} (h:LvAt B ρ w P) (_hB:B≤w.heap.size) {v':Value} (base:Int)
    (hrow:CRow B 2 W v' (P.L.pages.length+1) (cells2 (pgPairs P.F P.L.pages) ++ [.int .i64 base,.slice none 0 0])) (hg:w.grownBy W P.vp.ownBlock) (hor:v'.ownBlock=P.vp.ownBlock∨v'.ownBlock=some w.heap.size) :
    LvAt B (newRole ρ w .pages) (W.setCell ⟨P.bl,1,none⟩ v') {P with vp:=v',F:=fun k=>if k=P.L.pages.length then .slice none 0 0 else P.F k,L:={P.L with pages:=P.L.pages ++ [⟨base,[]⟩]}}:=by
  have c:Ch (fun r=>r=.pages) ρ (newRole ρ w .pages) w W:=Ch.grown hg ρ .pages fun g e=>(h .pages).2 g e
  have h1:=Lay.it_keep (P:=P) (h .live) c (by simp)
  have c2:Ch (fun r=>r=.live) (newRole ρ w .pages) (newRole ρ w .pages) W (W.setCell ⟨P.bl,1,none⟩ v'):=Ch.set W _ _ _ _ h1.2.1
  have c3:Ch (fun r=>r=.live∨r=.pages) ρ (newRole ρ w .pages) w (W.setCell ⟨P.bl,1,none⟩ v'):=(c.mono fun _ e=>.inr e).trans (c2.mono fun _ e=>.inl e)
  have hl:(P.L.pages ++ [(⟨base,[]⟩:LvP)]).length=P.L.pages.length+1:=by simp
  have hown:∀g,v'.ownBlock=some g→newRole ρ w .pages g=.pages:=fun g e=>by
    rcases hor with e2 | e2
    · rw[e2] at e
      exact(c.role g ((h .pages).1.lt g e).2).trans ((h .pages).2 g e)
    · rw[e2] at e
      injection e with e
      subst e
      exact newRole_new (Nat.le_refl _)
  have hpp:pgPairs (fun k=>if k=P.L.pages.length then .slice none 0 0 else P.F k) (P.L.pages ++ [⟨base,[]⟩])=pgPairs P.F P.L.pages ++ [(.int .i64 base,.slice none 0 0)]:=by
    unfold pgPairs
    rw[hl,List.range_succ,List.map_append]
    congr 1
    · refine List.map_congr_left fun i hi=>?_
      have hi':i<P.L.pages.length:=by simpa using hi
      have hin:i≠P.L.pages.length:=by omega
      simp[List.getElem?_append_left hi',hin]
    · simp
  intro r
  cases r with
  | other=>trivial
  | live=>exact⟨h1.1.set 1 _,h1.2.1,h1.2.2⟩
  | pages =>
    refine⟨?_,hown⟩
    show CRow B 2 _ v' (P.L.pages ++ [(⟨base,[]⟩:LvP)]).length _
    rw[hl,hpp,cells2_snoc]
    exact hrow.kept c2.size fun g e=>c2.blk g (hrow.lt g e).2 (by rw[hown g e];simp)
  | frames i =>
    intro hi
    by_cases e:i=P.L.pages.length
    · subst e
      show CRow B 2 _ (if P.L.pages.length=P.L.pages.length then Value.slice none 0 0 else P.F P.L.pages.length) (P.L.pages ++ [(⟨base,[]⟩:LvP)])[P.L.pages.length].frames.length (cells2 (frPairs P.D (P.L.pages ++ [(⟨base,[]⟩:LvP)])[P.L.pages.length].frames))∧∀g,(if P.L.pages.length=P.L.pages.length then Value.slice none 0 0 else P.F P.L.pages.length).ownBlock=some g→_
      rw[if_pos rfl,List.getElem_append_right (Nat.le_refl _)]
      simp only[Nat.sub_self,List.getElem_cons_zero]
      exact⟨CRow.nil _ _ _,fun g e=>by cases e⟩
    · have hi2:i<P.L.pages.length:=by
        have:i<(P.L.pages ++ [(⟨base,[]⟩:LvP)]).length:=hi
        omega
      have:=(Lay.it_keep (P:=P) (h (.frames i)) c3 (by simp)) hi2
      show CRow B 2 _ (if i=P.L.pages.length then Value.slice none 0 0 else P.F i) (P.L.pages ++ [(⟨base,[]⟩:LvP)])[i].frames.length (cells2 (frPairs P.D (P.L.pages ++ [(⟨base,[]⟩:LvP)])[i].frames))∧∀g,(if i=P.L.pages.length then Value.slice none 0 0 else P.F i).ownBlock=some g→_
      rw[if_neg e,List.getElem_append_left hi2]
      exact this
  | order=>exact Lay.it_keep (P:=P) (r:=.order) (h .order) c3 (by simp)
  | twins=>exact Lay.it_keep (P:=P) (r:=.twins) (h .twins) c3 (by simp)
  | body k=>exact Lay.it_keep (P:=P) (r:=(.body k)) (h (.body k)) c3 (by simp)
  | temps k=>exact Lay.it_keep (P:=P) (r:=(.temps k)) (h (.temps k)) c3 (by simp)
  | stack k=>exact Lay.it_keep (P:=P) (r:=(.stack k)) (h (.stack k)) c3 (by simp)
theorem LvM.wf.addPage {L:LvM} (h:L.wf) (base:Int):LvM.wf {L with pages:=L.pages ++ [⟨base,[]⟩]}:=⟨fun i hi k hk=>by
  have hi':i<(L.pages ++ [(⟨base,[]⟩:LvP)]).length:=hi
  have hk':k<(L.pages ++ [(⟨base,[]⟩:LvP)])[i].frames.length:=hk
  by_cases e:i<L.pages.length
  · have e2:(L.pages ++ [(⟨base,[]⟩:LvP)])[i]=L.pages[i]:=List.getElem_append_left e
    show(L.pages ++ [(⟨base,[]⟩:LvP)])[i].frames[k].body<_
    simp only[e2] at hk' ⊢
    exact h.fr i e k hk'
  · have hl:(L.pages ++ [(⟨base,[]⟩:LvP)]).length=L.pages.length+1:=by simp
    obtain rfl:i=L.pages.length:=by omega
    rw[List.getElem_append_right (Nat.le_refl _)] at hk'
    simp at hk',h.tw⟩
theorem LvBody.kept {B:Nat} {w w1:World} {d:Nat} {vt vs:Value} {c:Cl} (h:LvBody B w d vt vs c) (hs:w.heap.size≤w1.heap.size) (hr:∀r,B≤r→r<w.heap.size→w1.heap[r]?=w.heap[r]?):LvBody B w1 d vt vs c:=by
  obtain⟨r,ht,hs',hd,hn1,hn2⟩:=h
  exact⟨World.rowIs.of_block r (hr d hd (World.rowIs.lt r)),ht.kept hs fun g e=>hr g (ht.lt g e).1 (ht.lt g e).2,hs'.kept hs fun g e=>hr g (hs'.lt g e).1 (hs'.lt g e).2,hd,hn1,hn2⟩
theorem LvBody.mono {B B':Nat} {w:World} {d:Nat} {vt vs:Value} {c:Cl} (h:LvBody B w d vt vs c) (hB:B'≤B):LvBody B' w d vt vs c:=by
  obtain⟨r,ht,hs',hd,hn1,hn2⟩:=h
  exact⟨r,ht.mono hB,hs'.mono hB,Nat.le_trans hB hd,hn1,hn2⟩
def bdOf (c:Cl):LvB:=⟨c.m,c.pc,c.temps,c.stack,c.dead⟩
theorem LvAt.addTwin {B:Nat} {P:Lay} {ρ:Nat→Rl} {w w':World} (h:LvAt B ρ w P) (hwf:P.L.wf) (hB:B≤w.heap.size) (hb:Below w.heap.size w w') {d:Nat} {vt vs:Value} {c:Cl} (hx:LvBody w.heap.size w' d vt vs c) (s:Int) {n:Nat} (hn:P.L.twins.length=n) :
    ∃(W:World) (ρ':Nat→Rl) (D:Nat→Nat) (T:Nat→Value × Value),(Instr.mapUpdate 157 (.map (some P.bm)) (.int .i64 (n:Int)) (.agg #[.int .i64 (-1),.int .i64 0,.pointer (some ⟨d,0,none⟩),.int .i64 s])).run Tryz.prog w'=.ok () W ∧
      LvAt B ρ' W {P with D:=D,T:=T,L:={P.L with twins:=P.L.twins ++ [⟨-1,0,P.L.bodies.length,s⟩],bodies:=P.L.bodies ++ [bdOf c]}}∧LvM.wf {P.L with twins:=P.L.twins ++ [⟨-1,0,P.L.bodies.length,s⟩],bodies:=P.L.bodies ++ [bdOf c]}∧w'.grownBy W (some P.bm):=by
  obtain⟨r,ht,hs,hd,hn1,hn2⟩:=hx
  have hbx:Bx w' d 218 (bdCells (vt,vs) (bdOf c)):=by
    obtain⟨cc,e1,e2,e3⟩:=r
    refine⟨cc,e1,e2,fun i hi=>?_⟩
    have hi':i<5:=hi
    rw[e3 i hi']
    match i,hi' with
    | 0,_=>rfl
    | 1,_=>rfl
    | 2,_=>rfl
    | 3,_=>rfl
    | 4,_=>rfl
  have h2:=h.addBody hwf hB hb (b:=bdOf c) hbx hd ht hs (fun e=>(hn1 d e).1 rfl) (fun e=>hn2 d e rfl) (fun g e=>(hn1 g e).2)
  have hm:TMap w' P.bm (P.L.twins.map (twVal (addB P d vt vs (bdOf c)).D)):=(h2 .twins).1
  have hl:(P.L.twins.map (twVal (addB P d vt vs (bdOf c)).D)).length=P.L.twins.length:=List.length_map _
  obtain⟨W,hrun,hm2,hg⟩:=TMap.push (P:=Tryz.prog) (t:=157) (kt:=3) (et:=168) (by kernel_rfl) (by kernel_rfl) hm (twVal (addB P d vt vs (bdOf c)).D ⟨-1,0,P.L.bodies.length,s⟩)
  have hrun':(Instr.mapUpdate 157 (.map (some P.bm)) (.int .i64 (n:Int)) (.agg #[.int .i64 (-1),.int .i64 0,.pointer (some ⟨d,0,none⟩),.int .i64 s])).run Tryz.prog w'=.ok () W:=by
    have hd2:(addB P d vt vs (bdOf c)).D P.L.bodies.length=d:=if_pos rfl
    have e:twVal (addB P d vt vs (bdOf c)).D ⟨-1,0,P.L.bodies.length,s⟩=.agg #[.int .i64 (-1),.int .i64 0,.pointer (some ⟨d,0,none⟩),.int .i64 s]:=by
      unfold twVal
      rw[hd2]
    rw[hl,hn,e] at hrun
    exact hrun
  refine⟨W,_,_,_,hrun',h2.setTwins (ts:=P.L.twins ++ [⟨-1,0,P.L.bodies.length,s⟩]) hg ?_,⟨fun i hi k hk=>?_,fun j hj=>?_⟩,hg⟩
  · rw[List.map_append]
    exact hm2
  · have:=hwf.fr i hi k hk
    show _<(P.L.bodies ++ [bdOf c]).length
    rw[List.length_append]
    exact Nat.lt_of_lt_of_le this (Nat.le_add_right _ _)
  · have hj':j<(P.L.twins ++ [(⟨-1,0,P.L.bodies.length,s⟩:LvT)]).length:=hj
    have hl2:(P.L.twins ++ [(⟨-1,0,P.L.bodies.length,s⟩:LvT)]).length=P.L.twins.length+1:=by simp
    show(P.L.twins ++ [(⟨-1,0,P.L.bodies.length,s⟩:LvT)])[j].body<(P.L.bodies ++ [bdOf c]).length
    rw[List.length_append,List.length_singleton]
    by_cases e:j<P.L.twins.length
    · rw[List.getElem_append_left e]
      exact Nat.lt_of_lt_of_le (hwf.tw j e) (Nat.le_add_right _ _)
    · obtain rfl:j=P.L.twins.length:=by omega
      rw[List.getElem_append_right (Nat.le_refl _)]
      simp
end Go.Proofs.YtjbgpcileapogaaGreat

/-
  A machine whose calls are all things of their own is made ready for work: livePagesOf.
-/
import Derived.Test.YtjbgpcileapogaaGreatMPut2
namespace Go.Proofs.YtjbgpcileapogaaGreat
open Go.RowKit
theorem Tryz.infoLPage:(Tryz.prog.info? 164).map (fun i=>(i.zero,i.size,i.bytes))=some (some (.agg #[.int .i64 0,.slice none 0 0]),2,32):=by kernel_rfl
theorem YZ (a:Option Addr) (c:Nat) (w:World):Calls Tryz.prog 115 #[.slice a 0 c] w fun e w'=>e=.returned (.slice none 0 0)/\Below w.heap.size w w':=by
 go_enter Tryz.func115,Tryz.ntmps115
 go_wp2_with fail
 go_loopg [3,5,6,9] 0 (fun d u _ _ q wr=>d=0/\u=.slice none 0 0/\q=.int .i64 0/\wr=w)
 case atStart=>exact⟨rfl,rfl,rfl,rfl⟩
 case round =>
  obtain⟨rfl,rfl,rfl,rfl⟩:=hrel
  go_wp2_with fail
  go_ret
  exact⟨rfl,zC⟩
def Zx (p:Pg):K4:=⟨p.base,[]⟩
def YE (ts:List Tw):List LvT:=ts.zipIdx.map fun t=>⟨-1,0,t.2,t.1.left.zf⟩
theorem U4 (ts:List Tw):(YE ts).length=ts.length:=by simp[YE]
theorem zbu (ts:List Tw) (t:Tw):YE (ts ++ [t])=YE ts ++ [⟨-1,0,ts.length,t.left.zf⟩]:=by simp[YE,List.zipIdx_append]
def qd (m:Mc):X9:=⟨m.cells,m.zd.map Zx,m.order,m.now,YE m.zh,m.zh.map fun t=>vA t.left⟩
set_option maxRecDepth 100000 in
set_option maxHeartbeats 4000000 in
theorem Ys (vp vo vt vs:Value) (m:Mc) (w:World) (h:yF w vp vo vt vs m) (hol:m.order.length<=1000) (hpl:m.zd.length<=1000) (hft:m.zh.length<=800000) (hnf:∀i,(hi:i<m.zd.length)->m.zd[i].zk=[]) (hnt:∀i,(hi:i<m.zh.length)->m.zh[i].page=-1) (hsm:∀i,(hi:i<m.zh.length)->m.zh[i].left.zg.length<=1000/\m.zh[i].left.ze.length<=1000) :
 Calls Tryz.prog 49 #[.agg (zI vp vo vt vs m).toArray] w fun e w'=>∃(P:Lay) (ρ:Nat->Rl),qf (w.heap.size+1) ρ w' P/\e=.returned (.pointer (some ⟨P.bl,0,none⟩))/\P.L=qd m/\(qd m).wf/\Below w.heap.size w w':=by
 have HNF:Hid (∀i,(hi:i<m.zd.length)->m.zd[i].zk=[]):=hnf
 have HNT:Hid (∀i,(hi:i<m.zh.length)->m.zh[i].page=-1):=hnt
 have HSM:Hid (∀i,(hi:i<m.zh.length)->m.zh[i].left.zg.length<=1000/\m.zh[i].left.ze.length<=1000):=hsm
 have HPL:Hid (m.zd.length<=1000):=hpl
 clear hnf hnt hsm hpl
 have HM:Hid (yF w vp vo vt vs m):=h
 obtain⟨ap,cp,hvp,hlp,hcp⟩:=id h.p
 obtain⟨ao,co,xz,hlo,hco⟩:=id h.o
 obtain⟨at',ct,xZ,hlt',hct⟩:=id h.t
 obtain⟨as',cs,hvs⟩:=h.s.shape
 subst hvp xz xZ hvs
 unfold zI
 go_enter Tryz.func49,Tryz.ntmps49
 go_upto_region 1 with fail
 refine ye (fun W=>Below w.heap.size w W/\Bx W w.heap.size 42 [.int .i64 m.cells,.slice ap m.zd.length cp,.slice ao m.order.length co,.int .i64 m.now,.slice at' m.zh.length ct,.int .i64 m.born,.slice as' m.zl.length cs,.int .i64 m.code]) ⟨zB _ _,Bx.new w _ _⟩ ?_
 rintro W ⟨hb,hm⟩
 have zb:=hb.size
 have m0:=hm.cell 0 rfl
 have m2:=hm.cell 2 rfl
 have m3:=hm.cell 3 rfl
 have hlW:=hm.lt
 have HCL:Hid (∀X,Below W.heap.size W X->Calls Tryz.prog 114 #[.slice ao m.order.length co] X fun e w'=>∃v',e=.returned v'/\zO X.heap.size w' v' m.order/\Below X.heap.size X w'):=fun X hX=>Kc _ _ X ((HM.out.o.below hb).below hX) hol
 have hmm:=@run_makeMap Tryz.prog
 have HS:∀w':World,Below W.heap.size W w'->((w'.cell? ⟨w.heap.size,0,none⟩=some (.int .i64 m.cells)/\w'.cell? ⟨w.heap.size,2,none⟩=some (.slice ao m.order.length co)/\w'.cell? ⟨w.heap.size,3,none⟩=some (.int .i64 m.now))/\Below W.heap.size W w'):=fun w' hb=>⟨⟨zc hb m0,zc hb m2,zc hb m3⟩,hb⟩
 have HMB:Hid (Bx W w.heap.size 42 [.int .i64 m.cells,.slice ap m.zd.length cp,.slice ao m.order.length co,.int .i64 m.now,.slice at' m.zh.length ct,.int .i64 m.born,.slice as' m.zl.length cs,.int .i64 m.code]):=hm
 clear m0 m2 m3 hm
 go_cut [3] (fun v3 wx=>∃(bl bm:Nat) (vo:Value) (ρ:Nat->Rl),v3=.pointer (some ⟨bl,0,none⟩)/\qf (w.heap.size+1) ρ wx ⟨bl,.slice none 0 0,vo,bm,fun _=>undef,fun _=>0,fun _=>(undef,undef),⟨m.cells,[],m.order,m.now,[],[]⟩⟩/\Below w.heap.size w wx/\Bx wx w.heap.size 42 [.int .i64 m.cells,.slice ap m.zd.length cp,.slice ao m.order.length co,.int .i64 m.now,.slice at' m.zh.length ct,.int .i64 m.born,.slice as' m.zl.length cs,.int .i64 m.code])
 case first =>
  go_region_held3 (fun w'=>(w'.cell? ⟨w.heap.size,0,none⟩=some (.int .i64 m.cells)/\w'.cell? ⟨w.heap.size,2,none⟩=some (.slice ao m.order.length co)/\w'.cell? ⟨w.heap.size,3,none⟩=some (.int .i64 m.now))/\Below W.heap.size W w')
   ((refine HS _ ?_;first
    | (with_reducible exact(‹(_/\_/\_)/\Below W.heap.size W _›).2)
    | (with_reducible exact zC.drew)
    | (with_reducible exact(zB _ _).drew)
    | (with_reducible exact Vj)
    | (with_reducible exact Vj.alloc Vj.size _)
    | (with_reducible exact(Vj.alloc Vj.size _).alloc (Vj.alloc Vj.size _).size _)))
   ((go_at_call 114;refine(HCL.out _ (‹(_/\_/\_)/\Below W.heap.size W _›).2).mono ?_;rintro e wT ⟨vT,rfl,Vm,Wi⟩;have Vj:=Below.trans (‹(_/\_/\_)/\Below W.heap.size W _›).2 (Wi.mono ((‹(_/\_/\_)/\Below W.heap.size W _›).2).size);obtain⟨aT,kT,hvT,_⟩:=Vm.slice;subst hvT))
  ·have hszT:W.heap.size<=wT.heap.size:=Vj.size
   have hlt:=Vm.lt
   have hzd:W.drew.heap.size=W.heap.size:=rfl
   have ht:=xW.made wT
   obtain⟨W3,hW3⟩:∃W3,wT.alloc (.map #[] 0)=W3:=⟨_,rfl⟩
   have hs3:W3.heap.size=wT.heap.size+1:=by rw[<-hW3];simp
   have hb3:Below wT.heap.size wT W3:=by rw[<-hW3];exact zB _ _
   have HF:=qf.start (B:=w.heap.size+1) (w:=W3.alloc (.cells #[.int .i64 m.cells,.slice none 0 0,.slice aT m.order.length kT,.int .i64 m.now,.map (some wT.heap.size)] 160)) (bl:=W3.heap.size) (bm:=wT.heap.size) (vo:=.slice aT m.order.length kT) (order:=m.order) (Bx.new W3 160 [.int .i64 m.cells,.slice none 0 0,.slice aT m.order.length kT,.int .i64 m.now,.map (some wT.heap.size)]) (by omega) ((by rw[<-hW3];exact ht:xW W3 wT.heap.size []).below (zB _ _)) (by omega) (by omega) (((Vm.below hb3).below (zB _ _)).mono (by omega)) (fun e=>by have:=(hlt _ e).2;omega) (fun e=>by have:=(hlt _ e).2;omega)
   have HB:Below w.heap.size w (W3.alloc (.cells #[.int .i64 m.cells,.slice none 0 0,.slice aT m.order.length kT,.int .i64 m.now,.map (some wT.heap.size)] 160)):=((hb.trans (Vj.mono zb)).trans (hb3.mono (by omega))).alloc (by omega) _
   have HX:=((HMB.out.below Vj).below hb3).alloc (.cells #[.int .i64 m.cells,.slice none 0 0,.slice aT m.order.length kT,.int .i64 m.now,.map (some wT.heap.size)] 160)
   rw[hs3] at HF
   subst hW3
   go_wp2_with fail
   go_meet
   exact⟨_,_,_,_,rfl,HF,HB,HX⟩
  ·have hlt:=Vm.lt
   have hzm:(W.alloc (.map #[] 0)).drew.heap.size=W.heap.size+1:=by
    show(W.alloc (.map #[] 0)).heap.size=_
    simp
   have hszT:=Wi.size
   have ht:xW wT W.heap.size []:=((xW.made W).below zC.drew).below Wi
   have HF:=qf.start (B:=w.heap.size+1) (w:=wT.alloc (.cells #[.int .i64 m.cells,.slice none 0 0,.slice aT m.order.length kT,.int .i64 m.now,.map (some W.heap.size)] 160)) (bl:=wT.heap.size) (bm:=W.heap.size) (vo:=.slice aT m.order.length kT) (order:=m.order) (Bx.new wT 160 [.int .i64 m.cells,.slice none 0 0,.slice aT m.order.length kT,.int .i64 m.now,.map (some W.heap.size)]) (by omega) (ht.below (zB _ _)) (by omega) (by omega) ((Vm.below (zB _ _)).mono (by omega)) (fun e=>by have:=(hlt _ e).2;omega) (fun e=>by have:=(hlt _ e).1;omega)
   have HB:Below w.heap.size w (wT.alloc (.cells #[.int .i64 m.cells,.slice none 0 0,.slice aT m.order.length kT,.int .i64 m.now,.map (some W.heap.size)] 160)):=(hb.trans (Vj.mono zb)).alloc (by have:=Vj.size;omega) _
   have HX:=(HMB.out.below Vj).alloc (.cells #[.int .i64 m.cells,.slice none 0 0,.slice aT m.order.length kT,.int .i64 m.now,.map (some W.heap.size)] 160)
   go_wp2_with fail
   go_meet
   exact⟨_,_,_,_,rfl,HF,HB,HX⟩
 case rest =>
  obtain⟨bl,bm,vo,ρ0,rfl,L0,b0,x0⟩:=hcut
  have x1:=x0.cell 1 rfl
  obtain⟨i0,hii,hz0,hz1,hz2⟩:=info_parts Tryz.infoLPage
  have HB:Hid (w.heap.size+1<=bl):=(L0 .live).2.2
  have HBM:Hid (w.heap.size+1<=bm):=(L0 .zh).2.2
  clear HCL HMB HS hmm hb hlW zb
  go_wp2_with fail
  clear x1
  go_loopg [5,21] m.zd.length (fun d _ q wr=>∃(k:Nat) (ρ:Nat->Rl) (vp:Value) (F:Nat->Value),k<=m.zd.length/\d=m.zd.length - k/\q=.int .i64 (k:Int)/\qf (w.heap.size+1) ρ wr ⟨bl,vp,vo,bm,F,fun _=>0,fun _=>(undef,undef),⟨m.cells,(m.zd.take k).map Zx,m.order,m.now,[],[]⟩⟩/\Below w.heap.size w wr/\Bx wr w.heap.size 42 [.int .i64 m.cells,.slice ap m.zd.length cp,.slice ao m.order.length co,.int .i64 m.now,.slice at' m.zh.length ct,.int .i64 m.born,.slice as' m.zl.length cs,.int .i64 m.code])
  case atStart=>exact⟨0,ρ0,_,_,Nat.zero_le _,rfl,rfl,L0,b0,x0⟩
  case round =>
   obtain⟨k,ρ,vp,F,hk,rfl,rfl,hL,hb,hx⟩:=hrel
   clear L0 b0 x0
   have zr:=hb.size
   have hwr:=hx.lt
   obtain⟨ps,hps⟩:∃ps,(m.zd.take k).map Zx=ps:=⟨_,rfl⟩
   have hpl:ps.length=k:=by rw[<-hps];simp;omega
   by_cases hlt:k<m.zd.length
   ·have hsl:∃av cv,vp=.slice av ps.length cv:=by
     obtain⟨av,cv,e,_⟩:=(hL .zd).1.slice
     exact⟨av,cv,by rw[<-hps];exact e⟩
    obtain⟨av,cv,e⟩:=hsl
    subst e
    have htk:(m.zd.take (k+1)).map Zx=ps ++ [⟨m.zd[k].base,[]⟩]:=by
     rw[List.take_add_one,List.map_append,hps]
     simp[hlt,Zx]
    rw[hps] at hL
    have hkz:(k:Int)<(m.zd.length:Int):=by omega
    obtain⟨gp,op,vf,hap,jN⟩:=hcp k hlt
    subst hap
    have c0:=zc hb jN.c0
    have c1:=zc hb jN.c1
    obtain⟨aF,cF,Z4,_⟩:=jN.f
    have hnf:=HNF.out k hlt
    rw[hnf] at Z4
    subst Z4
    obtain⟨Q,hQ⟩:∃Q,m.zd[k]=Q:=⟨_,rfl⟩
    rw[hQ] at c0 htk
    clear jN
    dsimp only [List.length_nil] at c1
    go_upto_region 5 with fail
    refine ye (fun W'=>Below wr.heap.size wr W'/\Bx W' wr.heap.size 101 [.int .i64 Q.base,.slice aF 0 cF]) ⟨zB _ _,Bx.new _ _ _⟩ ?_
    rintro W2 ⟨t2,y2⟩
    have hb2:=hb.trans (t2.mono zr)
    have z2:=hb2.size
    have zt:=t2.size
    have hL2:=hL.below t2
    have hx2:=hx.below t2
    have Up:Bx W2 bl 160 [.int .i64 m.cells,.slice av ps.length cv,vo,.int .i64 m.now,.map (some bm)]:=hL2.box
    have m1:=Up.cell 1 rfl
    have n0:=y2.cell 0 rfl
    have n1:=y2.cell 1 rfl
    have hbl:=HB.out
    have hlen:=HPL.out
    have hy:=y2.lt
    have hblW:=Up.lt
    clear c0 c1 hQ
    refine VR [[],[],[1],[1,2],[1,2,3],[],[5],[],[7],[7,8],[5,6,7,8,9],[5,6,7,8,9,10],[1,2,3,4,5,6,7,8,9,10,11],[0,1,2,3,4,5,6,7,8,9,10,11,12],[0,1,2,3,4,5,6,7,8,9,10,11,12,13],[0,1,2,3,4,5,6,7,8,9,10,11,12,13,14]] [[0],[1],[2],[3],[4],[5],[6],[7],[8],[9],[10],[11],[],[],[],[]] [[],[],[],[],[],[],[],[],[],[],[],[],[],[],[],[]] [qb (.pointer (some ⟨bl,0,none⟩)),qb (.pointer (some ⟨bl,0,none⟩)),qb (.pointer (some ⟨bl,0,none⟩)),qb (.pointer (some ⟨bl,1,none⟩)),qb (.slice av ps.length cv),qb (.pointer (some ⟨wr.heap.size,0,none⟩)),qb (.int .i64 Q.base),qb (.pointer (some ⟨wr.heap.size,1,none⟩)),qb (.slice aF 0 cF),qb (.slice none 0 0),qb (.agg #[.int .i64 Q.base,.slice none 0 0]),X2 11 (fun(x:Nat) l=>l=[.slice (some ⟨x,0,none⟩) 1 1]) (fun x w1=>∀j u,([.int .i64 Q.base,.slice none 0 0]:List Value)[j]?=some u->w1.cell? ⟨x,j,none⟩=some u),wV fun _=>True,wV fun _=>True,wV fun _=>True,wV fun _=>True] 12 3 0 (.pointer (some ⟨bl,0,none⟩)) rfl (by kernel_rfl) (by kernel_rfl) (by kernel_rfl) (by kernel_rfl) (by decide) (by kernel_rfl) (by kernel_rfl) (by kernel_rfl) (by kernel_rfl) (fun _ _ _ h=>h) rfl (.inl ⟨rfl,fun w=>by unfold execOp;go_simp⟩) rfl ?_ ?_
    ·refine zi (zi (zi (zi (zi (zi (zi (zi (zi (zi (zi (zi (qj) ?_) ?_) ?_) ?_) ?_) ?_) ?_) ?_) ?_) ?_) ?_) ?_
     ·intro a w val own hB hf zx hk
      have s3:=hf.at (d:=3) (v:=.pointer (some ⟨bl,0,none⟩)) (by kernel_rfl) rfl
      exact zs (v:=.pointer (some ⟨bl,0,none⟩)) hB
     ·intro a w val own hB hf zx hk
      have s3:=hf.at (d:=3) (v:=.pointer (some ⟨bl,0,none⟩)) (by kernel_rfl) rfl
      exact zs (v:=.pointer (some ⟨bl,0,none⟩)) hB
     ·intro a w val own hB hf zx hk
      obtain⟨k1,f1⟩:=hk 1 (show 1∈[1] by decide)
      have s26:=k1 26 rfl
      rw[zu f1] at s26
      clear k1 f1
      exact zs (v:=.pointer (some ⟨bl,0,none⟩)) hB
     ·intro a w val own hB hf zx hk
      obtain⟨k2,f2⟩:=hk 2 (show 2∈[1,2] by decide)
      have s27:=k2 27 rfl
      rw[zu f2] at s27
      clear k2 f2
      exact zs (v:=.pointer (some ⟨bl,1,none⟩)) hB
     ·intro a w val own hB hf zx hk
      obtain⟨k3,f3⟩:=hk 3 (show 3∈[1,2,3] by decide)
      have s28:=k3 28 rfl
      rw[zu f3] at s28
      clear k3 f3
      have vK:=zc hB m1
      exact zs (v:=.slice av ps.length cv) hB
     ·intro a w val own hB hf zx hk
      have s5:=hf.at (d:=5) (v:=.pointer (some ⟨wr.heap.size,0,none⟩)) (by kernel_rfl) rfl
      exact zs (v:=.pointer (some ⟨wr.heap.size,0,none⟩)) hB
     ·intro a w val own hB hf zx hk
      obtain⟨k5,f5⟩:=hk 5 (show 5∈[5] by decide)
      have s30:=k5 30 rfl
      rw[zu f5] at s30
      clear k5 f5
      have cn0:=zc hB n0
      exact zs (v:=.int .i64 Q.base) hB
     ·intro a w val own hB hf zx hk
      have s5:=hf.at (d:=5) (v:=.pointer (some ⟨wr.heap.size,0,none⟩)) (by kernel_rfl) rfl
      exact zs (v:=.pointer (some ⟨wr.heap.size,1,none⟩)) hB
     ·intro a w val own hB hf zx hk
      obtain⟨k7,f7⟩:=hk 7 (show 7∈[7] by decide)
      have s32:=k7 32 rfl
      rw[zu f7] at s32
      clear k7 f7
      have cn1:=zc hB n1
      exact zs (v:=.slice aF 0 cF) hB
     ·intro a w val own hB hf zx hk
      obtain⟨k8,f8⟩:=hk 8 (show 8∈[7,8] by decide)
      have s33:=k8 33 rfl
      rw[zu f8] at s33
      clear k8 f8
      exact jg hB rfl rfl (by unfold execOp;go_simp) ((YZ aF cF w).mono fun e w' ⟨he,hb⟩=>⟨_,he,hb,rfl⟩)
     ·intro a w val own hB hf zx hk
      obtain⟨k6,f6⟩:=hk 6 (show 6∈[5,6,7,8,9] by decide)
      have s31:=k6 31 rfl
      rw[zu f6] at s31
      clear k6 f6
      obtain⟨k9,f9⟩:=hk 9 (show 9∈[5,6,7,8,9] by decide)
      have s34:=k9 34 rfl
      rw[zu f9] at s34
      clear k9 f9
      exact zs (v:=.agg #[.int .i64 Q.base,.slice none 0 0]) hB
     ·intro a w val own hB hf zx hk
      obtain⟨k10,f10⟩:=hk 10 (show 10∈[5,6,7,8,9,10] by decide)
      have Wk:=k10 35 rfl
      rw[zu f10] at Wk
      clear k10 f10
      refine uN (v:=.slice (some ⟨w.heap.size,0,none⟩) 1 1) (w':=w.alloc (.cells #[.int .i64 Q.base,.slice none 0 0] 164)) hB rfl rfl (by unfold execOp;go_simp) (zB _ _) ⟨w.heap.size,rfl,Made.new fun w1 _ _ hr=>?_⟩
      exact fun j u hu=>((Bx.new w 164 [.int .i64 Q.base,.slice none 0 0]).kept (hr _ zD (by simp))).cell j hu
    intro aE qF val own hB hf zx hk
    obtain⟨kb,H,eb,mb⟩:=hk 11 (by decide)
    have vb:=yB eb
    have s36:=kb 36 rfl
    rw[vb] at s36
    have mh:=mb.here hB
    obtain⟨kq,fq⟩:=hk 0 (by decide)
    have s25:=kq 25 rfl
    rw[zu fq] at s25
    clear kq fq
    obtain⟨kq,fq⟩:=hk 4 (by decide)
    have s29:=kq 29 rfl
    rw[zu fq] at s29
    clear kq fq
    have hB0:Below W2.heap.size W2 qF:=hB
    have hz0':=hB0.size
    have L10:=hL2.below hB0
    have xk:yl (w.heap.size+1) 2 qF (.slice av ps.length cv) ps.length (xB (jv F ps)):=(L10 .zd).1
    obtain⟨v',W3,hrun,hrow3,hg3,hor3⟩:=jE (P:=Tryz.prog) (t:=158) (ty:=158) Tryz.underlying158 hii hz0 hz1 rfl (by omega) xk [.int .i64 Q.base,.slice none 0 0] rfl (by intro u hu;simp at hu;rcases hu with rfl | rfl <;> rfl) H 1 mh (by omega) (by omega)
    obtain⟨a9,c9,hv9,_⟩:=hrow3.slice
    subst hv9
    have hne:(Value.slice av ps.length cv).ownBlock≠some bl:=fun e=>Rl.noConfusion (((L10 .zd).2 bl e).symm.trans (L10 .live).2.1)
    have bx3:Bx W3 bl 160 [.int .i64 m.cells,.slice av ps.length cv,vo,.int .i64 m.now,.map (some bm)]:=Bx.grown (show Bx qF bl 160 [.int .i64 m.cells,.slice av ps.length cv,vo,.int .i64 m.now,.map (some bm)] from L10.box) hg3 hne
    have g1:=bx3.cell 1 rfl
    have gf1:=bx3.frozen 1
    have hb3:Below w.heap.size w W3:=(hb2.trans (hB0.mono z2)).grown hg3 (by omega) fun q e=>by have:=(xk.lt q e).1;omega
    have hx3:=(hx2.below hB0).grown hg3 (fun e=>by have:=(xk.lt _ e).1;omega)
    have HE:Hid (∃(ρ9:Nat->Rl) (F9:Nat->Value),qf (w.heap.size+1) ρ9 (W3.setCell ⟨bl,1,none⟩ (.slice a9 (ps.length+1) c9)) ⟨bl,.slice a9 (ps.length+1) c9,vo,bm,F9,fun _=>0,fun _=>(undef,undef),⟨m.cells,(m.zd.take (k+1)).map Zx,m.order,m.now,[],[]⟩⟩/\Below w.heap.size w (W3.setCell ⟨bl,1,none⟩ (.slice a9 (ps.length+1) c9))/\Bx (W3.setCell ⟨bl,1,none⟩ (.slice a9 (ps.length+1) c9)) w.heap.size 42 [.int .i64 m.cells,.slice (some ⟨gp,op,none⟩) m.zd.length cp,.slice ao m.order.length co,.int .i64 m.now,.slice at' m.zh.length ct,.int .i64 m.born,.slice as' m.zl.length cs,.int .i64 m.code]):=⟨_,_,by rw[htk];exact L10.addPage (by omega) Q.base hrow3 hg3 hor3,hb3.setCell (p:=⟨bl,1,none⟩) (by show w.heap.size<=bl;omega) _,hx3.other (by omega) _⟩
    clear xk hrow3 hg3 hor3 hne bx3 hb3 hx3 L10 hB0
    clear kb eb vb mb mh
    have hu:=xD hf [25,26,27,28,29,30,31,32,33,34,35,36] (by kernel_rfl)
    dsimp only at hu
    simp only[List.foldl_cons,List.foldl_nil,List.setIfInBounds_toArray,List.set_cons_succ,List.set_cons_zero] at hu
    rw[s25,s29,s36] at hu
    generalize aE.tmps[26]?.getD undef=u26 at hu
    generalize aE.tmps[27]?.getD undef=u27 at hu
    generalize aE.tmps[28]?.getD undef=u28 at hu
    generalize aE.tmps[30]?.getD undef=u30 at hu
    generalize aE.tmps[31]?.getD undef=u31 at hu
    generalize aE.tmps[32]?.getD undef=u32 at hu
    generalize aE.tmps[33]?.getD undef=u33 at hu
    generalize aE.tmps[34]?.getD undef=u34 at hu
    generalize aE.tmps[35]?.getD undef=u35 at hu
    obtain rfl:=kX hu (show aE.defers=[] from hf.defers)
    clear hu hk zx hf s25 s29 s36
    refine qs (v:=.slice a9 (ps.length+1) c9) (w':=W3) rfl rfl (jP rfl (by go_simp) (by go_simp) hrun) ?_
    simp only[Act.put]
    refine qs (v:=.pointer (some ⟨bl,0,none⟩)) (w':=W3) rfl rfl (by unfold execOp;go_simp) ?_
    simp only[Act.put]
    refine qs (v:=.pointer (some ⟨bl,1,none⟩)) (w':=W3) rfl rfl (by unfold execOp;go_simp) ?_
    simp only[Act.put]
    refine xx (w':=(W3.setCell ⟨bl,1,none⟩ (.slice a9 (ps.length+1) c9))) rfl rfl (by unfold execOp;go_simp) ?_
    simp only[Act.put]
    clear hrun hB g1 gf1
    refine kH (fun W9=>∃(ρ9:Nat->Rl) (F9:Nat->Value),qf (w.heap.size+1) ρ9 W9 ⟨bl,.slice a9 (ps.length+1) c9,vo,bm,F9,fun _=>0,fun _=>(undef,undef),⟨m.cells,(m.zd.take (k+1)).map Zx,m.order,m.now,[],[]⟩⟩/\Below w.heap.size w W9/\Bx W9 w.heap.size 42 [.int .i64 m.cells,.slice (some ⟨gp,op,none⟩) m.zd.length cp,.slice ao m.order.length co,.int .i64 m.now,.slice at' m.zh.length ct,.int .i64 m.born,.slice as' m.zl.length cs,.int .i64 m.code]) HE.out ?_
    rintro W9 ⟨ρ9,F9,k1,k2,k3⟩
    clear HE
    go_wp2
    go_roundg (m.zd.length - (k+1))
    case measure=>omega
    case rel=>exact⟨k+1,ρ9,_,F9,by omega,rfl,by go_num,k1,k2,k3⟩
   ·obtain rfl:k=m.zd.length:=by omega
    rw[List.take_length] at hps
    rw[List.take_length] at hL
    have x4:=hx.cell 4 rfl
    go_wp2_with fail
    clear x4
    go_loopg [6,7,44] m.zh.length (fun d _ _ q wt=>∃(k:Nat) (ρ:Nat->Rl) (D:Nat->Nat) (T:Nat->Value × Value),k<=m.zh.length/\d=m.zh.length - k/\q=.int .i64 (k:Int)/\qf (w.heap.size+1) ρ wt ⟨bl,vp,vo,bm,F,D,T,⟨m.cells,m.zd.map Zx,m.order,m.now,YE (m.zh.take k),(m.zh.take k).map fun t=>vA t.left⟩⟩/\X9.wf ⟨m.cells,m.zd.map Zx,m.order,m.now,YE (m.zh.take k),(m.zh.take k).map fun t=>vA t.left⟩/\Below w.heap.size w wt/\Bx wt w.heap.size 42 [.int .i64 m.cells,.slice ap m.zd.length cp,.slice ao m.order.length co,.int .i64 m.now,.slice at' m.zh.length ct,.int .i64 m.born,.slice as' m.zl.length cs,.int .i64 m.code])
    case atStart=>exact⟨0,ρ,_,_,Nat.zero_le _,rfl,rfl,hL,⟨fun i hi k hk=>by simp[Zx] at hk,fun j hj=>absurd hj zF⟩,hb,hx⟩
    case round =>
     obtain⟨k,ρ,D,T,hk,rfl,rfl,hL,hwk,hb,hx⟩:=hrel
     have zr:=hb.size
     have hwr:=hx.lt
     obtain⟨ts,hts⟩:∃ts,YE (m.zh.take k)=ts:=⟨_,rfl⟩
     obtain⟨bs,hbs⟩:∃bs,((m.zh.take k).map fun t=>vA t.left)=bs:=⟨_,rfl⟩
     have htl:ts.length=k:=by rw[<-hts,U4];simp;omega
     have hbsl:bs.length=k:=by rw[<-hbs];simp;omega
     by_cases hlt:k<m.zh.length
     ·have htk:YE (m.zh.take (k+1))=ts ++ [⟨-1,0,bs.length,m.zh[k].left.zf⟩]:=by
       rw[List.take_add_one,List.getElem?_eq_getElem hlt,Option.toList_some,zbu,hts,hbsl,List.length_take,Nat.min_eq_left (by omega)]
      have hbk:((m.zh.take (k+1)).map fun t=>vA t.left)=bs ++ [vA m.zh[k].left]:=by
       rw[List.take_add_one,List.getElem?_eq_getElem hlt,Option.toList_some,List.map_append,hbs]
       rfl
      rw[hts,hbs] at hL hwk
      have hkz:(k:Int)<(m.zh.length:Int):=by omega
      obtain⟨gt,ot,v1,v2,hat,hta⟩:=hct k hlt
      subst hat
      obtain⟨a1,k1,hv1⟩:=hta.t.shape
      obtain⟨a2,k2,hv2⟩:=hta.s.shape
      have hnt:=HNT.out k hlt
      have c0:=zc hb hta.c0
      have c1:=zc hb hta.c1
      have c2:=zc hb hta.c2
      have c3:=zc hb hta.c3
      have c4:=zc hb hta.c4
      have c5:=zc hb hta.c5
      have c6:=zc hb hta.c6
      have c7:=zc hb hta.c7
      rw[hnt] at c0
      rw[hv1] at c4
      rw[hv2] at c5
      have ht1:=hta.t.below hb
      have hs1:=hta.s.below hb
      rw[hv1] at ht1
      rw[hv2] at hs1
      have hsm:=HSM.out k hlt
      obtain⟨Q,hQ⟩:∃Q,m.zh[k]=Q:=⟨_,rfl⟩
      rw[hQ] at c1 c2 c3 c4 c5 c6 c7 htk hbk ht1 hs1 hsm
      clear hta hv1 hv2 hnt hQ
      have HT1:Hid (zR wr (.slice a1 Q.left.zg.length k1) Q.left.zg/\zR wr (.slice a2 Q.left.ze.length k2) Q.left.ze):=⟨ht1,hs1⟩
      clear ht1 hs1
      go_upto_region 11 with fail
      refine ye (fun W'=>Below wr.heap.size wr W'/\Bx W' wr.heap.size 90 [.int .i64 (-1),.int .i64 Q.place,.int .i64 Q.left.m,.int .i64 Q.left.pc,.slice a1 Q.left.zg.length k1,.slice a2 Q.left.ze.length k2,.int .i64 Q.left.zf,.bool Q.left.zv]) ⟨zB _ _,Bx.new _ _ _⟩ ?_
      rintro W2 ⟨t2,y2⟩
      have hb2:=hb.trans (t2.mono zr)
      have z2:=hb2.size
      have zt:=t2.size
      have hL2:=hL.below t2
      have hx2:=hx.below t2
      have Up:Bx W2 bl 160 [.int .i64 m.cells,vp,vo,.int .i64 m.now,.map (some bm)]:=hL2.box
      have m4:=Up.cell 4 rfl
      have n2:=y2.cell 2 rfl
      have n3:=y2.cell 3 rfl
      have n4:=y2.cell 4 rfl
      have n5:=y2.cell 5 rfl
      have n6:=y2.cell 6 rfl
      have n7:=y2.cell 7 rfl
      have hbm:=HBM.out
      have HC:Hid (∀X,Below W2.heap.size W2 X->Calls Tryz.prog 116 #[.agg #[.int .i64 Q.left.m,.int .i64 Q.left.pc,.slice a1 Q.left.zg.length k1,.slice a2 Q.left.ze.length k2,.int .i64 Q.left.zf,.bool Q.left.zv]] X fun e w'=>∃(d:Nat) (Ku vs':Value),e=.returned (.pointer (some ⟨d,0,none⟩))/\uc X.heap.size w' d Ku vs' Q.left/\Below X.heap.size X w'):=fun X hX=>Vy Q.left _ _ X ((HT1.out.1.below t2).below hX) ((HT1.out.2.below t2).below hX) hsm
      clear c0 c1 c2 c3 c4 c5 c6 c7
      refine xY [[],[0],[0,1],[0,1,2],[],[],[5],[5,6],[],[8],[8,9],[5,6,7,8,9,10],[0,1,2,3,4,5,6,7,8,9,10,11]] [[0],[1],[2],[3],[4],[5],[6],[7],[8],[9],[10],[7,11],[]] [[],[],[],[],[],[],[],[],[],[],[],[],[]] [qb (.pointer (some ⟨bl,0,none⟩)),qb (.pointer (some ⟨bl,0,none⟩)),qb (.pointer (some ⟨bl,4,none⟩)),qb (.map (some bm)),qb (.int .i64 (k:Int)),qb (.pointer (some ⟨wr.heap.size,2,none⟩)),qb (.agg #[.int .i64 Q.left.m,.int .i64 Q.left.pc,.slice a1 Q.left.zg.length k1,.slice a2 Q.left.ze.length k2,.int .i64 Q.left.zf,.bool Q.left.zv]),X2 7 (fun(x:Nat × Value × Value) l=>l=[.pointer (some ⟨x.1,0,none⟩)]) (fun x w1=>uc W2.heap.size w1 x.1 x.2.1 x.2.2 Q.left),qb (.pointer (some ⟨wr.heap.size,2,none⟩)),qb (.pointer (some ⟨wr.heap.size,6,none⟩)),qb (.int .i64 Q.left.zf),wV fun l=>∃x:Nat,l=[.pointer (some ⟨x,0,none⟩),.agg #[.int .i64 (-1),.int .i64 0,.pointer (some ⟨x,0,none⟩),.int .i64 Q.left.zf]],wV fun _=>True] 12 0 rfl (by kernel_rfl) (by kernel_rfl) (by kernel_rfl) (by kernel_rfl) ?_ ?_
      ·refine zi (zi (zi (zi (zi (zi (zi (zi (zi (zi (zi (zi (qj) ?_) ?_) ?_) ?_) ?_) ?_) ?_) ?_) ?_) ?_) ?_) ?_
       ·intro a w val own hB hf zx hk
        have s3:=hf.at (d:=3) (v:=.pointer (some ⟨bl,0,none⟩)) (by kernel_rfl) rfl
        exact zs (v:=.pointer (some ⟨bl,0,none⟩)) hB
       ·intro a w val own hB hf zx hk
        obtain⟨k0,f0⟩:=hk 0 (show 0∈[0] by decide)
        have s52:=k0 52 rfl
        rw[zu f0] at s52
        clear k0 f0
        exact zs (v:=.pointer (some ⟨bl,0,none⟩)) hB
       ·intro a w val own hB hf zx hk
        obtain⟨k1,f1⟩:=hk 1 (show 1∈[0,1] by decide)
        have s53:=k1 53 rfl
        rw[zu f1] at s53
        clear k1 f1
        exact zs (v:=.pointer (some ⟨bl,4,none⟩)) hB
       ·intro a w val own hB hf zx hk
        obtain⟨k2,f2⟩:=hk 2 (show 2∈[0,1,2] by decide)
        have s54:=k2 54 rfl
        rw[zu f2] at s54
        clear k2 f2
        have cm4:=zc hB m4
        exact zs (v:=.map (some bm)) hB
       ·intro a w val own hB hf zx hk
        have s6:=hf.at (d:=6) (v:=.int .i64 (k:Int)) (by kernel_rfl) rfl
        exact zs (v:=.int .i64 (k:Int)) hB
       ·intro a w val own hB hf zx hk
        have s7:=hf.at (d:=7) (v:=.pointer (some ⟨wr.heap.size,0,none⟩)) (by kernel_rfl) rfl
        exact zs (v:=.pointer (some ⟨wr.heap.size,2,none⟩)) hB
       ·intro a w val own hB hf zx hk
        obtain⟨k5,f5⟩:=hk 5 (show 5∈[5] by decide)
        have s57:=k5 57 rfl
        rw[zu f5] at s57
        clear k5 f5
        have cn2:=zc hB n2
        have cn3:=zc hB n3
        have cn4:=zc hB n4
        have cn5:=zc hB n5
        have cn6:=zc hB n6
        have cn7:=zc hB n7
        exact zs (v:=.agg #[.int .i64 Q.left.m,.int .i64 Q.left.pc,.slice a1 Q.left.zg.length k1,.slice a2 Q.left.ze.length k2,.int .i64 Q.left.zf,.bool Q.left.zv]) hB
       ·intro a w val own hB hf zx hk
        obtain⟨k6,f6⟩:=hk 6 (show 6∈[5,6] by decide)
        have s58:=k6 58 rfl
        rw[zu f6] at s58
        clear k6 f6
        have Zp:=hB.size
        refine jg hB rfl rfl (by unfold execOp;go_simp) ((HC.out w hB).mono ?_)
        rintro e w' ⟨d,v1,v2,rfl,r1,hb'⟩
        refine⟨_,rfl,hb',(d,v1,v2),rfl,Made.new fun w1 hs hbw hr=>?_⟩
        exact(r1.kept hs hr).mono Zp
       ·intro a w val own hB hf zx hk
        have s7:=hf.at (d:=7) (v:=.pointer (some ⟨wr.heap.size,0,none⟩)) (by kernel_rfl) rfl
        exact zs (v:=.pointer (some ⟨wr.heap.size,2,none⟩)) hB
       ·intro a w val own hB hf zx hk
        obtain⟨k8,f8⟩:=hk 8 (show 8∈[8] by decide)
        have s60:=k8 60 rfl
        rw[zu f8] at s60
        clear k8 f8
        exact zs (v:=.pointer (some ⟨wr.heap.size,6,none⟩)) hB
       ·intro a w val own hB hf zx hk
        obtain⟨k9,f9⟩:=hk 9 (show 9∈[8,9] by decide)
        have s61:=k9 61 rfl
        rw[zu f9] at s61
        clear k9 f9
        have cn6:=zc hB n6
        exact zs (v:=.int .i64 Q.left.zf) hB
       ·intro a w val own hB hf zx hk
        obtain⟨kc,xc,ec,mc⟩:=hk 7 (show 7∈[5,6,7,8,9,10] by decide)
        have vc:=yB ec
        have s59:=kc 59 rfl
        rw[vc] at s59
        clear kc ec mc
        obtain⟨k10,f10⟩:=hk 10 (show 10∈[5,6,7,8,9,10] by decide)
        have VX:=k10 62 rfl
        rw[zu f10] at VX
        clear k10 f10
        exact zs (v:=.agg #[.int .i64 (-1),.int .i64 0,.pointer (some ⟨xc.1,0,none⟩),.int .i64 Q.left.zf]) hB rfl rfl (by unfold execOp;go_simp) ⟨xc.1,by show [val 7,_]=_;rw[vc];rfl⟩
      intro aE qF val own hB hf zx hk
      obtain⟨kc,xc,ec,mc⟩:=hk 7 (by decide)
      have vc:=yB ec
      have mh:=mc.here hB
      clear kc ec mc
      obtain⟨kd,xd,ed⟩:=hk 11 (by decide)
      have ed':[val 7,val 11]=_:=ed
      injection ed' with ZN Ug
      have vd:=yB Ug
      rw[vc] at ZN
      have s63:=kd 63 rfl
      rw[vd] at s63
      clear kd ed Ug vd
      have hxx:xd=xc.1:=by injection ZN with ZN;injection ZN with ZN;injection ZN with ZN;exact ZN.symm
      subst hxx
      clear ZN vc
      obtain⟨kq,fq⟩:=hk 3 (by decide)
      have s55:=kq 55 rfl
      rw[zu fq] at s55
      clear kq fq
      obtain⟨kq,fq⟩:=hk 4 (by decide)
      have s56:=kq 56 rfl
      rw[zu fq] at s56
      clear kq fq
      have hB0:Below W2.heap.size W2 qF:=hB
      have hz0':=hB0.size
      obtain⟨W3,ρ9,D9,T9,hrun',L9,wf9,hg3⟩:=hL2.addTwin hwk (by omega) hB0 mh Q.left.zf htl
      have hrun:(Instr.mapUpdate 157 (.map (some bm)) (.int .i64 (k:Int)) (.agg #[.int .i64 (-1),.int .i64 0,.pointer (some ⟨xc.1,0,none⟩),.int .i64 Q.left.zf])).run Tryz.prog qF=.ok () W3:=hrun'
      have hg4:qF.grownBy W3 (some bm):=hg3
      have hb3:Below w.heap.size w W3:=(hb2.trans (hB0.mono z2)).grown hg4 (by omega) fun q e=>by injection e with e;omega
      have hx3:=(hx2.below hB0).grown hg4 (fun e=>by injection e with e;omega)
      have HE:Hid (∃(ρ9:Nat->Rl) (D9:Nat->Nat) (T9:Nat->Value × Value),qf (w.heap.size+1) ρ9 W3 ⟨bl,vp,vo,bm,F,D9,T9,⟨m.cells,m.zd.map Zx,m.order,m.now,YE (m.zh.take (k+1)),(m.zh.take (k+1)).map fun t=>vA t.left⟩⟩/\X9.wf ⟨m.cells,m.zd.map Zx,m.order,m.now,YE (m.zh.take (k+1)),(m.zh.take (k+1)).map fun t=>vA t.left⟩/\Below w.heap.size w W3/\Bx W3 w.heap.size 42 [.int .i64 m.cells,.slice ap m.zd.length cp,.slice ao m.order.length co,.int .i64 m.now,.slice (some ⟨gt,ot,none⟩) m.zh.length ct,.int .i64 m.born,.slice as' m.zl.length cs,.int .i64 m.code]):=⟨_,_,_,by rw[htk,hbk];exact L9,by rw[htk,hbk];exact wf9,hb3,hx3⟩
      clear hrun' L9 wf9 hg3 hg4 hb3 hx3 hB0 mh
      have hu:=xD hf [52,53,54,55,56,57,58,59,60,61,62,63] (by kernel_rfl)
      dsimp only at hu
      simp only[List.foldl_cons,List.foldl_nil,List.setIfInBounds_toArray,List.set_cons_succ,List.set_cons_zero] at hu
      rw[s55,s56,s63] at hu
      generalize aE.tmps[52]?.getD undef=u52 at hu
      generalize aE.tmps[53]?.getD undef=u53 at hu
      generalize aE.tmps[54]?.getD undef=u54 at hu
      generalize aE.tmps[57]?.getD undef=u57 at hu
      generalize aE.tmps[58]?.getD undef=u58 at hu
      generalize aE.tmps[59]?.getD undef=u59 at hu
      generalize aE.tmps[60]?.getD undef=u60 at hu
      generalize aE.tmps[61]?.getD undef=u61 at hu
      generalize aE.tmps[62]?.getD undef=u62 at hu
      obtain rfl:=kX hu (show aE.defers=[] from hf.defers)
      clear hu hk zx hf s55 s56 s63
      refine xx (w':=W3) rfl rfl (by unfold execOp;go_simp) ?_
      simp only[Act.put]
      clear hrun hB
      refine kH (fun W9=>∃(ρ9:Nat->Rl) (D9:Nat->Nat) (T9:Nat->Value × Value),qf (w.heap.size+1) ρ9 W9 ⟨bl,vp,vo,bm,F,D9,T9,⟨m.cells,m.zd.map Zx,m.order,m.now,YE (m.zh.take (k+1)),(m.zh.take (k+1)).map fun t=>vA t.left⟩⟩/\X9.wf ⟨m.cells,m.zd.map Zx,m.order,m.now,YE (m.zh.take (k+1)),(m.zh.take (k+1)).map fun t=>vA t.left⟩/\Below w.heap.size w W9/\Bx W9 w.heap.size 42 [.int .i64 m.cells,.slice ap m.zd.length cp,.slice ao m.order.length co,.int .i64 m.now,.slice (some ⟨gt,ot,none⟩) m.zh.length ct,.int .i64 m.born,.slice as' m.zl.length cs,.int .i64 m.code]) HE.out ?_
      rintro W9 ⟨ρ9,D9,T9,k1,k2,k3,k4⟩
      clear HE
      go_wp2
      go_roundg (m.zh.length - (k+1))
      case measure=>omega
      case rel=>exact⟨k+1,ρ9,D9,T9,by omega,rfl,by go_num,k1,k2,k3,k4⟩
     ·obtain rfl:k=m.zh.length:=by omega
      rw[List.take_length] at hL hwk
      go_wp2_with fail
      go_ret
      exact⟨_,_,hL,rfl,rfl,hwk,hb⟩
end Go.Proofs.YtjbgpcileapogaaGreat

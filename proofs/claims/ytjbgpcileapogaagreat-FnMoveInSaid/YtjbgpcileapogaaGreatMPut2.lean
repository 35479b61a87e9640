/-
  A machine at work: a twin that is on no page is put on one (putOn).
-/
import Derived.Test.YtjbgpcileapogaaGreatMPut
import Derived.Test.YtjbgpcileapogaaGreatMRow
import Derived.Deep.DrawnRows
namespace Go.Proofs.YtjbgpcileapogaaGreat
open Go.RowKit
def putL (L:X9) (i j:Nat) (t:LvT):X9:={L with zd:=L.zd.set i ⟨t.zf,[⟨t.body,(j:Int)⟩]⟩,zh:=L.zh.set j ⟨(i:Int),0,t.body,0⟩}
theorem yl.made2 {B:Nat} {w:World} {e:TypeId} (hB:B<=w.heap.size) (a b:Value):yl B 2 (w.alloc (.cells #[a,b] e)) (.slice (some ⟨w.heap.size,0,none⟩) 1 1) 1 [a,b] :=
 ⟨rfl,.inr ⟨w.heap.size,0,1,rfl,hB,by simp,Nat.le_refl _,by unfold maxLen;omega,fun i hi=>by
  have:i=0\/i=1:=by omega
  rcases this with rfl | rfl <;> exact⟨by simp[go_sem],by unfold World.frozen?;rw[Go.Deep.blk_alloc_new w (.cells #[a,b] e)];simp⟩,fun i hi=>by
  have:i=0\/i=1:=by simp at hi;omega
  rcases this with rfl | rfl <;> simp[go_sem]⟩⟩
set_option maxRecDepth 100000 in
set_option maxHeartbeats 4000000 in
theorem zbj {B:Nat} {ρ:Nat->Rl} {w:World} {P:Lay} (h:qf B ρ w P) (hB:B<=w.heap.size) (i:Nat) (hi:i<P.L.zd.length) (j:Nat) (hj:j<P.L.zh.length) (t:LvT) (ht:P.L.zh[j]=t) :
 Calls Tryz.prog 50 #[.pointer (some ⟨P.bl,0,none⟩),.int .i64 (i:Int),.int .i64 (j:Int)] w fun e w'=>e=.returned (.tuple #[])/\∃ρ' F',qf B ρ' w' {P with F:=F',L:=putL P.L i j t}/\Ch (fun r=>r≠.other) ρ ρ' w w'/\Below B w w':=by
 have hbx:=(h .live).1
 have hrl:=(h .live).2.1
 have hBb:=(h .live).2.2
 obtain⟨gp,op,cp,hvp,hBp,hgp⟩:=(h .zd).1.form (by omega)
 have hρp:ρ gp=.zd:=(h .zd).2 gp (by rw[hvp];rfl)
 have zS:=(h .zd).1
 rw[hvp] at zS hbx
 have hlk:=xW.look (P:=Tryz.prog) (t:=157) (kt:=3) (et:=168) (by kernel_rfl) (by kernel_rfl) (h .zh).1 (k:=j) (by simpa using hj)
 have hval:(P.L.zh.map (jZ P.D))[j]'(by simpa using hj)=jZ P.D t:=by simp[ht]
 rw[hval] at hlk
 unfold jZ at hlk
 have x4:=hbx.cell 4 rfl
 have HL:Hid (qf B ρ w P):=h
 have hTl:=(h .zh).1
 have hjm:j<(P.L.zh.map (jZ P.D)).length:=by simpa using hj
 clear h
 go_enter Tryz.func50,Tryz.ntmps50
 go_upto_region 1 with fail
 refine ye (fun W=>Below w.heap.size w W/\Bx W w.heap.size 168 [.int .i64 t.page,.int .i64 t.place,.pointer (some ⟨P.D t.body,0,none⟩),.int .i64 t.zf]) ⟨zB _ _,Bx.new _ _ _⟩ ?_
 rintro W ⟨hbW,y⟩
 have hx1:=hbx.below hbW
 have hr1:=zS.below hbW
 have hzW:=hbW.size
 have c1:=(ZK (jv P.F P.L.zd) i (by rw[jl];exact hi))
 obtain⟨p0,pf0⟩:=hr1.cell c1.1
 obtain⟨p1,pf1⟩:=hr1.cell c1.2
 have y2:=y.cell 2 rfl
 have y3:=y.cell 3 rfl
 have z1:=hx1.cell 1 rfl
 have hiz:(i:Int)<(P.L.zd.length:Int):=by omega
 have hgpW:gp<W.heap.size:=by omega
 have hblW:P.bl<W.heap.size:=hx1.lt
 have hyW:w.heap.size<W.heap.size:=y.lt
 -- behind the store
 have h1:=HL.out.below hbW
 obtain⟨ρ1,hρ1⟩:∃ρ1,qk ρ w .other=ρ1:=⟨_,rfl⟩
 have hC1:Ch (fun r=>r≠.other) ρ ρ1 w W:=by rw[<-hρ1];exact Ch.below hbW _ ρ .other
 have hy1:ρ1 w.heap.size=.other:=by rw[<-hρ1];exact wa zD
 have hp1:ρ1 gp=.zd:=by rw[<-hρ1,jV hgp];exact hρp
 rw[hρ1] at h1
 have hFIN:∃ρ' F',qf B ρ' (((W.setCell ⟨gp,op+i * 2,none⟩ (.int .i64 t.zf)).setCell ⟨gp,op+i * 2+1,none⟩ (.slice (some ⟨W.heap.size,0,none⟩) 1 1)).alloc (.cells #[.pointer (some ⟨P.D t.body,0,none⟩),.int .i64 (j:Int)] 170)).drew {P with F:=F',L:={P.L with zd:=P.L.zd.set i ⟨t.zf,[⟨t.body,(j:Int)⟩]⟩}} /\
  Ch (fun r=>r≠.other) ρ ρ' w (((W.setCell ⟨gp,op+i * 2,none⟩ (.int .i64 t.zf)).setCell ⟨gp,op+i * 2+1,none⟩ (.slice (some ⟨W.heap.size,0,none⟩) 1 1)).alloc (.cells #[.pointer (some ⟨P.D t.body,0,none⟩),.int .i64 (j:Int)] 170)).drew /\
  Below B w (((W.setCell ⟨gp,op+i * 2,none⟩ (.int .i64 t.zf)).setCell ⟨gp,op+i * 2+1,none⟩ (.slice (some ⟨W.heap.size,0,none⟩) 1 1)).alloc (.cells #[.pointer (some ⟨P.D t.body,0,none⟩),.int .i64 (j:Int)] 170)).drew /\
  Bx (((W.setCell ⟨gp,op+i * 2,none⟩ (.int .i64 t.zf)).setCell ⟨gp,op+i * 2+1,none⟩ (.slice (some ⟨W.heap.size,0,none⟩) 1 1)).alloc (.cells #[.pointer (some ⟨P.D t.body,0,none⟩),.int .i64 (j:Int)] 170)).drew w.heap.size 168 [.int .i64 t.page,.int .i64 t.place,.pointer (some ⟨P.D t.body,0,none⟩),.int .i64 t.zf]:=by
  have hAe:((W.setCell ⟨gp,op+i * 2,none⟩ (.int .i64 t.zf)).setCell ⟨gp,op+i * 2+1,none⟩ (.slice (some ⟨W.heap.size,0,none⟩) 1 1)).alloc (.cells #[.pointer (some ⟨P.D t.body,0,none⟩),.int .i64 (j:Int)] 170) =
   ((W.alloc (.cells #[.pointer (some ⟨P.D t.body,0,none⟩),.int .i64 (j:Int)] 170)).setCell ⟨gp,op+i * 2,none⟩ (.int .i64 t.zf)).setCell ⟨gp,op+i * 2+1,none⟩ (.slice (some ⟨W.heap.size,0,none⟩) 1 1):=by
   rw[World.setCell_alloc_past _ _ _ _ hgpW,World.setCell_alloc_past _ _ _ _ (by rw[World.size_setCell];exact hgpW)]
  obtain⟨A,hA⟩:∃A,W.alloc (.cells #[.pointer (some ⟨P.D t.body,0,none⟩),.int .i64 (j:Int)] 170)=A:=⟨_,rfl⟩
  have Wy:Below W.heap.size W A:=by rw[<-hA];exact zB _ _
  have cA:Ch (fun r=>r=.zk i) ρ1 (qk ρ1 W (.zk i)) W A:=Ch.below Wy _ ρ1 (.zk i)
  obtain⟨ρ2,hρ2⟩:∃ρ2,qk ρ1 W (.zk i)=ρ2:=⟨_,rfl⟩
  have hlA:qf B ρ2 A P:=by rw[<-hρ2];exact h1.keep ⟨Wy.size,fun _ hg=>jV hg,fun g hg _=>Wy.block g hg⟩
  have hf:yl B 2 A (.slice (some ⟨W.heap.size,0,none⟩) 1 1) 1 (xB (qS P.D [⟨t.body,(j:Int)⟩])):=by rw[<-hA];exact yl.made2 (by omega) _ _
  have hfg:∀q,(Value.slice (some ⟨W.heap.size,0,none⟩) 1 1).ownBlock=some q->ρ2 q=.zk i:=fun q e=>by
   have e2:W.heap.size=q:=by injection e
   subst e2
   rw[<-hρ2];exact wa zD
  have VW:=hr1.below Wy
  have hrA1:=VW.set (i * 2) (.int .i64 t.zf)
  have hrA2:=hrA1.set (i * 2+1) (.slice (some ⟨W.heap.size,0,none⟩) 1 1)
  rw[Jd,<-Nat.add_assoc] at hrA2
  have hg1:A.grownBy ((A.setCell ⟨gp,op+i * 2,none⟩ (.int .i64 t.zf)).setCell ⟨gp,op+i * 2+1,none⟩ (.slice (some ⟨W.heap.size,0,none⟩) 1 1)) (some gp) :=
   ⟨rfl,rfl,rfl,by simp only[World.size_setCell];exact Nat.le_refl _,fun k _ hne=>by rw[Below.heap_setCell _ _ _ _ (fun e=>hne (by rw[e])),Below.heap_setCell _ _ _ _ (fun e=>hne (by rw[e]))]⟩
  have S:=hlA.setPage hi (p:=⟨t.zf,[⟨t.body,(j:Int)⟩]⟩) hf hfg hvp _ hrA2 hg1
  have hW9:∀X:World,qf B (qk ρ2 A .other) X {P with F:=fun k=>if k=i then(.slice (some ⟨W.heap.size,0,none⟩) 1 1) else P.F k,L:={P.L with zd:=P.L.zd.set i ⟨t.zf,[⟨t.body,(j:Int)⟩]⟩}}->qf B (qk ρ2 A .other) X.drew {P with F:=fun k=>if k=i then(.slice (some ⟨W.heap.size,0,none⟩) 1 1) else P.F k,L:={P.L with zd:=P.L.zd.set i ⟨t.zf,[⟨t.body,(j:Int)⟩]⟩}}:=fun X hX=>hX.keep ⟨Nat.le_refl _,fun _ _=>rfl,fun _ _ _=>rfl⟩
  have hp2:ρ2 gp=.zd:=by rw[<-hρ2,jV hgpW];exact hp1
  have C9:Ch (fun r=>r≠.other) ρ (qk ρ2 A .other) w ((A.setCell ⟨gp,op+i * 2,none⟩ (.int .i64 t.zf)).setCell ⟨gp,op+i * 2+1,none⟩ (.slice (some ⟨W.heap.size,0,none⟩) 1 1)) :=
   (hC1.trans (by rw[<-hρ2];exact Ch.below Wy _ ρ1 (.zk i))).trans (Ch.grown hg1 ρ2 .other fun q e=>by cases e;rw[hp2];simp)
  have B9:Below B w ((A.setCell ⟨gp,op+i * 2,none⟩ (.int .i64 t.zf)).setCell ⟨gp,op+i * 2+1,none⟩ (.slice (some ⟨W.heap.size,0,none⟩) 1 1)) :=
   (((hbW.mono hB).trans (Wy.mono (by omega))).setCell (p:=⟨gp,op+i * 2,none⟩) hBp _).setCell (p:=⟨gp,op+i * 2+1,none⟩) hBp _
  have Y9:Bx ((A.setCell ⟨gp,op+i * 2,none⟩ (.int .i64 t.zf)).setCell ⟨gp,op+i * 2+1,none⟩ (.slice (some ⟨W.heap.size,0,none⟩) 1 1)) w.heap.size 168 [.int .i64 t.page,.int .i64 t.place,.pointer (some ⟨P.D t.body,0,none⟩),.int .i64 t.zf] :=
   ((y.below Wy).other (by omega) _).other (by omega) _
  rw[hAe,hA]
  exact⟨_,_,hW9 _ S,⟨C9.size,C9.role,C9.blk⟩,B9.drew,Y9.drew⟩
 have HFIN:Hid (∃ρ' F',qf B ρ' (((W.setCell ⟨gp,op+i * 2,none⟩ (.int .i64 t.zf)).setCell ⟨gp,op+i * 2+1,none⟩ (.slice (some ⟨W.heap.size,0,none⟩) 1 1)).alloc (.cells #[.pointer (some ⟨P.D t.body,0,none⟩),.int .i64 (j:Int)] 170)).drew {P with F:=F',L:={P.L with zd:=P.L.zd.set i ⟨t.zf,[⟨t.body,(j:Int)⟩]⟩}} /\
  Ch (fun r=>r≠.other) ρ ρ' w (((W.setCell ⟨gp,op+i * 2,none⟩ (.int .i64 t.zf)).setCell ⟨gp,op+i * 2+1,none⟩ (.slice (some ⟨W.heap.size,0,none⟩) 1 1)).alloc (.cells #[.pointer (some ⟨P.D t.body,0,none⟩),.int .i64 (j:Int)] 170)).drew /\
  Below B w (((W.setCell ⟨gp,op+i * 2,none⟩ (.int .i64 t.zf)).setCell ⟨gp,op+i * 2+1,none⟩ (.slice (some ⟨W.heap.size,0,none⟩) 1 1)).alloc (.cells #[.pointer (some ⟨P.D t.body,0,none⟩),.int .i64 (j:Int)] 170)).drew /\
  Bx (((W.setCell ⟨gp,op+i * 2,none⟩ (.int .i64 t.zf)).setCell ⟨gp,op+i * 2+1,none⟩ (.slice (some ⟨W.heap.size,0,none⟩) 1 1)).alloc (.cells #[.pointer (some ⟨P.D t.body,0,none⟩),.int .i64 (j:Int)] 170)).drew w.heap.size 168 [.int .i64 t.page,.int .i64 t.place,.pointer (some ⟨P.D t.body,0,none⟩),.int .i64 t.zf]):=hFIN
 rw[<-Nat.add_assoc] at p1 pf1
 clear hlk hbx zS x4 c1 hFIN h1 hρ1 hC1 hy1 hp1 hbW
 go_cut [] (fun wx=>∃ρ' F',qf B ρ' wx {P with F:=F',L:={P.L with zd:=P.L.zd.set i ⟨t.zf,[⟨t.body,(j:Int)⟩]⟩}}/\Ch (fun r=>r≠.other) ρ ρ' w wx/\Below B w wx/\Bx wx w.heap.size 168 [.int .i64 t.page,.int .i64 t.place,.pointer (some ⟨P.D t.body,0,none⟩),.int .i64 t.zf])
 case first =>
  go_region_law (fail)
  all_goals
   go_wp2_with fail
   go_meet
   exact HFIN.out
 case rest =>
  obtain⟨ρ1,F1,h1,hC,hBB,y9⟩:=hcut
  have hx:=(h1 .live).1
  have hT:=(h1 .zh).1
  have hb1:=hx.below zC.drew
  have hput:=xW.put (P:=Tryz.prog) (t:=157) (kt:=3) (et:=168) (by kernel_rfl) (by kernel_rfl) (xW.below hT zC.drew) (k:=j) hjm (jZ P.D ⟨(i:Int),0,t.body,0⟩)
  obtain⟨W2,hmu,hm2,hg2⟩:=hput
  unfold jZ at hmu
  have z4:=hx.cell 4 rfl
  have y2:=y9.cell 2 rfl
  have HE:Hid (∃ρ' F',qf B ρ' W2 {P with F:=F',L:=putL P.L i j t}/\Ch (fun r=>r≠.other) ρ ρ' w W2/\Below B w W2):=by
   have hd:qf B (qk ρ1 wc .other) wc.drew _:=h1.below zC.drew
   have Xc:xW W2 P.bm ((P.L.zh.set j ⟨(i:Int),0,t.body,0⟩).map (jZ P.D)):=by rw[List.map_set];exact hm2
   have S:=hd.setTwins hg2 Xc
   have C2:Ch (fun r=>r≠.other) ρ (qk ρ1 wc .other) w wc.drew:=hC.trans (Ch.below zC.drew _ ρ1 .other)
   refine⟨_,F1,S,C2.trans (Ch.grown hg2 _ .other fun q e=>by cases e;rw[(hd .zh).2.1];simp),(hBB.drew).grown hg2 (Nat.le_trans hB C2.size) fun q e=>by cases e;exact(hd .zh).2.2⟩
  clear hm2 hg2 h1 hC hBB hT
  go_wp2_with fail
  go_region_law (fail)
  all_goals
   go_wp2
   exact bodyPost_end (results_none rfl _ _ _) rfl ⟨rfl,HE.out⟩
theorem uy {sz:Nat} {f:Nat->List Value} (hf:∀i,(f i).length=sz):∀(n i c:Nat),i<n->c<sz->((List.range n).flatMap f)[i * sz+c]?=(f i)[c]?
 | 0,_,_,h,_=>absurd h zF
 | n+1,i,c,h,hc=>by
  have hl:((List.range n).flatMap f).length=n * sz:=by
   clear h
   induction n with
   | zero=>simp
   | succ n ih=>rw[List.range_succ,List.flatMap_append,List.length_append,ih];simp[hf];rw[Nat.succ_mul]
  rw[List.range_succ,List.flatMap_append]
  by_cases e:i=n
  ·subst e
   rw[List.getElem?_append_right (by rw[hl];omega),hl]
   simp
  ·have h1:i * sz+c<n * sz:=by
    have:(i+1) * sz<=n * sz:=Nat.mul_le_mul_right _ (by omega)
    rw[Nat.succ_mul] at this
    omega
   rw[List.getElem?_append_left (by rw[hl];exact h1)]
   exact uy hf n i c (by omega) hc
theorem kL (f:Nat->List Value) (n:Nat):(List.range (n+1)).flatMap f=(List.range n).flatMap f ++ f n:=by simp[List.range_succ]
theorem qf.lists {B:Nat} {ρ:Nat->Rl} {w:World} {P:Lay} (h:qf B ρ w P) {k:Nat} (hk:k<P.L.zU.length):∃a1 c1 a2 c2,P.T k=(.slice a1 P.L.zU[k].zg.length c1,.slice a2 P.L.zU[k].ze.length c2):=by
 obtain⟨a1,c1,e1,_⟩:=(h (.zg k) hk).1.slice
 obtain⟨a2,c2,e2,_⟩:=(h (.ze k) hk).1.slice
 exact⟨a1,c1,a2,c2,Prod.ext e1 e2⟩
set_option maxRecDepth 100000 in
set_option maxHeartbeats 4000000 in
theorem Kb {d:Nat} {b:Wg} {a1 a2:Option Addr} {n1 n2 c1 c2:Nat} (s:Int) (w:World) (hb:Bx w d 218 (uS (.slice a1 n1 c1,.slice a2 n2 c2) b)) :
 Calls Tryz.prog 120 #[.pointer (some ⟨d,0,none⟩),.int .i64 s] w fun e w'=>e=.returned (.agg #[.int .i64 b.m,.int .i64 b.pc,.slice a1 n1 c1,.slice a2 n2 c2,.int .i64 s,.bool b.zv])/\Below w.heap.size w w':=by
 unfold uS at hb
 have x0:=hb.cell 0 rfl
 have x1:=hb.cell 1 rfl
 have x2:=hb.cell 2 rfl
 have x3:=hb.cell 3 rfl
 have x4:=hb.cell 4 rfl
 have hdl:=hb.lt
 go_enter Tryz.func120,Tryz.ntmps120
 go_upto_region 1 with fail
 refine ye (fun W=>Below w.heap.size w W/\Bx W w.heap.size 37 [.int .i64 0,.int .i64 0,.slice none 0 0,.slice none 0 0,.int .i64 0,.bool false]/\Bx W d 218 [.int .i64 b.m,.int .i64 b.pc,.slice a1 n1 c1,.slice a2 n2 c2,.bool b.zv]) ⟨zB _ _,Bx.new _ _ _,hb.alloc _⟩ ?_
 rintro W ⟨hbW,y,hx⟩
 clear x0 x1 x2 x3 x4
 have x0:=hx.cell 0 rfl
 have x1:=hx.cell 1 rfl
 have x2:=hx.cell 2 rfl
 have x3:=hx.cell 3 rfl
 have x4:=hx.cell 4 rfl
 have y0:=y.cell 0 rfl
 have y1:=y.cell 1 rfl
 have y2:=y.cell 2 rfl
 have y3:=y.cell 3 rfl
 have y4:=y.cell 4 rfl
 have y5:=y.cell 5 rfl
 have f0:=y.frozen 0
 have f1:=y.frozen 1
 have f2:=y.frozen 2
 have f3:=y.frozen 3
 have f4:=y.frozen 4
 have f5:=y.frozen 5
 have hz:=hbW.size
 go_region
 all_goals
  go_wp2
  refine jh (fun W'=>Below w.heap.size w W'/\Bx W' w.heap.size 37 [.int .i64 b.m,.int .i64 b.pc,.slice a1 n1 c1,.slice a2 n2 c2,.int .i64 s,.bool b.zv])
   ⟨((((((hbW.setCell (p:=⟨w.heap.size,0,none⟩) zD _).setCell (p:=⟨w.heap.size,1,none⟩) zD _).setCell (p:=⟨w.heap.size,2,none⟩) zD _).setCell (p:=⟨w.heap.size,3,none⟩) zD _).setCell (p:=⟨w.heap.size,4,none⟩) zD _).setCell (p:=⟨w.heap.size,5,none⟩) zD _).drew,
    ((((((y.set 0 _).set 1 _).set 2 _).set 3 _).set 4 _).set 5 _).drew⟩ ?_
  rintro W9 ⟨hb9,r⟩
  have r0:=r.cell 0 rfl
  have r1:=r.cell 1 rfl
  have r2:=r.cell 2 rfl
  have r3:=r.cell 3 rfl
  have r4:=r.cell 4 rfl
  have r5:=r.cell 5 rfl
  exact bodyPost_ret (v:=.agg #[.int .i64 b.m,.int .i64 b.pc,.slice a1 n1 c1,.slice a2 n2 c2,.int .i64 s,.bool b.zv]) (by simp[results,Tryz.results120,go_sem,r0,r1,r2,r3,r4,r5]) rfl ⟨rfl,hb9⟩
def uA (P:Lay) (fs:List LvF) (q:Nat):List Value :=
 [.int .i64 (P.L.zU.getD (fs.getD q ⟨0,-1⟩).body Wg.none).m,.int .i64 (P.L.zU.getD (fs.getD q ⟨0,-1⟩).body Wg.none).pc,.int .i64 (fs.getD q ⟨0,-1⟩).twin,(P.T (fs.getD q ⟨0,-1⟩).body).1,(P.T (fs.getD q ⟨0,-1⟩).body).2]
theorem za0 (P:Lay) (fs:List LvF) (q:Nat):(uA P fs q).length=5:=rfl
theorem Tryz.infoFrameO:(Tryz.prog.info? 103).map (fun i=>(i.zero,i.size,i.bytes))=some (some (.agg #[.int .i64 0,.int .i64 0,.int .i64 0,.slice none 0 0,.slice none 0 0]),5,72):=by kernel_rfl
set_option maxRecDepth 100000 in
set_option maxHeartbeats 4000000 in
theorem VE {B:Nat} {ρ:Nat->Rl} {w:World} {P:Lay} (h:qf B ρ w P) (hwf:P.L.wf) (i:Nat) (hi:i<P.L.zd.length) (base:Int) (WC:P.L.zd[i].zk.length<=1000) :
 Calls Tryz.prog 119 #[.agg #[.int .i64 base,P.F i]] w fun e w'=>∃v',e=.returned v'/\yl w.heap.size 5 w' v' P.L.zd[i].zk.length ((List.range P.L.zd[i].zk.length).flatMap (uA P P.L.zd[i].zk))/\Below w.heap.size w w':=by
 have HL:Hid (qf B ρ w P):=h
 have HW:=hwf.fr i hi
 obtain⟨fs,hfs⟩:∃fs,P.L.zd[i].zk=fs:=⟨_,rfl⟩
 have zS:=(h (.zk i) hi).1
 rw[hfs] at zS WC HW ⊢
 have HWF:Hid (∀k,(hk:k<fs.length)->fs[k].body<P.L.zU.length):=fun k hk=>by
  have e:=hfs
  subst e
  exact hwf.fr i hi k hk
 clear HW hfs
 obtain⟨aF,cF,hvF⟩:=zS.slice
 obtain⟨hvF,hmF⟩:=hvF
 rw[hvF] at zS ⊢
 obtain⟨i0,hii,hz0,hz1,hz2⟩:=info_parts Tryz.infoFrameO
 clear h hwf
 go_enter Tryz.func119,Tryz.ntmps119
 go_upto_region 1 with fail
 refine ye (fun W=>Below w.heap.size w W/\Bx W w.heap.size 164 [.int .i64 base,.slice aF fs.length cF]) ⟨zB _ _,Bx.new _ _ _⟩ ?_
 rintro W ⟨hbW,y⟩
 have y1:=y.cell 1 rfl
 have hzW:=hbW.size
 go_wp2_with fail
 go_loopg [3,5,9] fs.length (fun d v _ q wr=>∃k:Nat,k<=fs.length/\d=fs.length - k/\q=.int .i64 (k:Int)/\yl w.heap.size 5 wr v k ((List.range k).flatMap (uA P fs))/\Below w.heap.size w wr)
 case atStart=>exact⟨0,Nat.zero_le _,rfl,rfl,yl.nil _ _ _,hbW⟩
 case round =>
  obtain⟨k,hk,rfl,rfl,hv,hbr⟩:=hrel
  obtain⟨av,cv,QC,hmv⟩:=hv.slice
  subst QC
  have zr:=hbr.size
  by_cases hlt:k<fs.length
  ·obtain⟨gf,of,cf,hform,_,_⟩:=zS.form (by omega)
   cases hform
   have hkz:(k:Int)<(fs.length:Int):=by omega
   obtain⟨q0,q1⟩:=ZK (qS P.D fs) k (by simp[qS];exact hlt)
   have e0:(qS P.D fs)[k]'(by simp[qS];exact hlt)=(.pointer (some ⟨P.D fs[k].body,0,none⟩),.int .i64 fs[k].twin):=by simp[qS]
   rw[e0] at q0 q1
   have c0:=zc hbr (zS.cell q0).1
   have c1:=zc hbr (zS.cell q1).1
   rw[<-Nat.add_assoc] at c1
   have hbk:=HWF.out k hlt
   obtain⟨F,hF⟩:∃F,fs[k]=F:=⟨_,rfl⟩
   rw[hF] at c0 c1 hbk
   obtain⟨a1,k1,a2,k2,hT⟩:=HL.out.lists hbk
   have hbody:=(HL.out (.body F.body) hbk).1
   rw[hT] at hbody
   unfold uS at hbody
   obtain⟨b,hb⟩:∃b,P.L.zU[F.body]=b:=⟨_,rfl⟩
   rw[hb] at hbody hT
   have hfo:uA P fs k=[.int .i64 b.m,.int .i64 b.pc,.int .i64 F.twin,.slice a1 b.zg.length k1,.slice a2 b.ze.length k2]:=by
    unfold uA
    have h1:fs.getD k ⟨0,-1⟩=F:=by simp[hlt,hF]
    have h2:P.L.zU.getD F.body Wg.none=b:=by simp[hbk,hb]
    rw[h1,h2,hT]
   clear q0 q1 e0 hF hb hT hbk
   go_upto_region 5 with fail
   refine ye (fun W'=>Below wr.heap.size wr W'/\Bx W' wr.heap.size 170 [.pointer (some ⟨P.D F.body,0,none⟩),.int .i64 F.twin]) ⟨zB _ _,Bx.new _ _ _⟩ ?_
   rintro W2 ⟨t2,y2⟩
   have hb2:=hbr.trans (t2.mono zr)
   have z2:=hb2.size
   have v2:=hv.below t2
   have hB2:=hbody.below hb2
   have n0:=y2.cell 0 rfl
   have n1:=y2.cell 1 rfl
   have d0:=hB2.cell 0 rfl
   have d1:=hB2.cell 1 rfl
   have d2:=hB2.cell 2 rfl
   have d3:=hB2.cell 3 rfl
   clear c0 c1 t2
   have hblt:=hB2.lt
   have hylt:=y2.lt
   clear hv zS hbody
   refine xY [[],[],[1],[1,2],[1,2,3],[1,2,3,4],[],[6],[6,7],[6,7,8],[6,7,8,9],[],[11],[],[13],[13,14],[13,14,15],[13,14,15,16],[],[18],[18,19],[18,19,20],[18,19,20,21],[1,2,3,4,5,6,7,8,9,10,11,12,13,14,15,16,17,18,19,20,21,22],[1,2,3,4,5,6,7,8,9,10,11,12,13,14,15,16,17,18,19,20,21,22,23],[0,1,2,3,4,5,6,7,8,9,10,11,12,13,14,15,16,17,18,19,20,21,22,23,24],[0,1,2,3,4,5,6,7,8,9,10,11,12,13,14,15,16,17,18,19,20,21,22,23,24,25]] [[0],[1],[2],[3],[4],[5],[6],[7],[8],[9],[10],[11],[12],[13],[14],[15],[16],[17],[18],[19],[20],[21],[22],[23],[24],[],[]] [[],[],[],[],[],[],[],[],[],[],[],[],[],[],[],[],[],[],[],[],[],[],[],[],[],[],[]] [qb (.slice av k cv),qb (.pointer (some ⟨wr.heap.size,0,none⟩)),qb (.pointer (some ⟨P.D F.body,0,none⟩)),qb (.pointer (some ⟨P.D F.body,0,none⟩)),qb (.pointer (some ⟨P.D F.body,0,none⟩)),qb (.int .i64 b.m),qb (.pointer (some ⟨wr.heap.size,0,none⟩)),qb (.pointer (some ⟨P.D F.body,0,none⟩)),qb (.pointer (some ⟨P.D F.body,0,none⟩)),qb (.pointer (some ⟨P.D F.body,1,none⟩)),qb (.int .i64 b.pc),qb (.pointer (some ⟨wr.heap.size,1,none⟩)),qb (.int .i64 F.twin),qb (.pointer (some ⟨wr.heap.size,0,none⟩)),qb (.pointer (some ⟨P.D F.body,0,none⟩)),qb (.pointer (some ⟨P.D F.body,0,none⟩)),qb (.pointer (some ⟨P.D F.body,2,none⟩)),qb (.slice a1 b.zg.length k1),qb (.pointer (some ⟨wr.heap.size,0,none⟩)),qb (.pointer (some ⟨P.D F.body,0,none⟩)),qb (.pointer (some ⟨P.D F.body,0,none⟩)),qb (.pointer (some ⟨P.D F.body,3,none⟩)),qb (.slice a2 b.ze.length k2),qb (.agg #[.int .i64 b.m,.int .i64 b.pc,.int .i64 F.twin,.slice a1 b.zg.length k1,.slice a2 b.ze.length k2]),X2 24 (fun(x:Nat) l=>l=[.slice (some ⟨x,0,none⟩) 1 1]) (fun x w1=>∀j u,([.int .i64 b.m,.int .i64 b.pc,.int .i64 F.twin,.slice a1 b.zg.length k1,.slice a2 b.ze.length k2]:List Value)[j]?=some u->w1.cell? ⟨x,j,none⟩=some u),wV fun _=>True,wV fun _=>True] 25 1 rfl (by kernel_rfl) (by kernel_rfl) (by kernel_rfl) (by kernel_rfl) ?_ ?_
   ·refine zi (zi (zi (zi (zi (zi (zi (zi (zi (zi (zi (zi (zi (zi (zi (zi (zi (zi (zi (zi (zi (zi (zi (zi (zi (qj) ?_) ?_) ?_) ?_) ?_) ?_) ?_) ?_) ?_) ?_) ?_) ?_) ?_) ?_) ?_) ?_) ?_) ?_) ?_) ?_) ?_) ?_) ?_) ?_) ?_
    ·intro a w val own hB hf zx hk
     have s3:=hf.at (d:=3) (v:=.slice av k cv) (by kernel_rfl) rfl
     exact zs (v:=.slice av k cv) hB
    ·intro a w val own hB hf zx hk
     have s5:=hf.at (d:=5) (v:=.pointer (some ⟨wr.heap.size,0,none⟩)) (by kernel_rfl) rfl
     exact zs (v:=.pointer (some ⟨wr.heap.size,0,none⟩)) hB
    ·intro a w val own hB hf zx hk
     obtain⟨k1,f1⟩:=hk 1 (show 1∈[1] by decide)
     have s14:=k1 14 rfl
     rw[zu f1] at s14
     clear k1 f1
     have cn0:=zc hB n0
     exact zs (v:=.pointer (some ⟨P.D F.body,0,none⟩)) hB
    ·intro a w val own hB hf zx hk
     obtain⟨k2,f2⟩:=hk 2 (show 2∈[1,2] by decide)
     have s15:=k2 15 rfl
     rw[zu f2] at s15
     clear k2 f2
     exact zs (v:=.pointer (some ⟨P.D F.body,0,none⟩)) hB
    ·intro a w val own hB hf zx hk
     obtain⟨k3,f3⟩:=hk 3 (show 3∈[1,2,3] by decide)
     have s16:=k3 16 rfl
     rw[zu f3] at s16
     clear k3 f3
     exact zs (v:=.pointer (some ⟨P.D F.body,0,none⟩)) hB
    ·intro a w val own hB hf zx hk
     obtain⟨k4,f4⟩:=hk 4 (show 4∈[1,2,3,4] by decide)
     have s17:=k4 17 rfl
     rw[zu f4] at s17
     clear k4 f4
     have cd0:=zc hB d0
     exact zs (v:=.int .i64 b.m) hB
    ·intro a w val own hB hf zx hk
     have s5:=hf.at (d:=5) (v:=.pointer (some ⟨wr.heap.size,0,none⟩)) (by kernel_rfl) rfl
     exact zs (v:=.pointer (some ⟨wr.heap.size,0,none⟩)) hB
    ·intro a w val own hB hf zx hk
     obtain⟨k6,f6⟩:=hk 6 (show 6∈[6] by decide)
     have s19:=k6 19 rfl
     rw[zu f6] at s19
     clear k6 f6
     have cn0:=zc hB n0
     exact zs (v:=.pointer (some ⟨P.D F.body,0,none⟩)) hB
    ·intro a w val own hB hf zx hk
     obtain⟨k7,f7⟩:=hk 7 (show 7∈[6,7] by decide)
     have s20:=k7 20 rfl
     rw[zu f7] at s20
     clear k7 f7
     exact zs (v:=.pointer (some ⟨P.D F.body,0,none⟩)) hB
    ·intro a w val own hB hf zx hk
     obtain⟨k8,f8⟩:=hk 8 (show 8∈[6,7,8] by decide)
     have s21:=k8 21 rfl
     rw[zu f8] at s21
     clear k8 f8
     exact zs (v:=.pointer (some ⟨P.D F.body,1,none⟩)) hB
    ·intro a w val own hB hf zx hk
     obtain⟨k9,f9⟩:=hk 9 (show 9∈[6,7,8,9] by decide)
     have s22:=k9 22 rfl
     rw[zu f9] at s22
     clear k9 f9
     have cd1:=zc hB d1
     exact zs (v:=.int .i64 b.pc) hB
    ·intro a w val own hB hf zx hk
     have s5:=hf.at (d:=5) (v:=.pointer (some ⟨wr.heap.size,0,none⟩)) (by kernel_rfl) rfl
     exact zs (v:=.pointer (some ⟨wr.heap.size,1,none⟩)) hB
    ·intro a w val own hB hf zx hk
     obtain⟨k11,f11⟩:=hk 11 (show 11∈[11] by decide)
     have s24:=k11 24 rfl
     rw[zu f11] at s24
     clear k11 f11
     have cn1:=zc hB n1
     exact zs (v:=.int .i64 F.twin) hB
    ·intro a w val own hB hf zx hk
     have s5:=hf.at (d:=5) (v:=.pointer (some ⟨wr.heap.size,0,none⟩)) (by kernel_rfl) rfl
     exact zs (v:=.pointer (some ⟨wr.heap.size,0,none⟩)) hB
    ·intro a w val own hB hf zx hk
     obtain⟨k13,f13⟩:=hk 13 (show 13∈[13] by decide)
     have s26:=k13 26 rfl
     rw[zu f13] at s26
     clear k13 f13
     have cn0:=zc hB n0
     exact zs (v:=.pointer (some ⟨P.D F.body,0,none⟩)) hB
    ·intro a w val own hB hf zx hk
     obtain⟨k14,f14⟩:=hk 14 (show 14∈[13,14] by decide)
     have s27:=k14 27 rfl
     rw[zu f14] at s27
     clear k14 f14
     exact zs (v:=.pointer (some ⟨P.D F.body,0,none⟩)) hB
    ·intro a w val own hB hf zx hk
     obtain⟨k15,f15⟩:=hk 15 (show 15∈[13,14,15] by decide)
     have s28:=k15 28 rfl
     rw[zu f15] at s28
     clear k15 f15
     exact zs (v:=.pointer (some ⟨P.D F.body,2,none⟩)) hB
    ·intro a w val own hB hf zx hk
     obtain⟨k16,f16⟩:=hk 16 (show 16∈[13,14,15,16] by decide)
     have s29:=k16 29 rfl
     rw[zu f16] at s29
     clear k16 f16
     have cd2:=zc hB d2
     exact zs (v:=.slice a1 b.zg.length k1) hB
    ·intro a w val own hB hf zx hk
     have s5:=hf.at (d:=5) (v:=.pointer (some ⟨wr.heap.size,0,none⟩)) (by kernel_rfl) rfl
     exact zs (v:=.pointer (some ⟨wr.heap.size,0,none⟩)) hB
    ·intro a w val own hB hf zx hk
     obtain⟨k18,f18⟩:=hk 18 (show 18∈[18] by decide)
     have s31:=k18 31 rfl
     rw[zu f18] at s31
     clear k18 f18
     have cn0:=zc hB n0
     exact zs (v:=.pointer (some ⟨P.D F.body,0,none⟩)) hB
    ·intro a w val own hB hf zx hk
     obtain⟨k19,f19⟩:=hk 19 (show 19∈[18,19] by decide)
     have s32:=k19 32 rfl
     rw[zu f19] at s32
     clear k19 f19
     exact zs (v:=.pointer (some ⟨P.D F.body,0,none⟩)) hB
    ·intro a w val own hB hf zx hk
     obtain⟨k20,f20⟩:=hk 20 (show 20∈[18,19,20] by decide)
     have s33:=k20 33 rfl
     rw[zu f20] at s33
     clear k20 f20
     exact zs (v:=.pointer (some ⟨P.D F.body,3,none⟩)) hB
    ·intro a w val own hB hf zx hk
     obtain⟨k21,f21⟩:=hk 21 (show 21∈[18,19,20,21] by decide)
     have s34:=k21 34 rfl
     rw[zu f21] at s34
     clear k21 f21
     have cd3:=zc hB d3
     exact zs (v:=.slice a2 b.ze.length k2) hB
    ·intro a w val own hB hf zx hk
     obtain⟨k5,f5⟩:=hk 5 (show 5∈[1,2,3,4,5,6,7,8,9,10,11,12,13,14,15,16,17,18,19,20,21,22] by decide)
     have s18:=k5 18 rfl
     rw[zu f5] at s18
     clear k5 f5
     obtain⟨k10,f10⟩:=hk 10 (show 10∈[1,2,3,4,5,6,7,8,9,10,11,12,13,14,15,16,17,18,19,20,21,22] by decide)
     have s23:=k10 23 rfl
     rw[zu f10] at s23
     clear k10 f10
     obtain⟨k12,f12⟩:=hk 12 (show 12∈[1,2,3,4,5,6,7,8,9,10,11,12,13,14,15,16,17,18,19,20,21,22] by decide)
     have s25:=k12 25 rfl
     rw[zu f12] at s25
     clear k12 f12
     obtain⟨k17,f17⟩:=hk 17 (show 17∈[1,2,3,4,5,6,7,8,9,10,11,12,13,14,15,16,17,18,19,20,21,22] by decide)
     have s30:=k17 30 rfl
     rw[zu f17] at s30
     clear k17 f17
     obtain⟨k22,f22⟩:=hk 22 (show 22∈[1,2,3,4,5,6,7,8,9,10,11,12,13,14,15,16,17,18,19,20,21,22] by decide)
     have Wk:=k22 35 rfl
     rw[zu f22] at Wk
     clear k22 f22
     exact zs (v:=.agg #[.int .i64 b.m,.int .i64 b.pc,.int .i64 F.twin,.slice a1 b.zg.length k1,.slice a2 b.ze.length k2]) hB
    ·intro a w val own hB hf zx hk
     obtain⟨k23,f23⟩:=hk 23 (show 23∈[1,2,3,4,5,6,7,8,9,10,11,12,13,14,15,16,17,18,19,20,21,22,23] by decide)
     have s36:=k23 36 rfl
     rw[zu f23] at s36
     clear k23 f23
     refine uN (v:=.slice (some ⟨w.heap.size,0,none⟩) 1 1) (w':=w.alloc (.cells #[.int .i64 b.m,.int .i64 b.pc,.int .i64 F.twin,.slice a1 b.zg.length k1,.slice a2 b.ze.length k2] 103)) hB rfl rfl (by unfold execOp;go_simp) (zB _ _) ⟨w.heap.size,rfl,Made.new fun w1 _ _ hr=>?_⟩
     exact fun j u hu=>((Bx.new w 103 [.int .i64 b.m,.int .i64 b.pc,.int .i64 F.twin,.slice a1 b.zg.length k1,.slice a2 b.ze.length k2]).kept (hr _ zD (by simp))).cell j hu
   intro aE qF val own hB hf zx hk
   obtain⟨kb,H,eb,mb⟩:=hk 24 (by decide)
   have vb:=yB eb
   have s37:=kb 37 rfl
   rw[vb] at s37
   have mh:=mb.here hB
   obtain⟨kq,fq⟩:=hk 0 (by decide)
   have s13:=kq 13 rfl
   rw[zu fq] at s13
   clear kq fq
   have hB0:Below W2.heap.size W2 qF:=hB
   obtain⟨v',W3,hrun,hrow3,hg3,_⟩:=jE (P:=Tryz.prog) (t:=99) (ty:=99) Tryz.underlying99 hii hz0 hz1 rfl (by omega) (v2.below hB0) [.int .i64 b.m,.int .i64 b.pc,.int .i64 F.twin,.slice a1 b.zg.length k1,.slice a2 b.ze.length k2] rfl (by intro u hu;simp at hu;rcases hu with rfl | rfl | rfl | rfl | rfl <;> rfl) H 1 mh (by omega) (Nat.le_trans z2 hB0.size)
   have hb3:Below w.heap.size w W3:=(hb2.trans (hB0.mono z2)).grown hg3 (Nat.le_trans z2 hB0.size) fun q e=>(v2.lt q e).1
   rw[<-hfo,<-kL] at hrow3
   obtain⟨a9,c9,hv9,_⟩:=hrow3.slice
   subst hv9
   have HE:Hid (yl w.heap.size 5 W3 (.slice a9 (k+1) c9) (k+1) ((List.range (k+1)).flatMap (uA P fs))/\Below w.heap.size w W3):=⟨hrow3,hb3⟩
   clear hrow3 hg3 hb3 hB0
   clear kb eb vb mb mh
   have hu:=xD hf [13,14,15,16,17,18,19,20,21,22,23,24,25,26,27,28,29,30,31,32,33,34,35,36,37] (by kernel_rfl)
   dsimp only at hu
   simp only[List.foldl_cons,List.foldl_nil,List.setIfInBounds_toArray,List.set_cons_succ,List.set_cons_zero] at hu
   rw[s13,s37] at hu
   generalize aE.tmps[14]?.getD undef=u14 at hu
   generalize aE.tmps[15]?.getD undef=u15 at hu
   generalize aE.tmps[16]?.getD undef=u16 at hu
   generalize aE.tmps[17]?.getD undef=u17 at hu
   generalize aE.tmps[18]?.getD undef=u18 at hu
   generalize aE.tmps[19]?.getD undef=u19 at hu
   generalize aE.tmps[20]?.getD undef=u20 at hu
   generalize aE.tmps[21]?.getD undef=u21 at hu
   generalize aE.tmps[22]?.getD undef=u22 at hu
   generalize aE.tmps[23]?.getD undef=u23 at hu
   generalize aE.tmps[24]?.getD undef=u24 at hu
   generalize aE.tmps[25]?.getD undef=u25 at hu
   generalize aE.tmps[26]?.getD undef=u26 at hu
   generalize aE.tmps[27]?.getD undef=u27 at hu
   generalize aE.tmps[28]?.getD undef=u28 at hu
   generalize aE.tmps[29]?.getD undef=u29 at hu
   generalize aE.tmps[30]?.getD undef=u30 at hu
   generalize aE.tmps[31]?.getD undef=u31 at hu
   generalize aE.tmps[32]?.getD undef=u32 at hu
   generalize aE.tmps[33]?.getD undef=u33 at hu
   generalize aE.tmps[34]?.getD undef=u34 at hu
   generalize aE.tmps[35]?.getD undef=u35 at hu
   generalize aE.tmps[36]?.getD undef=u36 at hu
   obtain rfl:=kX hu (show aE.defers=[] from hf.defers)
   clear hu hk zx hf s13 s37
   refine qs (v:=.slice a9 (k+1) c9) (w':=W3) rfl rfl (jP rfl (by go_simp) (by go_simp) hrun) ?_
   simp only[Act.put]
   refine qs (v:=.slice a9 (k+1) c9) (w':=W3) rfl rfl (by unfold execOp;go_simp) ?_
   simp only[Act.put]
   clear hrun hB
   refine kH (fun W9=>yl w.heap.size 5 W9 (.slice a9 (k+1) c9) (k+1) ((List.range (k+1)).flatMap (uA P fs))/\Below w.heap.size w W9) HE.out ?_
   rintro W9 hW9
   clear HE
   go_wp2
   go_roundg (fs.length - (k+1))
   case measure=>omega
   case rel=>exact⟨k+1,by omega,rfl,by go_num,hW9.1,hW9.2⟩
  ·obtain rfl:k=fs.length:=by omega
   go_wp2
   go_ret
   exact⟨_,rfl,hv,hbr⟩
end Go.Proofs.YtjbgpcileapogaaGreat

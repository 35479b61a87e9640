/-
  A machine at work: a twin that is on no page is put on one (putOn).
-/
import Derived.Test.YtbjgjjkgfnfejaaGreatDoorPgBack
import Derived.Deep.DrawnRows
import Derived.Test.YtbjgjjkgfnfejaaGreatDoorMNew
namespace Go.Proofs.YtbjgjjkgfnfejaaGreatDoor
set_option maxHeartbeats 4000000
set_option maxRecDepth 100000
open Go.RowKit
def putL (L:yF) (i j:Nat) (t:kN):yF:={L with zd:=L.zd.set i ⟨t.zi,[⟨t.body,(j:Int)⟩]⟩,ze:=L.ze.set j ⟨(i:Int),0,t.body,0⟩}
theorem yg.made2 {B:Nat} {w:World} {e:TypeId} (hB:B<=w.heap.size) (a b:Value):yg B 2 (w.alloc (.cells #[a,b] e)) (.slice (some ⟨w.heap.size,0,none⟩) 1 1) 1 [a,b] :=
 ⟨rfl,.inr ⟨w.heap.size,0,1,rfl,hB,by simp,Nat.le_refl _,by unfold maxLen;omega,fun i hi=>by
  have:i=0\/i=1:=by omega
  rcases this with rfl | rfl <;> exact⟨by simp[go_sem],by unfold World.frozen?;rw[Go.Deep.blk_alloc_new w (.cells #[a,b] e)];simp⟩,fun i hi=>by
  have:i=0\/i=1:=by simp at hi;omega
  rcases this with rfl | rfl <;> simp[go_sem]⟩⟩
theorem zc1 {B:Nat} {ρ:Nat->Rl} {w:World} {P:Lay} (h:yj B ρ w P) (hB:B<=w.heap.size) (i:Nat) (hi:i<P.L.zd.length) (j:Nat) (hj:j<P.L.ze.length) (t:kN) (ht:P.L.ze[j]=t) :
 Calls Tryz.prog 69 #[zJ P.bl 0,zI (i:Int),zI (j:Int)] w fun e w'=>e=.returned (.tuple #[])/\∃ρ' F',yj B ρ' w' {P with F:=F',L:=putL P.L i j t}/\Ch (fun r=>r≠.other) ρ ρ' w w'/\Below B w w':=by
 have hbx:=(h .live).1
 have hrl:=(h .live).2.1
 have hBb:=(h .live).2.2
 obtain⟨gp,op,cp,qI,Ve,Jb⟩:=(h .zd).1.form (by omega)
 have hρp:ρ gp=.zd:=(h .zd).2 gp (by rw[qI];rfl)
 have zT:=(h .zd).1
 rw[qI] at zT hbx
 have hlk:=xl.look (P:=Tryz.prog) (t:=115) (kt:=3) (et:=143) (by kernel_rfl) (by kernel_rfl) (h .ze).1 (k:=j) (by simpa using hj)
 have hval:(P.L.ze.map (xG P.D))[j]'(by simpa using hj)=xG P.D t:=by simp[ht]
 rw[hval] at hlk
 unfold xG at hlk
 have x4:=hbx.cell 4 rfl
 have HL:Hid (yj B ρ w P):=h
 have hTl:=(h .ze).1
 have hjm:j<(P.L.ze.map (xG P.D)).length:=by simpa using hj
 clear h
 go_enter Tryz.func69,Tryz.ntmps69
 go_upto_region 1 with fail
 refine ym (fun W=>zO w W/\Bx W w.heap.size 143 [.int .i64 t.page,.int .i64 t.place,.pointer (some ⟨P.D t.body,0,none⟩),.int .i64 t.zi]) ⟨zR _ _,Bx.new _ _ _⟩ ?_
 rintro W ⟨hbW,y⟩
 have Z5:=hbx.below hbW
 have Kn:=zT.below hbW
 have ZQ:=hbW.size
 have c1:=(kO (qt P.F P.L.zd) i (by rw[yO];exact hi))
 obtain⟨p0,pf0⟩:=Kn.cell c1.1
 obtain⟨p1,pf1⟩:=Kn.cell c1.2
 have y2:=y.cell 2 rfl
 have y3:=y.cell 3 rfl
 have z1:=Z5.cell 1 rfl
 have hiz:(i:Int)<(P.L.zd.length:Int):=by omega
 have hgpW:gp<W.heap.size:=by omega
 have hblW:P.bl<W.heap.size:=Z5.lt
 have hyW:w.heap.size<W.heap.size:=y.lt
 -- behind the store
 have h1:=HL.out.below hbW
 obtain⟨ρ1,hρ1⟩:∃ρ1,zu ρ w .other=ρ1:=⟨_,rfl⟩
 have hC1:Ch (fun r=>r≠.other) ρ ρ1 w W:=by rw[<-hρ1];exact Ch.below hbW _ ρ .other
 have K4:ρ1 w.heap.size=.other:=by rw[<-hρ1];exact qj zD
 have UD:ρ1 gp=.zd:=by rw[<-hρ1,yG Jb];exact hρp
 rw[hρ1] at h1
 have hFIN:∃ρ' F',yj B ρ' (((W.setCell (zH gp (op+i * 2)) (.int .i64 t.zi)).setCell (zH gp (op+i * 2+1)) (.slice (some ⟨W.heap.size,0,none⟩) 1 1)).alloc (.cells #[.pointer (some ⟨P.D t.body,0,none⟩),.int .i64 (j:Int)] 145)).drew {P with F:=F',L:={P.L with zd:=P.L.zd.set i ⟨t.zi,[⟨t.body,(j:Int)⟩]⟩}} /\
  Ch (fun r=>r≠.other) ρ ρ' w (((W.setCell (zH gp (op+i * 2)) (.int .i64 t.zi)).setCell (zH gp (op+i * 2+1)) (.slice (some ⟨W.heap.size,0,none⟩) 1 1)).alloc (.cells #[.pointer (some ⟨P.D t.body,0,none⟩),.int .i64 (j:Int)] 145)).drew /\
  Below B w (((W.setCell (zH gp (op+i * 2)) (.int .i64 t.zi)).setCell (zH gp (op+i * 2+1)) (.slice (some ⟨W.heap.size,0,none⟩) 1 1)).alloc (.cells #[.pointer (some ⟨P.D t.body,0,none⟩),.int .i64 (j:Int)] 145)).drew /\
  Bx (((W.setCell (zH gp (op+i * 2)) (.int .i64 t.zi)).setCell (zH gp (op+i * 2+1)) (.slice (some ⟨W.heap.size,0,none⟩) 1 1)).alloc (.cells #[.pointer (some ⟨P.D t.body,0,none⟩),.int .i64 (j:Int)] 145)).drew w.heap.size 143 [.int .i64 t.page,.int .i64 t.place,.pointer (some ⟨P.D t.body,0,none⟩),.int .i64 t.zi]:=by
  have hAe:((W.setCell (zH gp (op+i * 2)) (.int .i64 t.zi)).setCell (zH gp (op+i * 2+1)) (.slice (some ⟨W.heap.size,0,none⟩) 1 1)).alloc (.cells #[.pointer (some ⟨P.D t.body,0,none⟩),.int .i64 (j:Int)] 145) =
   ((W.alloc (.cells #[.pointer (some ⟨P.D t.body,0,none⟩),.int .i64 (j:Int)] 145)).setCell (zH gp (op+i * 2)) (.int .i64 t.zi)).setCell (zH gp (op+i * 2+1)) (.slice (some ⟨W.heap.size,0,none⟩) 1 1):=by
   rw[World.setCell_alloc_past _ _ _ _ hgpW,World.setCell_alloc_past _ _ _ _ (by rw[World.size_setCell];exact hgpW)]
  obtain⟨A,hA⟩:∃A,W.alloc (.cells #[.pointer (some ⟨P.D t.body,0,none⟩),.int .i64 (j:Int)] 145)=A:=⟨_,rfl⟩
  have Kk:zO W A:=by rw[<-hA];exact zR _ _
  have cA:Ch (fun r=>r=.zh i) ρ1 (zu ρ1 W (.zh i)) W A:=Ch.below Kk _ ρ1 (.zh i)
  obtain⟨ρ2,hρ2⟩:∃ρ2,zu ρ1 W (.zh i)=ρ2:=⟨_,rfl⟩
  have hlA:yj B ρ2 A P:=by rw[<-hρ2];exact h1.keep ⟨Kk.size,fun _ hg=>yG hg,fun g hg _=>Kk.block g hg⟩
  have hf:yg B 2 A (zK W.heap.size 0 1 1) 1 (cells2 (yk P.D [⟨t.body,(j:Int)⟩])):=by rw[<-hA];exact yg.made2 (by omega) _ _
  have hfg:∀q,(zK W.heap.size 0 1 1).ownBlock=some q->ρ2 q=.zh i:=fun q e=>by
   have e2:W.heap.size=q:=by injection e
   subst e2
   rw[<-hρ2];exact qj zD
  have Q7:=Kn.below Kk
  have hrA1:=Q7.set (i * 2) (zI t.zi)
  have hrA2:=hrA1.set (i * 2+1) (zK W.heap.size 0 1 1)
  rw[wz,<-Nat.add_assoc] at hrA2
  have Yh:A.grownBy ((A.setCell (zH gp (op+i * 2)) (zI t.zi)).setCell (zH gp (op+i * 2+1)) (zK W.heap.size 0 1 1)) (some gp) :=
   ⟨rfl,rfl,rfl,by simp only[World.size_setCell];exact Nat.le_refl _,fun k _ qF=>by rw[Below.heap_setCell _ _ _ _ (fun e=>qF (by rw[e])),Below.heap_setCell _ _ _ _ (fun e=>qF (by rw[e]))]⟩
  have S:=hlA.setPage hi (p:=⟨t.zi,[⟨t.body,(j:Int)⟩]⟩) hf hfg qI _ hrA2 Yh
  have hW9:∀X:World,yj B (zu ρ2 A .other) X {P with F:=fun k=>if k=i then(zK W.heap.size 0 1 1) else P.F k,L:={P.L with zd:=P.L.zd.set i ⟨t.zi,[⟨t.body,(j:Int)⟩]⟩}}->yj B (zu ρ2 A .other) X.drew {P with F:=fun k=>if k=i then(zK W.heap.size 0 1 1) else P.F k,L:={P.L with zd:=P.L.zd.set i ⟨t.zi,[⟨t.body,(j:Int)⟩]⟩}}:=fun X hX=>hX.keep ⟨Nat.le_refl _,fun _ _=>rfl,fun _ _ _=>rfl⟩
  have hp2:ρ2 gp=.zd:=by rw[<-hρ2,yG hgpW];exact UD
  have C9:Ch (fun r=>r≠.other) ρ (zu ρ2 A .other) w ((A.setCell (zH gp (op+i * 2)) (zI t.zi)).setCell (zH gp (op+i * 2+1)) (zK W.heap.size 0 1 1)) :=
   (hC1.trans (by rw[<-hρ2];exact Ch.below Kk _ ρ1 (.zh i))).trans (Ch.grown Yh ρ2 .other fun q e=>by cases e;rw[hp2];simp)
  have B9:Below B w ((A.setCell (zH gp (op+i * 2)) (zI t.zi)).setCell (zH gp (op+i * 2+1)) (zK W.heap.size 0 1 1)) :=
   (((hbW.mono hB).trans (Kk.mono (by omega))).setCell (p:=zH gp (op+i * 2)) Ve _).setCell (p:=zH gp (op+i * 2+1)) Ve _
  have Y9:Bx ((A.setCell (zH gp (op+i * 2)) (zI t.zi)).setCell (zH gp (op+i * 2+1)) (zK W.heap.size 0 1 1)) w.heap.size 143 [zI t.page,zI t.place,zJ (P.D t.body) 0,zI t.zi] :=
   ((y.below Kk).other (by omega) _).other (by omega) _
  rw[hAe,hA]
  exact⟨_,_,hW9 _ S,⟨C9.size,C9.role,C9.blk⟩,B9.drew,Y9.drew⟩
 have HFIN:Hid (∃ρ' F',yj B ρ' (((W.setCell (zH gp (op+i * 2)) (.int .i64 t.zi)).setCell (zH gp (op+i * 2+1)) (.slice (some ⟨W.heap.size,0,none⟩) 1 1)).alloc (.cells #[.pointer (some ⟨P.D t.body,0,none⟩),.int .i64 (j:Int)] 145)).drew {P with F:=F',L:={P.L with zd:=P.L.zd.set i ⟨t.zi,[⟨t.body,(j:Int)⟩]⟩}} /\
  Ch (fun r=>r≠.other) ρ ρ' w (((W.setCell (zH gp (op+i * 2)) (.int .i64 t.zi)).setCell (zH gp (op+i * 2+1)) (.slice (some ⟨W.heap.size,0,none⟩) 1 1)).alloc (.cells #[.pointer (some ⟨P.D t.body,0,none⟩),.int .i64 (j:Int)] 145)).drew /\
  Below B w (((W.setCell (zH gp (op+i * 2)) (.int .i64 t.zi)).setCell (zH gp (op+i * 2+1)) (.slice (some ⟨W.heap.size,0,none⟩) 1 1)).alloc (.cells #[.pointer (some ⟨P.D t.body,0,none⟩),.int .i64 (j:Int)] 145)).drew /\
  Bx (((W.setCell (zH gp (op+i * 2)) (.int .i64 t.zi)).setCell (zH gp (op+i * 2+1)) (.slice (some ⟨W.heap.size,0,none⟩) 1 1)).alloc (.cells #[.pointer (some ⟨P.D t.body,0,none⟩),.int .i64 (j:Int)] 145)).drew w.heap.size 143 [.int .i64 t.page,.int .i64 t.place,.pointer (some ⟨P.D t.body,0,none⟩),.int .i64 t.zi]):=hFIN
 rw[<-Nat.add_assoc] at p1 pf1
 clear hlk hbx zT x4 c1 hFIN h1 hρ1 hC1 K4 UD hbW
 go_cut [] (fun wx=>∃ρ' F',yj B ρ' wx {P with F:=F',L:={P.L with zd:=P.L.zd.set i ⟨t.zi,[⟨t.body,(j:Int)⟩]⟩}}/\Ch (fun r=>r≠.other) ρ ρ' w wx/\Below B w wx/\Bx wx w.heap.size 143 [zI t.page,zI t.place,zJ (P.D t.body) 0,zI t.zi])
 case first =>
  go_region_law (fail)
  all_goals
   go_wp2_with fail
   go_meet
   exact HFIN.out
 case rest =>
  obtain⟨ρ1,F1,h1,hC,hBB,y9⟩:=hcut
  have hx:=(h1 .live).1
  have hT:=(h1 .ze).1
  have qa:=hx.below zS.drew
  have hput:=xl.put (P:=Tryz.prog) (t:=115) (kt:=3) (et:=143) (by kernel_rfl) (by kernel_rfl) (xl.below hT zS.drew) (k:=j) hjm (xG P.D ⟨(i:Int),0,t.body,0⟩)
  obtain⟨W2,hmu,QP,qA⟩:=hput
  unfold xG at hmu
  have z4:=hx.cell 4 rfl
  have y2:=y9.cell 2 rfl
  have HE:Hid (∃ρ' F',yj B ρ' W2 {P with F:=F',L:=putL P.L i j t}/\Ch (fun r=>r≠.other) ρ ρ' w W2/\Below B w W2):=by
   have hd:yj B (zu ρ1 wc .other) wc.drew _:=h1.below zS.drew
   have VL:xl W2 P.bm ((P.L.ze.set j ⟨(i:Int),0,t.body,0⟩).map (xG P.D)):=by rw[List.map_set];exact QP
   have S:=hd.setTwins qA VL
   have C2:Ch (fun r=>r≠.other) ρ (zu ρ1 wc .other) w wc.drew:=hC.trans (Ch.below zS.drew _ ρ1 .other)
   refine⟨_,F1,S,C2.trans (Ch.grown qA _ .other fun q e=>by cases e;rw[(hd .ze).2.1];simp),(hBB.drew).grown qA (Nat.le_trans hB C2.size) fun q e=>by cases e;exact(hd .ze).2.2⟩
  clear QP qA h1 hC hBB hT
  go_wp2_with fail
  go_region_law (fail)
  all_goals
   go_wp2
   exact bodyPost_end (results_none rfl _ _ _) rfl ⟨rfl,HE.out⟩
def Goes (B:Nat) (ρ:Nat->Rl) (w:World) (w':World) (P':Lay):Prop:=∃ρ',yj B ρ' w' P'/\Ch (fun r=>r≠.other) ρ ρ' w w'/\Below B w w'
theorem yj.frAt {B:Nat} {ρ:Nat->Rl} {w:World} {P:Lay} (h:yj B ρ w P) {i k:Nat} {f:ki} (hf:P.L.fr i k=some f):∃gp op cp gf of n cf,P.vp=zK gp op P.L.zd.length cp/\P.F i=zK gf of n cf/\n=qq P.L i/\i<P.L.zd.length/\k<n /\
 w.cell? (zH gp (op+i * 2))=some (zI (yw P.L i))/\w.cell? (zH gp (op+i * 2+1))=some (P.F i)/\w.cell? (zH gf (of+k * 2))=some (zJ (P.D f.body) 0)/\w.cell? (zH gf (of+k * 2+1))=some (zI f.twin)/\w.frozen? (zH gf (of+k * 2+1))=false/\w.frozen? (zH gp (op+i * 2+1))=false/\w.frozen? (zH gp (op+i * 2))=false/\B<=gf/\B<=gp/\ρ gf=.zh i/\ρ gp=.zd/\gf<w.heap.size/\gp<w.heap.size:=by
 obtain⟨hi,hk,hfe⟩:=yF.fr_some hf
 have hr:yg B 2 w P.vp P.L.zd.length (cells2 (qt P.F P.L.zd)):=(h .zd).1
 have hq:yg B 2 w (P.F i) P.L.zd[i].zh.length (cells2 (yk P.D P.L.zd[i].zh)):=((h (.zh i)) hi).1
 obtain⟨gp,op,cp,qI,Ve,Jb⟩:=hr.form (by omega)
 obtain⟨gf,of,cf,hF,hBf,hgf⟩:=hq.form (by omega)
 rw[qI] at hr
 have hfl:k<(yk P.D P.L.zd[i].zh).length:=by unfold yk;simpa using hk
 have c1:=kO (qt P.F P.L.zd) i (by rw[yO];exact hi)
 have c2:=kO (yk P.D P.L.zd[i].zh) k hfl
 rw[jo hi] at c1
 have e2:(yk P.D P.L.zd[i].zh)[k]=(zJ (P.D f.body) 0,zI f.twin):=by rw[Kf hk,hfe]
 rw[e2] at c2
 have hq2:=hq
 rw[hF] at hq2
 obtain⟨p0,z0⟩:=hr.cell c1.1
 obtain⟨p1,z1⟩:=hr.cell c1.2
 obtain⟨q0,y0⟩:=hq2.cell c2.1
 obtain⟨q1,y1⟩:=hq2.cell c2.2
 rw[<-Nat.add_assoc] at p1 z1 q1 y1
 have hb:yw P.L i=P.L.zd[i].base:=by unfold yw;rw[List.getElem?_eq_getElem hi];rfl
 refine⟨gp,op,cp,gf,of,_,cf,qI,hF,(kF hi).symm,hi,hk,by rw[hb];exact p0,p1,q0,q1,y1,z1,z0,hBf,Ve,((h (.zh i)) hi).2 gf (by rw[hF];rfl),(h .zd).2 gp (by rw[qI];rfl),hgf,Jb⟩
theorem KU {B:Nat} {ρ:Nat->Rl} {w:World} {P:Lay} (h:yj B ρ w P) (hB:B<=w.heap.size) {i k:Nat} {f:ki} (hf:P.L.fr i k=some f) (_hn:qq P.L i<=100000) (_hpl:P.L.zd.length<=100000) (_htl:P.L.ze.length<=100000) :
 Calls Tryz.prog 112 #[zJ P.bl 0,zI (i:Int),zI (k:Int)] w fun e w'=>e=.returned (zI (zx P.L i k).2)/\Goes B ρ w w' {P with L:=(zx P.L i k).1}:=by
 obtain⟨gp,op,cp,gf,of,n,cf,qI,hF,hnn,hi,hk,p0,p1,q0,q1,z1,_,_,hBf,Ve,hρf,hρp,hgf,Jb⟩:=h.frAt hf
 have hbx:=h.box
 rw[qI] at hbx
 rw[hF] at p1
 have x1:=hbx.cell 1 rfl
 have x4:=hbx.cell 4 rfl
 have hiz:(i:Int)<(P.L.zd.length:Int):=by omega
 have uW:(k:Int)<(n:Int):=by omega
 have HL:Hid (yj B ρ w P):=h
 have hTl:=(h .ze).1
 have hblw:=hbx.lt
 have hbmw:=hTl.lt
 unfold zx
 rw[hf]
 by_cases h0:f.twin=-1
 ·simp only[h0,if_true]
  rw[h0] at q1
  have h1:=h.setFr hf hF (P.L.ze.length:Int)
  have C1:Ch (fun r=>r≠.other) ρ ρ w (w.setCell (zH gf (of+k * 2+1)) (zI (P.L.ze.length:Int))):=Ch.set w ρ _ _ _ (by rw[hρf];simp)
  have B1:Below B w (w.setCell (zH gf (of+k * 2+1)) (zI (P.L.ze.length:Int))):=(Below.refl B w).setCell (p:=zH gf (of+k * 2+1)) hBf _
  have hlen:=xl.len (P:=Tryz.prog) (t:=115) (by kernel_rfl) hTl 3
  rw[List.length_map] at hlen
  obtain⟨W1,hW1⟩:∃W1,w.setCell (zH gf (of+k * 2+1)) (zI (P.L.ze.length:Int))=W1:=⟨_,rfl⟩
  have y1:W1.cell? (zH gf (of+k * 2+1))=some (zI (P.L.ze.length:Int)):=by rw[<-hW1];exact World.cell?_setCell_same _ _ _ q1
  have y0:W1.cell? (zH gf (of+k * 2))=some (zJ (P.D f.body) 0):=by rw[<-hW1,World.cell?_setCell_other _ _ _ _ (fun e=>by injection e;omega)];exact q0
  rw[hW1] at h1 C1 B1
  have za8:=h1.box
  have x14:W1.cell? (zH P.bl 4)=some (.map (some P.bm)):=za8.cell 4 rfl
  have hT1:xl W1.drew P.bm (P.L.ze.map (xG P.D)):=xl.below (h1 .ze).1 zS.drew
  have hput:=xl.push (P:=Tryz.prog) (t:=115) (kt:=3) (et:=143) (by kernel_rfl) (by kernel_rfl) hT1 (xG P.D ⟨(i:Int),(k:Int),f.body,0⟩)
  obtain⟨W2,hmu,QP,qA⟩:=hput
  unfold xG at hmu
  rw[List.length_map] at hmu
  have HE:Hid (Goes B ρ w W2 {P with L:=Yu P.L i k f}):=by
   have hd:=h1.below zS.drew
   have VL:xl W2 P.bm ((P.L.ze ++ [(⟨(i:Int),(k:Int),f.body,0⟩:kN)]).map (xG P.D)):=by rw[List.map_append];exact QP
   have S:=hd.setTwins qA VL
   have C2:=C1.trans (Ch.below zS.drew _ ρ .other)
   exact⟨_,S,C2.trans (Ch.grown qA _ .other fun q e=>by cases e;rw[(hd .ze).2.1];simp),B1.drew.grown qA (Nat.le_trans hB C2.size) fun q e=>by cases e;exact(hd .ze).2.2⟩
  have y2:W2.cell? (zH gf (of+k * 2+1))=some (zI (P.L.ze.length:Int)):=by
   refine(World.cell?_of_block (a:=(⟨gf,of+k * 2+1,none⟩:Addr)) (qA.block gf (by show gf<W1.heap.size;have:=C1.size;omega) ?_)).trans y1
   intro e
   injection e with e
   have e2:=(h1 .ze).2.1
   have e3:ρ gf=.ze:=by rw[e];exact e2
   rw[hρf] at e3
   cases e3
  clear h1 C1 B1 hT1 QP qA hbx za8 p0 qI hF
  go_enter Tryz.func112,Tryz.ntmps112
  go_upto_region 4 with fail
  clear hlen x1 x4 p1 q0 q1 z1
  go_wp2_with fail
  go_region_law (fail)
  all_goals
   go_wp2
   go_ret
   exact⟨rfl,HE.out⟩
 ·simp only[if_neg h0]
  have HE:Hid (Goes B ρ w w {P with L:=P.L}):=⟨ρ,h,Ch.refl _ _ _,zS⟩
  obtain⟨tw,YY⟩:∃tw,f.twin=tw:=⟨_,rfl⟩
  rw[YY] at q1 h0 ⊢
  clear hbx h YY
  go_enter Tryz.func112,Tryz.ntmps112
  go_wp2
  go_ret
  exact⟨rfl,HE.out⟩
theorem Tryz.twin0 (x0 x1 x2 x3:Value) (w:World):(Instr.field 143 (.agg #[x0,x1,x2,x3]) 0).run Tryz.prog w=.ok x0 w:=by kernel_rfl
theorem Tryz.twin2 (x0 x1 x2 x3:Value) (w:World):(Instr.field 143 (.agg #[x0,x1,x2,x3]) 2).run Tryz.prog w=.ok x2 w:=by kernel_rfl
theorem Tryz.frame0 (x0 x1:Value) (w:World):(Instr.field 145 (.agg #[x0,x1]) 0).run Tryz.prog w=.ok x0 w:=by kernel_rfl
theorem Kv {B:Nat} {ρ:Nat->Rl} {w:World} {P:Lay} (h:yj B ρ w P) {j:Nat} {t:kN} (hj:P.L.ze[j]?=some t) :
 Calls Tryz.prog 208 #[zJ P.bl 0,zI (j:Int)] w fun e w'=>e=.returned (zJ (P.D t.body) 0)/\w'=w:=by
 obtain⟨hjl,rfl⟩:=List.getElem?_eq_some_iff.1 hj
 have hlk:=xl.look (P:=Tryz.prog) (t:=115) (kt:=3) (et:=143) (by kernel_rfl) (by kernel_rfl) (h .ze).1 (k:=j) (by simpa using hjl)
 have hval:(P.L.ze.map (xG P.D))[j]'(by simpa using hjl)=xG P.D P.L.ze[j]:=by simp
 rw[hval] at hlk
 unfold xG at hlk
 have x4:=h.box.cell 4 rfl
 have K2:=Tryz.twin2
 clear h
 go_enter Tryz.func208,Tryz.ntmps208
 go_wp2
 go_ret
 exact⟨rfl,rfl⟩
theorem zfi (v0:Value) (gf of m c:Nat) (d:Nat) (x:Int) (w:World) (c0:w.cell? (zH gf (of+m * 2))=some (zJ d 0)) (c1:w.cell? (zH gf (of+m * 2+1))=some (zI x)) (hm:m<=100000) :
 Calls Tryz.prog 219 #[.agg #[v0,zK gf of (m+1) c]] w fun e w'=>e=.returned (.agg #[zJ d 0,zI x])/\zO w w':=by
 have Qh:IntKind.i64.wrap ((m:Int)+1 - 1)=(m:Int):=by rw[IntKind.wrap_i64];omega
 have QP:(m:Int)<(m:Int)+1:=by omega
 have hgf:gf<w.heap.size:=World.block_lt_of_cell? _ _ c0
 have z1:gf<(w.alloc (.cells #[v0,.slice (some ⟨gf,of,none⟩) (m+1) c] 139)).heap.size:=by simp;omega
 go_enter Tryz.func219,Tryz.ntmps219
 go_wp2
 refine xU (fun W=>zO w W/\Bx W (w.heap.size+1) 145 [.pointer (some ⟨d,0,none⟩),.int .i64 x]) ⟨(zR _ _).alloc (by simp) _,Bx.newAt _ _ _ (by simp)⟩ ?_
 rintro W ⟨b,y⟩
 have y0:=y.cell 0 rfl
 have y1:=y.cell 1 rfl
 exact bodyPost_ret (v:=.agg #[zJ d 0,zI x]) (by simp[results,Tryz.results219,go_sem,y0,y1]) rfl ⟨rfl,b⟩
theorem XN {B:Nat} {ρ:Nat->Rl} {w:World} {P:Lay} (h:yj B ρ w P) {i m:Nat} {f:ki} (hn:P.L.now=(i:Int)) (hm:qq P.L i=m+1) (hf:P.L.fr i m=some f) (Qh:m<=100000) (_hpl:P.L.zd.length<=100000) :
 Calls Tryz.prog 209 #[zJ P.bl 0] w fun e w'=>e=.returned (zJ (P.D f.body) 0)/\zO w w':=by
 obtain⟨gp,op,cp,gf,of,n,cf,qI,hF,hnn,hi,hk,p0,p1,q0,q1,z1,_,_,hBf,Ve,hρf,hρp,hgf,Jb⟩:=h.frAt hf
 have hbx:=h.box
 rw[qI,hn] at hbx
 rw[hF] at p1
 rw[hm] at hnn
 subst hnn
 have x1:=hbx.cell 1 rfl
 have x3:=hbx.cell 3 rfl
 have hiz:(i:Int)<(P.L.zd.length:Int):=by omega
 have hHT:∀W,zO w W->Calls Tryz.prog 219 #[.agg #[zI (yw P.L i),zK gf of (m+1) cf]] W fun e w'=>e=.returned (.agg #[zJ (P.D f.body) 0,zI f.twin])/\zO W w':=fun W hb=>zfi _ _ _ _ _ _ _ _ (zc hb q0) (zc hb q1) Qh
 have HT:Hid (∀W,zO w W->Calls Tryz.prog 219 #[.agg #[zI (yw P.L i),zK gf of (m+1) cf]] W fun e w'=>e=.returned (.agg #[zJ (P.D f.body) 0,zI f.twin])/\zO W w'):=hHT
 have K2:=Tryz.frame0
 clear hHT h hbx qI hF q0 q1 z1
 go_enter Tryz.func209,Tryz.ntmps209
 go_upto_region 3 with fail
 have HB:Hid (zO w w.drew):=zS.drew
 have hzd:w.drew.heap.size=w.heap.size:=rfl
 go_region_law ((go_simp;go_at_call 219;refine(HT.out _ HB.out).mono ?_;rintro e w2 ⟨rfl,b2⟩))
 all_goals
  go_wp2
  go_ret
  exact⟨rfl,HB.out.trans b2⟩
theorem KT (L:yF) (i k:Nat):(zx L i k).1.ze.length<=L.ze.length+1:=by
 unfold zx
 split
 ·split
  ·show(L.ze ++ [_]).length<=_
   simp
  ·simp
 ·simp
theorem QV {L:yF} {i:Nat} (hi:i<L.zd.length):yw L i=L.zd[i].base:=by unfold yw;rw[List.getElem?_eq_getElem hi];rfl
theorem yj.pgAt {B:Nat} {ρ:Nat->Rl} {w:World} {P:Lay} (h:yj B ρ w P) {i:Nat} (hi:i<P.L.zd.length):∃gp op cp a cf,P.vp=zK gp op P.L.zd.length cp/\P.F i=.slice a (qq P.L i) cf /\
 w.cell? (zH gp (op+i * 2))=some (zI (yw P.L i))/\w.cell? (zH gp (op+i * 2+1))=some (.slice a (qq P.L i) cf)/\w.frozen? (zH gp (op+i * 2))=false/\w.frozen? (zH gp (op+i * 2+1))=false/\B<=gp/\ρ gp=.zd/\gp<w.heap.size:=by
 have hr:yg B 2 w P.vp P.L.zd.length (cells2 (qt P.F P.L.zd)):=(h .zd).1
 have hq:yg B 2 w (P.F i) P.L.zd[i].zh.length (cells2 (yk P.D P.L.zd[i].zh)):=((h (.zh i)) hi).1
 obtain⟨gp,op,cp,qI,Ve,Jb⟩:=hr.form (by omega)
 obtain⟨a,cf,hF,_⟩:=hq.slice
 rw[<-kF hi] at hF
 rw[qI] at hr
 have c1:=kO (qt P.F P.L.zd) i (by rw[yO];exact hi)
 rw[jo hi,hF] at c1
 obtain⟨p0,z0⟩:=hr.cell c1.1
 obtain⟨p1,z1⟩:=hr.cell c1.2
 rw[<-Nat.add_assoc] at p1 z1
 exact⟨gp,op,cp,a,cf,qI,hF,by rw[QV hi];exact p0,p1,z0,z1,Ve,(h .zd).2 gp (by rw[qI];rfl),Jb⟩
theorem Goes.trans {B:Nat} {ρ ρ1:Nat->Rl} {w w1 w2:World} {P':Lay} (c:Ch (fun r=>r≠.other) ρ ρ1 w w1) (b:Below B w w1) (g:Goes B ρ1 w1 w2 P'):Goes B ρ w w2 P':=by
 obtain⟨ρ2,h,c2,b2⟩:=g
 exact⟨ρ2,h,c.trans c2,b.trans b2⟩
theorem zeL {B:Nat} {ρ:Nat->Rl} {w:World} {P:Lay} (h:yj B ρ w P) (hB:B<=w.heap.size) {hp:Hp} (s:jB 0 0 P.L hp) {I:Nat} (hI:I<P.L.zd.length) (hn:qq P.L I<=1000) (hpl:P.L.zd.length<=1000) (htl:P.L.ze.length<=1000) :
 Calls Tryz.prog 68 #[zJ P.bl 0,zI (I:Int)] w fun e w'=>e=.returned (zI (jG P.L I).2)/\∃F',Goes B ρ w w' {P with F:=F',L:=(jG P.L I).1}:=by
 obtain⟨gp,op,cp,a,cf,qI,hF,p0,p1,z0,z1,Ve,hρp,Jb⟩:=h.pgAt hI
 have hbx:=h.box
 rw[qI] at hbx
 have x1:=hbx.cell 1 rfl
 have hIz:(I:Int)<(P.L.zd.length:Int):=by omega
 obtain⟨n,hnn⟩:∃n,qq P.L I=n:=⟨_,rfl⟩
 have HN:Hid (qq P.L I=n):=hnn
 rw[hnn] at p1 hn hF
 have Uy:us P.L.ze.length (yw P.L I):=by rw[QV hI];exact s.ba I _ (List.getElem?_eq_getElem hI)
 have HP:Hid (P.vp=zK gp op P.L.zd.length cp/\P.F I=.slice a n cf):=⟨qI,hF⟩
 have h00:qD I n 0 (yw P.L I) P.L=qD I n 0 (yw P.L I) P.L:=rfl
 have H0:Hid (∃(Lk:yF) (ρk:Nat->Rl),qD I (n - 0) 0 (yw P.L I) Lk=qD I n 0 (yw P.L I) P.L/\yj B ρk w {P with L:=Lk}/\Ch (fun r=>r≠.other) ρ ρk w w/\jB I 0 Lk hp/\jU P.L Lk/\Lk.ze.length<=P.L.ze.length+0/\us Lk.ze.length (yw P.L I)/\qx Lk I 0=YW Lk.ze (yw P.L I)) :=
  ⟨P.L,ρ,rfl,h,Ch.refl _ _ _,zce s rfl,jU.refl _,Nat.le_refl _,Uy,rfl⟩
 obtain⟨FK,hFK⟩:∃FK,qD I n 0 (yw P.L I) P.L=FK:=⟨_,rfl⟩
 have HFK:Hid (jG P.L I=(Zo FK.1 I,FK.2)):=by show jG P.L I=_;unfold jG;rw[HN.out,hFK]
 rw[hFK] at H0
 rw[HFK.out]
 obtain⟨b0,hbb⟩:∃b0,yw P.L I=b0:=⟨_,rfl⟩
 rw[hbb] at p0 H0 Uy
 clear h hbx qI hF hFK h00 hbb hnn s
 go_enter Tryz.func68,Tryz.ntmps68
 go_wp2_with fail
 go_loopg [5,6,7,8,26] n (fun d bv _ _ _ q wr=>∃(k:Nat) (below:Int),k<=n/\d=n - k/\bv=zI below/\q=zI (k:Int)/\Below B w wr/\∃(Lk:yF) (ρk:Nat->Rl),qD I (n - k) k below Lk=FK/\yj B ρk wr {P with L:=Lk}/\Ch (fun r=>r≠.other) ρ ρk w wr/\jB I k Lk hp/\jU P.L Lk/\Lk.ze.length<=P.L.ze.length+k/\us Lk.ze.length below/\qx Lk I k=YW Lk.ze below)
 case atStart=>exact⟨0,b0,Nat.zero_le _,rfl,rfl,rfl,zS,H0.out⟩
 case round =>
  obtain⟨k,below,hk,rfl,rfl,rfl,hbr,Lk,ρk,hFk,hLk,hCk,hSk,Qg,hTk,Xw,hbe⟩:=hrel
  clear H0
  have hzr:=hbr.size
  by_cases yz:k<n
  ·have hnk:qq Lk I=n:=(Qg.n I).trans HN.out
   obtain⟨f,hf⟩:=vG (L:=Lk) (i:=I) (k:=k) (by omega)
   obtain⟨_,_,_,gf,of,m,cf',_,hF',hmm,_,hkm,_,_,q0,q1,_,_,_,hBf,_,hρf,_,hgf,_⟩:=hLk.frAt hf
   have hF2:P.F I=zK gf of m cf':=hF'
   rw[HP.out.2] at hF2
   injection hF2 with ea em ec
   subst ea
   clear em ec hF' hmm hkm
   obtain⟨j,sx,e1,e2,l1,s2,l3,hjl,hbk,hfl⟩:=Ke (n - (k+1)) k below Lk hSk hf Xw hbe
   have hjt:j<(zx Lk I k).1.ze.length:=(List.getElem?_eq_some_iff.1 e2).1
   have zfa:=KT Lk I k
   have HST:Hid (jU Lk (zx Lk I k).1/\jB I (k+1) (vi (zx Lk I k).1 j f.body below) hp/\jU Lk (vi (zx Lk I k).1 j f.body below)/\us (vi (zx Lk I k).1 j f.body below).ze.length (j:Int)/\qx (vi (zx Lk I k).1 j f.body below) I (k+1)=YW (vi (zx Lk I k).1 j f.body below).ze (j:Int)/\qD I (n - (k+1)) (k+1) (j:Int) (vi (zx Lk I k).1 j f.body below)=FK/\jU P.L Lk/\Lk.ze.length<=P.L.ze.length+k/\(zx Lk I k).1.ze.length<=Lk.ze.length+1) :=
    ⟨l1,s2,l3,hjl,hbk,by rw[<-hfl,show n - (k+1)+1=n - k by omega];exact hFk,Qg,hTk,zfa⟩
   have HTW:=fun(W:World) (ρ5:Nat->Rl) (h5:yj B ρ5 W {P with L:=Lk}) (hB5:B<=W.heap.size)=>KU h5 hB5 hf (by show qq Lk I<=_;omega) (by show Lk.zd.length<=_;rw[Qg.pl];omega) (by show Lk.ze.length<=_;omega)
   rw[e1] at HTW
   obtain⟨L1,hL1⟩:∃L1,(zx Lk I k).1=L1:=⟨_,rfl⟩
   rw[hL1] at HTW HST hjt
   have uW:(k:Int)<(n:Int):=by omega
   obtain⟨tw,YY⟩:∃tw,f.twin=tw:=⟨_,rfl⟩
   obtain⟨fb,UA⟩:∃fb,f.body=fb:=⟨_,rfl⟩
   rw[YY] at q1
   rw[UA] at q0 HST
   have HLK:Hid (yj B ρk wr {P with L:=Lk}/\Ch (fun r=>r≠.other) ρ ρk w wr/\Below B w wr):=⟨hLk,hCk,hbr⟩
   clear hFk hLk hCk hSk Qg hTk Xw hbe e1 e2 l1 s2 l3 hjl hbk hfl hL1 YY UA zfa hnk hbr
   go_upto_region 5 with fail
   refine ym (fun W=>zO wr W/\Bx W wr.heap.size 145 [.pointer (some ⟨P.D fb,0,none⟩),.int .i64 tw]) ⟨zR _ _,Bx.new _ _ _⟩ ?_
   rintro W5 ⟨b5,y5⟩
   have z5:=b5.size
   have h5:=HLK.out.1.below b5
   have C5:Ch (fun r=>r≠.other) ρ (zu ρk wr .other) w W5:=HLK.out.2.1.trans (Ch.below b5 _ ρk .other)
   have B5:Below B w W5:=HLK.out.2.2.trans (b5.mono (by omega))
   have r5:zu ρk wr .other wr.heap.size=.other:=qj zD
   have hyl:=y5.lt
   have HC:=HTW W5 _ h5 (by omega)
   clear HTW q0 q1 b5 h5
   go_wp2_with fail
   refine HC.mono ?_
   rintro e W6 ⟨rfl,ρ6,h6,c6,b6⟩
   have y6:=y5.kept (c6.blk _ hyl (by rw[r5];simp))
   have C6:=C5.trans c6
   have B6:=B5.trans b6
   have z6:=c6.size
   have x4:W6.cell? (zH P.bl 4)=some (.map (some P.bm)):=h6.box.cell 4 rfl
   have y60:=y6.cell 0 rfl
   have hT6:xl W6.drew P.bm (L1.ze.map (xG P.D)):=xl.below (h6 .ze).1 zS.drew
   obtain⟨W7,hmu,hm7,hg7⟩:=xl.put (P:=Tryz.prog) (t:=115) (kt:=3) (et:=143) (by kernel_rfl) (by kernel_rfl) hT6 (k:=j) (by simpa using hjt) (xG P.D ⟨-1,0,fb,below⟩)
   unfold xG at hmu
   have HE:Hid (∃ρ7,yj B ρ7 W7 {P with L:=vi L1 j fb below}/\Ch (fun r=>r≠.other) ρ ρ7 w W7/\Below B w W7):=by
    have hd:=h6.below zS.drew
    have VL:xl W7 P.bm ((L1.ze.set j ⟨-1,0,fb,below⟩).map (xG P.D)):=by rw[List.map_set];exact hm7
    have S:=hd.setTwins hg7 VL
    have C2:=C6.trans (Ch.below zS.drew _ ρ6 .other)
    exact⟨_,S,C2.trans (Ch.grown hg7 _ .other fun q e=>by cases e;rw[(hd .ze).2.1];simp),B6.drew.grown hg7 (Nat.le_trans hB C2.size) fun q e=>by cases e;exact(hd .ze).2.2⟩
   clear h6 C6 B6 C5 B5 hT6 hm7 hg7 HC c6 b6 y5 y6 r5
   go_wp2_with fail
   go_region_law (fail)
   all_goals
    go_wp2
    go_roundg (n - (k+1))
    case measure=>omega
    case rel =>
     obtain⟨ρ7,h7,C7,B7⟩:=HE.out
     obtain⟨t1,t2,t3,t4,t5,t6,t7,t8,t9⟩:=HST.out
     exact⟨k+1,(j:Int),by omega,rfl,rfl,by go_num,B7,_,ρ7,t6,h7,C7,t2,t7.trans t3,by
      rw[show(vi L1 j fb below).ze.length=L1.ze.length from List.length_set]
      omega,t4,t5⟩
  ·obtain rfl:k=n:=by omega
   rw[Nat.sub_self] at hFk
   have hF0:FK=(Lk,below):=hFk.symm
   have hi:I<Lk.zd.length:=by rw[Qg.pl];exact hI
   obtain⟨gp',op',cp',_,_,hvp',_,p0',p1',z0',z1',_,_,hgp'⟩:=hLk.pgAt hi
   have Jy:P.vp=zK gp' op' Lk.zd.length cp':=hvp'
   rw[HP.out.1,Qg.pl] at Jy
   injection Jy with ea em ec
   injection ea with ea
   injection ea with eb eo
   subst eb eo ec
   clear em
   have hbl:wr.cell? (zH P.bl 1)=some P.vp:=hLk.box.cell 1 rfl
   rw[HP.out.1] at hbl
   have hr:yg B 2 wr (zK gp op P.L.zd.length cp) P.L.zd.length (cells2 (qt P.F Lk.zd)):=by
    have e:yg B 2 wr P.vp Lk.zd.length (cells2 (qt P.F Lk.zd)):=(hLk .zd).1
    rw[HP.out.1,Qg.pl] at e
    exact e
   have hs1:=hr.set (I * 2) (zI (-1))
   have hs2:=hs1.set (I * 2+1) (zQ)
   rw[wz,<-Nat.add_assoc] at hs2
   have Yh:wr.grownBy ((wr.setCell (zH gp (op+I * 2)) (zI (-1))).setCell (zH gp (op+I * 2+1)) (zQ)) (some gp) :=
    ⟨rfl,rfl,rfl,by simp only[World.size_setCell];exact Nat.le_refl _,fun q _ qF=>by rw[Below.heap_setCell _ _ _ _ (fun e=>qF (by rw[e])),Below.heap_setCell _ _ _ _ (fun e=>qF (by rw[e]))]⟩
   have S:=hLk.setPage2 hi (Ch.refl _ _ _) (p:=⟨-1,[]⟩) (vf:=zQ) (yg.nil _ _ _) (fun g e=>by cases e) (show({P with L:=Lk}:Lay).vp=zK gp op Lk.zd.length cp from by rw[Qg.pl];exact HP.out.1) (by rw[Qg.pl];exact hs2) Yh
   have hρ2:ρk gp=.zd:=(hCk.role gp Jb).trans hρp
   have HE:Hid (∃F',Goes B ρ w ((wr.setCell (zH gp (op+I * 2)) (zI (-1))).setCell (zH gp (op+I * 2+1)) (zQ)) {P with F:=F',L:=Zo Lk I}) :=
    ⟨_,_,S,hCk.trans (Ch.grown Yh ρk .other fun q e=>by cases e;rw[hρ2];simp),hbr.grown Yh (by omega) fun q e=>by cases e;exact Ve⟩
   subst hF0
   clear S hs1 hs2 Yh hr hLk hCk hbr hSk Qg hFk hvp' Xw hbe
   go_wp2
   go_ret
   exact⟨rfl,HE.out⟩
end Go.Proofs.YtbjgjjkgfnfejaaGreatDoor

/-
  Those who keep calls on pages: one comes back to a call.
-/
import Derived.Test.YtbjgjjkgfnfejaaGreatDoorMKeepC
import Derived.LaidEqlPtr
namespace Go.Proofs.YtbjgjjkgfnfejaaGreatDoor
set_option maxHeartbeats 4000000
set_option maxRecDepth 100000
open Go.RowKit
theorem yj.inj {B:Nat} {ρ:Nat->Rl} {w:World} {P:Lay} (h:yj B ρ w P) {a b:Nat} (ha:a<P.L.zj.length) (hb:b<P.L.zj.length) (e:P.D a=P.D b):a=b:=by
 have h1:=((h (.body a)) ha).2.1
 have h2:=((h (.body b)) hb).2.1
 rw[e,h2] at h1
 injection h1 with h1
 exact h1.symm
theorem KS {L:yF} {i m:Nat} {f:ki} (hm:qq L i=m+1) (hf:L.fr i m=some f):vQ L i=(f.body:Int):=by
 rw[vz,hm]
 show((L.fr i m).map fun f:ki=>(f.body:Int)).getD (-1)=_
 rw[hf]
 rfl
theorem BSt.below {B:Nat} {ρ:Nat->Rl} {w wr w':World} {P:Lay} {b n:Nat} {LF:yF} (k:BSt B ρ w P b LF n wr) (hB:B<=w.heap.size) (hb':zO wr w'):BSt B ρ w P b LF n w':=by
 obtain⟨Lk,F,vo,T,ρk,hk,l,h,c,bb,r⟩:=k.ex
 have hz:=c.size
 exact⟨Lk,F,vo,T,_,hk,l,h.below hb',c.trans (Ch.below hb' _ ρk .other),bb.trans (hb'.mono (by omega)),r⟩
theorem Tryz.infoLB:(Tryz.prog.info? 186).map (fun i=>(i.zero,i.size,i.bytes))=some (some (.agg #[zI 0,zI 0,zQ,zQ,.bool false]),5,72):=by kernel_rfl
theorem Tryz.underPtrLB:Tryz.prog.underlying 140=some (.pointer 186):=by kernel_rfl
theorem zdC (w:World) (d:Nat):(binOp .eql 140 (zJ d 0) (zJ d 0)).run Tryz.prog w=.ok (.bool true) w:=by
 obtain⟨i0,hi,jT,xF,kf⟩:=info_parts Tryz.infoLB
 exact run_eql_ptr_same (P:=Tryz.prog) w ⟨d,0,none⟩ Tryz.underPtrLB hi
theorem zcx {w:World} {d e:Nat} {l m:List Value} (hd:Bx w d 186 l) (he:Bx w e 186 m) (qF:d≠e):(binOp .eql 140 (zJ d 0) (zJ e 0)).run Tryz.prog w=.ok (.bool false) w:=by
 obtain⟨i0,hi,jT,xF,kf⟩:=info_parts Tryz.infoLB
 obtain⟨c1,h1,_⟩:=hd
 obtain⟨c2,h2,_⟩:=he
 exact run_eql_ptr_other (P:=Tryz.prog) w (a:=⟨d,0,none⟩) (b:=⟨e,0,none⟩) Tryz.underPtrLB hi (by rw[xF];decide) (fun x=>qF (by injection x)) h1 h2
theorem BSt.step {B:Nat} {ρ:Nat->Rl} {w wr:World} {P:Lay} {b n:Nat} {LF:yF} (k:BSt B ρ w P b LF n wr) (hB:B<=w.heap.size) :
 ∃(i m:Nat) (f:ki) (gp op np cp:Nat) (a:Option Addr) (cf:Nat),wr.cell? (zH P.bl 1)=some (zK gp op np cp)/\wr.cell? (zH P.bl 3)=some (zI (i:Int))/\i<np/\np<=900/\m<=900/\wr.cell? (zH gp (op+i * 2+1))=some (.slice a (m+1) cf) /\
  (Calls Tryz.prog 209 #[zJ P.bl 0] wr fun e w'=>e=.returned (zJ (P.D f.body) 0)/\zO wr w') /\
  (f.body=b->∀w',zO wr w'->∃F' uP T',Goes B ρ w w' {P with F:=F',vo:=uP,T:=T',L:=LF}) /\
  (f.body≠b->P.D f.body≠P.D b/\(∃l1 l2,Bx wr (P.D f.body) 186 l1/\Bx wr (P.D b) 186 l2)/\∃n',n=n'+1/\∀w',zO wr w'->Calls Tryz.prog 207 #[zJ P.bl 0] w' fun e w''=>e=.returned (.tuple #[])/\BSt B ρ w P b LF n' w''):=by
 obtain⟨Lk,F,vo,T,ρk,hk,l,h,c,bb,s,ho,hw,hW,hb,hl,hLF,few,hbl⟩:=k.ex
 obtain⟨i,hn,hi,hf,ht,hstep⟩:=zcj s ho hw hW hb
 obtain⟨m,hm⟩:∃m,qq Lk i=m+1:=⟨qq Lk i - 1,by omega⟩
 obtain⟨f,hfr⟩:=vG (L:=Lk) (i:=i) (k:=m) (by omega)
 have UA:=(s.fb i m f hfr (yP _ _)).1
 obtain⟨gp,op,cp,a,cf,qI,hF,_,p1,_⟩:=h.pgAt hi
 have hbx:=h.box
 rw[qI] at hbx
 have x1:wr.cell? (zH P.bl 1)=some (zK gp op Lk.zd.length cp):=hbx.cell 1 rfl
 have x3:wr.cell? (zH P.bl 3)=some (zI Lk.now):=hbx.cell 3 rfl
 rw[hn] at x3
 have p1':wr.cell? (zH gp (op+i * 2+1))=some (.slice a (m+1) cf):=by rw[<-hm];exact p1
 have hfi:=few.f i
 have hz:=c.size
 have hpos:0<l.length:=List.length_pos_of_mem hb
 obtain⟨n',rfl⟩:∃n',n=n'+1:=⟨n - 1,by omega⟩
 have hbk:ku (n'+1) Lk b=if vQ Lk i=(b:Int) then Lk else ku n' (qf Lk) b:=by
  show(if vQ Lk Lk.now.toNat=(b:Int) then Lk else ku n' (qf Lk) b)=_
  rw[hn,Int.toNat_natCast]
 rw[hbk,KS hm hfr] at hLF
 refine⟨i,m,f,gp,op,Lk.zd.length,cp,a,cf,x1,x3,hi,few.p,by omega,p1',XN h hn hm hfr (by omega) (by have:=few.p;exact Nat.le_trans this (by omega)),fun e w' hb'=>?_,fun e=>⟨fun e2=>e (h.inj UA hbl e2),⟨_,_,((h (.body f.body)) UA).1,((h (.body b)) hbl).1⟩,n',rfl,fun w' hb'=>?_⟩⟩
 ·rw[if_pos (by rw[e])] at hLF
  subst hLF
  exact⟨F,vo,T,_,h.below hb',c.trans (Ch.below hb' _ ρk .other),bb.trans (hb'.mono (by omega))⟩
 ·rw[if_neg (by omega)] at hLF
  have hz':=hb'.size
  obtain⟨h',t,s',o',w1,W1,b1,l1,pl,bl⟩:=hstep (by rw[KS hm hfr];omega)
  refine(zb0 (h.below hb') (by omega) s ho hn hi hf few).mono ?_
  rintro e3 w'' ⟨rfl,F',uP,T',ρ',hA,cA,bA⟩
  exact⟨rfl,qf Lk,F',uP,T',ρ',h',t,hA,(c.trans (Ch.below hb' _ ρk .other)).trans cA,(bb.trans (hb'.mono (by omega))).trans bA,s',o',w1,W1,b1,by omega,hLF,few.leave,by rw[bl];exact hbl⟩
theorem zdj {B:Nat} {ρ:Nat->Rl} {w:World} {P:Lay} (h:yj B ρ w P) (hB:B<=w.heap.size) {hp:Hp} (s:jB 0 0 P.L hp) (ho:qU P.L) (hw:ZJ P.L hp) {l:List Nat} (hW:qG hp.za hp.now l) (few:ul P.L) {j:Nat} {t:kN} (hj:P.L.ze[j]?=some t) (hb:t.body∈l) {n:Nat} (hl:l.length<=n) :
 Calls Tryz.prog 204 #[zJ P.bl 0,zI (j:Int)] w fun e w'=>e=.returned (.tuple #[])/\∃F' uP T',Goes B ρ w w' {P with F:=F',vo:=uP,T:=T',L:=ku n P.L t.body}:=by
 have hbl:=(s.tb j t hj).1
 have HLK:=Kv h hj
 obtain⟨b,hbb⟩:∃b,t.body=b:=⟨_,rfl⟩
 rw[hbb] at hb hbl HLK ⊢
 obtain⟨LF,hLF⟩:∃LF,ku n P.L b=LF:=⟨_,rfl⟩
 rw[hLF]
 have H0:Hid (BSt B ρ w P b LF n w):=⟨P.L,P.F,P.vo,P.T,ρ,hp,l,h,Ch.refl _ _ _,zS,s,ho,hw,hW,hb,hl,hLF,few,hbl⟩
 have x4:=h.box.cell 4 rfl
 obtain⟨d,hd⟩:∃d,P.D b=d:=⟨_,rfl⟩
 have HD:Hid (P.D b=d):=hd
 rw[hd] at HLK
 clear h s ho hw hW few hb hl hLF hbl hbb hd
 go_enter Tryz.func204,Tryz.ntmps204
 go_step3
 go_wp2_with fail
 refine HLK.mono ?_
 rintro e w1 ⟨rfl,hw1⟩
 subst hw1
 clear HLK
 go_wp2_with fail
 go_step3
 go_wp2_with fail
 go_loopg [20] n (fun dd _ wr=>BSt B ρ w1 P b LF dd wr)
 case atStart=>exact H0.out
 case round =>
  obtain⟨i,m,f,gp,op,np,cp,a,cf,x1,x3,hi,hnp,hm,p1,_,_,hlv⟩:=hrel.step hB
  have HR:Hid (BSt B ρ w1 P b LF (gk - 0) wr.drew):=hrel.below hB zS.drew
  clear hlv hrel
  go_upto_region 1 with fail
  go_region
  all_goals
   go_wp2_with fail
   go_loopg [20] (m+1) (fun dd q wq=>∃k:Nat,k<=m+1/\dd=m+1 - k/\q=zI (k:Int)/\k<=gk/\BSt B ρ w1 P b LF (gk - k) wq)
   case atStart=>exact⟨0,Nat.zero_le _,rfl,rfl,Nat.zero_le _,HR.out⟩
   case round =>
    obtain⟨k,hk,rfl,rfl,hkg,hst⟩:=hrel
    by_cases yz:k<m+1
    ·have uW:(k:Int)<(m:Int)+1:=by omega
     obtain⟨i2,m2,f2,gp2,op2,np2,cp2,a2,cf2,_,_,_,_,_,_,hrun,hyes,hno⟩:=hst.step hB
     obtain⟨d2,hd2⟩:∃d2,P.D f2.body=d2:=⟨_,rfl⟩
     have HY:Hid (f2.body=b->∀w',zO wr w'->∃F' uP T',Goes B ρ w1 w' {P with F:=F',vo:=uP,T:=T',L:=LF}):=hyes
     have HN:Hid (f2.body≠b->d2≠d/\(∃l1 l2,Bx wr d2 186 l1/\Bx wr d 186 l2)/\∃n',gk - k=n'+1/\∀w',zO wr w'->Calls Tryz.prog 207 #[zJ P.bl 0] w' fun e w''=>e=.returned (.tuple #[])/\BSt B ρ w1 P b LF n' w''):=by
      rw[<-hd2,<-HD.out]
      exact hno
     rw[hd2] at hrun
     have HD2:Hid (P.D f2.body=d2):=hd2
     clear hyes hno hd2 hst
     by_cases UA:f2.body=b
     ·have hdd:d2=d:=by rw[<-HD.out,<-HD2.out,UA]
      subst hdd
      go_wp2_with fail
      refine hrun.mono ?_
      rintro e w5 ⟨rfl,b5⟩
      have HF:=HY.out UA w5 b5
      have HFH:Hid _:=HF
      have heq:=zdC w5 d2
      clear HF b5
      go_wp2_with fail
      unfold Exit.noGoto
      exact bodyPost_end (results_none rfl _ _ _) rfl ⟨rfl,HFH.out⟩
     ·obtain⟨hdd,⟨l1,l2,bx1,bx2⟩,n',hn',hlv⟩:=HN.out UA
      go_wp2_with fail
      refine hrun.mono ?_
      rintro e w5 ⟨rfl,b5⟩
      have HC:=hlv w5 b5
      have heq:=zcx (bx1.below b5) (bx2.below b5) hdd
      clear hlv bx1 bx2
      go_wp2_with fail
      refine HC.mono ?_
      rintro e w6 ⟨rfl,hst⟩
      have HS:Hid (BSt B ρ w1 P b LF n' w6):=hst
      clear hst HC
      go_wp2_with fail
      go_roundg (m+1 - (k+1))
      case measure=>omega
      case rel=>exact⟨k+1,yz,rfl,by go_num,by omega,by rw[show gk - (k+1)=n' by omega];exact HS.out⟩
    ·obtain rfl:k=m+1:=by omega
     go_wp2_with fail
     go_roundg (gk - (m+1))
     case measure=>omega
     case rel=>exact hst
def vF (x:Int):Int × Int:=if x=-1 then(0,0) else(2,x)
theorem YO (x:Int) (hx:x=-1\/∃j:Nat,x=(j:Int)) (w:World):Calls Tryz.prog 214 #[zI x] w fun e w'=>e=.returned (.agg #[zI (vF x).1,zI (vF x).2])/\zO w w':=by
 rcases hx with rfl | ⟨j,rfl⟩
 ·exact QY w
 ·unfold vF
  rw[if_neg (by omega)]
  exact Qp j w
theorem zfm {B:Nat} {ρ:Nat->Rl} {w:World} {P:Lay} (h:yj B ρ w P) (hB:B<=w.heap.size) {hp:Hp} (s:jB 0 0 P.L hp) {i m:Nat} (hn:P.L.now=(i:Int)) (hm:qq P.L i=m+1) (few:ul P.L) :
 Calls Tryz.prog 206 #[zJ P.bl 0] w fun e w'=>e=.returned (.agg #[zI 2,zI (zx P.L i m).2])/\Goes B ρ w w' {P with L:=(zx P.L i m).1}:=by
 obtain⟨f,hfr⟩:=vG (L:=P.L) (i:=i) (k:=m) (by omega)
 obtain⟨s1,l1,j,sx,e1,e2,e3⟩:=vC s hfr (yP _ _)
 have hTT:∀W,zO w W->Calls Tryz.prog 215 #[zJ P.bl 0] W fun e w'=>e=.returned (zI (zx P.L i m).2)/\Goes B (zu ρ w .other) W w' {P with L:=(zx P.L i m).1}:=fun W hW=>by
  have:=hW.size
  exact Jl (h.below hW) (by omega) hn hm few
 rw[e1] at hTT ⊢
 generalize (zx P.L i m).1=L1 at *
 have HT:Hid (∀W,zO w W->Calls Tryz.prog 215 #[zJ P.bl 0] W fun e w'=>e=.returned (zI (j:Int))/\Goes B (zu ρ w .other) W w' {P with L:=L1}):=hTT
 clear hTT e1 e2 e3 l1 s1 s few h
 go_enter Tryz.func206,Tryz.ntmps206
 go_upto_region 1 with fail
 refine ym (fun W=>zO w W/\Bx W w.heap.size 86 [.int .i64 0,.int .i64 0]) ⟨zR _ _,Bx.new _ _ _⟩ ?_
 rintro W ⟨bW,yW⟩
 have HC:=HT.out W bW
 have hyl:=yW.lt
 have ZQ:=bW.size
 have CW:Ch (fun r=>r≠.other) ρ (zu ρ w .other) w W:=Ch.below bW _ ρ .other
 have rW:zu ρ w .other w.heap.size=.other:=qj zD
 go_wp2_with fail
 refine HC.mono ?_
 rintro e w2 ⟨rfl,ρ2,h2,c2,b2⟩
 have y2:=yW.kept (c2.blk _ hyl (by rw[rW];simp))
 have kf:=c2.size
 have r2:ρ2 w.heap.size=.other:=(c2.role _ hyl).trans rW
 have HV:=YO (j:Int) (.inr ⟨j,rfl⟩) w2
 have hcv:vF (j:Int)=(2,(j:Int)):=by unfold vF;rw[if_neg (by omega)]
 rw[hcv] at HV
 have HG2:Hid (yj B ρ2 w2 {P with L:=L1}/\Ch (fun r=>r≠.other) ρ ρ2 w w2/\Below B w w2):=⟨h2,CW.trans c2,(bW.mono hB).trans b2⟩
 clear h2 c2 b2 HC CW yW bW
 go_wp2_with fail
 refine HV.mono ?_
 rintro e w3 ⟨rfl,b3⟩
 have y3:=y2.below b3
 have y0:=y3.cell 0 rfl
 have y1:=y3.cell 1 rfl
 have yf0:=y3.frozen 0
 have yf1:=y3.frozen 1
 have K5:=b3.size
 have hyl3:=y3.lt
 have HE:Hid (Goes B ρ w ((w3.setCell (zH w.heap.size 0) (zI 2)).setCell (zH w.heap.size 1) (zI (j:Int))) {P with L:=L1}):=by
  have hw3:=HG2.out.1.below b3
  have c3:Ch (fun r=>r=.other) (zu ρ2 w2 .other) (zu ρ2 w2 .other) w3 ((w3.setCell (zH w.heap.size 0) (zI 2)).setCell (zH w.heap.size 1) (zI (j:Int))):=by
   have r3:zu ρ2 w2 .other w.heap.size=.other:=by rw[yG y2.lt,r2]
   exact(Ch.set w3 _ _ _ _ r3).trans (Ch.set _ _ _ _ _ r3)
  have b4:Below w.heap.size w3 ((w3.setCell (zH w.heap.size 0) (zI 2)).setCell (zH w.heap.size 1) (zI (j:Int))):=(zS.setCell (p:=zH w.heap.size 0) zD _).setCell (p:=zH w.heap.size 1) zD _
  have c2':=HG2.out.2.1.trans (Ch.below b3 (fun r=>r≠.other) ρ2 .other)
  have bb:Below B w w3:=HG2.out.2.2.trans (b3.mono (by omega))
  exact⟨_,hw3.loose c3,⟨Nat.le_trans c2'.size c3.size,fun g hg=>(c3.role g (by omega)).trans (c2'.role g hg),fun g hg hr=>(b4.block g hg).trans (c2'.blk g hg hr)⟩,bb.trans (b4.mono hB)⟩
 clear HV b3 y2
 go_wp2
 refine xU (fun Z=>Goes B ρ w Z {P with L:=L1}/\Bx Z w.heap.size 86 [zI 2,zI (j:Int)]) ⟨HE.out,(y3.set 0 _).set 1 _⟩ ?_
 rintro Z ⟨hG,yZ⟩
 have e0:=yZ.cell 0 rfl
 have e1:=yZ.cell 1 rfl
 exact bodyPost_ret (v:=.agg #[zI 2,zI (j:Int)]) (by simp[results,Tryz.results206,go_sem,e0,e1]) rfl ⟨rfl,hG⟩
def qw (L:yF) (j:Nat):yF × Int:=match L.ze[j]? with
 | some t=>if t.page=-1 then(L,t.zi) else if t.place=0 then(L,yw L t.page.toNat) else zx L t.page.toNat (t.place.toNat - 1)
 | none=>(L,-1)
theorem yj.boxed {B g:Nat} {ρ ρ2:Nat->Rl} {w w2:World} {P:Lay} (h:yj B ρ2 w2 P) (c:Ch (fun r=>r≠.other) ρ ρ2 w w2) (b:Below B w w2) (hB:B<=w.heap.size) (hg:w.heap.size<=g) (r:ρ2 g=.other) (x y:Value) :
 Goes B ρ w ((w2.setCell (zH g 0) x).setCell (zH g 1) y) P:=by
 have c3:Ch (fun r=>r=.other) ρ2 ρ2 w2 ((w2.setCell (zH g 0) x).setCell (zH g 1) y):=(Ch.set w2 _ _ _ _ r).trans (Ch.set _ _ _ _ _ r)
 have b4:Below w.heap.size w2 ((w2.setCell (zH g 0) x).setCell (zH g 1) y):=(zS.setCell (p:=zH g 0) hg _).setCell (p:=zH g 1) hg _
 have hz:=c.size
 exact⟨_,h.loose c3,⟨Nat.le_trans c.size c3.size,fun q hq=>(c3.role q (by omega)).trans (c.role q hq),fun q hq hr=>(b4.block q hq).trans (c.blk q hq hr)⟩,b.trans (b4.mono hB)⟩
structure ZI (B:Nat) (ρ:Nat->Rl) (w wx:World) (P:Lay) (L1:yF):Prop where
 ex:∃ρ2,yj B ρ2 wx {P with L:=L1}/\Ch (fun r=>r≠.other) ρ ρ2 w wx/\Below B w wx/\ρ2 w.heap.size=.other/\Bx wx w.heap.size 86 [zI 0,zI 0]
theorem ZI.below {B:Nat} {ρ:Nat->Rl} {w wx wy:World} {P:Lay} {L1:yF} (h:ZI B ρ w wx P L1) (hB:B<=w.heap.size) (hb:zO wx wy):ZI B ρ w wy P L1:=by
 obtain⟨ρ2,h2,c2,b2,r2,y2⟩:=h.ex
 have hz:=c2.size
 exact⟨_,h2.below hb,c2.trans (Ch.below hb _ ρ2 .other),b2.trans (hb.mono (by omega)),by rw[yG y2.lt,r2],y2.below hb⟩
theorem ZI.goes {B:Nat} {ρ ρ2:Nat->Rl} {w wx wy:World} {P:Lay} {L1:yF} (h2:Ch (fun r=>r≠.other) ρ ρ2 w wx) (hb:Below B w wx) (r:ρ2 w.heap.size=.other) (y:Bx wx w.heap.size 86 [zI 0,zI 0]) (hG:Goes B ρ2 wx wy {P with L:=L1}):ZI B ρ w wy P L1:=by
 obtain⟨ρ3,h3,c3,b3⟩:=hG
 exact⟨ρ3,h3,h2.trans c3,hb.trans b3,(c3.role _ y.lt).trans r,y.kept (c3.blk _ y.lt (by rw[r];simp))⟩
theorem zet {B:Nat} {ρ:Nat->Rl} {w:World} {P:Lay} (h:yj B ρ w P) (hB:B<=w.heap.size) {hp:Hp} (s:jB 0 0 P.L hp) {j:Nat} (hj:j<P.L.ze.length) (few:ul P.L) :
 Calls Tryz.prog 210 #[zJ P.bl 0,zI (j:Int)] w fun e w'=>e=.returned (.agg #[zI (vF (qw P.L j).2).1,zI (vF (qw P.L j).2).2])/\Goes B ρ w w' {P with L:=(qw P.L j).1}:=by
 obtain⟨t,ht⟩:∃t,P.L.ze[j]?=some t:=⟨_,List.getElem?_eq_getElem hj⟩
 have hlk:=h.look ht
 have x4:=h.box.cell 4 rfl
 have hbx:=h.box
 have hsl:qw P.L j=if t.page=-1 then(P.L,t.zi) else if t.place=0 then(P.L,yw P.L t.page.toNat) else zx P.L t.page.toNat (t.place.toNat - 1):=by unfold qw;rw[ht]
 have hEnd:∀(x:Int) (L1:yF) (wx:World),ZI B ρ w wx P L1->∀wy,zO wx wy->Goes B ρ w ((wy.setCell (zH w.heap.size 0) (zI (vF x).1)).setCell (zH w.heap.size 1) (zI (vF x).2)) {P with L:=L1}/\Bx ((wy.setCell (zH w.heap.size 0) (zI (vF x).1)).setCell (zH w.heap.size 1) (zI (vF x).2)) w.heap.size 86 [zI (vF x).1,zI (vF x).2]/\Bx wy w.heap.size 86 [zI 0,zI 0]:=fun x L1 wx hE wy hb=>by
  obtain⟨ρ2,h2,c2,b2,r2,y2⟩:=(hE.below hB hb).ex
  exact⟨h2.boxed c2 b2 hB zD r2 _ _,(y2.set 0 _).set 1 _,y2⟩
 have HEND:Hid (∀(x:Int) (L1:yF) (wx:World),ZI B ρ w wx P L1->∀wy,zO wx wy->Goes B ρ w ((wy.setCell (zH w.heap.size 0) (zI (vF x).1)).setCell (zH w.heap.size 1) (zI (vF x).2)) {P with L:=L1}/\Bx ((wy.setCell (zH w.heap.size 0) (zI (vF x).1)).setCell (zH w.heap.size 1) (zI (vF x).2)) w.heap.size 86 [zI (vF x).1,zI (vF x).2]/\Bx wy w.heap.size 86 [zI 0,zI 0]):=hEnd
 clear hEnd
 have HL:Hid (yj B ρ w P):=h
 have HFEW:Hid (ul P.L):=few
 have HLK':∀W,zO w W->(Instr.lookup 115 (.map (some P.bm)) (zI (j:Int)) false).run Tryz.prog W=.ok (.agg #[zI t.page,zI t.place,zJ (P.D t.body) 0,zI t.zi]) W:=fun W hW=>(h.below hW).look ht
 have hba:=s.ba
 have hse:=s.se j t ht
 have hpage:=(s.tb j t ht).2
 rcases hpage with e | ⟨i,k,f,hfr,_,_,_,e1,e2⟩
 ·-- on no page
  rw[hsl,if_pos e]
  have hts:t.zi=-1\/∃q:Nat,t.zi=(q:Int):=by
   rcases hse e with x | ⟨q,x,_⟩
   ·exact .inl x
   ·exact .inr ⟨q,x⟩
  have HV:=YO t.zi hts
  obtain⟨x,hx⟩:∃x,t.zi=x:=⟨_,rfl⟩
  simp only[e,hx] at HLK'
  rw[hx] at HV hts ⊢
  have HVH:Hid (∀W:World,Calls Tryz.prog 214 #[zI x] W fun e w'=>e=.returned (.agg #[zI (vF x).1,zI (vF x).2])/\zO W w'):=HV
  have HLK:Hid _:=HLK'
  clear HV hx hsl hse hba s few h hbx ht HLK' hlk
  go_enter Tryz.func210,Tryz.ntmps210
  go_upto_region 1 with fail
  refine ym (fun W=>zO w W/\W.heap.size=w.heap.size+1/\Bx W w.heap.size 86 [.int .i64 0,.int .i64 0]) ⟨zR _ _,by simp,Bx.new _ _ _⟩ ?_
  rintro W ⟨bW,zW,yW⟩
  have hlk:=HLK.out W bW
  have w4:=zc bW x4
  clear x4
  go_upto_region 2 with fail
  refine ym (fun X=>ZI B ρ w X P P.L/\zO w X/\X.heap.size=w.heap.size+2/\Bx X (w.heap.size+1) 143 [.int .i64 (-1),.int .i64 t.place,.pointer (some ⟨P.D t.body,0,none⟩),.int .i64 x]) ⟨?_,bW.alloc (by omega) _,by simp;omega,Bx.newAt _ _ _ zW⟩ ?_
  ·have E0:ZI B ρ w W P P.L:=⟨_,HL.out.below bW,Ch.below bW _ ρ .other,bW.mono hB,qj zD,yW⟩
   exact E0.below hB (zR _ _)
  rintro X ⟨hE,bX,zX,tX⟩
  have HE0:Hid (ZI B ρ w X P P.L):=hE
  have t0:=tX.cell 0 rfl
  have t1:=tX.cell 1 rfl
  have t3:=tX.cell 3 rfl
  clear hE yW bW w4 hlk
  go_wp2_with fail
  refine(HVH.out X).mono ?_
  rintro e5 wy ⟨rfl,b5⟩
  obtain⟨hG,yZ,y2⟩:=HEND.out (x) (P.L) _ HE0.out wy b5
  have y0:=y2.cell 0 rfl
  have y1:=y2.cell 1 rfl
  have yf0:=y2.frozen 0
  have yf1:=y2.frozen 1
  have HGH:Hid _:=hG
  have HYZ:Hid _:=yZ
  clear hG yZ y2 b5
  go_wp2
  refine xU (fun Z=>Goes B ρ w Z {P with L:=P.L}/\Bx Z w.heap.size 86 [zI (vF (x)).1,zI (vF (x)).2]) ⟨HGH.out,HYZ.out⟩ ?_
  rintro Z ⟨hG,yZ⟩
  have e0:=yZ.cell 0 rfl
  have e1:=yZ.cell 1 rfl
  exact bodyPost_ret (v:=.agg #[zI (vF (x)).1,zI (vF (x)).2]) (by simp[results,Tryz.results210,go_sem,e0,e1]) rfl ⟨rfl,hG⟩
 ·obtain⟨hil,hkl,_⟩:=yF.fr_some hfr
  have hine:(i:Int)≠-1:=by omega
  have hkl':k<qq P.L i:=by rw[kF hil];exact hkl
  have hfi:=few.f i
  rw[hsl,if_neg (by rw[e1];exact hine),e1,e2,Int.toNat_natCast,Int.toNat_natCast]
  rcases Nat.eq_zero_or_pos k with U9 | U9
  ·-- the lowest frame of a page
   subst U9
   rw[if_pos (by rfl)]
   have hbt:yw P.L i=-1\/∃q:Nat,yw P.L i=(q:Int):=by
    rw[QV hil]
    rcases hba i _ (List.getElem?_eq_getElem hil) with x | ⟨q,x,_⟩
    ·exact .inl x
    ·exact .inr ⟨q,x⟩
   have HV:=YO (yw P.L i) hbt
   obtain⟨x,hx⟩:∃x,yw P.L i=x:=⟨_,rfl⟩
   simp only[e1,e2] at HLK'
   show Calls _ _ _ _ fun e w'=>e=.returned (.agg #[zI (vF (yw P.L i)).1,zI (vF (yw P.L i)).2])/\Goes B ρ w w' {P with L:=P.L}
   rw[hx] at HV hbt ⊢
   have HVH:Hid (∀W:World,Calls Tryz.prog 214 #[zI x] W fun e w'=>e=.returned (.agg #[zI (vF x).1,zI (vF x).2])/\zO W w'):=HV
   have HLK:Hid _:=HLK'
   have HPG:∃gp op cp a cf,P.vp=zK gp op P.L.zd.length cp/\P.F i=.slice a (qq P.L i) cf/\w.cell? (zH gp (op+i * 2))=some (zI x):=by
    obtain⟨gp,op,cp,a,cf,h1,h2,h3,_⟩:=h.pgAt hil
    rw[hx] at h3
    exact⟨gp,op,cp,a,cf,h1,h2,h3⟩
   obtain⟨gp,op,cp,a,cf,qI,_,p0⟩:=HPG
   rw[qI] at hbx
   have x1:=hbx.cell 1 rfl
   have hiz:(i:Int)<(P.L.zd.length:Int):=by omega
   clear HV hx hsl hse hba s few h hbx ht HLK' hlk qI e1 e2
   go_enter Tryz.func210,Tryz.ntmps210
   go_upto_region 1 with fail
   refine ym (fun W=>zO w W/\W.heap.size=w.heap.size+1/\Bx W w.heap.size 86 [.int .i64 0,.int .i64 0]) ⟨zR _ _,by simp,Bx.new _ _ _⟩ ?_
   rintro W ⟨bW,zW,yW⟩
   have hlk:=HLK.out W bW
   have w4:=zc bW x4
   clear x4
   go_upto_region 2 with fail
   refine ym (fun X=>ZI B ρ w X P P.L/\zO w X/\X.heap.size=w.heap.size+2/\Bx X (w.heap.size+1) 143 [.int .i64 (i:Int),.int .i64 ((0:Nat):Int),.pointer (some ⟨P.D t.body,0,none⟩),.int .i64 t.zi]) ⟨?_,bW.alloc (by omega) _,by simp;omega,Bx.newAt _ _ _ zW⟩ ?_
   ·have E0:ZI B ρ w W P P.L:=⟨_,HL.out.below bW,Ch.below bW _ ρ .other,bW.mono hB,qj zD,yW⟩
    exact E0.below hB (zR _ _)
   rintro X ⟨hE,bX,zX,tX⟩
   have HE0:Hid (ZI B ρ w X P P.L):=hE
   have t0:=tX.cell 0 rfl
   have t1:=tX.cell 1 rfl
   have t3:=tX.cell 3 rfl
   clear hE yW bW w4 hlk
   have xx1:=zc bX x1
   have pp0:=zc bX p0
   have HE1:Hid (ZI B ρ w X.drew P P.L):=HE0.out.below hB zS.drew
   clear x1 p0
   go_upto_region 5 with fail
   go_region_law ((go_simp;go_at_call 214;refine(HVH.out _).mono ?_;rintro e5 wy ⟨rfl,b5⟩;obtain⟨hG,yZ,y2⟩:=HEND.out x P.L _ HE1.out wy b5;have y0:=y2.cell 0 rfl;have y1:=y2.cell 1 rfl;have yf0:=y2.frozen 0;have yf1:=y2.frozen 1;have HGH:Hid _:=hG;have HYZ:Hid _:=yZ;clear hG yZ y2 b5))
   all_goals
    go_wp2
    refine xU (fun Z=>Goes B ρ w Z {P with L:=P.L}/\Bx Z w.heap.size 86 [zI (vF (x)).1,zI (vF (x)).2]) ⟨HGH.out,HYZ.out⟩ ?_
    rintro Z ⟨hG,yZ⟩
    have e0:=yZ.cell 0 rfl
    have e1:=yZ.cell 1 rfl
    exact bodyPost_ret (v:=.agg #[zI (vF (x)).1,zI (vF (x)).2]) (by simp[results,Tryz.results210,go_sem,e0,e1]) rfl ⟨rfl,hG⟩
  ·-- a frame above another
   obtain⟨k',rfl⟩:∃k',k=k'+1:=⟨k - 1,by omega⟩
   rw[if_neg (by omega),Nat.add_sub_cancel]
   obtain⟨f',hf'⟩:=vG (L:=P.L) (i:=i) (k:=k') (by omega)
   obtain⟨s1,l1,q,sx,g1,g2,g3⟩:=vC s hf' (yP _ _)
   have HTW':∀(W:World) (ρ2:Nat->Rl),yj B ρ2 W P->B<=W.heap.size->Calls Tryz.prog 112 #[zJ P.bl 0,zI (i:Int),zI (k':Int)] W fun e w'=>e=.returned (zI (zx P.L i k').2)/\Goes B ρ2 W w' {P with L:=(zx P.L i k').1}:=fun W ρ2 hW hBW=>KU hW hBW hf' (by omega) (by have:=few.p;omega) (by have:=few.t;omega)
   rw[g1] at HTW' ⊢
   generalize (zx P.L i k').1=L1 at *
   have HV:=YO (q:Int) (.inr ⟨q,rfl⟩)
   obtain⟨x,hx⟩:∃x:Int,(q:Int)=x:=⟨_,rfl⟩
   rw[hx] at HV HTW' ⊢
   simp only[e1,e2] at HLK'
   have hw1:IntKind.i64.wrap (k':Int)=(k':Int):=by rw[IntKind.wrap_i64];omega
   have hk1:((k'+1:Nat):Int)≠0:=by omega
   have HTW:Hid (∀(W:World) (ρ2:Nat->Rl),yj B ρ2 W P->B<=W.heap.size->Calls Tryz.prog 112 #[zJ P.bl 0,zI (i:Int),zI (k':Int)] W fun e w'=>e=.returned (zI x)/\Goes B ρ2 W w' {P with L:=L1}):=HTW'
   have HVH:Hid (∀W:World,Calls Tryz.prog 214 #[zI x] W fun e w'=>e=.returned (.agg #[zI (vF x).1,zI (vF x).2])/\zO W w'):=HV
   have HLK:Hid _:=HLK'
   clear HV hx hsl hse hba s few h hbx ht HLK' hlk e1 e2 s1 l1 g1 g2 g3 HTW' hf'
   go_enter Tryz.func210,Tryz.ntmps210
   go_upto_region 1 with fail
   refine ym (fun W=>zO w W/\W.heap.size=w.heap.size+1/\Bx W w.heap.size 86 [.int .i64 0,.int .i64 0]) ⟨zR _ _,by simp,Bx.new _ _ _⟩ ?_
   rintro W ⟨bW,zW,yW⟩
   have hlk:=HLK.out W bW
   have w4:=zc bW x4
   clear x4
   go_upto_region 2 with fail
   refine ym (fun X=>ZI B ρ w X P P.L/\zO w X/\X.heap.size=w.heap.size+2/\Bx X (w.heap.size+1) 143 [.int .i64 (i:Int),.int .i64 ((k'+1:Nat):Int),.pointer (some ⟨P.D t.body,0,none⟩),.int .i64 t.zi]) ⟨?_,bW.alloc (by omega) _,by simp;omega,Bx.newAt _ _ _ zW⟩ ?_
   ·have E0:ZI B ρ w W P P.L:=⟨_,HL.out.below bW,Ch.below bW _ ρ .other,bW.mono hB,qj zD,yW⟩
    exact E0.below hB (zR _ _)
   rintro X ⟨hE,bX,zX,tX⟩
   have HE0:Hid (ZI B ρ w X P P.L):=hE
   have t0:=tX.cell 0 rfl
   have t1:=tX.cell 1 rfl
   have t3:=tX.cell 3 rfl
   clear hE yW bW w4 hlk
   obtain⟨ρ2,h2,c2,b2,r2,y2⟩:=HE0.out.ex
   have kf:=c2.size
   have HC:=HTW.out X ρ2 h2 (by omega)
   have HX2:Hid (Ch (fun r=>r≠.other) ρ ρ2 w X/\Below B w X/\ρ2 w.heap.size=.other/\Bx X w.heap.size 86 [zI 0,zI 0]):=⟨c2,b2,r2,y2⟩
   clear h2 c2 b2 r2 y2
   go_wp2_with fail
   refine HC.mono ?_
   rintro e4 w4 ⟨rfl,hG4⟩
   have HE1:Hid (ZI B ρ w w4 P L1):=ZI.goes HX2.out.1 HX2.out.2.1 HX2.out.2.2.1 HX2.out.2.2.2 hG4
   clear hG4 HC
   go_wp2_with fail
   refine(HVH.out w4).mono ?_
   rintro e5 wy ⟨rfl,b5⟩
   obtain⟨hG,yZ,y2⟩:=HEND.out (x) (L1) _ HE1.out wy b5
   have y0:=y2.cell 0 rfl
   have y1:=y2.cell 1 rfl
   have yf0:=y2.frozen 0
   have yf1:=y2.frozen 1
   have HGH:Hid _:=hG
   have HYZ:Hid _:=yZ
   clear hG yZ y2 b5
   go_wp2
   refine xU (fun Z=>Goes B ρ w Z {P with L:=L1}/\Bx Z w.heap.size 86 [zI (vF (x)).1,zI (vF (x)).2]) ⟨HGH.out,HYZ.out⟩ ?_
   rintro Z ⟨hG,yZ⟩
   have e0:=yZ.cell 0 rfl
   have e1:=yZ.cell 1 rfl
   exact bodyPost_ret (v:=.agg #[zI (vF (x)).1,zI (vF (x)).2]) (by simp[results,Tryz.results210,go_sem,e0,e1]) rfl ⟨rfl,hG⟩
theorem zbj:∀(n m:Nat) (f:Nat->Nat),(∀i,i<m->f i<n)->(∀i j,i<m->j<m->f i=f j->i=j)->m<=n
 | 0,m,f,h,_=>by
  cases m with
  | zero=>exact Nat.le_refl _
  | succ m=>exact absurd (h 0 (by omega)) yB
 | n+1,m,f,h,hi=>by
  cases m with
  | zero=>exact Nat.zero_le _
  | succ m =>
   -- the last is taken out;who has the greatest takes its place
   have:=zbj n m (fun i=>if f i=n then f m else f i) (fun i yz=>by
    show(if f i=n then f m else f i)<n
    split
    ·rename_i e
     have h1:=h m (by omega)
     have:f m≠n:=fun e2=>by have:=hi i m (by omega) (by omega) (e.trans e2.symm);omega
     omega
    ·rename_i e
     have:=h i (by omega)
     omega) (fun i j yz Xy e=>by
    have e':(if f i=n then f m else f i)=(if f j=n then f m else f j):=e
    split at e' <;> split at e'
    ·rename_i a b
     exact hi i j (by omega) (by omega) (a.trans b.symm)
    ·have:=hi m j (by omega) (by omega) e';omega
    ·have:=hi i m (by omega) (by omega) e';omega
    ·exact hi i j (by omega) (by omega) e')
   omega
theorem jB.few {L:yF} {h:Hp} (s:jB 0 0 L h) (hc:h.za.length<=800) (hp:L.zd.length<=900):ul L/\L.ze.length<=800:=by
 have ht:L.ze.length<=L.zj.length:=zbj _ _ (fun j=>((L.ze[j]?).map fun t:kN=>t.body).getD 0) (fun j hj=>by
  show((L.ze[j]?).map fun t:kN=>t.body).getD 0<_
  rw[List.getElem?_eq_getElem hj]
  exact(s.tb j _ (List.getElem?_eq_getElem hj)).1) (fun j q hj hq e=>by
  have e':((L.ze[j]?).map fun t:kN=>t.body).getD 0=((L.ze[q]?).map fun t:kN=>t.body).getD 0:=e
  rw[List.getElem?_eq_getElem hj,List.getElem?_eq_getElem hq] at e'
  exact s.ti j _ q _ (List.getElem?_eq_getElem hj) (List.getElem?_eq_getElem hq) e')
 have hn:=s.n
 have hf:∀i,qq L i<=L.zj.length:=fun i=>zbj _ _ (fun k=>((L.fr i k).map fun f:ki=>f.body).getD 0) (fun k hk=>by
  obtain⟨f,hf⟩:=vG (L:=L) hk
  show((L.fr i k).map fun f:ki=>f.body).getD 0<_
  rw[hf]
  exact(s.fb i k f hf (yP _ _)).1) (fun k q hk hq e=>by
  obtain⟨f,hf⟩:=vG (L:=L) hk
  obtain⟨g,hg⟩:=vG (L:=L) hq
  have e':((L.fr i k).map fun f:ki=>f.body).getD 0=((L.fr i q).map fun f:ki=>f.body).getD 0:=e
  rw[hf,hg] at e'
  exact(s.fi i k f i q g hf (yP _ _) hg (yP _ _) e').2)
 exact⟨⟨fun i=>by have:=hf i;omega,hp,by omega⟩,by omega⟩
structure RV (B:Nat) (ρ:Nat->Rl) (w:World) (P:Lay) (bl br:Nat) (vp vsd:Value) (ce:Int) (np:Nat) (h:Hp):Prop where
 lv:yj B ρ w P
 hbl:P.bl=bl
 big:B<=w.heap.size
 run:Bx w br 90 [vp,.iface 82 (zJ bl 0),zI h.born,vsd,zI h.code]
 rbr:ρ br=.other
 bbr:B<=br
 zm:zk B w vsd h.zm
 sr:∀g,vsd.ownBlock=some g->ρ g=.other/\g≠br
 sim:jB 0 0 P.L h
 ord:qU P.L
 now:ZJ P.L h
 hce:P.L.cells=ce
 hnp:P.L.zd.length=np
variable {B:Nat} {ρ:Nat->Rl} {w w':World} {P:Lay} {bl br:Nat} {vp vsd:Value} {ce:Int} {np:Nat} {h h':Hp}
theorem RV.below (k:RV B ρ w P bl br vp vsd ce np h) (hb:zO w w'):RV B (zu ρ w .other) w' P bl br vp vsd ce np h :=
 ⟨k.lv.below hb,k.hbl,Nat.le_trans k.big hb.size,k.run.below hb,by rw[yG k.run.lt];exact k.rbr,k.bbr,k.zm.below hb,fun g e=>⟨by rw[yG (k.zm.lt g e).2];exact(k.sr g e).1,(k.sr g e).2⟩,k.sim,k.ord,k.now,k.hce,k.hnp⟩
theorem RV.goes (k:RV B ρ w P bl br vp vsd ce np h) {P':Lay} {ρ':Nat->Rl} (hl:yj B ρ' w' P') (c:Ch (fun r=>r≠.other) ρ ρ' w w') (hbl:P'.bl=P.bl) (hs:jB 0 0 P'.L h') (ho:qU P'.L) (hw:ZJ P'.L h') (hce:P'.L.cells=P.L.cells) (hnp:P'.L.zd.length=P.L.zd.length) (h1:h'.born=h.born) (h2:h'.zm=h.zm) (h3:h'.code=h.code) :
 RV B ρ' w' P' bl br vp vsd ce np h':=by
 have hbr:=k.run.lt
 refine⟨hl,hbl.trans k.hbl,Nat.le_trans k.big c.size,?_,(c.role _ hbr).trans k.rbr,k.bbr,?_,fun g e=>⟨(c.role _ (k.zm.lt g e).2).trans (k.sr g e).1,(k.sr g e).2⟩,hs,ho,hw,hce.trans k.hce,hnp.trans k.hnp⟩
 ·rw[h1,h3]
  exact k.run.kept (c.blk _ hbr (by rw[k.rbr];simp))
 ·rw[h2]
  exact k.zm.kept c.size fun g e=>c.blk g (k.zm.lt g e).2 (by rw[(k.sr g e).1];simp)
def qv (B bl br:Nat) (vp:Value) (ce:Int) (np:Nat) (w:World) (h:Hp) (w':World):Prop:=∃ρ P vsd,RV B ρ w' P bl br vp vsd ce np h/\Below B w w'
theorem qv.first {w0 w1:World} (hb:Below B w0 w1) (h1:qv B bl br vp ce np w1 h w'):qv B bl br vp ce np w0 h w':=by
 obtain⟨ρ,P,vsd,k,b⟩:=h1
 exact⟨ρ,P,vsd,k,hb.trans b⟩
theorem RV.top (k:RV B ρ w P bl br vp vsd ce np h) (h0:0<=h.now):∃(i m:Nat) (f:ki) (b:jg) (c:Cl),P.L.now=(i:Int)/\i<P.L.zd.length/\qq P.L i=m+1/\P.L.fr i m=some f/\h.now=(f.body:Int)/\P.L.zj[f.body]?=some b/\h.za[f.body]?=some c/\Ym P.L.ze b c/\yJ h=c/\b.zv=false:=by
 rcases k.now with⟨_,e⟩ | ⟨i,hn,hi,hf,ht⟩
 ·omega
 ·obtain⟨m,hm⟩:∃m,qq P.L i=m+1:=⟨qq P.L i - 1,by omega⟩
  obtain⟨f,hfr⟩:=vG (L:=P.L) (i:=i) (k:=m) (by omega)
  have UA:=(k.sim.fb i m f hfr (yP _ _)).1
  obtain⟨c,hc,ha⟩:=k.sim.c f.body _ (List.getElem?_eq_getElem UA)
  rw[KS hm hfr] at ht
  refine⟨i,m,f,_,c,hn,hi,hm,hfr,ht,List.getElem?_eq_getElem UA,hc,ha,?_,k.sim.al i m f _ hfr (yP _ _) (List.getElem?_eq_getElem UA)⟩
  unfold yJ
  rw[ht,Int.toNat_natCast,List.getD_eq_getElem?_getD,hc]
  rfl
theorem zck {B:Nat} {ρ:Nat->Rl} {w:World} {P:Lay} (h:yj B ρ w P) (hB:B<=w.heap.size) {k:Nat} (hk:k<P.L.zj.length) (a b:Int) (hl:P.L.zj[k].zf.length<=1000) :
 Calls Tryz.prog 186 #[zJ (P.D k) 0,.agg #[zI a,zI b]] w fun e w'=>e=.returned (.tuple #[])/\∃T',Goes B ρ w w' {P with T:=T',L:=Qc P.L k {P.L.zj[k] with zf:=P.L.zj[k].zf ++ [(a,b)]}}:=by
 have hA:zO w (w.alloc (.cells #[.int .i64 a,.int .i64 b] 86)):=zR _ _
 have rx:=xJ w 86 (.int .i64 a) (.int .i64 b)
 have zA:(w.alloc (.cells #[.int .i64 a,.int .i64 b] 86)).heap.size=w.heap.size+1:=by simp
 obtain⟨hbd,hrD,hBD⟩:=(h (.body k)) hk
 obtain⟨zT,hgs⟩:=(h (.zf k)) hk
 obtain⟨htr,hgt⟩:=(h (.zg k)) hk
 have hDl:=hbd.lt
 obtain⟨aS,cS,hS,_⟩:=zT.slice
 have hDs:(P.T k).2.ownBlock≠some (P.D k):=fun e=>by have:=hgs _ e;rw[hrD] at this;cases this
 have hbd':Bx w (P.D k) 186 [zI P.L.zj[k].m,zI P.L.zj[k].pc,(P.T k).1,(P.T k).2,.bool P.L.zj[k].zv]:=hbd
 have b3:=hbd'.cell 3 rfl
 have bf3:=hbd'.frozen 3
 have HPU:Hid (∀(W w2:World) (v':Value),zO w W->W.grownBy w2 (P.T k).2.ownBlock->zk B w2 v' (P.L.zj[k].zf ++ [(a,b)])->(v'.ownBlock=(P.T k).2.ownBlock\/v'.ownBlock=some W.heap.size)->∃T',Goes B ρ w (w2.setCell (zH (P.D k) 3) v') {P with T:=T',L:=Qc P.L k {P.L.zj[k] with zf:=P.L.zj[k].zf ++ [(a,b)]}}):=by
  intro W w2 v' hW hg hr hv
  have zW:=hW.size
  have z2:=hg.size
  have c1:Ch (fun r=>r=.body k\/r=.zg k\/r=.zf k) ρ (zu (zu ρ w .other) W (.zf k)) w w2:=(Ch.below hW _ ρ .other).trans (Ch.grown hg _ (.zf k) fun g e=>by rw[yG (zT.lt g e).2];exact .inr (.inr (hgs g e)))
  have rD:zu (zu ρ w .other) W (.zf k) (P.D k)=.body k:=by rw[c1.role _ hDl,hrD]
  have c2:Ch (fun r=>r=.body k\/r=.zg k\/r=.zf k) ρ (zu (zu ρ w .other) W (.zf k)) w (w2.setCell (zH (P.D k) 3) v'):=c1.trans (Ch.set w2 _ _ _ _ (.inl rD))
  have hgv:∀g,v'.ownBlock=some g->zu (zu ρ w .other) W (.zf k) g=.zf k:=fun g e=>by
   rcases hv with x | x
   ·rw[x] at e
    rw[c1.role g (zT.lt g e).2]
    exact hgs g e
   ·rw[x] at e
    injection e with e
    exact qj (by omega)
  have hblk:∀g,g<w.heap.size->(P.T k).2.ownBlock≠some g->w2.heap[g]?=w.heap[g]?:=fun g h1 h2=>(hg.block g (by omega) (fun e=>h2 e.symm)).trans (hW.block g h1)
  have hx:Bx (w2.setCell (zH (P.D k) 3) v') (P.D k) 186 (xx ((P.T k).1,v') {P.L.zj[k] with zf:=P.L.zj[k].zf ++ [(a,b)]}):=(hbd'.kept (hblk _ hDl hDs)).set 3 v'
  have hneT:∀g,(P.T k).1.ownBlock=some g->g≠P.D k/\(P.T k).2.ownBlock≠some g:=fun g e=>⟨fun e2=>(by have:=hgt g e;rw[e2,hrD] at this;cases this),fun e2=>(by have:=hgt g e;rw[hgs g e2] at this;cases this)⟩
  have ht:zk B (w2.setCell (zH (P.D k) 3) v') (P.T k).1 P.L.zj[k].zg:=htr.kept c2.size fun g e=>(Below.heap_setCell _ _ _ _ (hneT g e).1).trans (hblk g (htr.lt g e).2 (hneT g e).2)
  have hs:zk B (w2.setCell (zH (P.D k) 3) v') v' (P.L.zj[k].zf ++ [(a,b)]):=hr.kept (by simp[World.setCell]) fun g e=>Below.heap_setCell _ _ _ _ fun e2=>by
   have e3:g=P.D k:=e2
   have:=hgv g e
   rw[e3,rD] at this
   cases this
  have hbb:Below B w (w2.setCell (zH (P.D k) 3) v'):=((hW.mono hB).grown hg (by omega) (fun g e=>(zT.lt g e).1)).setCell (p:=zH (P.D k) 3) hBD v'
  exact⟨_,_,h.setBody hk c2 hx ht hs (fun g e=>by rw[c2.role g (htr.lt g e).2];exact hgt g e) hgv,c2.mono (fun r e=>by rcases e with e | e | e <;> rw[e] <;> simp),hbb⟩
 rw[hS] at zT hDs b3 HPU
 have VM:=zT.below hA
 obtain⟨d,hd⟩:∃d,P.D k=d:=⟨_,rfl⟩
 rw[hd] at b3 bf3 hDl hDs HPU ⊢
 generalize P.L.zj[k]=bb at *
 obtain⟨st,hst⟩:∃st,bb.zf=st:=⟨_,rfl⟩
 rw[hst] at HPU VM zT hDs b3 hl ⊢
 have b3A:=zc hA b3
 have bf3A:(w.alloc (.cells #[.int .i64 a,.int .i64 b] 86)).frozen? (zH d 3)=false:=(World.frozen?_of_block (a:=⟨d,3,none⟩) (hA.block _ hDl)).trans bf3
 clear hbd hbd' hrD hBD hgs htr hgt hS hd hst h
 go_enter Tryz.func186,Tryz.ntmps186
 go_upto_region 1 with fail
 generalize w.alloc (.cells #[.int .i64 a,.int .i64 b] 86)=W1 at *
 have NA:zO W1 (W1.alloc (.cells #[.int .i64 a,.int .i64 b] 86)).drew:=(zR _ _).drew
 have zy:=VM.below NA
 have zN:(W1.alloc (.cells #[.int .i64 a,.int .i64 b] 86)).drew.heap.size=W1.heap.size+1:=by simp
 obtain⟨⟨x0,x1⟩,_⟩:=zZ rx
 have hBz:B<=(W1.alloc (.cells #[.int .i64 a,.int .i64 b] 86)).drew.heap.size:=by omega
 have HE:Hid (∀v' w',zk B w' v' (st ++ [(a,b)])->(W1.alloc (.cells #[.int .i64 a,.int .i64 b] 86)).drew.grownBy w' (Value.slice aS st.length cS).ownBlock->(v'.ownBlock=(Value.slice aS st.length cS).ownBlock\/v'.ownBlock=some (W1.alloc (.cells #[.int .i64 a,.int .i64 b] 86)).drew.heap.size)->(w'.cell? (zH d 3)=some (.slice aS st.length cS)/\w'.frozen? (zH d 3)=false)/\∃T',Goes B ρ w (w'.setCell (zH d 3) v') {P with T:=T',L:=Qc P.L k {bb with zf:=st ++ [(a,b)]}}):=by
  intro v' w' hr hg hv
  have xF:=hA.size
  have hDb:w'.heap[d]?=w.heap[d]?:=((hg.block d (by omega) (fun e=>hDs e.symm)).trans (NA.block d (by omega))).trans (hA.block d hDl)
  exact⟨⟨(World.cell?_of_block (a:=⟨d,3,none⟩) hDb).trans b3,(World.frozen?_of_block (a:=⟨d,3,none⟩) hDb).trans bf3⟩,HPU.out _ w' v' (hA.trans (NA.mono (by omega))) hg hr hv⟩
 have KA:yo (W1.alloc (.cells #[.int .i64 a,.int .i64 b] 86)).drew (.slice (some ⟨w.heap.size+1,0,none⟩) 1 1) [(a,b)]:=by rw[<-zA];exact wl W1 a b _ _
 clear HPU VM rx b3 bf3 NA zT
 go_region_law (refine wn _ (by rfl) _ _ (by rfl) B _ _ st [(a,b)] (by rfl) (by rfl) zy KA (by simp;omega) (by simp;omega) ?_;intro v' w' zT hg hbk;obtain⟨a',c',hv',_⟩:=zT.slice;rw[List.length_append] at hv';subst hv';obtain⟨⟨z4,f4⟩,Wy⟩:=HE.out _ w' zT hg hbk)
 all_goals exact bodyPost_end (results_none rfl _ _ _) rfl ⟨rfl,Wy⟩
theorem Tryz.goP_running (bl : Nat) (w : World) : (method 364 82 (zJ bl 0) "loop.example/gemel/impl.running").run Tryz.prog w = .ok (209, zJ bl 0) w := by kernel_rfl
theorem Tryz.goP_looked (bl : Nat) (w : World) : (method 364 82 (zJ bl 0) "loop.example/gemel/impl.looked").run Tryz.prog w = .ok (208, zJ bl 0) w := by kernel_rfl
theorem Tryz.goP_here (bl : Nat) (w : World) : (method 364 82 (zJ bl 0) "loop.example/gemel/impl.here").run Tryz.prog w = .ok (206, zJ bl 0) w := by kernel_rfl
theorem Tryz.goP_sender (bl : Nat) (w : World) : (method 364 82 (zJ bl 0) "loop.example/gemel/impl.sender").run Tryz.prog w = .ok (210, zJ bl 0) w := by kernel_rfl
theorem Tryz.goP_enter (bl : Nat) (w : World) : (method 364 82 (zJ bl 0) "loop.example/gemel/impl.enter").run Tryz.prog w = .ok (205, zJ bl 0) w := by kernel_rfl
theorem Tryz.goP_leave (bl : Nat) (w : World) : (method 364 82 (zJ bl 0) "loop.example/gemel/impl.leave").run Tryz.prog w = .ok (207, zJ bl 0) w := by kernel_rfl
theorem Tryz.goP_backTo (bl : Nat) (w : World) : (method 364 82 (zJ bl 0) "loop.example/gemel/impl.backTo").run Tryz.prog w = .ok (204, zJ bl 0) w := by kernel_rfl
variable {B:Nat} {ρ:Nat->Rl} {w w':World} {P:Lay} {bl br:Nat} {vp vsd:Value} {ce:Int} {np:Nat} {h h':Hp}
theorem RV.turn (k:RV B ρ w P bl br vp vsd ce np h) {q:Nat} {b':jg} {c c':Cl} {b:jg} (hb:P.L.zj[q]?=some b) (hc:h.za[q]?=some c) (ha:Ym P.L.ze b' c') (hs:c'.zi=c.zi) (hd:b'.zv=b.zv) {T':Nat->Value × Value} (hG:Goes B ρ w w' {P with T:=T',L:=Qc P.L q b'}) :
 ∃ρ',RV B ρ' w' {P with T:=T',L:=Qc P.L q b'} bl br vp vsd ce np {h with za:=h.za.set q c'}/\Ch (fun r=>r≠.other) ρ ρ' w w'/\Below B w w':=by
 obtain⟨ρ',hl,c1,b1⟩:=hG
 exact⟨ρ',k.goes hl c1 rfl (k.sim.body hb hc ha hs hd h.now h.born h.code h.zm) k.ord k.now rfl rfl rfl rfl rfl,c1,b1⟩
theorem Ym.push {ts:List kN} {b:jg} {c:Cl} (a:Ym ts b c) {v:Int × Int} (hv:v.1=2->∃j:Nat,v.2=(j:Int)/\j<ts.length):Ym ts {b with zf:=b.zf ++ [v]} {c with zf:=c.zf ++ [yQ ts v]} :=
 ⟨a.m,a.pc,a.zv,a.zg,by show c.zf ++ [_]=(b.zf ++ [v]).map _;rw[a.zf,List.map_append];rfl,a.vt,fun x hx=>by
  rcases List.mem_append.1 hx with h1 | h1
  ·exact a.vs x h1
  ·rw[List.mem_singleton] at h1;subst h1;exact hv⟩
theorem zae (k:RV B ρ w P bl br vp vsd ce np h) (h0:0<=h.now) (hcl:h.za.length<=800) (hnp:np<=900) (a b:Int) (hl:(yJ h).zf.length<=1000) (hv:a=2->∃j:Nat,b=(j:Int)/\j<P.L.ze.length) :
 Calls Tryz.prog 174 #[zJ br 0,.agg #[zI a,zI b]] w fun e w'=>e=.returned (.tuple #[])/\qv B bl br vp ce np w (yI h (yQ P.L.ze (a,b))) w':=by
 obtain⟨i,m,f,bd,c,hn,hi,hm,hfr,ht,hbk,hc,ha,Zz,_⟩:=k.top h0
 obtain⟨few,_⟩:=k.sim.few hcl (by rw[k.hnp];exact hnp)
 have hB:=k.big
 obtain⟨hbl,hbe⟩:=List.getElem?_eq_some_iff.1 hbk
 have hsl:bd.zf.length<=1000:=by
  rw[Zz,ha.zf,List.length_map] at hl
  exact hl
 have hpush:yI h (yQ P.L.ze (a,b))={h with za:=h.za.set f.body {c with zf:=c.zf ++ [yQ P.L.ze (a,b)]}}:=by
  unfold yI setH
  rw[Zz,ht,Int.toNat_natCast]
 rw[hpush]
 have hA:zO w (w.alloc (.cells #[.int .i64 a,.int .i64 b] 86)):=zR _ _
 have rx:=xJ w 86 (.int .i64 a) (.int .i64 b)
 have hend:∀(W:World),zO w W->Calls Tryz.prog 186 #[zJ (P.D f.body) 0,.agg #[zI a,zI b]] W fun e w'=>e=.returned (.tuple #[])/\qv B bl br vp ce np w {h with za:=h.za.set f.body {c with zf:=c.zf ++ [yQ P.L.ze (a,b)]}} w':=fun W hW=>by
  have kW:=k.below hW
  refine(zck kW.lv kW.big hbl a b (by rw[hbe];exact hsl)).mono ?_
  rintro e w' ⟨rfl,T',hG⟩
  rw[hbe] at hG
  obtain⟨ρ',k',_,b'⟩:=kW.turn hbk hc (ha.push (v:=(a,b)) hv) (c':={c with zf:=c.zf ++ [yQ P.L.ze (a,b)]}) rfl rfl hG
  exact⟨rfl,ρ',_,vsd,k',(hW.mono hB).trans b'⟩
 have hrun:∀(W:World),zO w W->Calls Tryz.prog 209 #[zJ bl 0] W fun e w'=>e=.returned (zJ (P.D f.body) 0)/\zO W w':=fun W hW=>by
  have kW:=k.below hW
  rw[<-k.hbl]
  exact XN kW.lv hn hm hfr (by have:=few.f i;omega) (by have:=few.p;omega)
 have hm:=Tryz.goP_running bl
 have HP:Hid (∀(W:World),zO w W->Calls Tryz.prog 186 #[zJ (P.D f.body) 0,.agg #[zI a,zI b]] W fun e w'=>e=.returned (.tuple #[])/\qv B bl br vp ce np w {h with za:=h.za.set f.body {c with zf:=c.zf ++ [yQ P.L.ze (a,b)]}} w'):=hend
 have HR:Hid (∀(W:World),zO w W->Calls Tryz.prog 209 #[zJ bl 0] W fun e w'=>e=.returned (zJ (P.D f.body) 0)/\zO W w'):=hrun
 have hrn:=k.run.below hA
 clear hend hrun k ha hfr hbk hc hl hbe hn few
 go_enter Tryz.func174,Tryz.ntmps174
 go_upto_region 1 with fail
 generalize w.alloc (.cells #[.int .i64 a,.int .i64 b] 86)=W1 at *
 have hAd:zO w W1.drew:=hA.drew
 obtain⟨⟨x0,x1⟩,_⟩:=zZ rx
 have y1:=hrn.cell 1 rfl
 have xF:=hA.size
 clear hrn
 go_region_law (first
  | (go_simp;go_at_call 186;refine(HP.out _ (by first | exact hA2 | exact hAd)).mono ?_;rintro e w2 ⟨rfl,hE⟩)
  | (go_simp;go_at_call 209;refine(HR.out _ hAd).mono ?_;rintro e w3 ⟨rfl,xn⟩;have hA2:=hAd.trans (xn.mono (by show w.heap.size<=W1.heap.size;omega));have z0:=zc xn x0;have z1:=zc xn x1))
 all_goals exact bodyPost_end (results_none rfl _ _ _) rfl ⟨rfl,hE⟩
variable {B:Nat} {ρ:Nat->Rl} {w w':World} {P:Lay} {bl br:Nat} {vp vsd:Value} {ce:Int} {np:Nat} {h h':Hp}
theorem jB.other {I K:Nat} {L:yF} (s:jB I K L h) (hc:h'.za=h.za):jB I K L h' :=
 ⟨s.fb,s.tb,s.fi,s.ti,s.tf,s.ba,s.se,s.al,by rw[hc];exact s.n,by rw[hc];exact s.c,by rw[hc];exact s.fs,by rw[hc];exact s.ts⟩
theorem RV.say (k:RV B ρ w P bl br vp vsd ce np h) {W w2:World} {v':Value} {x:Int × Int} (hW:zO w W) (hg:W.grownBy w2 vsd.ownBlock) (hr:zk B w2 v' (h.zm ++ [x])) (hv:v'.ownBlock=vsd.ownBlock\/v'.ownBlock=some W.heap.size) :
 qv B bl br vp ce np w {h with zm:=h.zm ++ [x]} (w2.setCell (zH br 3) v'):=by
 have zW:=hW.size
 have z2:=hg.size
 have hbr:=k.run.lt
 have hbs:vsd.ownBlock≠some br:=fun e=>(k.sr br e).2 rfl
 have c1:Ch (fun r=>r=.other) ρ (zu (zu ρ w .other) W .other) w w2:=(Ch.below hW _ ρ .other).trans (Ch.grown hg _ .other fun g e=>by rw[yG (k.zm.lt g e).2];exact(k.sr g e).1)
 have rb:zu (zu ρ w .other) W .other br=.other:=(c1.role _ hbr).trans k.rbr
 have c2:Ch (fun r=>r=.other) ρ (zu (zu ρ w .other) W .other) w (w2.setCell (zH br 3) v'):=c1.trans (Ch.set w2 _ _ _ _ rb)
 have hkr:w2.heap[br]?=w.heap[br]?:=(hg.block br (by omega) (fun e=>hbs e.symm)).trans (hW.block br hbr)
 have hsv:∀g,v'.ownBlock=some g->zu (zu ρ w .other) W .other g=.other/\g≠br:=fun g e=>by
  rcases hv with y | y
  ·rw[y] at e
   exact⟨(c1.role g (k.zm.lt g e).2).trans (k.sr g e).1,(k.sr g e).2⟩
  ·rw[y] at e
   injection e with e
   exact⟨qj (by omega),by omega⟩
 refine⟨_,P,v',⟨k.lv.loose c2,k.hbl,Nat.le_trans k.big c2.size,(k.run.kept hkr).set 3 v',rb,k.bbr,hr.kept (by simp[World.setCell]) fun g e=>Below.heap_setCell _ _ _ _ (hsv g e).2,hsv,k.sim.other rfl,k.ord,k.now,k.hce,k.hnp⟩,?_⟩
 have hB:=k.big
 exact((hW.mono hB).grown hg (by omega) (fun g e=>(k.zm.lt g e).1)).setCell (p:=zH br 3) k.bbr v'
theorem RV.sayTail (k:RV B ρ w P bl br vp vsd ce np h) {W1:World} (hA:zO w W1) (a b:Int) {sa:Option Addr} {sc:Nat} (hS:vsd=.slice sa h.zm.length sc) :
 zk B (W1.alloc (.cells #[.int .i64 a,.int .i64 b] 86)).drew (.slice sa h.zm.length sc) h.zm/\W1.cell? (zH br 3)=some (.slice sa h.zm.length sc) /\
 ∀v' w',zk B w' v' (h.zm ++ [(a,b)])->(W1.alloc (.cells #[.int .i64 a,.int .i64 b] 86)).drew.grownBy w' (Value.slice sa h.zm.length sc).ownBlock->(v'.ownBlock=(Value.slice sa h.zm.length sc).ownBlock\/v'.ownBlock=some (W1.alloc (.cells #[.int .i64 a,.int .i64 b] 86)).drew.heap.size) ->
  (w'.cell? (zH br 3)=some (.slice sa h.zm.length sc)/\w'.frozen? (zH br 3)=false)/\qv B bl br vp ce np w {h with zm:=h.zm ++ [(a,b)]} (w'.setCell (zH br 3) v'):=by
 have hz:=hA.size
 have NA:zO w (W1.alloc (.cells #[.int .i64 a,.int .i64 b] 86)).drew:=(hA.alloc (by omega) _).drew
 have hbr:=k.run.lt
 have hsd:=k.zm
 have hrn:=k.run
 rw[hS] at hsd hrn
 refine⟨hsd.below NA,zc hA (hrn.cell 3 rfl),fun v' w' hr hg hv=>?_⟩
 have hzN:=NA.size
 have qF:(Value.slice sa h.zm.length sc).ownBlock≠some br:=fun e=>(k.sr br (by rw[hS];exact e)).2 rfl
 have hk:w'.heap[br]?=w.heap[br]?:=(hg.block br (by omega) (fun e=>qF e.symm)).trans (NA.block br hbr)
 exact⟨⟨(World.cell?_of_block (a:=⟨br,3,none⟩) hk).trans (hrn.cell 3 rfl),(World.frozen?_of_block (a:=⟨br,3,none⟩) hk).trans (hrn.frozen 3)⟩,k.say NA (by rw[hS];exact hg) hr (by rw[hS];exact hv)⟩
theorem zaf (k:RV B ρ w P bl br vp vsd ce np h) (a b:Int) (hv:a=2->∃j:Nat,b=(j:Int)/\j<P.L.ze.length) (hsl:h.zm.length<=2900000) :
 Calls Tryz.prog 178 #[zJ br 0,.agg #[zI a,zI b]] w fun e w'=>e=.returned (.tuple #[])/\qv B bl br vp ce np w (uN h (yQ P.L.ze (a,b))) w':=by
 have hA:zO w (w.alloc (.cells #[.int .i64 a,.int .i64 b] 86)):=zR _ _
 have rx:=xJ w 86 (.int .i64 a) (.int .i64 b)
 have zA:(w.alloc (.cells #[.int .i64 a,.int .i64 b] 86)).heap.size=w.heap.size+1:=by simp
 obtain⟨sa,sc,hS,_⟩:=k.zm.slice
 have hbr:=k.run.lt
 have hB:=k.big
 by_cases ha:a=2
 ·subst ha
  obtain⟨j,rfl,hj⟩:=hv rfl
  obtain⟨t,ht⟩:∃t,P.L.ze[j]?=some t:=⟨_,List.getElem?_eq_getElem hj⟩
  have htb:=(k.sim.tb j t ht).1
  obtain⟨c,hc,hac⟩:=k.sim.c t.body _ (List.getElem?_eq_getElem htb)
  have hvb:yQ P.L.ze (2,(j:Int))=(2,(t.body:Int)):=by
   show(if(2:Int)=2 then((2:Int),YW P.L.ze (j:Int)) else _)=_
   rw[if_pos rfl]
   unfold YW
   rw[if_neg (by omega),Int.toNat_natCast,ht]
   rfl
  have UE:uN h (yQ P.L.ze (2,(j:Int)))={h with zm:=h.zm ++ [(2,P.L.zj[t.body].m)]}:=by
   rw[hvb]
   unfold uN XP
   rw[if_pos rfl,Int.toNat_natCast,List.getD_eq_getElem?_getD,hc]
   show {h with zm:=h.zm ++ [(2,c.m)]}=_
   rw[hac.m]
  rw[UE]
  have k1:=k.below hA
  have hm:=Tryz.goP_looked bl
  have Vf:=((k1.lv (.body t.body)) htb).1
  have c0:(w.alloc (.cells #[.int .i64 2,.int .i64 (j:Int)] 86)).cell? (zH (P.D t.body) 0)=some (.int .i64 P.L.zj[t.body].m):=Vf.cell 0 rfl
  have hW:zO w (((w.alloc (.cells #[.int .i64 2,.int .i64 (j:Int)] 86)).setCell (zH w.heap.size 1) (.int .i64 P.L.zj[t.body].m)).drew):=(hA.setCell (p:=zH w.heap.size 1) zD _).drew
  have rW:(((w.alloc (.cells #[.int .i64 2,.int .i64 (j:Int)] 86)).setCell (zH w.heap.size 1) (.int .i64 P.L.zj[t.body].m)).drew).rowIs w.heap.size 86 2 (Jn (.int .i64 2) (.int .i64 P.L.zj[t.body].m)):=(rx.set 1 (.int .i64 P.L.zj[t.body].m)).congr fun q hq=>by match q,hq with | 0,_=>rfl | 1,_=>rfl
  obtain⟨zy,c3,hend⟩:=k.sayTail hW 2 P.L.zj[t.body].m hS
  have HE:Hid _:=hend
  clear hend
  obtain⟨⟨x0,x1⟩,xf0,xf1⟩:=zZ rx
  have y1:=k1.run.cell 1 rfl
  obtain⟨⟨t0,t1⟩,_⟩:=zZ rW
  generalize P.L.zj[t.body].m=mm at *
  have hlk:∀W,zO w W->Calls Tryz.prog 208 #[zJ bl 0,zI (j:Int)] W fun e w'=>e=.returned (zJ (P.D t.body) 0)/\w'=W:=fun W hW=>by
   have:=Kv (k.below hW).lv ht
   rw[k.hbl] at this
   exact this
  have HLK:Hid (∀W,zO w W->Calls Tryz.prog 208 #[zJ bl 0,zI (j:Int)] W fun e w'=>e=.returned (zJ (P.D t.body) 0)/\w'=W):=hlk
  clear hlk
  go_enter Tryz.func178,Tryz.ntmps178
  go_upto_region 1 with fail
  generalize w.alloc (.cells #[.int .i64 2,.int .i64 (j:Int)] 86)=W1 at *
  have HR:=HLK.out W1.drew hA.drew
  have zdL:br<W1.heap.size:=by omega
  have hwW:w.heap.size<W1.heap.size:=by omega
  have ZQ:(W1.setCell (zH w.heap.size 1) (zI mm)).drew.heap.size=w.heap.size+1:=by simp[World.setCell];exact zA
  have HRH:Hid (Calls Tryz.prog 208 #[zJ bl 0,zI (j:Int)] W1.drew fun e w'=>e=.returned (zJ (P.D t.body) 0)/\w'=W1.drew):=HR
  clear k k1 rx rW hW HR Vf ht hac hc
  go_wp2_with fail
  go_region_law (go_simp;go_at_call 208;refine HRH.out.mono ?_;rintro e w' ⟨rfl,hw⟩;obtain rfl:=hw.symm)
  all_goals
   generalize (W1.setCell (zH w.heap.size 1) (zI mm)).drew=W2 at *
   have KA:yo (W2.alloc (.cells #[.int .i64 2,.int .i64 mm] 86)).drew (.slice (some ⟨w.heap.size+1,0,none⟩) 1 1) [(2,mm)]:=by rw[<-ZQ];exact wl W2 2 mm _ _
   have xF:B<=(W2.alloc (.cells #[.int .i64 2,.int .i64 mm] 86)).drew.heap.size:=by simp;omega
   have hbr2:br<W2.heap.size:=by omega
   have hw2:w.heap.size<W2.heap.size:=by omega
   clear x0 x1 y1 c0 xf0 xf1
   go_wp2_with fail
   go_region_law (refine wn _ (by rfl) _ _ (by rfl) B _ _ h.zm [(2,mm)] (by rfl) (by rfl) zy KA (by simp;omega) (by first | exact xF | (simp;omega)) ?_;intro v' w' zT hg hbk;obtain⟨a',c',hv',_⟩:=zT.slice;rw[List.length_append] at hv';subst hv';obtain⟨⟨z4,f4⟩,Wy⟩:=HE.out _ w' zT hg hbk)
   all_goals exact bodyPost_end (results_none rfl _ _ _) rfl ⟨rfl,Wy⟩
 ·have hae:(a == 2)=false:=zG.2 ha
  have UE:uN h (yQ P.L.ze (a,b))={h with zm:=h.zm ++ [(a,b)]}:=by
   have:yQ P.L.ze (a,b)=(a,b):=by unfold yQ;rw[if_neg ha]
   rw[this]
   unfold uN XP
   rw[if_neg ha]
  rw[UE]
  obtain⟨zy,c3,hend⟩:=k.sayTail hA a b hS
  have HE:Hid _:=hend
  clear hend
  obtain⟨⟨x0,x1⟩,_⟩:=zZ rx
  go_enter Tryz.func178,Tryz.ntmps178
  go_upto_region 1 with fail
  generalize w.alloc (.cells #[.int .i64 a,.int .i64 b] 86)=W1 at *
  have KA:yo (W1.alloc (.cells #[.int .i64 a,.int .i64 b] 86)).drew (.slice (some ⟨w.heap.size+1,0,none⟩) 1 1) [(a,b)]:=by rw[<-zA];exact wl W1 a b _ _
  have xF:B<=(W1.alloc (.cells #[.int .i64 a,.int .i64 b] 86)).drew.heap.size:=by simp;omega
  have zdL:br<W1.heap.size:=by omega
  have hwW:w.heap.size<W1.heap.size:=by omega
  clear k rx hv
  go_wp2_with fail
  go_region_law (refine wn _ (by rfl) _ _ (by rfl) B _ _ h.zm [(a,b)] (by rfl) (by rfl) zy KA (by simp;omega) (by first | exact xF | (simp;omega)) ?_;intro v' w' zT hg hbk;obtain⟨a',c',hv',_⟩:=zT.slice;rw[List.length_append] at hv';subst hv';obtain⟨⟨z4,f4⟩,Wy⟩:=HE.out _ w' zT hg hbk)
  all_goals exact bodyPost_end (results_none rfl _ _ _) rfl ⟨rfl,Wy⟩
variable {B:Nat} {ρ:Nat->Rl} {w w':World} {P:Lay} {bl br:Nat} {vp vsd:Value} {ce:Int} {np:Nat} {h h':Hp} {q:Nat} {bd:jg} {c:Cl}
structure RC (B:Nat) (ρ:Nat->Rl) (w:World) (P:Lay) (bl br:Nat) (vp vsd:Value) (ce:Int) (np:Nat) (h:Hp) (q:Nat) (bd:jg) (c:Cl):Prop where
 k:RV B ρ w P bl br vp vsd ce np h
 hb:P.L.zj[q]?=some bd
 hc:h.za[q]?=some c
 ha:Ym P.L.ze bd c
 nw:h.now=(q:Int)
 few:ul P.L
 few8:P.L.ze.length<=800
 run:∀W,zO w W->Calls Tryz.prog 209 #[zJ bl 0] W fun e w'=>e=.returned (zJ (P.D q) 0)/\zO W w'
 look:∀(j:Nat) (t:kN),P.L.ze[j]?=some t->∀W,zO w W->Calls Tryz.prog 208 #[zJ bl 0,zI (j:Int)] W fun e w'=>e=.returned (zJ (P.D t.body) 0)/\w'=W
 put:∀a b:Int,(a=2->∃j:Nat,b=(j:Int)/\j<P.L.ze.length)->∀W,zO w W->Calls Tryz.prog 174 #[zJ br 0,.agg #[zI a,zI b]] W fun e w'=>e=.returned (.tuple #[])/\qv B bl br vp ce np w (yI h (yQ P.L.ze (a,b))) w'
 tm:∃a1 k1,w.cell? (zH (P.D q) 2)=some (.slice a1 bd.zg.length k1)
theorem RV.rc (k:RV B ρ w P bl br vp vsd ce np h) (h0:0<=h.now) (hcl:h.za.length<=800) (hnp:np<=900) (hl:(yJ h).zf.length<=1000):∃q bd c,RC B ρ w P bl br vp vsd ce np h q bd c/\yJ h=c:=by
 obtain⟨i,m,f,bd,c,hn,hi,hm,hfr,ht,hbk,hc,ha,Zz,_⟩:=k.top h0
 obtain⟨few,f8⟩:=k.sim.few hcl (by rw[k.hnp];exact hnp)
 obtain⟨hbl,hbe⟩:=List.getElem?_eq_some_iff.1 hbk
 have hB:=k.big
 refine⟨f.body,bd,c,⟨k,hbk,hc,ha,ht,few,f8,fun W hW=>?_,fun j t hj W hW=>?_,fun a b hv W hW=>?_,?_⟩,Zz⟩
 ·rw[<-k.hbl]
  exact XN (k.below hW).lv hn hm hfr (by have:=few.f i;omega) (by have:=few.p;omega)
 ·have:=Kv (k.below hW).lv hj
  rw[k.hbl] at this
  exact this
 ·refine(zae (k.below hW) h0 hcl hnp a b hl hv).mono ?_
  rintro e w' ⟨rfl,hE⟩
  exact⟨rfl,hE.first (hW.mono hB)⟩
 ·obtain⟨a1,k1,a2,k2,hT⟩:=k.lv.lists hbl
  have hbody:=((k.lv (.body f.body)) hbl).1
  rw[hT] at hbody
  unfold xx at hbody
  exact⟨a1,k1,by rw[<-hbe];exact hbody.cell 2 rfl⟩
theorem zeG (k:RC B ρ w P bl br vp vsd ce np h q bd c) (a:Int) (vt:Value) :
 Calls Tryz.prog 146 #[zJ br 0,zI a,vt] w fun e w'=>e=.returned (.tuple #[])/\qv B bl br vp ce np w (yI h (1,a)) w':=by
 have HP:=k.put 1 a (fun e=>by omega)
 have hvb:yQ P.L.ze (1,a)=(1,a):=rfl
 rw[hvb] at HP
 have HPH:Hid _:=HP
 clear HP k
 go_enter Tryz.func146,Tryz.ntmps146
 go_wp2_with (first
  | (go_at_call 175;refine(jn a _).mono ?_;rintro e w2 ⟨rfl,hb⟩)
  | (go_at_call 174;refine(HPH.out _ hb).mono ?_;rintro e w3 ⟨rfl,hE⟩))
 exact bodyPost_end (results_none rfl _ _ _) rfl ⟨rfl,hE⟩
theorem zds (k:RC B ρ w P bl br vp vsd ce np h q bd c) (a:Int) (vt:Value) :
 Calls Tryz.prog 149 #[zJ br 0,zI a,vt] w fun e w'=>e=.returned (.tuple #[])/\qv B bl br vp ce np w h w':=by
 go_enter Tryz.func149,Tryz.ntmps149
 go_wp2
 exact bodyPost_end (results_none rfl _ _ _) rfl ⟨rfl,ρ,P,vsd,k.k,zS⟩
theorem zeI (k:RC B ρ w P bl br vp vsd ce np h q bd c) (hsl:h.zm.length<=2900000) (a:Int) {vt:Value} {Q:Nat->Prop} {args:yH} (t:Tk Q w vt args) (h1:0<args.length) (hv:args[0].1=2->∃j:Nat,args[0].2=(j:Int)/\j<P.L.ze.length) :
 Calls Tryz.prog 161 #[zJ br 0,zI a,vt] w fun e w'=>e=.returned (.tuple #[])/\qv B bl br vp ce np w (uN h (yQ P.L.ze args[0])) w':=by
 obtain⟨b,o,cap,rfl,c0,c1⟩:=t.cell h1
 rw[Nat.zero_mul,Nat.add_zero] at c0 c1
 have hz:(0:Int)<(args.length:Int):=by omega
 clear t
 generalize args[0]=x at *
 obtain⟨x1,x2⟩:=x
 have HS:=zaf k.k x1 x2 hv hsl
 clear k
 go_enter Tryz.func161,Tryz.ntmps161
 go_wp2_with (go_at_call 178;refine HS.mono ?_;rintro e w3 ⟨rfl,hE⟩)
 exact bodyPost_end (results_none rfl _ _ _) rfl ⟨rfl,hE⟩
theorem zdr (k:RC B ρ w P bl br vp vsd ce np h q bd c) (a:Int) {vt:Value} {Q:Nat->Prop} {args:yH} (t:Tk Q w vt args) (h1:0<args.length) {i:Nat} {tw:kN} (hi:P.L.ze[i]?=some tw) (hv:args[0].2=(i:Int)) {b':jg} (hb':P.L.zj[tw.body]?=some b') :
 Calls Tryz.prog 162 #[zJ br 0,zI a,vt] w fun e w'=>e=.returned (.tuple #[])/\qv B bl br vp ce np w (yI h (Qo b'.zv)) w':=by
 obtain⟨b,o,cap,rfl,c0,c1⟩:=t.cell h1
 rw[Nat.zero_mul,Nat.add_zero] at c0 c1
 rw[hv] at c1
 have hz:(0:Int)<(args.length:Int):=by omega
 have y1:=k.k.run.cell 1 rfl
 have hm:=Tryz.goP_looked bl
 obtain⟨hbl,hbe⟩:=List.getElem?_eq_some_iff.1 hb'
 have hbody:=((k.k.lv (.body tw.body)) hbl).1
 rw[hbe] at hbody
 have z4:w.cell? (zH (P.D tw.body) 4)=some (.bool b'.zv):=hbody.cell 4 rfl
 have HL:=k.look i tw hi w.drew zS.drew
 have HPH:Hid (∀(x:Bool) (w1:World),zO w w1->Calls Tryz.prog 174 #[zJ br 0,.agg #[zI 1,zI (if x then 1 else 0)]] w1 fun e w'=>e=.returned (.tuple #[])/\qv B bl br vp ce np w (yI h (1,(if x then 1 else 0))) w'):=fun x=>k.put 1 (if x then 1 else 0) (fun e=>by omega)
 unfold Qo
 generalize b'.zv=x at *
 clear k t hbody
 go_enter Tryz.func162,Tryz.ntmps162
 go_wp2_with fail
 go_region_law (first
  | (go_simp;go_at_call 208;refine HL.mono ?_;rintro e w' ⟨rfl,hw⟩;obtain rfl:=hw.symm)
  | (go_simp;go_at_call 176;refine(jF x _).mono ?_;rintro e w2 ⟨rfl,hb⟩;have hb':zO w w2:=zS.drew.trans hb)
  | (go_simp;go_at_call 174;refine(HPH.out x _ hb').mono ?_;rintro e w3 ⟨rfl,hE⟩))
 all_goals exact bodyPost_end (results_none rfl _ _ _) rfl ⟨rfl,hE⟩
theorem zcu (k:RC B ρ w P bl br vp vsd ce np h q bd c) (a:Int) {vt:Value} {Q:Nat->Prop} {args:yH} (t:Tk Q w vt args) (h1:0<args.length) {i:Nat} {tw:kN} (hi:P.L.ze[i]?=some tw) (hv:args[0].2=(i:Int)) {b':jg} (hb':P.L.zj[tw.body]?=some b') :
 Calls Tryz.prog 163 #[zJ br 0,zI a,vt] w fun e w'=>e=.returned (.tuple #[])/\qv B bl br vp ce np w (yI h (1,b'.pc)) w':=by
 obtain⟨b,o,cap,rfl,c0,c1⟩:=t.cell h1
 rw[Nat.zero_mul,Nat.add_zero] at c0 c1
 rw[hv] at c1
 have hz:(0:Int)<(args.length:Int):=by omega
 have y1:=k.k.run.cell 1 rfl
 have hm:=Tryz.goP_looked bl
 obtain⟨hbl,hbe⟩:=List.getElem?_eq_some_iff.1 hb'
 have hbody:=((k.k.lv (.body tw.body)) hbl).1
 rw[hbe] at hbody
 have z1:w.cell? (zH (P.D tw.body) 1)=some (zI b'.pc):=hbody.cell 1 rfl
 have HL:=k.look i tw hi w.drew zS.drew
 have HPH:Hid (∀(x:Int) (w1:World),zO w w1->Calls Tryz.prog 174 #[zJ br 0,.agg #[zI 1,zI x]] w1 fun e w'=>e=.returned (.tuple #[])/\qv B bl br vp ce np w (yI h (1,x)) w'):=fun x=>k.put 1 x (fun e=>by omega)
 generalize b'.pc=x at *
 clear k t hbody
 go_enter Tryz.func163,Tryz.ntmps163
 go_wp2_with fail
 go_region_law (first
  | (go_simp;go_at_call 208;refine HL.mono ?_;rintro e w' ⟨rfl,hw⟩;obtain rfl:=hw.symm)
  | (go_simp;go_at_call 175;refine(jn x _).mono ?_;rintro e w2 ⟨rfl,hb⟩;have hb':zO w w2:=zS.drew.trans hb)
  | (go_simp;go_at_call 174;refine(HPH.out x _ hb').mono ?_;rintro e w3 ⟨rfl,hE⟩))
 all_goals exact bodyPost_end (results_none rfl _ _ _) rfl ⟨rfl,hE⟩
variable {B:Nat} {ρ:Nat->Rl} {w w':World} {P:Lay} {bl br:Nat} {vp vsd:Value} {ce:Int} {np:Nat} {h h':Hp} {q:Nat} {bd:jg} {c:Cl}
theorem zdc {L L':yF} (l:jU L L') (i:Nat) (hf:0<qq L i):vQ L' i=vQ L i:=by
 obtain⟨m,hm⟩:∃m,qq L i=m+1:=⟨qq L i - 1,by omega⟩
 rw[vz,vz,l.n i,hm]
 show((L'.fr i m).map fun f:ki=>(f.body:Int)).getD (-1)=((L.fr i m).map fun f:ki=>(f.body:Int)).getD (-1)
 have e:=l.fb i m
 cases h1:L'.fr i m <;> cases h2:L.fr i m <;> rw[h1,h2] at e <;> simp at e ⊢
 rw[e]
theorem ZJ.like {L L':yF} (hw:ZJ L h) (l:jU L L'):ZJ L' h:=by
 rcases hw with⟨e1,e2⟩ | ⟨i,e1,e2,e3,e4⟩
 ·exact .inl ⟨l.now.trans e1,e2⟩
 ·exact .inr ⟨i,l.now.trans e1,by rw[l.pl];exact e2,by rw[l.n i];exact e3,by rw[zdc l i e3];exact e4⟩
theorem RV.like (k:RV B ρ w P bl br vp vsd ce np h) {L1:yF} (l:jU P.L L1) (s:jB 0 0 L1 h) (hG:Goes B ρ w w' {P with L:=L1}):∃ρ',RV B ρ' w' {P with L:=L1} bl br vp vsd ce np h/\Below B w w':=by
 obtain⟨ρ',hl,c1,b1⟩:=hG
 refine⟨ρ',k.goes hl c1 rfl s ?_ (k.now.like l) l.ce l.pl rfl rfl rfl,b1⟩
 have:=k.ord
 unfold qU at this ⊢
 rw[show({P with L:=L1}:Lay).L.order=P.L.order from l.ord,show({P with L:=L1}:Lay).L.zd.length=P.L.zd.length from l.pl]
 exact this
theorem ws {ts:List kN} {j:Nat} {t:kN} (h:ts[j]?=some t):yQ ts (2,(j:Int))=(2,(t.body:Int)):=by
 show(if(2:Int)=2 then((2:Int),YW ts (j:Int)) else _)=_
 rw[if_pos rfl]
 unfold YW
 rw[if_neg (by omega),Int.toNat_natCast,h]
 rfl
theorem RV.putLike (_k:RV B ρ w P bl br vp vsd ce np h) (h0:0<=h.now) (hcl:h.za.length<=800) (hnp:np<=900) (hl:(yJ h).zf.length<=1000) {L1:yF} (l:jU P.L L1) (s:jB 0 0 L1 h) (a b:Int) (hv:a=2->∃j:Nat,b=(j:Int)/\j<L1.ze.length) {w1 w2:World} (hb:Below B w w1) (hG:Goes B ρ w1 w2 {P with L:=L1}) (k1:RV B ρ w1 P bl br vp vsd ce np h) :
 Calls Tryz.prog 174 #[zJ br 0,.agg #[zI a,zI b]] w2 fun e w'=>e=.returned (.tuple #[])/\qv B bl br vp ce np w (yI h (yQ L1.ze (a,b))) w':=by
 obtain⟨ρ',k',b'⟩:=k1.like l s hG
 refine(zae k' h0 hcl hnp a b hl hv).mono ?_
 rintro e w' ⟨rfl,hE⟩
 exact⟨rfl,hE.first (hb.trans b')⟩
theorem zdt (k:RC B ρ w P bl br vp vsd ce np h q bd c) (h0:0<=h.now) (hcl:h.za.length<=800) (hnp:np<=900) (hl:(yJ h).zf.length<=1000) (a:Int) (vt:Value) :
 Calls Tryz.prog 156 #[zJ br 0,zI a,vt] w fun e w'=>e=.returned (.tuple #[])/\qv B bl br vp ce np w (yI h (2,h.now)) w':=by
 obtain⟨i,m,f,_,_,hn,hi,hm,hfr,ht,_⟩:=k.k.top h0
 have HH:Calls Tryz.prog 206 #[zJ bl 0] w fun e w'=>e=.returned (.agg #[zI 2,zI (zx P.L i m).2])/\Goes B ρ w w' {P with L:=(zx P.L i m).1}:=by
  have:=zfm k.k.lv k.k.big k.k.sim hn hm k.few
  rw[<-k.k.hbl]
  exact this
 obtain⟨s1,l1,j,sx,e1,e2,e3⟩:=vC k.k.sim hfr (yP _ _)
 have hP:∀w2,Goes B ρ w w2 {P with L:=(zx P.L i m).1}->Calls Tryz.prog 174 #[zJ br 0,.agg #[zI 2,zI (j:Int)]] w2 fun e w'=>e=.returned (.tuple #[])/\qv B bl br vp ce np w (yI h (2,h.now)) w':=fun w2 hG=>by
  have:=k.k.putLike h0 hcl hnp hl l1 s1 2 (j:Int) (fun _=>⟨j,rfl,(List.getElem?_eq_some_iff.1 e2).1⟩) zS hG k.k
  rw[ws e2] at this
  rw[ht]
  exact this
 rw[e1] at HH
 generalize (zx P.L i m).1=L1 at *
 have HPH:Hid (∀w2,Goes B ρ w w2 {P with L:=L1}->Calls Tryz.prog 174 #[zJ br 0,.agg #[zI 2,zI (j:Int)]] w2 fun e w'=>e=.returned (.tuple #[])/\qv B bl br vp ce np w (yI h (2,h.now)) w'):=hP
 have y1:=k.k.run.cell 1 rfl
 have Qh:=Tryz.goP_here bl
 clear hP k s1 l1 e1 e2 e3 hfr
 go_enter Tryz.func156,Tryz.ntmps156
 go_wp2_with (first
  | (go_at_call 206;refine HH.mono ?_;rintro e w2 ⟨rfl,hG⟩;have HP:=HPH.out w2 hG;clear hG)
  | (go_at_call 174;refine HP.mono ?_;rintro e w3 ⟨rfl,hE⟩))
 exact bodyPost_end (results_none rfl _ _ _) rfl ⟨rfl,hE⟩
theorem zbG {L:yF} (s:jB 0 0 L h) {j:Nat} {t:kN} {c':Cl} (ht:L.ze[j]?=some t) (hc:h.za[t.body]?=some c') :
 jB 0 0 (qw L j).1 h/\jU L (qw L j).1/\yQ (qw L j).1.ze (vF (qw L j).2)=(if 0<=c'.zi then(2,c'.zi) else(0,0))/\((vF (qw L j).2).1=2->∃q:Nat,(vF (qw L j).2).2=(q:Int)/\q<(qw L j).1.ze.length):=by
 have low:∀x:Int,us L.ze.length x->c'.zi=YW L.ze x->yQ L.ze (vF x)=(if 0<=c'.zi then(2,c'.zi) else(0,0))/\((vF x).1=2->∃q:Nat,(vF x).2=(q:Int)/\q<L.ze.length):=fun x hx hs=>by
  rcases hx with rfl | ⟨q,rfl,hq⟩
  ·have e:YW L.ze (-1)=-1:=rfl
   rw[e] at hs
   rw[if_neg (by omega)]
   exact⟨rfl,fun e=>by cases e⟩
  ·have e:vF (q:Int)=(2,(q:Int)):=by unfold vF;rw[if_neg (by omega)]
   have e2:L.ze[q]?=some L.ze[q]:=List.getElem?_eq_getElem hq
   have e3:YW L.ze (q:Int)=(L.ze[q].body:Int):=by
    unfold YW
    rw[if_neg (by omega),Int.toNat_natCast,e2]
    rfl
   rw[e3] at hs
   rw[e,ws e2,hs,if_pos (by omega)]
   exact⟨rfl,fun _=>⟨q,rfl,hq⟩⟩
 have hsl:qw L j=if t.page=-1 then(L,t.zi) else if t.place=0 then(L,yw L t.page.toNat) else zx L t.page.toNat (t.place.toNat - 1):=by unfold qw;rw[ht]
 rw[hsl]
 rcases(s.tb j t ht).2 with e | ⟨i,k,f,hfr,_,_,UA,e1,e2⟩
 ·rw[if_pos e]
  obtain⟨h1,h2⟩:=low t.zi (s.se j t ht e) (s.ts j t c' ht e hc)
  exact⟨s,jU.refl _,h1,h2⟩
 ·have hil:=(yF.fr_some hfr).1
  have hkl:k<qq L i:=by rw[kF hil];exact(yF.fr_some hfr).2.1
  rw[if_neg (by omega),e1,e2,Int.toNat_natCast,Int.toNat_natCast]
  have hsd:=s.fs i k f c' hfr (yP _ _) (by rw[UA];exact hc)
  rcases Nat.eq_zero_or_pos k with U9 | U9
  ·subst U9
   rw[if_pos (by rfl)]
   obtain⟨h1,h2⟩:=low (yw L i) (by rw[QV hil];exact s.ba i _ (List.getElem?_eq_getElem hil)) hsd
   exact⟨s,jU.refl _,h1,h2⟩
  ·obtain⟨k',rfl⟩:∃k',k=k'+1:=⟨k - 1,by omega⟩
   rw[if_neg (by omega),Nat.add_sub_cancel]
   obtain⟨f',hf'⟩:=vG (L:=L) (i:=i) (k:=k') (by omega)
   obtain⟨s1,l1,p,sx,g1,g2,g3⟩:=vC s hf' (yP _ _)
   have hbw:c'.zi=(f'.body:Int):=by
    rw[hsd]
    show((L.fr i k').map fun f:ki=>(f.body:Int)).getD (-1)=_
    rw[hf']
    rfl
   refine⟨s1,l1,?_,fun _=>?_⟩
   ·rw[g1,show vF (p:Int)=(2,(p:Int)) by unfold vF;rw[if_neg (by omega)],ws g2,hbw,if_pos (by omega)]
   ·rw[g1,show vF (p:Int)=(2,(p:Int)) by unfold vF;rw[if_neg (by omega)]]
    exact⟨p,rfl,(List.getElem?_eq_some_iff.1 g2).1⟩
theorem zaW (k:RC B ρ w P bl br vp vsd ce np h q bd c) (h0:0<=h.now) (hcl:h.za.length<=800) (hnp:np<=900) (hl:(yJ h).zf.length<=1000) (a:Int) {vt:Value} {Q:Nat->Prop} {args:yH} (t:Tk Q w vt args) (h1:0<args.length) {j:Nat} {tw:kN} (hj:P.L.ze[j]?=some tw) (hv:args[0].2=(j:Int)) {c':Cl} (hc':h.za[tw.body]?=some c') :
 Calls Tryz.prog 157 #[zJ br 0,zI a,vt] w fun e w'=>e=.returned (.tuple #[])/\qv B bl br vp ce np w (yI h (if 0<=c'.zi then(2,c'.zi) else(0,0))) w':=by
 obtain⟨b,o,cap,rfl,c0,c1⟩:=t.cell h1
 rw[Nat.zero_mul,Nat.add_zero] at c0 c1
 rw[hv] at c1
 have hz:(0:Int)<(args.length:Int):=by omega
 have kd:=k.k.below (Below.refl w.heap.size w).drew
 have HS:Calls Tryz.prog 210 #[zJ bl 0,zI (j:Int)] w.drew fun e w'=>e=.returned (.agg #[zI (vF (qw P.L j).2).1,zI (vF (qw P.L j).2).2])/\Goes B (zu ρ w .other) w.drew w' {P with L:=(qw P.L j).1}:=by
  have:=zet kd.lv kd.big kd.sim (j:=j) (List.getElem?_eq_some_iff.1 hj).1 k.few
  rw[<-k.k.hbl]
  exact this
 obtain⟨s1,l1,g1,g2⟩:=zbG k.k.sim hj hc'
 have hP:∀w2,Goes B (zu ρ w .other) w.drew w2 {P with L:=(qw P.L j).1}->Calls Tryz.prog 174 #[zJ br 0,.agg #[zI (vF (qw P.L j).2).1,zI (vF (qw P.L j).2).2]] w2 fun e w'=>e=.returned (.tuple #[])/\qv B bl br vp ce np w (yI h (if 0<=c'.zi then(2,c'.zi) else(0,0))) w':=fun w2 hG=>by
  have:=kd.putLike h0 hcl hnp hl l1 s1 (vF (qw P.L j).2).1 (vF (qw P.L j).2).2 g2 zS hG kd
  rw[show((vF (qw P.L j).2).1,(vF (qw P.L j).2).2)=vF (qw P.L j).2 from rfl,g1] at this
  refine this.mono ?_
  rintro e w' ⟨rfl,hE⟩
  exact⟨rfl,hE.first zS.drew⟩
 generalize (qw P.L j).1=L1 at *
 generalize (vF (qw P.L j).2).1=x1 at *
 generalize (vF (qw P.L j).2).2=x2 at *
 have HPH:Hid (∀w2,Goes B (zu ρ w .other) w.drew w2 {P with L:=L1}->Calls Tryz.prog 174 #[zJ br 0,.agg #[zI x1,zI x2]] w2 fun e w'=>e=.returned (.tuple #[])/\qv B bl br vp ce np w (yI h (if 0<=c'.zi then(2,c'.zi) else(0,0))) w'):=hP
 have y1:=k.k.run.cell 1 rfl
 have Qh:=Tryz.goP_sender bl
 clear hP k kd t s1 l1 g1 g2 hj
 go_enter Tryz.func157,Tryz.ntmps157
 go_wp2_with fail
 go_region_law (first
  | (go_simp;go_at_call 210;refine HS.mono ?_;rintro e w2 ⟨rfl,hG⟩;have HP:=HPH.out w2 hG;clear hG)
  | (go_simp;go_at_call 174;refine HP.mono ?_;rintro e w3 ⟨rfl,hE⟩))
 all_goals exact bodyPost_end (results_none rfl _ _ _) rfl ⟨rfl,hE⟩
end Go.Proofs.YtbjgjjkgfnfejaaGreatDoor

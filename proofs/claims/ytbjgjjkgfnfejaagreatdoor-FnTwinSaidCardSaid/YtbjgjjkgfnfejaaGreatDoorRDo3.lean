/-
  What runs, with its calls on pages: operations, part two.
-/
import Derived.Test.YtbjgjjkgfnfejaaGreatDoorMKeepE
import Derived.Test.YtbjgjjkgfnfejaaGreatDoorLWalk14
namespace Go.Proofs.YtbjgjjkgfnfejaaGreatDoor
set_option maxHeartbeats 4000000
set_option maxRecDepth 100000
open Go.RowKit
variable {B:Nat} {ρ:Nat->Rl} {w w':World} {P:Lay} {bl br:Nat} {vp vsd:Value} {ce:Int} {np:Nat} {h h':Hp} {q:Nat} {bd:jg} {c:Cl}
theorem yj.pcd (h:yj B ρ w P) {k:Nat} (hk:k<P.L.zj.length) (x:Int):∃T',Goes B ρ w (w.setCell (zH (P.D k) 1) (zI x)) {P with T:=T',L:=Qc P.L k {P.L.zj[k] with pc:=x}}:=by
 obtain⟨hb,hr,hBD⟩:=(h (.body k)) hk
 obtain⟨ht,hgt⟩:=(h (.zg k)) hk
 obtain⟨hs,hgs⟩:=(h (.zf k)) hk
 have hb':Bx w (P.D k) 186 [zI P.L.zj[k].m,zI P.L.zj[k].pc,(P.T k).1,(P.T k).2,.bool P.L.zj[k].zv]:=hb
 have hx:Bx (w.setCell (zH (P.D k) 1) (zI x)) (P.D k) 186 (xx ((P.T k).1,(P.T k).2) {P.L.zj[k] with pc:=x}):=hb'.set 1 (zI x)
 have c:Ch (fun r=>r=.body k\/r=.zg k\/r=.zf k) ρ ρ w (w.setCell (zH (P.D k) 1) (zI x)):=Ch.set w ρ _ _ _ (.inl hr)
 have ht':zk B (w.setCell (zH (P.D k) 1) (zI x)) (P.T k).1 P.L.zj[k].zg:=ht.kept c.size fun g e=>Below.heap_setCell _ _ _ _ fun e2=>by
  have e3:g=P.D k:=e2
  have:=hgt g e
  rw[e3,hr] at this
  cases this
 have hs':zk B (w.setCell (zH (P.D k) 1) (zI x)) (P.T k).2 P.L.zj[k].zf:=hs.kept c.size fun g e=>Below.heap_setCell _ _ _ _ fun e2=>by
  have e3:g=P.D k:=e2
  have:=hgs g e
  rw[e3,hr] at this
  cases this
 exact⟨_,ρ,h.setBody hk c hx ht' hs' hgt hgs,c.mono (fun r e=>by rcases e with e | e | e <;> rw[e] <;> simp),(Below.refl B w).setCell (p:=zH (P.D k) 1) hBD _⟩
theorem yj.tempd (h:yj B ρ w P) {k:Nat} (hk:k<P.L.zj.length) {gt ot m ct:Nat} (hT:(P.T k).1=zK gt ot m ct) {i:Nat} (hi:i<P.L.zj[k].zg.length) (x y:Int) :
 ∃T',Goes B ρ w ((w.setCell (zH gt (ot+i * 2)) (zI x)).setCell (zH gt (ot+i * 2+1)) (zI y)) {P with T:=T',L:=Qc P.L k {P.L.zj[k] with zg:=P.L.zj[k].zg.set i (x,y)}}:=by
 obtain⟨hb,hr,hBD⟩:=(h (.body k)) hk
 obtain⟨ht,hgt⟩:=(h (.zg k)) hk
 obtain⟨hs,hgs⟩:=(h (.zf k)) hk
 have hb':Bx w (P.D k) 186 [zI P.L.zj[k].m,zI P.L.zj[k].pc,(P.T k).1,(P.T k).2,.bool P.L.zj[k].zv]:=hb
 have hρ:ρ gt=.zg k:=hgt gt (by rw[hT];rfl)
 have c:Ch (fun r=>r=.body k\/r=.zg k\/r=.zf k) ρ ρ w ((w.setCell (zH gt (ot+i * 2)) (zI x)).setCell (zH gt (ot+i * 2+1)) (zI y)):=(Ch.set w ρ _ _ _ (.inr (.inl hρ))).trans (Ch.set _ ρ _ _ _ (.inr (.inl hρ)))
 have qF:∀g,ρ g≠.zg k->((w.setCell (zH gt (ot+i * 2)) (zI x)).setCell (zH gt (ot+i * 2+1)) (zI y)).heap[g]?=w.heap[g]?:=fun g hg=>by
  have hgg:g≠gt:=fun e=>hg (by rw[e];exact hρ)
  rw[Below.heap_setCell _ _ _ _ hgg,Below.heap_setCell _ _ _ _ hgg]
 have hx:Bx ((w.setCell (zH gt (ot+i * 2)) (zI x)).setCell (zH gt (ot+i * 2+1)) (zI y)) (P.D k) 186 (xx ((P.T k).1,(P.T k).2) {P.L.zj[k] with zg:=P.L.zj[k].zg.set i (x,y)}):=by
  have e:xx ((P.T k).1,(P.T k).2) {P.L.zj[k] with zg:=P.L.zj[k].zg.set i (x,y)}=[zI P.L.zj[k].m,zI P.L.zj[k].pc,(P.T k).1,(P.T k).2,.bool P.L.zj[k].zv]:=rfl
  rw[e]
  exact hb'.kept (qF _ (by rw[hr];simp))
 have hBg:B<=gt:=(ht.lt gt (by rw[hT];rfl)).1
 have ht':zk B ((w.setCell (zH gt (ot+i * 2)) (zI x)).setCell (zH gt (ot+i * 2+1)) (zI y)) (P.T k).1 (P.L.zj[k].zg.set i (x,y)):=by
  rw[hT] at ht ⊢
  exact ht.set i hi x y
 have hs':zk B ((w.setCell (zH gt (ot+i * 2)) (zI x)).setCell (zH gt (ot+i * 2+1)) (zI y)) (P.T k).2 P.L.zj[k].zf:=hs.kept c.size fun g e=>qF g (by rw[hgs g e];simp)
 exact⟨_,ρ,h.setBody hk c hx ht' hs' hgt hgs,c.mono (fun r e=>by rcases e with e | e | e <;> rw[e] <;> simp),((Below.refl B w).setCell (p:=zH gt (ot+i * 2)) hBg _).setCell (p:=zH gt (ot+i * 2+1)) hBg _⟩
theorem Ym.jump {ts:List kN} {b:jg} {c:Cl} (a:Ym ts b c) (x:Int):Ym ts {b with pc:=x} {c with pc:=x}:=⟨a.m,rfl,a.zv,a.zg,a.zf,a.vt,a.vs⟩
theorem Ym.tempd {ts:List kN} {b:jg} {c:Cl} (a:Ym ts b c) (i:Nat) {v:Int × Int} (hv:v.1=2->∃j:Nat,v.2=(j:Int)/\j<ts.length):Ym ts {b with zg:=b.zg.set i v} {c with zg:=c.zg.set i (yQ ts v)} :=
 ⟨a.m,a.pc,a.zv,by show c.zg.set i _=(b.zg.set i v).map _;rw[a.zg,List.map_set],a.zf,fun x hx=>by
  rcases List.mem_or_eq_of_mem_set hx with h1 | h1
  ·exact a.vt x h1
  ·subst h1;exact hv,a.vs⟩
theorem RC.setH (k:RC B ρ w P bl br vp vsd ce np h q bd c) (c':Cl):setH h c'={h with za:=h.za.set q c'}:=by
 unfold Go.Proofs.YtbjgjjkgfnfejaaGreatDoor.setH
 rw[k.nw,Int.toNat_natCast]
theorem zdu (k:RC B ρ w P bl br vp vsd ce np h q bd c) (a:Int) (vt:Value) :
 Calls Tryz.prog 152 #[zJ br 0,zI a,vt] w fun e w'=>e=.returned (.tuple #[])/\qv B bl br vp ce np w (setH h {c with pc:=a}) w':=by
 have HR:=k.run w zS
 have hm:=Tryz.goP_running bl
 have y1:=k.k.run.cell 1 rfl
 obtain⟨hbl,hbe⟩:=List.getElem?_eq_some_iff.1 k.hb
 have hbody:=((k.k.lv (.body q)) hbl).1
 have z1:w.cell? (zH (P.D q) 1)=some (zI P.L.zj[q].pc):=hbody.cell 1 rfl
 have Wc:=hbody.frozen 1
 have hDl:=hbody.lt
 have HE:Hid (∀W,zO w W->qv B bl br vp ce np w (setH h {c with pc:=a}) (W.setCell (zH (P.D q) 1) (zI a))):=fun W hW=>by
  rw[k.setH]
  have kW:=k.k.below hW
  obtain⟨T',hG⟩:=kW.lv.pcd hbl a
  rw[hbe] at hG
  obtain⟨ρ',k',_,b'⟩:=kW.turn k.hb k.hc (k.ha.jump a) rfl rfl hG
  exact⟨ρ',_,vsd,k',(hW.mono k.k.big).trans b'⟩
 obtain⟨d,hd⟩:∃d,P.D q=d:=⟨_,rfl⟩
 rw[hd] at HR HE z1 Wc hDl
 clear k hbody hd
 go_enter Tryz.func152,Tryz.ntmps152
 go_wp2_with (go_at_call 209;refine HR.mono ?_;rintro e w2 ⟨rfl,b2⟩;have z2:=zc b2 z1;have zf2:w2.frozen? (zH d 1)=false:=(World.frozen?_of_block (a:=⟨d,1,none⟩) (b2.block d hDl)).trans Wc)
 exact bodyPost_end (results_none rfl _ _ _) rfl ⟨rfl,HE.out w2 b2⟩
theorem zdz (k:RC B ρ w P bl br vp vsd ce np h q bd c) (i:Nat) (hi:i<bd.zg.length) (vt:Value) :
 Calls Tryz.prog 147 #[zJ br 0,zI (i:Int),vt] w fun e w'=>e=.returned (.tuple #[])/\qv B bl br vp ce np w (yI h (yQ P.L.ze bd.zg[i])) w':=by
 have HR:=k.run w zS
 have hm:=Tryz.goP_running bl
 have y1:=k.k.run.cell 1 rfl
 obtain⟨hbl,hbe⟩:=List.getElem?_eq_some_iff.1 k.hb
 have hbody:=((k.k.lv (.body q)) hbl).1
 have ht:=((k.k.lv (.zg q)) hbl).1
 rw[hbe] at ht
 have z2:w.cell? (zH (P.D q) 2)=some (P.T q).1:=hbody.cell 2 rfl
 obtain⟨gt,ot,ct,hT,_⟩:=ht.form (by omega)
 rw[hT] at ht z2
 obtain⟨⟨c0,c1⟩,_⟩:=ht.cell hi
 have HP:=k.put bd.zg[i].1 bd.zg[i].2 (fun e=>k.ha.vt _ (List.getElem_mem hi) e)
 have HPH:Hid _:=HP
 have hqz:(i:Int)<(bd.zg.length:Int):=by omega
 clear HP k ht hbody
 generalize bd.zg[i]=x at *
 obtain⟨x1,x2⟩:=x
 generalize bd.zg.length=nt at *
 go_enter Tryz.func147,Tryz.ntmps147
 go_wp2_with (first
  | (go_at_call 209;refine HR.mono ?_;rintro e w2 ⟨rfl,b2⟩;have v2:=zc b2 z2;have v0:=zc b2 c0;have v1:=zc b2 c1)
  | (go_at_call 174;refine(HPH.out _ b2).mono ?_;rintro e w3 ⟨rfl,hE⟩))
 exact bodyPost_end (results_none rfl _ _ _) rfl ⟨rfl,hE⟩
theorem zeJ (k:RC B ρ w P bl br vp vsd ce np h q bd c) {vt:Value} {Q:Nat->Prop} {args:yH} (t:Tk Q w vt args) (h1:0<args.length) (hv:args[0].1=2->∃j:Nat,args[0].2=(j:Int)/\j<P.L.ze.length) (i:Nat) (hi:i<bd.zg.length) :
 Calls Tryz.prog 148 #[zJ br 0,zI (i:Int),vt] w fun e w'=>e=.returned (.tuple #[])/\qv B bl br vp ce np w (setH h {c with zg:=c.zg.set i (yQ P.L.ze args[0])}) w':=by
 have HR:=k.run w.drew zS.drew
 have hm:=Tryz.goP_running bl
 have y1:=k.k.run.cell 1 rfl
 obtain⟨hbl,hbe⟩:=List.getElem?_eq_some_iff.1 k.hb
 have hbody:=((k.k.lv (.body q)) hbl).1
 have ht:=((k.k.lv (.zg q)) hbl).1
 rw[hbe] at ht
 have z2:w.cell? (zH (P.D q) 2)=some (P.T q).1:=hbody.cell 2 rfl
 obtain⟨gt,ot,ct,hT,_⟩:=ht.form (by omega)
 have HE:Hid (∀W,zO w W->qv B bl br vp ce np w (setH h {c with zg:=c.zg.set i (yQ P.L.ze args[0])}) ((W.setCell (zH gt (ot+i * 2)) (zI args[0].1)).setCell (zH gt (ot+i * 2+1)) (zI args[0].2))):=fun W hW=>by
  rw[k.setH]
  have kW:=k.k.below hW
  obtain⟨T',hG⟩:=kW.lv.tempd hbl hT (i:=i) (by rw[hbe];exact hi) args[0].1 args[0].2
  rw[hbe] at hG
  obtain⟨ρ',k',_,b'⟩:=kW.turn k.hb k.hc (k.ha.tempd i hv) rfl rfl hG
  exact⟨ρ',_,vsd,k',(hW.mono k.k.big).trans b'⟩
 rw[hT] at ht z2
 obtain⟨⟨c0,c1⟩,cf0,cf1⟩:=ht.cell hi
 have hgl:gt<w.heap.size:=World.block_lt_of_cell? _ _ c0
 obtain⟨b,o,cap,jz,e0,e1⟩:=t.cell h1
 subst jz
 rw[Nat.zero_mul,Nat.add_zero] at e0 e1
 have hz:(0:Int)<(args.length:Int):=by omega
 have hqz:(i:Int)<(bd.zg.length:Int):=by omega
 clear k ht t hbody
 go_enter Tryz.func148,Tryz.ntmps148
 go_wp2_with fail
 go_region_law (go_simp;go_at_call 209;refine HR.mono ?_;rintro e w2 ⟨rfl,b2⟩;have b3:zO w w2:=zS.drew.trans b2;have v2:=zc b3 z2;have v0:=zc b3 c0;have v1:=zc b3 c1;have vf0:=(World.frozen?_of_block (a:=⟨gt,ot+i * 2,none⟩) (b3.block gt hgl)).trans cf0;have vf1:=(World.frozen?_of_block (a:=⟨gt,ot+i * 2+1,none⟩) (b3.block gt hgl)).trans cf1;have u0:=zc b3 e0;have u1:=zc b3 e1)
 all_goals exact bodyPost_end (results_none rfl _ _ _) rfl ⟨rfl,HE.out w2 b3⟩
variable {B:Nat} {ρ:Nat->Rl} {w w':World} {P:Lay} {bl br:Nat} {vp vsd:Value} {ce:Int} {np:Nat} {h h':Hp} {q:Nat} {bd:jg} {c:Cl}
theorem zeF (k:RC B ρ w P bl br vp vsd ce np h q bd c) (a:Int) {vt:Value} {Q:Nat->Prop} {args:yH} (t:Tk Q w vt args) (h1:1<args.length) (b0:0<=args[0].2/\args[0].2<=999) (b1:0<=args[1].2/\args[1].2<=999) :
 Calls Tryz.prog 150 #[zJ br 0,zI a,vt] w fun e w'=>e=.returned (.tuple #[])/\qv B bl br vp ce np w (yI h (1,(args[0].2+args[1].2) % 1000)) w':=by
 obtain⟨b,o,cap,jz,⟨c0,c1⟩,d0,d1⟩:=t.cells2 h1
 subst jz
 have hz:(1:Int)<(args.length:Int):=by omega
 have jT:(0:Int)<(args.length:Int):=by omega
 have HPH:Hid (∀(w1:World),zO w w1->Calls Tryz.prog 174 #[zJ br 0,.agg #[zI 1,zI ((args[0].2+args[1].2).tmod 1000)]] w1 fun e w'=>e=.returned (.tuple #[])/\qv B bl br vp ce np w (yI h (1,(args[0].2+args[1].2) % 1000)) w'):=by
  rw[show(args[0].2+args[1].2).tmod 1000=(args[0].2+args[1].2) % 1000 from Int.tmod_eq_emod_of_nonneg (by omega)]
  exact k.put 1 ((args[0].2+args[1].2) % 1000) (fun e=>by omega)
 clear k t c0 d0
 generalize args[0].2=X at *
 generalize args[1].2=Y at *
 have hw1:IntKind.i64.wrap (X+Y)=X+Y:=by rw[IntKind.wrap_i64];omega
 generalize args.length=na at *
 go_enter Tryz.func150,Tryz.ntmps150
 go_wp2_with fail
 go_region_with (first
  | (go_at_call 175;refine(jn _ _).mono ?_;rintro e w2 ⟨rfl,hb⟩;have hb':zO w w2:=zS.drew.trans hb)
  | (go_at_call 174;refine(HPH.out _ hb').mono ?_;rintro e w3 ⟨rfl,hE⟩))
 all_goals exact bodyPost_end (results_none rfl _ _ _) rfl ⟨rfl,hE⟩
theorem zdy (k:RC B ρ w P bl br vp vsd ce np h q bd c) (a:Int) {vt:Value} {Q:Nat->Prop} {args:yH} (t:Tk Q w vt args) (h1:1<args.length) :
 Calls Tryz.prog 151 #[zJ br 0,zI a,vt] w fun e w'=>e=.returned (.tuple #[])/\qv B bl br vp ce np w (yI h (Qo (decide (args[0]=args[1])))) w':=by
 obtain⟨b,o,cap,jz,⟨c0,c1⟩,d0,d1⟩:=t.cells2 h1
 subst jz
 have hz:(1:Int)<(args.length:Int):=by omega
 have jT:(0:Int)<(args.length:Int):=by omega
 have HPH:Hid (∀(x:Bool) (w1:World),zO w w1->Calls Tryz.prog 174 #[zJ br 0,.agg #[zI 1,zI (if x then 1 else 0)]] w1 fun e w'=>e=.returned (.tuple #[])/\qv B bl br vp ce np w (yI h (1,(if x then 1 else 0))) w'):=fun x=>k.put 1 (if x then 1 else 0) (fun e=>by omega)
 clear k t
 unfold Qo
 generalize args[0]=x at *
 generalize args[1]=y at *
 obtain⟨x1,x2⟩:=x
 obtain⟨y1,y2⟩:=y
 simp only at c0 c1 d0 d1
 generalize args.length=na at *
 by_cases e1:x1=y1
 ·subst e1
  by_cases e2:x2=y2
  ·subst e2
   rw[decide_eq_true (rfl:(x1,x2)=(x1,x2))]
   go_enter Tryz.func151,Tryz.ntmps151
   go_wp2_with fail
   go_region_with (first
    | (go_at_call 176;refine(jF true _).mono ?_;rintro e w2 ⟨rfl,hb⟩;have hb':zO w w2:=zS.drew.trans hb)
    | (go_at_call 174;refine(HPH.out true _ hb').mono ?_;rintro e w3 ⟨rfl,hE⟩))
   all_goals exact bodyPost_end (results_none rfl _ _ _) rfl ⟨rfl,hE⟩
  ·rw[decide_eq_false (show ¬(x1,x2)=(x1,y2) from fun q=>e2 (Prod.mk.inj q).2)]
   have e2':(x2 == y2)=false:=zG.2 e2
   clear e2
   go_enter Tryz.func151,Tryz.ntmps151
   go_wp2_with fail
   go_region_with (first
    | (go_at_call 176;refine(jF false _).mono ?_;rintro e w2 ⟨rfl,hb⟩;have hb':zO w w2:=zS.drew.trans hb)
    | (go_at_call 174;refine(HPH.out false _ hb').mono ?_;rintro e w3 ⟨rfl,hE⟩))
   all_goals exact bodyPost_end (results_none rfl _ _ _) rfl ⟨rfl,hE⟩
 ·rw[decide_eq_false (show ¬(x1,x2)=(y1,y2) from fun q=>e1 (Prod.mk.inj q).1)]
  have e1':(x1 == y1)=false:=zG.2 e1
  clear e1
  go_enter Tryz.func151,Tryz.ntmps151
  go_wp2_with fail
  go_region_with (first
   | (go_at_call 176;refine(jF false _).mono ?_;rintro e w2 ⟨rfl,hb⟩;have hb':zO w w2:=zS.drew.trans hb)
   | (go_at_call 174;refine(HPH.out false _ hb').mono ?_;rintro e w3 ⟨rfl,hE⟩))
  all_goals exact bodyPost_end (results_none rfl _ _ _) rfl ⟨rfl,hE⟩
theorem zdA (k:RC B ρ w P bl br vp vsd ce np h q bd c) (a:Int) {vt:Value} {Q:Nat->Prop} {args:yH} (t:Tk Q w vt args) (h1:0<args.length) :
 Calls Tryz.prog 153 #[zJ br 0,zI a,vt] w fun e w'=>e=.returned (.tuple #[])/\qv B bl br vp ce np w (if args[0].2=0/\(args[0].1=0\/args[0].1=1) then setH h {c with pc:=a} else h) w':=by
 obtain⟨b,o,cap,rfl,c0,c1⟩:=t.cell h1
 rw[Nat.zero_mul,Nat.add_zero] at c0 c1
 have hz:(0:Int)<(args.length:Int):=by omega
 clear t
 generalize args[0]=x at *
 obtain⟨x1,x2⟩:=x
 have hm:=Tryz.goP_running bl
 simp only at c0 c1 ⊢
 by_cases hx:x2=0/\(x1=0\/x1=1)
 ·rw[if_pos hx]
  have HZ:∀w,Calls Tryz.prog 177 #[.agg #[zI x1,zI x2]] w fun e w'=>e=.returned (.bool true)/\zO w w':=fun w=>by
   have:=ZR x1 x2 w
   rw[decide_eq_true hx] at this
   exact this
  have HJ:Hid (∀w1,zO w w1->Calls Tryz.prog 209 #[zJ bl 0] w1 fun e w'=>e=.returned (zJ (P.D q) 0)/\zO w1 w'):=k.run
  have y1:=k.k.run.cell 1 rfl
  obtain⟨hbl,hbe⟩:=List.getElem?_eq_some_iff.1 k.hb
  have hbody:=((k.k.lv (.body q)) hbl).1
  have z1:w.cell? (zH (P.D q) 1)=some (zI P.L.zj[q].pc):=hbody.cell 1 rfl
  have Wc:=hbody.frozen 1
  have hDl:=hbody.lt
  have HE:Hid (∀W,zO w W->qv B bl br vp ce np w (setH h {c with pc:=a}) (W.setCell (zH (P.D q) 1) (zI a))):=fun W hW=>by
   rw[k.setH]
   have kW:=k.k.below hW
   obtain⟨T',hG⟩:=kW.lv.pcd hbl a
   rw[hbe] at hG
   obtain⟨ρ',k',_,b'⟩:=kW.turn k.hb k.hc (k.ha.jump a) rfl rfl hG
   exact⟨ρ',_,vsd,k',(hW.mono k.k.big).trans b'⟩
  obtain⟨d,hd⟩:∃d,P.D q=d:=⟨_,rfl⟩
  rw[hd] at HJ HE z1 Wc hDl
  clear hbody hd
  clear k hx
  go_enter Tryz.func153,Tryz.ntmps153
  go_wp2_with (first
   | (go_at_call 177;refine(HZ _).mono ?_;rintro e w2 ⟨rfl,hb⟩;have v1:=zc hb y1)
   | (go_at_call 209;refine(HJ.out _ hb).mono ?_;rintro e w3 ⟨rfl,b3⟩;have b4:=hb.trans (b3.mono hb.size);have z2:=zc b4 z1;have zf2:w3.frozen? (zH d 1)=false:=(World.frozen?_of_block (a:=⟨d,1,none⟩) (b4.block d hDl)).trans Wc))
  exact bodyPost_end (results_none rfl _ _ _) rfl ⟨rfl,HE.out w3 b4⟩
 ·rw[if_neg hx]
  have HZ:∀w,Calls Tryz.prog 177 #[.agg #[zI x1,zI x2]] w fun e w'=>e=.returned (.bool false)/\zO w w':=fun w=>by
   have:=ZR x1 x2 w
   rw[decide_eq_false hx] at this
   exact this
  have HE:Hid (∀w1,zO w w1->qv B bl br vp ce np w h w1):=fun w1 hb=>⟨_,P,vsd,k.k.below hb,hb.mono k.k.big⟩
  clear k hx
  go_enter Tryz.func153,Tryz.ntmps153
  go_wp2_with (go_at_call 177;refine(HZ _).mono ?_;rintro e w2 ⟨rfl,hb⟩)
  exact bodyPost_end (results_none rfl _ _ _) rfl ⟨rfl,HE.out _ hb⟩
variable {B:Nat} {ρ:Nat->Rl} {w w':World} {P:Lay} {bl br:Nat} {vp vsd:Value} {ce:Int} {np:Nat} {h h':Hp} {q:Nat} {bd:jg} {c:Cl}
theorem zdv (k:RC B ρ w P bl br vp vsd ce np h q bd c) (p:Nat) {vt:Value} {Q:Nat->Prop} {args:yH} (t:Tk Q w vt args) (h1:0<args.length) {i:Nat} {tw:kN} (hi:P.L.ze[i]?=some tw) (hv:args[0].2=(i:Int)) {b':jg} {c':Cl} (hb':P.L.zj[tw.body]?=some b') (ha':Ym P.L.ze b' c') :
 Calls Tryz.prog 158 #[zJ br 0,zI (p:Int),vt] w fun e w'=>e=.returned (.tuple #[])/\qv B bl br vp ce np w (yI h (c'.zg.getD p (0,0))) w':=by
 have HL:=k.look i tw hi w.drew zS.drew
 have Qh:=Tryz.goP_looked bl
 have y1:=k.k.run.cell 1 rfl
 obtain⟨hbl,hbe⟩:=List.getElem?_eq_some_iff.1 hb'
 have hbody:=((k.k.lv (.body tw.body)) hbl).1
 have z2:w.cell? (zH (P.D tw.body) 2)=some (P.T tw.body).1:=hbody.cell 2 rfl
 have ht:=((k.k.lv (.zg tw.body)) hbl).1
 rw[hbe] at ht
 obtain⟨b,o,cap,jz,c0,c1⟩:=t.cell h1
 subst jz
 rw[Nat.zero_mul,Nat.add_zero] at c0 c1
 rw[hv] at c1
 have hz:(0:Int)<(args.length:Int):=by omega
 obtain⟨at_,ct,hT,_⟩:=ht.slice
 have hbd:zO w w.drew:=zS.drew
 rw[ha'.zg]
 by_cases hq:p<b'.zg.length
 ·have e:(b'.zg.map (yQ P.L.ze)).getD p (0,0)=yQ P.L.ze b'.zg[p]:=by
   rw[List.getD_eq_getElem?_getD,List.getElem?_map,List.getElem?_eq_getElem hq]
   rfl
  rw[e]
  obtain⟨gt,ot,ct',hT',_⟩:=ht.form (by omega)
  have HP:=k.put b'.zg[p].1 b'.zg[p].2 (fun e=>ha'.vt _ (List.getElem_mem hq) e)
  rw[hT'] at ht z2
  obtain⟨⟨u0,u1⟩,uf0,uf1⟩:=ht.cell hq
  have hqz:(p:Int)<(b'.zg.length:Int):=by omega
  have hq0:(0:Int)<=(p:Int):=by omega
  have HPH:Hid _:=HP
  clear k ht t HP hT hbody ha' hb' hbe e
  generalize b'.zg[p]=x at *
  obtain⟨x1,x2⟩:=x
  generalize b'.zg.length=nt at *
  go_enter Tryz.func158,Tryz.ntmps158
  go_wp2_with fail
  go_region_law (go_simp;go_at_call 208;refine HL.mono ?_;rintro e w' ⟨rfl,hw⟩;obtain rfl:=hw.symm)
  all_goals
   go_wp2_with (first
    | (go_at_call 58;refine(yc _ _ _).mono ?_;rintro e w' ⟨rfl,hw⟩;obtain rfl:=hw.symm;rw[zF.2 ⟨hq0,by omega⟩])
    | (go_at_call 174;refine(HPH.out _ hbd).mono ?_;rintro e w3 ⟨rfl,hE⟩))
   exact bodyPost_end (results_none rfl _ _ _) rfl ⟨rfl,hE⟩
 ·have hg:(b'.zg.map (yQ P.L.ze)).getD p (0,0)=(0,0):=by rw[List.getD_eq_getElem?_getD,List.getElem?_eq_none (by rw[List.length_map];omega)];rfl
  rw[hg]
  have HP:=k.put 0 0 (fun e=>by omega)
  have hvb:yQ P.L.ze (0,0)=(0,0):=rfl
  rw[hvb] at HP
  rw[hT] at z2
  have HPH:Hid _:=HP
  clear k ht t HP hg hbody ha' hb' hbe
  generalize b'.zg.length=nt at *
  go_enter Tryz.func158,Tryz.ntmps158
  go_wp2_with fail
  go_region_law (go_simp;go_at_call 208;refine HL.mono ?_;rintro e w' ⟨rfl,hw⟩;obtain rfl:=hw.symm)
  all_goals
   go_wp2_with (first
    | (go_at_call 58;refine(yc _ _ _).mono ?_;rintro e w' ⟨rfl,hw⟩;obtain rfl:=hw.symm;rw[qc.2 (by omega)])
    | (go_at_call 174;refine(HPH.out _ hbd).mono ?_;rintro e w3 ⟨rfl,hE⟩))
   exact bodyPost_ret (results_none rfl _ _ _) rfl ⟨rfl,hE⟩
theorem zdw (k:RC B ρ w P bl br vp vsd ce np h q bd c) (p:Nat) {vt:Value} {Q:Nat->Prop} {args:yH} (t:Tk Q w vt args) (h1:1<args.length) {i:Nat} {tw:kN} (hi:P.L.ze[i]?=some tw) (hv:args[0].2=(i:Int)) {b':jg} {c':Cl} (hb':P.L.zj[tw.body]?=some b') (hc':h.za[tw.body]?=some c') (ha':Ym P.L.ze b' c') (hva:args[1].1=2->∃j:Nat,args[1].2=(j:Int)/\j<P.L.ze.length) :
 Calls Tryz.prog 159 #[zJ br 0,zI (p:Int),vt] w fun e w'=>e=.returned (.tuple #[])/\qv B bl br vp ce np w (uV h tw.body (p:Int) (yQ P.L.ze args[1])) w':=by
 have HL:=k.look i tw hi w.drew zS.drew
 have Qh:=Tryz.goP_looked bl
 have y1:=k.k.run.cell 1 rfl
 obtain⟨hbl,hbe⟩:=List.getElem?_eq_some_iff.1 hb'
 obtain⟨hcl,hce⟩:=List.getElem?_eq_some_iff.1 hc'
 have hbody:=((k.k.lv (.body tw.body)) hbl).1
 have z2:w.cell? (zH (P.D tw.body) 2)=some (P.T tw.body).1:=hbody.cell 2 rfl
 have ht:=((k.k.lv (.zg tw.body)) hbl).1
 rw[hbe] at ht
 obtain⟨b,o,cap,jz,⟨c0,c1⟩,d0,d1⟩:=t.cells2 h1
 subst jz
 rw[hv] at c1
 have hz:(1:Int)<(args.length:Int):=by omega
 have jT:0<args.length:=by omega
 obtain⟨at_,ct,hT,_⟩:=ht.slice
 have hlen:c'.zg.length=b'.zg.length:=by rw[ha'.zg,List.length_map]
 by_cases hq:p<b'.zg.length
 ·obtain⟨gt,ot,ct',hT',_⟩:=ht.form (by omega)
  have HE:Hid (qv B bl br vp ce np w (uV h tw.body (p:Int) (yQ P.L.ze args[1])) ((w.setCell (zH gt (ot+p * 2)) (zI args[1].1)).setCell (zH gt (ot+p * 2+1)) (zI args[1].2)).drew):=by
   show qv B bl br vp ce np w (uV h tw.body (p:Int) (yQ P.L.ze args[1])) ((w.setCell (zH gt (ot+p * 2)) (zI args[1].1)).setCell (zH gt (ot+p * 2+1)) (zI args[1].2)).drew
   rw[KF hcl,hce]
   obtain⟨T',hG⟩:=k.k.lv.tempd hbl hT' (i:=p) (by rw[hbe];exact hq) args[1].1 args[1].2
   rw[hbe] at hG
   obtain⟨ρ',k',_,b''⟩:=k.k.turn hb' hc' (ha'.tempd p hva) rfl rfl hG
   exact⟨_,_,vsd,k'.below zS.drew,b''.drew⟩
  rw[hT'] at ht z2
  obtain⟨⟨u0,u1⟩,uf0,uf1⟩:=ht.cell hq
  have hqz:(p:Int)<(b'.zg.length:Int):=by omega
  have hq0:(0:Int)<=(p:Int):=by omega
  clear k ht t hT hbody ha' hb' hbe hc' hce hlen
  go_enter Tryz.func159,Tryz.ntmps159
  go_wp2_with fail
  go_region_law (go_simp;go_at_call 208;refine HL.mono ?_;rintro e w' ⟨rfl,hw⟩;obtain rfl:=hw.symm)
  all_goals
   go_wp2_with (go_at_call 58;refine(yc _ _ _).mono ?_;rintro e w' ⟨rfl,hw⟩;obtain rfl:=hw.symm;rw[zF.2 ⟨hq0,by omega⟩])
   exact bodyPost_end (results_none rfl _ _ _) rfl ⟨rfl,HE.out⟩
 ·have hE:Hid (qv B bl br vp ce np w (uV h tw.body (p:Int) (yQ P.L.ze args[1])) w.drew):=by
   show qv B bl br vp ce np w (uV h tw.body (p:Int) (yQ P.L.ze args[1])) w.drew
   rw[KG hcl (by rw[hce,hlen];exact hq)]
   exact⟨_,P,vsd,k.k.below zS.drew,zS.drew⟩
  rw[hT] at z2
  clear k ht t hbody ha' hb' hbe hc' hce hlen
  generalize b'.zg.length=nt at *
  go_enter Tryz.func159,Tryz.ntmps159
  go_wp2_with fail
  go_region_law (go_simp;go_at_call 208;refine HL.mono ?_;rintro e w' ⟨rfl,hw⟩;obtain rfl:=hw.symm)
  all_goals
   go_wp2_with (go_at_call 58;refine(yc _ _ _).mono ?_;rintro e w' ⟨rfl,hw⟩;obtain rfl:=hw.symm;rw[qc.2 (by omega)])
   exact bodyPost_end (results_none rfl _ _ _) rfl ⟨rfl,hE.out⟩
variable {B:Nat} {ρ ρ':Nat->Rl} {w w':World} {P:Lay} {bl br:Nat} {vp vsd:Value} {ce:Int} {np:Nat} {h h':Hp} {q:Nat} {bd:jg} {c:Cl}
theorem Tk.keep {v:Value} {args:yH} (t:Tk (fun g=>ρ g≠.other) w v args) (g:Ch (fun r=>r≠.other) ρ ρ' w w'):Tk (fun g=>ρ' g≠.other) w' v args:=by
 have ho:∀q,v.ownBlock=some q->q<w.heap.size/\ρ q=.other:=fun q e=>⟨(t.off q e).1,Classical.byContradiction fun x=>(t.off q e).2 x⟩
 refine⟨?_,fun q e=>⟨Nat.lt_of_lt_of_le (t.off q e).1 g.size,fun hq=>hq ((g.role q (ho q e).1).trans (ho q e).2)⟩⟩
 obtain⟨a,cap,rfl,hl,hc⟩:=t.at_
 refine⟨a,cap,rfl,hl,fun i hi=>?_⟩
 obtain⟨b,o,rfl,h0,h1⟩:=hc i hi
 have hb:=ho b rfl
 have e:=g.blk b hb.1 (by rw[hb.2];simp)
 exact⟨b,o,rfl,(World.cell?_of_block (a:=⟨b,_,none⟩) e).trans h0,(World.cell?_of_block (a:=⟨b,_,none⟩) e).trans h1⟩
theorem RV.code (k:RV B ρ w P bl br vp vsd ce np h) (x:Int):RV B ρ (w.setCell (zH br 4) (zI x)) P bl br vp vsd ce np {h with code:=x}:=by
 have c1:Ch (fun r=>r=.other) ρ ρ w (w.setCell (zH br 4) (zI x)):=Ch.set w ρ _ _ _ k.rbr
 exact⟨k.lv.loose c1,k.hbl,Nat.le_trans k.big c1.size,k.run.set 4 _,k.rbr,k.bbr,k.zm.kept c1.size fun g e=>Below.heap_setCell _ _ _ _ (k.sr g e).2,k.sr,k.sim.other rfl,k.ord,k.now,k.hce,k.hnp⟩
theorem qv.code {w0:World} (k:qv B bl br vp ce np w0 h w) (x:Int):(∃y,w.cell? (zH br 4)=some y/\w.frozen? (zH br 4)=false)/\qv B bl br vp ce np w0 {h with code:=x} (w.setCell (zH br 4) (zI x)):=by
 obtain⟨ρ,P,vsd,k,b⟩:=k
 exact⟨⟨_,k.run.cell 4 rfl,k.run.frozen 4⟩,ρ,P,vsd,k.code x,b.setCell (p:=zH br 4) k.bbr _⟩
theorem Vw (h:yj B ρ w P) (hn:P.L.now=-1):Calls Tryz.prog 209 #[zJ P.bl 0] w fun e w'=>e=.returned (.pointer none)/\w'=w:=by
 have x3:=h.box.cell 3 rfl
 rw[hn] at x3
 clear h
 go_enter Tryz.func209,Tryz.ntmps209
 go_wp2
 go_ret
 exact⟨rfl,rfl⟩
theorem zeH (k:RC B ρ w P bl br vp vsd ce np h q bd c) (_hcur:yJ h=c) (hcl:h.za.length<=800) (hnp:np<=900) (hsl:h.zm.length<=2900000) (hl2:(yJ (ye h)).zf.length<=1000) (hW:0<=(ye h).now->∃l,qG (ye h).za (ye h).now l) (a:Int) {vt:Value} {args:yH} (t:Tk (fun g=>ρ g≠.other) w vt args) (h1:0<args.length) (hv:args[0].1=2->∃j:Nat,args[0].2=(j:Int)/\j<P.L.ze.length) :
 Calls Tryz.prog 155 #[zJ br 0,zI a,vt] w fun e w'=>e=.returned (.tuple #[])/\qv B bl br vp ce np w (Vt h (yQ P.L.ze args[0])) w':=by
 have h0:0<=h.now:=by rw[k.nw];omega
 obtain⟨i,m,f,_,_,hn,hi,hm,hfr,ht,_⟩:=k.k.top h0
 have hpos:0<qq P.L i:=by omega
 have htop:h.now=vQ P.L i:=by rw[KS hm hfr];exact ht
 obtain⟨s1,o1,w1,x1,p1,b1,c1⟩:=XF k.k.sim k.k.ord hn hi hpos htop hW
 have HLV:Calls Tryz.prog 207 #[zJ bl 0] w fun e w'=>e=.returned (.tuple #[])/\∃F' uP T',Goes B ρ w w' {P with F:=F',vo:=uP,T:=T',L:=qf P.L}:=by
  have:=zb0 k.k.lv k.k.big k.k.sim k.k.ord hn hi hpos k.few
  rw[<-k.k.hbl]
  exact this
 have hlc:(ye h).za.length=h.za.length:=ZB h
 have hv':args[0].1=2->∃j:Nat,args[0].2=(j:Int)/\j<(qf P.L).ze.length:=fun e=>by
  obtain⟨j,e1,e2⟩:=hv e
  exact⟨j,e1,Nat.lt_of_lt_of_le e2 x1.le⟩
 have hvb:yQ (qf P.L).ze args[0]=yQ P.L.ze args[0]:=KV x1 hv
 -- behind the leave
 have HAF:Hid (∀(w2:World) (F':Nat->Value) (uP:Value) (T':Nat->Value × Value),Goes B ρ w w2 {P with F:=F',vo:=uP,T:=T',L:=qf P.L}->w2.cell? (zH br 1)=some (.iface 82 (zJ bl 0))/\(∃b o cap,vt=zK b o args.length cap/\w2.cell? (zH b o)=some (zI args[0].1)/\w2.cell? (zH b (o+1))=some (zI args[0].2)) /\
  ((yJ h).zi<0->Calls Tryz.prog 209 #[zJ bl 0] w2 (fun e w'=>e=.returned (.pointer none)/\w'=w2)/\Calls Tryz.prog 178 #[zJ br 0,.agg #[zI args[0].1,zI args[0].2]] w2 (fun e w'=>e=.returned (.tuple #[])/\qv B bl br vp ce np w (uN (ye h) (yQ P.L.ze args[0])) w')) /\
  (¬(yJ h).zi<0->∃d,Calls Tryz.prog 209 #[zJ bl 0] w2 (fun e w'=>e=.returned (zJ d 0)/\zO w2 w')/\∀w3,zO w2 w3->Calls Tryz.prog 174 #[zJ br 0,.agg #[zI args[0].1,zI args[0].2]] w3 (fun e w'=>e=.returned (.tuple #[])/\qv B bl br vp ce np w (yI (ye h) (yQ P.L.ze args[0])) w'))):=by
  intro w2 F' uP T' hG
  obtain⟨ρ2,hl,cc,bb⟩:=hG
  have k2:RV B ρ2 w2 {P with F:=F',vo:=uP,T:=T',L:=qf P.L} bl br vp vsd ce np (ye h):=k.k.goes hl cc rfl s1 o1 w1 c1 p1 rfl rfl rfl
  have t2:=t.keep cc
  obtain⟨b,o,cap,jz,e0,e1⟩:=t2.cell h1
  rw[Nat.zero_mul,Nat.add_zero] at e0 e1
  refine⟨k2.run.cell 1 rfl,⟨b,o,cap,jz,e0,e1⟩,fun hs=>?_,fun hs=>?_⟩
  ·have uZ:(ye h).now<0:=hs
   have hneg:(qf P.L).now=-1:=by
    rcases w1 with⟨e,_⟩ | ⟨i',e1,e2,e3,e4⟩
    ·exact e
    ·exfalso
     have htop':0<=vQ (qf P.L) i':=by
      obtain⟨m',hm'⟩:∃m',qq (qf P.L) i'=m'+1:=⟨qq (qf P.L) i' - 1,by omega⟩
      obtain⟨f',hf'⟩:=vG (L:=qf P.L) (i:=i') (k:=m') (by omega)
      rw[KS hm' hf']
      omega
     omega
   have HR:=Vw k2.lv hneg
   have HS:=zaf k2 args[0].1 args[0].2 hv' hsl
   refine⟨?_,HS.mono ?_⟩
   ·rw[<-k.k.hbl]
    exact HR
   ·rintro e w' ⟨rfl,hE⟩
    have e5:yQ (qf P.L).ze (args[0].1,args[0].2)=yQ P.L.ze args[0]:=hvb
    have hE':qv B bl br vp ce np w2 (uN (ye h) (yQ (qf P.L).ze (args[0].1,args[0].2))) w':=hE
    rw[e5] at hE'
    exact⟨rfl,hE'.first bb⟩
  ·have uZ:0<=(ye h).now:=by have:¬(ye h).now<0:=hs;omega
   obtain⟨q2,bd2,c2,k3,_⟩:=k2.rc uZ (by rw[hlc];exact hcl) hnp hl2
   refine⟨P.D q2,k3.run w2 zS,fun w3 xn=>(k3.put args[0].1 args[0].2 hv' w3 xn).mono ?_⟩
   rintro e w' ⟨rfl,hE⟩
   have e5:yQ (qf P.L).ze (args[0].1,args[0].2)=yQ P.L.ze args[0]:=hvb
   have hE':qv B bl br vp ce np w2 (yI (ye h) (yQ (qf P.L).ze (args[0].1,args[0].2))) w':=hE
   rw[e5] at hE'
   exact⟨rfl,hE'.first bb⟩
 have y1:=k.k.run.cell 1 rfl
 have Qh:=Tryz.goP_leave bl
 have QP:=Tryz.goP_running bl
 have hz:(0:Int)<(args.length:Int):=by omega
 obtain⟨b,o,cap,jz,_⟩:=t.cell h1
 subst jz
 clear t k s1 o1 w1 x1 p1 b1 c1 hfr hn hi hm hpos htop ht hl2 hW hv hv' hvb hlc
 obtain⟨x,hx⟩:∃x,yQ P.L.ze args[0]=x:=⟨_,rfl⟩
 rw[hx] at HAF ⊢
 clear hx
 obtain⟨a1,ha1⟩:∃a1,args[0].1=a1:=⟨_,rfl⟩
 obtain⟨a2,ha2⟩:∃a2,args[0].2=a2:=⟨_,rfl⟩
 rw[ha1,ha2] at HAF
 clear ha1 ha2
 unfold Vt
 by_cases hs:(yJ h).zi<0
 ·rw[if_pos hs]
  go_enter Tryz.func155,Tryz.ntmps155
  go_wp2_with fail
  refine HLV.mono ?_
  rintro e w2 ⟨rfl,F',uP,T',hG⟩
  obtain⟨y1',⟨b',o',cap',XC,c0,c1⟩,hA,_⟩:=HAF.out w2 F' uP T' hG
  obtain⟨rfl,rfl,rfl⟩:b=b'/\o=o'/\cap=cap':=by
   injection XC with q1 _ q3
   injection q1 with q1
   injection q1 with q1 q2 _
   exact⟨q1,q2,q3⟩
  obtain⟨HR,HS⟩:=hA hs
  have HSH:Hid (Calls Tryz.prog 178 #[zJ br 0,.agg #[zI a1,zI a2]] w2 (fun e w'=>e=.returned (.tuple #[])/\qv B bl br vp ce np w (uN (ye h) x) w')):=HS
  clear y1 hG hA HS
  go_wp2_with fail
  refine HR.mono ?_
  rintro e w' ⟨rfl,hw⟩
  subst hw
  go_wp2_with fail
  refine HSH.out.mono ?_
  rintro e w3 ⟨rfl,hE⟩
  obtain⟨⟨yy,v4,vf4⟩,hE4⟩:=hE.code 1
  go_wp2
  exact bodyPost_ret (results_none rfl _ _ _) rfl ⟨rfl,hE4⟩
 ·rw[if_neg hs]
  go_enter Tryz.func155,Tryz.ntmps155
  go_wp2_with fail
  refine HLV.mono ?_
  rintro e w2 ⟨rfl,F',uP,T',hG⟩
  obtain⟨y1',⟨b',o',cap',XC,c0,c1⟩,_,hA⟩:=HAF.out w2 F' uP T' hG
  obtain⟨rfl,rfl,rfl⟩:b=b'/\o=o'/\cap=cap':=by
   injection XC with q1 _ q3
   injection q1 with q1
   injection q1 with q1 q2 _
   exact⟨q1,q2,q3⟩
  obtain⟨d,HR,HP⟩:=hA hs
  have HPH:Hid _:=HP
  clear y1 hG hA HP
  go_wp2_with (first
   | (go_at_call 209;refine HR.mono ?_;rintro e w3 ⟨rfl,xn⟩;have v0:=zc xn c0;have v1:=zc xn c1)
   | (go_at_call 174;refine(HPH.out w3 xn).mono ?_;rintro e w4 ⟨rfl,hE⟩))
  exact bodyPost_end (results_none rfl _ _ _) rfl ⟨rfl,hE⟩
variable {B:Nat} {ρ ρ':Nat->Rl} {w w':World} {P:Lay} {bl br:Nat} {vp vsd:Value} {ce:Int} {np:Nat} {h h':Hp} {q:Nat} {bd:jg} {c:Cl}
theorem XZ:∀(n:Nat) (h:Hp) (b:Nat),(yC n h b).born=h.born/\(yC n h b).zm=h.zm/\(yC n h b).code=h.code
 | 0,_,_=>⟨rfl,rfl,rfl⟩
 | n+1,h,b=>by
  show(if h.now=(b:Int) then h else yC n (ye h) b).born=_/\(if h.now=(b:Int) then h else yC n (ye h) b).zm=_/\(if h.now=(b:Int) then h else yC n (ye h) b).code=_
  split
  ·exact⟨rfl,rfl,rfl⟩
  ·exact XZ n (ye h) b
theorem zdp (k:RC B ρ w P bl br vp vsd ce np h q bd c) (hcl:h.za.length<=800) (hnp:np<=900) (a:Int) {vt:Value} {args:yH} (t:Tk (fun g=>ρ g≠.other) w vt args) (h1:1<args.length) {j:Nat} {tw:kN} (hj:P.L.ze[j]?=some tw) (hv:args[0].2=(j:Int)) {b':jg} {c':Cl} (hb':P.L.zj[tw.body]?=some b') (hc':h.za[tw.body]?=some c') (ha':Ym P.L.ze b' c') (hva:args[1].1=2->∃j:Nat,args[1].2=(j:Int)/\j<P.L.ze.length)
 (hback:c'.zv=false->(∃l,qG h.za h.now l/\tw.body∈l/\l.length<=h.za.length)/\0<=(yC h.za.length h tw.body).now/\(yC h.za.length h tw.body).za.length=h.za.length/\(yJ (yC h.za.length h tw.body)).zf.length<=1000) :
 Calls Tryz.prog 160 #[zJ br 0,zI a,vt] w fun e w'=>e=.returned (.tuple #[])/\qv B bl br vp ce np w (Qb h tw.body (yQ P.L.ze args[1])) w':=by
 have HL:=k.look j tw hj w.drew zS.drew
 have Qh:=Tryz.goP_looked bl
 have QP:=Tryz.goP_backTo bl
 have y1:=k.k.run.cell 1 rfl
 have y4:=k.k.run.cell 4 rfl
 have yf4:=k.k.run.frozen 4
 obtain⟨hbl,hbe⟩:=List.getElem?_eq_some_iff.1 hb'
 have hbody:=((k.k.lv (.body tw.body)) hbl).1
 rw[hbe] at hbody
 have z4:w.cell? (zH (P.D tw.body) 4)=some (.bool b'.zv):=hbody.cell 4 rfl
 obtain⟨b,o,cap,jz,⟨c0,c1⟩,d0,d1⟩:=t.cells2 h1
 subst jz
 rw[hv] at c1
 have hz:(1:Int)<(args.length:Int):=by omega
 have jT:0<args.length:=by omega
 have hget:h.za.getD tw.body Cl.none=c':=by rw[List.getD_eq_getElem?_getD,hc'];rfl
 unfold Qb
 rw[hget,ha'.zv]
 rw[ha'.zv] at hback
 cases hd:b'.zv
 ·rw[hd] at z4
  obtain⟨⟨l,hw,hil,hll⟩,hRn,hRl,hRs⟩:=hback hd
  obtain⟨s1,o1,w1,x1,p1,bo1,ce1⟩:=Wf h.za.length P.L h tw.body l k.k.sim k.k.ord k.k.now hw hil hll
  obtain⟨r1,r2,r3⟩:=XZ h.za.length h tw.body
  have kd:=(k.k.below (Below.refl w.heap.size w).drew)
  have kd2:=(kd.below (Below.refl w.drew.heap.size w.drew).drew)
  have HB:Calls Tryz.prog 204 #[zJ bl 0,zI (j:Int)] w.drew.drew fun e w'=>e=.returned (.tuple #[])/\∃F' uP T',Goes B (zu (zu ρ w .other) w.drew .other) w.drew.drew w' {P with F:=F',vo:=uP,T:=T',L:=ku h.za.length P.L tw.body}:=by
   have:=zdj kd2.lv kd2.big kd2.sim kd2.ord kd2.now hw k.few hj hil hll
   rw[<-k.k.hbl]
   exact this
  have ht2:Tk (fun g=>zu (zu ρ w .other) w.drew .other g≠.other) w.drew.drew (zK b o args.length cap) args:=(t.keep (Ch.below zS.drew _ ρ .other)).keep (Ch.below (Below.refl w.drew.heap.size w.drew).drew _ _ .other)
  have HG:Hid (∀(w2:World) (F':Nat->Value) (uP:Value) (T':Nat->Value × Value),Goes B (zu (zu ρ w .other) w.drew .other) w.drew.drew w2 {P with F:=F',vo:=uP,T:=T',L:=ku h.za.length P.L tw.body}->(w2.cell? (zH b (o+2))=some (zI args[1].1)/\w2.cell? (zH b (o+2+1))=some (zI args[1].2))/\Calls Tryz.prog 174 #[zJ br 0,.agg #[zI args[1].1,zI args[1].2]] w2 fun e w'=>e=.returned (.tuple #[])/\qv B bl br vp ce np w (yI (yC h.za.length h tw.body) (yQ P.L.ze args[1])) w'):=by
   intro w2 F' uP T' hG
   obtain⟨ρ2,hl,cc,bb⟩:=hG
   have k2:RV B ρ2 w2 {P with F:=F',vo:=uP,T:=T',L:=ku h.za.length P.L tw.body} bl br vp vsd ce np (yC h.za.length h tw.body):=kd2.goes hl cc rfl s1 o1 w1 ce1 p1 r1 r2 r3
   obtain⟨b2,o2,cap2,hvt2,_,e0,e1⟩:=(ht2.keep cc).cells2 h1
   cases hvt2
   refine⟨⟨e0,e1⟩,?_⟩
   have hva':args[1].1=2->∃j:Nat,args[1].2=(j:Int)/\j<(ku h.za.length P.L tw.body).ze.length:=fun e=>by
    obtain⟨i,e1,e2⟩:=hva e
    exact⟨i,e1,Nat.lt_of_lt_of_le e2 x1.le⟩
   obtain⟨q2,bd2,cc2,k3,_⟩:=k2.rc hRn (by rw[hRl];exact hcl) hnp hRs
   refine(k3.put args[1].1 args[1].2 hva' w2 zS).mono ?_
   rintro e w' ⟨rfl,hE⟩
   have hE':qv B bl br vp ce np w2 (yI (yC h.za.length h tw.body) (yQ (ku h.za.length P.L tw.body).ze args[1])) w':=hE
   rw[KV x1 hva] at hE'
   exact⟨rfl,hE'.first ((Below.refl B w).drew.drew.trans bb)⟩
  generalize yC h.za.length h tw.body=R at *
  generalize ku h.za.length P.L tw.body=L1 at *
  clear k kd kd2 t ht2 hback hRn hRl hRs hw hil hll s1 o1 w1 x1 p1 bo1 ce1 r1 r2 r3 hbody ha' hb' hc' hget hbe hva d0 d1
  rw[if_neg (by decide)]
  go_enter Tryz.func160,Tryz.ntmps160
  go_wp2_with fail
  go_region_law (go_simp;go_at_call 208;refine HL.mono ?_;rintro e w' ⟨rfl,hw⟩;obtain rfl:=hw.symm)
  all_goals
   go_wp2_with fail
   go_region_law (go_simp;go_at_call 204;refine HB.mono ?_;rintro e w2 ⟨rfl,F',uP,T',hG⟩;obtain⟨⟨e0,e1⟩,HP⟩:=HG.out w2 F' uP T' hG;clear hG)
   all_goals
    go_wp2_with (go_at_call 174;refine HP.mono ?_;rintro e w3 ⟨rfl,hE⟩)
    exact bodyPost_end (results_none rfl _ _ _) rfl ⟨rfl,hE⟩
 ·rw[hd] at z4
  have hE:Hid (qv B bl br vp ce np w (vZ h 2) (w.setCell (zH br 4) (zI 2)).drew):=by
   have k4:=(k.k.code 2).below zS.drew
   exact⟨_,P,vsd,k4,((Below.refl B w).setCell (p:=zH br 4) k.k.bbr _).drew⟩
  clear k t hback hbody ha' hb' hc' hget hbe hva
  rw[if_pos rfl]
  go_enter Tryz.func160,Tryz.ntmps160
  go_wp2_with fail
  go_region_law (go_simp;go_at_call 208;refine HL.mono ?_;rintro e w' ⟨rfl,hw⟩;obtain rfl:=hw.symm)
  all_goals
   go_wp2
   exact bodyPost_ret (results_none rfl _ _ _) rfl ⟨rfl,hE.out⟩
variable {B:Nat} {ρ ρ':Nat->Rl} {w w':World} {P:Lay} {bl br:Nat} {vp vsd:Value} {ce:Int} {np:Nat} {h h':Hp} {q:Nat} {bd:jg} {c:Cl}
theorem jB.wf {L:yF} (s:jB 0 0 L h):L.wf:=⟨fun i hi k hk=>(s.fb i k _ (by unfold yF.fr;rw[List.getElem?_eq_getElem hi];exact List.getElem?_eq_getElem hk) (yP _ _)).1,fun j hj=>(s.tb j _ (List.getElem?_eq_getElem hj)).1⟩
theorem RV.born (k:RV B ρ w P bl br vp vsd ce np h) (x:Int):RV B ρ (w.setCell (zH br 2) (zI x)) P bl br vp vsd ce np {h with born:=x}:=by
 have c1:Ch (fun r=>r=.other) ρ ρ w (w.setCell (zH br 2) (zI x)):=Ch.set w ρ _ _ _ k.rbr
 exact⟨k.lv.loose c1,k.hbl,Nat.le_trans k.big c1.size,k.run.set 2 _,k.rbr,k.bbr,k.zm.kept c1.size fun g e=>Below.heap_setCell _ _ _ _ (k.sr g e).2,k.sr,k.sim.other rfl,k.ord,k.now,k.hce,k.hnp⟩
theorem za0 (k:RV B ρ w P bl br vp vsd ce np h) (h0:0<=h.now) (hcl:h.za.length<=700) (hnp:np<=900) (hce:-1000000<=ce/\ce<=1000000) (hbt:∀q,(hq:q<P.L.zj.length)->P.L.zj[q].zg.length<=1000)
 {W:World} (hW:zO w W) {d:Nat} {vt:Value} {b:jg} {c:Cl} (ha:Ym P.L.ze b c) (hdd:b.zv=false) (hsd:c.zi=h.now) (hst:b.zf=[]) (htl:b.zg.length<=1000) (hx:Bx W d 186 (xx (vt,zQ) b)) (hd:w.heap.size<=d) (ht:zk w.heap.size W vt b.zg) (hvd:vt.ownBlock≠some d) :
 Calls Tryz.prog 205 #[zJ bl 0,zJ d 0] W fun e w'=>e=.returned (.tuple #[])/\∃ρ' P',RV B ρ' w' P' bl br vp vsd ce np {h with za:=h.za ++ [c],now:=(h.za.length:Int)}/\Below B w w':=by
 obtain rfl:=k.hbl
 have hB:=k.big
 have ZQ:=hW.size
 have hl:=k.lv.addBody k.sim.wf hB hW hx hd ht (by rw[hst];exact zk.nil _ _) hvd (by simp[Value.ownBlock]) (fun g _=>by simp[Value.ownBlock])
 have so:=k.sim.orph ha
 rcases k.now with⟨_,e⟩ | ⟨i,hn,hi,hf,htp⟩
 ·omega
 have hLe:(jI P d vt (zQ) b).L=jA P.L (P.L.zj ++ [b]):=rfl
 have zdK:(jI P d vt (zQ) b).L.zj.length=P.L.zj.length+1:=by show(P.L.zj ++ [b]).length=_;simp
 obtain⟨few,f8⟩:=k.sim.few (by omega) (by rw[k.hnp];exact hnp)
 have few':ul (jI P d vt (zQ) b).L:=⟨few.f,few.p,few.t⟩
 have hE:=zeK hl (by omega) so k.ord (i:=i) hn hi hf few' f8 (by show _<=P.L.cells/\P.L.cells<=_;rw[k.hce];exact hce) (fun p hp=>by
  have hp':p<(P.L.zj ++ [b]).length:=hp
  show((P.L.zj ++ [b])[p]'hp').zg.length<=1000
  by_cases e:p<P.L.zj.length
  ·rw[List.getElem_append_left e]
   exact hbt p e
  ·have e2:p=P.L.zj.length:=by simp at hp';omega
   subst e2
   rw[List.getElem_concat_length rfl]
   exact htl) (k:=P.L.zj.length) (by rw[zdK];omega)
 have hD:(jI P d vt (zQ) b).D P.L.zj.length=d:=if_pos rfl
 have hbb:(jI P d vt (zQ) b).L.zj[P.L.zj.length]'(by rw[zdK];omega)=b:=List.getElem_concat_length (l:=P.L.zj) (a:=b) rfl (by simp)
 rw[hD,hbb,hLe,<-za1 k.sim k.ord hn hi hf b] at hE
 obtain⟨s1,o1,w1,x1,b1,c1,p1⟩:=zcw k.sim k.ord k.now h0 ha hdd hsd h.born h.code h.zm
 refine hE.mono ?_
 rintro e w' ⟨rfl,F',uP,ρ',hA,cA,bA⟩
 have hbr:=k.run.lt
 -- the run's own blocks are of no role
 have hro:∀g,g<w.heap.size->jh ρ w P.L.zj.length d vt (zQ) g=ρ g:=fun g hg=>if_pos hg
 have hch:∀g,g<w.heap.size->ρ g=.other->w'.heap[g]?=w.heap[g]?:=fun g hg hr=>(cA.blk g (by omega) (by rw[hro g hg,hr];simp)).trans (hW.block g hg)
 have hrr:∀g,g<w.heap.size->ρ' g=ρ g:=fun g hg=>(cA.role g (by omega)).trans (hro g hg)
 have hR:RV B ρ' w' _ P.bl br vp vsd ce np ⟨h.za ++ [c],(h.za.length:Int),h.born,h.zm,h.code⟩:=⟨hA,rfl,Nat.le_trans (by omega) cA.size,k.run.kept (hch br hbr k.rbr),(hrr br hbr).trans k.rbr,k.bbr,k.zm.kept (Nat.le_trans ZQ cA.size) fun g e=>hch g (k.zm.lt g e).2 (k.sr g e).1,fun g e=>⟨(hrr g (k.zm.lt g e).2).trans (k.sr g e).1,(k.sr g e).2⟩,s1,o1,w1,c1.trans k.hce,p1.trans k.hnp⟩
 exact⟨rfl,ρ',_,hR,(hW.mono hB).trans bA⟩
variable {B:Nat} {ρ ρ':Nat->Rl} {w w':World} {P:Lay} {bl br:Nat} {vp vsd:Value} {ce:Int} {np:Nat} {h h':Hp} {q:Nat} {bd:jg} {c:Cl}
theorem Ym.born {ts:List kN} {args:yH} (hva:Qm ts.length args) (a:Int) (n:Nat) (sd:Int):Ym ts ⟨a,0,args ++ List.replicate n (0,0),[],false⟩ ⟨a,0,args.map (yQ ts) ++ List.replicate n (0,0),[],sd,false⟩ :=
 ⟨rfl,rfl,rfl,by
  show args.map (yQ ts) ++ List.replicate n (0,0)=(args ++ List.replicate n (0,0)).map (yQ ts)
  rw[List.map_append,List.map_replicate]
  rfl,rfl,fun v hv=>by
  rcases List.mem_append.1 hv with h1 | h1
  ·exact hva v h1
  ·have:=(List.mem_replicate.1 h1).2
   subst this
   exact fun e=>absurd e (by decide),fun v hv=>absurd hv (by simp)⟩
theorem zdq (k:RC B ρ w P bl br vp vsd ce np h q bd c) (hcl:h.za.length<=700) (hnp:np<=900) (hce:-1000000<=ce/\ce<=1000000) (hbt:∀q,(hq:q<P.L.zj.length)->P.L.zj[q].zg.length<=1000) {ms:Ms} (hM:yD w vp ms) (a:Nat) (ha:a<ms.length) {vt:Value} {Q:Nat->Prop} {args:yH} (t:Tk Q w vt args) (hva:Qm P.L.ze.length args)
 (hal:(args.length:Int)=ms[a].1) (hat:ms[a].1<=ms[a].2.1/\ms[a].2.1<=4) (hbn:0<=h.born/\h.born<=30) :
 Calls Tryz.prog 154 #[zJ br 0,zI a,vt] w fun e w'=>e=.returned (.tuple #[])/\qv B bl br vp ce np w (uI ms h a (args.map (yQ P.L.ze))) w':=by
 have h0:0<=h.now:=by rw[k.nw];omega
 have hB:=k.k.big
 have y1:=k.k.run.cell 1 rfl
 have y2:=k.k.run.cell 2 rfl
 have y4:=k.k.run.cell 4 rfl
 have yf2:=k.k.run.frozen 2
 have yf4:=k.k.run.frozen 4
 have y0:=k.k.run.cell 0 rfl
 have hbr:=k.k.run.lt
 by_cases hb:h.born=30
 ·have HE:Hid (qv B bl br vp ce np w (uI ms h a (args.map (yQ P.L.ze))) (w.setCell (zH br 4) (zI 3))):=by
   show qv B bl br vp ce np w (uI ms h a (args.map (yQ P.L.ze))) (w.setCell (zH br 4) (zI 3))
   unfold uI
   rw[if_pos (by omega)]
   exact⟨_,P,vsd,k.k.code 3,(Below.refl B w).setCell (p:=zH br 4) k.k.bbr _⟩
  rw[hb] at y2
  clear k t hM
  go_enter Tryz.func154,Tryz.ntmps154
  go_wp2
  exact bodyPost_ret (results_none rfl _ _ _) rfl ⟨rfl,HE.out⟩
 have hb':(h.born == 30)=false:=zG.2 hb
 obtain⟨ap,cp,qI,hlp,hms⟩:=id hM
 obtain⟨pb,po,vo,hap,p0,p1,p2,p3⟩:=hms a ha
 subst qI hap
 clear hms p3
 obtain⟨nt,hnt⟩:=Int.eq_ofNat_of_zero_le (show 0<=ms[a].2.1 by omega)
 rw[hnt] at p1
 have haz:(a:Int)<(ms.length:Int):=by omega
 obtain⟨i0,hi,jT,xF,kf⟩:=info_parts Tryz.infoVal
 have hnt4:nt<=4:=by omega
 have hmk:∀w:World,(Instr.makeSlice 32 (zI (nt:Int)) (zI (nt:Int))).run Tryz.prog w=.ok (zK w.heap.size 0 nt nt) (w.alloc (.cells (madeCells #[zI 0,zI 0] (nt * 2)) 86)):=by
  intro w
  have:=run_make (P:=Tryz.prog) w 32 86 i0 _ Tryz.underlying32 hi jT .i64 .i64 nt nt (by omega) (Int.le_refl _) (by rw[kf];omega) (by omega)
  simpa [xF,Value.cells] using this
 clear hi jT xF kf
 have hA:zO w (w.alloc (.cells (madeCells #[zI 0,zI 0] (nt * 2)) 86)):=zR _ _
 have mk:=ZT (B:=w.heap.size) w nt 86 zD (by omega)
 have hzA:(w.alloc (.cells (madeCells #[zI 0,zI 0] (nt * 2)) 86)).heap.size=w.heap.size+1:=by simp
 obtain⟨W3,hcp,JT,K5,_,xn⟩:=VE _ vt args (t.at_.below hA) w.heap.size nt mk (by omega)
 have B3:zO w W3:=xn hA zD
 rw[hzA] at K5
 clear xn hA mk
 have u1:=zc B3 (k.k.run.cell 1 rfl)
 -- the box of the body
 have hnla:args.length<=nt:=by omega
 have JV:=Bx.new W3 186 [.int .i64 a,.int .i64 0,.slice (some ⟨w.heap.size,0,none⟩) nt nt,.slice none 0 0,.bool false]
 have N4:zO W3 (W3.alloc (.cells #[.int .i64 a,.int .i64 0,.slice (some ⟨w.heap.size,0,none⟩) nt nt,.slice none 0 0,.bool false] 186)):=zR _ _
 have B4:zO w (W3.alloc (.cells #[.int .i64 a,.int .i64 0,.slice (some ⟨w.heap.size,0,none⟩) nt nt,.slice none 0 0,.bool false] 186)):=B3.trans (N4.mono (by omega))
 have yz:(args ++ List.replicate (nt - args.length) ((0:Int),(0:Int))).length=nt:=by rw[List.length_append,List.length_replicate];omega
 have HE4:=za0 k.k h0 hcl hnp hce hbt B4 (d:=W3.heap.size) (vt:=zK w.heap.size 0 nt nt) (Ym.born hva (a:Int) (nt - args.length) h.now) rfl rfl rfl (by rw[yz];omega) JV (by omega) (JT.below N4) (fun e=>by have e':some w.heap.size=some W3.heap.size:=e;injection e' with e';omega)
 have hmt:=Tryz.goP_enter bl
 have HFIN:Hid (∀(w5:World),(∃ρ' P',RV B ρ' w5 P' bl br (zK pb po ms.length cp) vsd ce np {h with za:=h.za ++ [⟨(a:Int),0,args.map (yQ P.L.ze) ++ List.replicate (nt - args.length) (0,0),[],h.now,false⟩],now:=(h.za.length:Int)}/\Below B w w5)->(w5.cell? (zH br 2)=some (zI h.born)/\w5.frozen? (zH br 2)=false)/\qv B bl br (zK pb po ms.length cp) ce np w (uI ms h a (args.map (yQ P.L.ze))) (w5.setCell (zH br 2) (zI (h.born+1)))):=by
  rintro w5 ⟨ρ',P',k5,b5⟩
  have e:uI ms h a (args.map (yQ P.L.ze))={h with za:=h.za ++ [⟨(a:Int),0,args.map (yQ P.L.ze) ++ List.replicate (nt - args.length) (0,0),[],h.now,false⟩],now:=(h.za.length:Int),born:=h.born+1}:=by
   unfold uI
   rw[if_neg (by omega),Int.toNat_natCast,yn ha,hnt,Int.toNat_natCast,List.length_map]
  rw[e]
  exact⟨⟨k5.run.cell 2 rfl,k5.run.frozen 2⟩,ρ',P',vsd,k5.born (h.born+1),b5.setCell (p:=zH br 2) k5.bbr _⟩
 have hwb:IntKind.i64.wrap (h.born+1)=h.born+1:=by rw[IntKind.wrap_i64];omega
 obtain⟨ta,tc,htv,_⟩:=id t.at_
 subst htv
 have hz3':br<W3.heap.size:=by omega
 clear k t hM JT N4 B4 p0 p2 hnt hat hal K5 hzA JV hva yz hnla
 go_enter Tryz.func154,Tryz.ntmps154
 go_wp2_with (go_at_call 205;refine HE4.mono ?_;rintro e w5 ⟨rfl,hk5⟩;obtain⟨⟨v2,vf2⟩,hE⟩:=HFIN.out w5 hk5;clear hk5)
 exact bodyPost_end (results_none rfl _ _ _) rfl ⟨rfl,hE⟩
end Go.Proofs.YtbjgjjkgfnfejaaGreatDoor

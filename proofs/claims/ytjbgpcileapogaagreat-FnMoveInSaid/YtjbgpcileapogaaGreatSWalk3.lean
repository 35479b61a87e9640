/-
  The model's heap at work, walked: l11Num, l11Bit, now, die.
-/
import Derived.Handy
import Derived.Test.YtjbgpcileapogaaGreatVSpec
namespace Go.Proofs.YtjbgpcileapogaaGreat
open Go.RowKit
def duo (x0 x1:Value):Nat->Value:=fun i=>if i=0 then x0 else x1
theorem yS (w:World) (t:TypeId) (x0 x1:Value):(w.alloc (.cells #[x0,x1] t)).rowIs w.heap.size t 2 (duo x0 x1) :=
 ⟨_,Go.Deep.blk_alloc_new _ _,rfl,fun i hi=>by match i,hi with | 0,_=>rfl | 1,_=>rfl⟩
theorem zy {w:World} {g:Nat} {t:TypeId} {x0 x1:Value} (h:w.rowIs g t 2 (duo x0 x1)):(w.cell? ⟨g,0,none⟩=some x0/\w.cell? ⟨g,1,none⟩=some x1)/\(w.frozen? ⟨g,0,none⟩=false/\w.frozen? ⟨g,1,none⟩=false) :=
 ⟨⟨h.cell (i:=0) (by decide),h.cell (i:=1) (by decide)⟩,h.frozen 0,h.frozen 1⟩
theorem jJ {w:World} {g:Nat} {t:TypeId} {x0 x1:Value} (h:w.rowIs g t 2 (duo x0 x1)) (u v:Value):((w.setCell ⟨g,0,none⟩ u).setCell ⟨g,1,none⟩ v).rowIs g t 2 (duo u v) :=
 ((h.set 0 u).set 1 v).congr fun i hi=>by match i,hi with | 0,_=>rfl | 1,_=>rfl
set_option maxHeartbeats 1000000 in
theorem kJ (n:Int) (w:World):Calls Tryz.prog 191 #[.int .i64 n] w fun e w'=>e=.returned (.agg #[.int .i64 1,.int .i64 n])/\Below w.heap.size w w':=by
 go_enter Tryz.func191,Tryz.ntmps191
 go_wp2
 go_returns
 exact⟨rfl,zB _ _⟩
set_option maxHeartbeats 1000000 in
theorem uI (b:Bool) (w:World):Calls Tryz.prog 197 #[.bool b] w fun e w'=>e=.returned (.agg #[.int .i64 1,.int .i64 (if b then 1 else 0)])/\Below w.heap.size w w':=by
 have hA:Below w.heap.size w (w.alloc (.cells #[.int .i64 0,.int .i64 0] 98)):=zB _ _
 have rx:=yS w 98 (.int .i64 0) (.int .i64 0)
 cases b
 all_goals
  go_enter Tryz.func197,Tryz.ntmps197
  go_upto_region 1 with fail
  generalize w.alloc (.cells #[.int .i64 0,.int .i64 0] 98)=W at *
  go_wp2_with (go_at_call 191;refine(kJ _ _).mono ?_;rintro e w' ⟨rfl,hw⟩;have r2:=zz hw rx;obtain⟨⟨t0,t1⟩,tf0,tf1⟩:=zy r2;have hB:=hA.trans (hw.mono hA.size))
 ·obtain⟨⟨s0,s1⟩,_⟩:=zy (jJ r2 (.int .i64 1) (.int .i64 0))
  refine bodyPost_ret (v:=.agg #[.int .i64 1,.int .i64 0]) (by simp[results,Tryz.results197,go_sem,s0,s1]) rfl ?_
  exact⟨rfl,(hB.setCell (p:=⟨w.heap.size,0,none⟩) zD _).setCell (p:=⟨w.heap.size,1,none⟩) zD _⟩
 ·obtain⟨⟨s0,s1⟩,_⟩:=zy (jJ r2 (.int .i64 1) (.int .i64 1))
  refine bodyPost_ret (v:=.agg #[.int .i64 1,.int .i64 1]) (by simp[results,Tryz.results197,go_sem,s0,s1]) rfl ?_
  exact⟨rfl,(hB.setCell (p:=⟨w.heap.size,0,none⟩) zD _).setCell (p:=⟨w.heap.size,1,none⟩) zD _⟩
set_option maxRecDepth 100000 in
set_option maxHeartbeats 2000000 in
theorem now_any {A:Nat->Prop} {B:Nat} {w:World} {bo:Nat} {vp vs:Value} {g off zp:Nat} {ms:zM} {h:Hp} {V:Nat->Value × Value} (k:SM A B w bo vp (.slice (some ⟨g,off,none⟩) h.za.length zp) vs ms h V) {j:Nat} (hn:h.now=j) (hj:j<h.za.length) :
 Calls Tryz.prog 177 #[.pointer (some ⟨bo,0,none⟩)] w fun e w'=>e=.returned (.pointer (some ⟨g,off+j * 6,none⟩))/\Below w.heap.size w w':=by
 obtain⟨⟨x0,x1,x2,x3,x4,x5⟩,_⟩:=zZ k.box
 rw[hn] at x2
 have hjz:(j:Int)<(h.za.length:Int):=by omega
 go_enter Tryz.func177,Tryz.ntmps177
 go_wp2
 go_region
 go_wp2
 go_ret
 exact⟨rfl,zC.drew⟩
theorem SM.die {A:Nat->Prop} {B:Nat} {w:World} {bo:Nat} {vp vs:Value} {g off zp:Nat} {ms:zM} {h:Hp} {V:Nat->Value × Value} (k:SM A B w bo vp (.slice (some ⟨g,off,none⟩) h.za.length zp) vs ms h V) {j:Nat} (hj:j<h.za.length) (e:TypeId) :
 ∃V',SM A B ((((w.setCell ⟨g,off+j * 6+5,none⟩ (.bool true)).alloc (.cells #[] e)).setCell ⟨g,off+j * 6+3,none⟩ (.slice (some ⟨w.heap.size,0,none⟩) 0 0)).setCell ⟨g,off+j * 6+4,none⟩ (.int .i64 (-1))) bo vp (.slice (some ⟨g,off,none⟩) h.za.length zp) vs ms {h with za:=h.za.set j {h.za[j] with ze:=[],zf:=-1,zv:=true}} V' /\
  Cm A B w ((((w.setCell ⟨g,off+j * 6+5,none⟩ (.bool true)).alloc (.cells #[] e)).setCell ⟨g,off+j * 6+3,none⟩ (.slice (some ⟨w.heap.size,0,none⟩) 0 0)).setCell ⟨g,off+j * 6+4,none⟩ (.int .i64 (-1))):=by
 obtain⟨hgB,hgl⟩:=k.own.c.lt (g:=g) (.inl rfl)
 have b1:=(Below.refl B w).setCell (p:=⟨g,off+j * 6+5,none⟩) hgB (.bool true)
 obtain⟨k1,m1⟩:=k.put hj (uL k.own.c hj 5 (.bool true) {h.za[j] with zv:=true} (by decide) rfl rfl rfl rfl rfl rfl) b1
 have hs1:(w.setCell ⟨g,off+j * 6+5,none⟩ (.bool true)).heap.size=w.heap.size:=by simp[World.setCell]
 have hj1:j<(h.za.set j {h.za[j] with zv:=true}).length:=by simpa using hj
 have hwB:B<=w.heap.size:=by omega
 have mk:zj B ((w.setCell ⟨g,off+j * 6+5,none⟩ (.bool true)).alloc (.cells #[] e)) (.slice (some ⟨w.heap.size,0,none⟩) 0 0) []:=by
  have:=zj.made (B:=B) (w:=w.setCell ⟨g,off+j * 6+5,none⟩ (.bool true)) (e:=e) (by rw[hs1];exact hwB)
  rwa [hs1] at this
 obtain⟨k2,m2⟩:=k1.put hj1 (QM k1.own.c hj1 (.slice (some ⟨w.heap.size,0,none⟩) 0 0) [] (Nat.le_of_lt (by simp)) (fun q hq _=>Below.heap_alloc _ _ q hq) mk (fun q e=>by
  simp[Value.ownBlock] at e
  exact .inr (by rw[hs1];omega))) (((Below.refl B _).alloc (by rw[hs1];exact hwB) _).setCell (p:=⟨g,off+j * 6+3,none⟩) hgB _)
 have hj2:j<((h.za.set j {h.za[j] with zv:=true}).set j {(h.za.set j {h.za[j] with zv:=true})[j] with ze:=[]}).length:=by simpa using hj
 obtain⟨k3,m3⟩:=k2.put hj2 (uL k2.own.c hj2 4 (.int .i64 (-1)) {((h.za.set j {h.za[j] with zv:=true}).set j {(h.za.set j {h.za[j] with zv:=true})[j] with ze:=[]})[j] with zf:=-1} (by decide) rfl rfl rfl rfl rfl rfl) ((Below.refl B _).setCell (p:=⟨g,off+j * 6+4,none⟩) hgB _)
 simp only[List.getElem_set_self,List.set_set] at k3
 exact⟨_,k3,(m1.trans m2).trans m3⟩
set_option maxRecDepth 100000 in
set_option maxHeartbeats 2000000 in
theorem zaz {A:Nat->Prop} {B:Nat} {w:World} {bo:Nat} {vp vs:Value} {g off zp:Nat} {ms:zM} {h:Hp} {V:Nat->Value × Value} (k:SM A B w bo vp (.slice (some ⟨g,off,none⟩) h.za.length zp) vs ms h V) {j:Nat} (hj:j<h.za.length) :
 Calls Tryz.prog 198 #[.pointer (some ⟨bo,0,none⟩),.int .i64 (j:Int)] w fun e w'=>e=.returned (.tuple #[])/\(∃V',SM A B w' bo vp (.slice (some ⟨g,off,none⟩) h.za.length zp) vs ms {h with za:=h.za.set j {h.za[j] with ze:=[],zf:=-1,zv:=true}} V')/\Cm A B w w':=by
 obtain⟨⟨x0,x1,x2,x3,x4,x5⟩,_⟩:=zZ k.box
 obtain⟨⟨c0,c1,c2,c3,c4,c5⟩,fz⟩:=k.own.c.cells hj
 have f3:=fz 3 (by decide)
 have f4:=fz 4 (by decide)
 have f5:=fz 5 (by decide)
 have hjz:(j:Int)<(h.za.length:Int):=by omega
 have hgl:=(k.own.c.lt (g:=g) (.inl rfl)).2
 obtain⟨V',k',b'⟩:=k.die hj 98
 have hs1:g<(w.setCell ⟨g,off+j * 6+5,none⟩ (.bool true)).heap.size:=by simp[World.setCell];exact hgl
 have hs2:g<((w.setCell ⟨g,off+j * 6+5,none⟩ (.bool true)).setCell ⟨g,off+j * 6+3,none⟩ (.slice (some ⟨w.heap.size,0,none⟩) 0 0)).heap.size:=by simp[World.setCell];exact hgl
 rw[World.setCell_alloc_past _ _ _ _ hs1,World.setCell_alloc_past _ _ _ _ hs2] at k' b'
 clear hs1 hs2
 have HK:Hid (SM A B _ bo vp _ vs ms _ V'):=k'
 clear fz k' k
 go_enter Tryz.func198,Tryz.ntmps198
 go_wp2
 refine bodyPost_end (results_none rfl _ _ _) rfl ?_
 exact⟨rfl,⟨V',HK.out⟩,b'⟩
set_option maxRecDepth 100000 in
set_option maxHeartbeats 4000000 in
theorem Y8 {A:Nat->Prop} {B:Nat} {w:World} {bo:Nat} {vp vs:Value} {g off zp:Nat} {ms:zM} {h:Hp} {V:Nat->Value × Value} (k:SM A B w bo vp (.slice (some ⟨g,off,none⟩) h.za.length zp) vs ms h V) (kk a:Int) (j:Nat) (hj:j<h.za.length) (hk:kk=12\/kk=13\/kk=17\/kk=18) (ha:0<=a) :
 Calls Tryz.prog 194 #[.pointer (some ⟨bo,0,none⟩),.agg #[.int .i64 kk,.int .i64 a],.int .i64 (j:Int)] w fun e w'=>e=.returned (.agg #[.int .i64 (qT h kk a j).1,.int .i64 (qT h kk a j).2])/\Below w.heap.size w w':=by
 obtain⟨⟨x0,x1,x2,x3,x4,x5⟩,_⟩:=zZ k.box
 obtain⟨⟨c0,c1,c2,c3,c4,c5⟩,_⟩:=k.own.c.cells hj
 have hjz:(j:Int)<(h.za.length:Int):=by omega
 have Z2:bo<w.heap.size:=k.box.lt
 have hgl:=(k.own.c.lt (g:=g) (.inl rfl)).2
 obtain⟨ta,tc,hVt,_⟩:=(k.own.c.lists j hj).1.slice
 obtain⟨sa,sc,ZT,_⟩:=(k.own.c.lists j hj).2.slice
 rw[hVt] at c2
 rw[ZT] at c3
 have hA:Below w.heap.size w (((w.alloc (.cells #[.int .i64 kk,.int .i64 a] 33)).alloc (.cells #[.int .i64 0,.int .i64 0] 98)).alloc (.cells #[.int .i64 h.za[j].m,.int .i64 h.za[j].pc,.slice ta h.za[j].zg.length tc,.slice sa h.za[j].ze.length sc,.int .i64 h.za[j].zf,.bool h.za[j].zv] 37)):=((zB _ _).alloc (by simp) _).alloc (by simp;omega) _
 have ro:(((w.alloc (.cells #[.int .i64 kk,.int .i64 a] 33)).alloc (.cells #[.int .i64 0,.int .i64 0] 98)).alloc (.cells #[.int .i64 h.za[j].m,.int .i64 h.za[j].pc,.slice ta h.za[j].zg.length tc,.slice sa h.za[j].ze.length sc,.int .i64 h.za[j].zf,.bool h.za[j].zv] 37)).rowIs w.heap.size 33 2 (duo (.int .i64 kk) (.int .i64 a)):=((yS w _ _ _).alloc _).alloc _
 have rr:=(yS (w.alloc (.cells #[.int .i64 kk,.int .i64 a] 33)) 98 (.int .i64 0) (.int .i64 0)).alloc (.cells #[.int .i64 h.za[j].m,.int .i64 h.za[j].pc,.slice ta h.za[j].zg.length tc,.slice sa h.za[j].ze.length sc,.int .i64 h.za[j].zf,.bool h.za[j].zv] 37)
 have rc:=jx ((w.alloc (.cells #[.int .i64 kk,.int .i64 a] 33)).alloc (.cells #[.int .i64 0,.int .i64 0] 98)) 37 (.int .i64 h.za[j].m) (.int .i64 h.za[j].pc) (.slice ta h.za[j].zg.length tc) (.slice sa h.za[j].ze.length sc) (.int .i64 h.za[j].zf) (.bool h.za[j].zv)
 simp only[World.size_alloc] at rr rc
 have ht:=(k.own.c.lists j hj).1
 rw[hVt] at ht
 have htA:=ht.below hA
 have zds:qT h kk a j=if kk=12 then(if 0<=h.za[j].zf then(2,h.za[j].zf) else(0,0)) else if kk=13 then h.za[j].zg.getD a.toNat (0,0) else if kk=17 then ZS h.za[j].zv else(1,h.za[j].pc):=by
  unfold qT
  simp only[yi hj]
 have HL:Hid (qT h kk a j=if kk=12 then(if 0<=h.za[j].zf then(2,h.za[j].zf) else(0,0)) else if kk=13 then h.za[j].zg.getD a.toNat (0,0) else if kk=17 then ZS h.za[j].zv else(1,h.za[j].pc)):=zds
 clear zds ht
 generalize hT:h.za[j].zg=TS at *
 generalize hS:h.za[j].ze=SS at *
 clear hT hS
 rcases hk with e | e | e | e
 ·subst e
  by_cases hs:0<=h.za[j].zf
  ·have HR:Hid (qT h 12 a j=(2,h.za[j].zf)):=by show _=_;rw[HL.out];rw[if_pos rfl,if_pos hs]
   go_enter Tryz.func194,Tryz.ntmps194
   go_upto_region 3 with fail
   generalize ((w.alloc (.cells #[.int .i64 12,.int .i64 a] 33)).alloc (.cells #[.int .i64 0,.int .i64 0] 98)).alloc (.cells #[.int .i64 h.za[j].m,.int .i64 h.za[j].pc,.slice ta TS.length tc,.slice sa SS.length sc,.int .i64 h.za[j].zf,.bool h.za[j].zv] 37)=W at *
   obtain⟨⟨d0,d1,d2,d3,d4,d5⟩,_⟩:=zZ rc
   obtain⟨⟨o0,o1⟩,_⟩:=zy ro
   obtain⟨⟨r0,r1⟩,f0,f1⟩:=zy rr
   go_wp2
   obtain⟨⟨s0,s1⟩,_⟩:=zy (jJ rr (.int .i64 2) (.int .i64 h.za[j].zf))
   refine bodyPost_ret (v:=.agg #[.int .i64 2,.int .i64 h.za[j].zf]) (by simp[results,Tryz.results194,go_sem,s0,s1]) rfl ?_
   exact⟨by rw[HR.out],(hA.setCell (p:=⟨w.heap.size+1,0,none⟩) (Nat.le_succ _) _).setCell (p:=⟨w.heap.size+1,1,none⟩) (Nat.le_succ _) _⟩
  ·have hs':h.za[j].zf<0:=by omega
   have HR:Hid (qT h 12 a j=(0,0)):=by show _=_;rw[HL.out];rw[if_pos rfl,if_neg hs]
   go_enter Tryz.func194,Tryz.ntmps194
   go_upto_region 3 with fail
   generalize ((w.alloc (.cells #[.int .i64 12,.int .i64 a] 33)).alloc (.cells #[.int .i64 0,.int .i64 0] 98)).alloc (.cells #[.int .i64 h.za[j].m,.int .i64 h.za[j].pc,.slice ta TS.length tc,.slice sa SS.length sc,.int .i64 h.za[j].zf,.bool h.za[j].zv] 37)=W at *
   obtain⟨⟨d0,d1,d2,d3,d4,d5⟩,_⟩:=zZ rc
   obtain⟨⟨o0,o1⟩,_⟩:=zy ro
   obtain⟨⟨r0,r1⟩,f0,f1⟩:=zy rr
   go_wp2
   obtain⟨⟨s0,s1⟩,_⟩:=zy (jJ rr (.int .i64 0) (.int .i64 0))
   refine bodyPost_ret (v:=.agg #[.int .i64 0,.int .i64 0]) (by simp[results,Tryz.results194,go_sem,s0,s1]) rfl ?_
   exact⟨by rw[HR.out],(hA.setCell (p:=⟨w.heap.size+1,0,none⟩) (Nat.le_succ _) _).setCell (p:=⟨w.heap.size+1,1,none⟩) (Nat.le_succ _) _⟩
 ·subst e
  obtain⟨i,rfl⟩:=Int.eq_ofNat_of_zero_le ha
  by_cases hi:i<TS.length
  ·have hiz:(i:Int)<(TS.length:Int):=by omega
   obtain⟨gt,ot,ct,hte,_,hgt⟩:=htA.form (by omega)
   obtain⟨rfl,rfl⟩:ta=some ⟨gt,ot,none⟩/\tc=ct:=by injection hte with e1 _ e3;exact⟨e1,e3⟩
   clear hte
   obtain⟨⟨q0,q1⟩,_⟩:=htA.cell hi
   have HR:Hid (qT h 13 (i:Int) j=(TS[i].1,TS[i].2)):=by show _=_;rw[HL.out];simp[hi]
   go_enter Tryz.func194,Tryz.ntmps194
   go_upto_region 3 with fail
   generalize ((w.alloc (.cells #[.int .i64 13,.int .i64 (i:Int)] 33)).alloc (.cells #[.int .i64 0,.int .i64 0] 98)).alloc (.cells #[.int .i64 h.za[j].m,.int .i64 h.za[j].pc,.slice (some ⟨gt,ot,none⟩) TS.length tc,.slice sa SS.length sc,.int .i64 h.za[j].zf,.bool h.za[j].zv] 37)=W at *
   obtain⟨⟨d0,d1,d2,d3,d4,d5⟩,_⟩:=zZ rc
   obtain⟨⟨o0,o1⟩,_⟩:=zy ro
   obtain⟨⟨r0,r1⟩,f0,f1⟩:=zy rr
   go_wp2
   obtain⟨⟨s0,s1⟩,_⟩:=zy (jJ rr (.int .i64 TS[i].1) (.int .i64 TS[i].2))
   refine bodyPost_ret (v:=.agg #[.int .i64 TS[i].1,.int .i64 TS[i].2]) (by simp[results,Tryz.results194,go_sem,s0,s1]) rfl ?_
   exact⟨by rw[HR.out],(hA.setCell (p:=⟨w.heap.size+1,0,none⟩) (Nat.le_succ _) _).setCell (p:=⟨w.heap.size+1,1,none⟩) (Nat.le_succ _) _⟩
  ·have hiz:¬(i:Int)<(TS.length:Int):=by omega
   have HR:Hid (qT h 13 (i:Int) j=(0,0)):=by show _=_;rw[HL.out];simp[hi]
   go_enter Tryz.func194,Tryz.ntmps194
   go_upto_region 3 with fail
   generalize ((w.alloc (.cells #[.int .i64 13,.int .i64 (i:Int)] 33)).alloc (.cells #[.int .i64 0,.int .i64 0] 98)).alloc (.cells #[.int .i64 h.za[j].m,.int .i64 h.za[j].pc,.slice ta TS.length tc,.slice sa SS.length sc,.int .i64 h.za[j].zf,.bool h.za[j].zv] 37)=W at *
   obtain⟨⟨d0,d1,d2,d3,d4,d5⟩,_⟩:=zZ rc
   obtain⟨⟨o0,o1⟩,_⟩:=zy ro
   obtain⟨⟨r0,r1⟩,f0,f1⟩:=zy rr
   go_wp2
   obtain⟨⟨s0,s1⟩,_⟩:=zy (jJ rr (.int .i64 0) (.int .i64 0))
   refine bodyPost_ret (v:=.agg #[.int .i64 0,.int .i64 0]) (by simp[results,Tryz.results194,go_sem,s0,s1]) rfl ?_
   exact⟨by rw[HR.out],(hA.setCell (p:=⟨w.heap.size+1,0,none⟩) (Nat.le_succ _) _).setCell (p:=⟨w.heap.size+1,1,none⟩) (Nat.le_succ _) _⟩
 ·subst e
  generalize h.za[j].zv=D at *
  cases D
  ·have HR:Hid (qT h 17 a j=(1,0)):=by show _=_;rw[HL.out];rfl
   go_enter Tryz.func194,Tryz.ntmps194
   go_upto_region 3 with fail
   generalize ((w.alloc (.cells #[.int .i64 17,.int .i64 a] 33)).alloc (.cells #[.int .i64 0,.int .i64 0] 98)).alloc (.cells #[.int .i64 h.za[j].m,.int .i64 h.za[j].pc,.slice ta TS.length tc,.slice sa SS.length sc,.int .i64 h.za[j].zf,.bool false] 37)=W at *
   obtain⟨⟨d0,d1,d2,d3,d4,d5⟩,_⟩:=zZ rc
   obtain⟨⟨o0,o1⟩,_⟩:=zy ro
   obtain⟨⟨r0,r1⟩,f0,f1⟩:=zy rr
   go_wp2_with (go_at_call 197;refine(uI _ _).mono ?_;rintro e w' ⟨rfl,hw⟩;have rr':=zz hw rr;have hA':=hA.trans (hw.mono hA.size);clear r0 r1 f0 f1;obtain⟨⟨r0,r1⟩,f0,f1⟩:=zy rr')
   obtain⟨⟨s0,s1⟩,_⟩:=zy (jJ rr' (.int .i64 1) (.int .i64 0))
   refine bodyPost_ret (v:=.agg #[.int .i64 1,.int .i64 0]) (by simp[results,Tryz.results194,go_sem,s0,s1]) rfl ?_
   exact⟨by rw[HR.out],(hA'.setCell (p:=⟨w.heap.size+1,0,none⟩) (Nat.le_succ _) _).setCell (p:=⟨w.heap.size+1,1,none⟩) (Nat.le_succ _) _⟩
  ·have HR:Hid (qT h 17 a j=(1,1)):=by show _=_;rw[HL.out];rfl
   go_enter Tryz.func194,Tryz.ntmps194
   go_upto_region 3 with fail
   generalize ((w.alloc (.cells #[.int .i64 17,.int .i64 a] 33)).alloc (.cells #[.int .i64 0,.int .i64 0] 98)).alloc (.cells #[.int .i64 h.za[j].m,.int .i64 h.za[j].pc,.slice ta TS.length tc,.slice sa SS.length sc,.int .i64 h.za[j].zf,.bool true] 37)=W at *
   obtain⟨⟨d0,d1,d2,d3,d4,d5⟩,_⟩:=zZ rc
   obtain⟨⟨o0,o1⟩,_⟩:=zy ro
   obtain⟨⟨r0,r1⟩,f0,f1⟩:=zy rr
   go_wp2_with (go_at_call 197;refine(uI _ _).mono ?_;rintro e w' ⟨rfl,hw⟩;have rr':=zz hw rr;have hA':=hA.trans (hw.mono hA.size);clear r0 r1 f0 f1;obtain⟨⟨r0,r1⟩,f0,f1⟩:=zy rr')
   obtain⟨⟨s0,s1⟩,_⟩:=zy (jJ rr' (.int .i64 1) (.int .i64 1))
   refine bodyPost_ret (v:=.agg #[.int .i64 1,.int .i64 1]) (by simp[results,Tryz.results194,go_sem,s0,s1]) rfl ?_
   exact⟨by rw[HR.out],(hA'.setCell (p:=⟨w.heap.size+1,0,none⟩) (Nat.le_succ _) _).setCell (p:=⟨w.heap.size+1,1,none⟩) (Nat.le_succ _) _⟩
 ·subst e
  have HR:Hid (qT h 18 a j=(1,h.za[j].pc)):=by show _=_;rw[HL.out];rfl
  go_enter Tryz.func194,Tryz.ntmps194
  go_upto_region 3 with fail
  generalize ((w.alloc (.cells #[.int .i64 18,.int .i64 a] 33)).alloc (.cells #[.int .i64 0,.int .i64 0] 98)).alloc (.cells #[.int .i64 h.za[j].m,.int .i64 h.za[j].pc,.slice ta TS.length tc,.slice sa SS.length sc,.int .i64 h.za[j].zf,.bool h.za[j].zv] 37)=W at *
  obtain⟨⟨d0,d1,d2,d3,d4,d5⟩,_⟩:=zZ rc
  obtain⟨⟨o0,o1⟩,_⟩:=zy ro
  obtain⟨⟨r0,r1⟩,f0,f1⟩:=zy rr
  go_wp2_with (go_at_call 191;refine(kJ _ _).mono ?_;rintro e w' ⟨rfl,hw⟩;have rr':=zz hw rr;have hA':=hA.trans (hw.mono hA.size);clear r0 r1 f0 f1;obtain⟨⟨r0,r1⟩,f0,f1⟩:=zy rr')
  obtain⟨⟨s0,s1⟩,_⟩:=zy (jJ rr' (.int .i64 1) (.int .i64 h.za[j].pc))
  refine bodyPost_ret (v:=.agg #[.int .i64 1,.int .i64 h.za[j].pc]) (by simp[results,Tryz.results194,go_sem,s0,s1]) rfl ?_
  exact⟨by rw[HR.out],(hA'.setCell (p:=⟨w.heap.size+1,0,none⟩) (Nat.le_succ _) _).setCell (p:=⟨w.heap.size+1,1,none⟩) (Nat.le_succ _) _⟩
set_option maxRecDepth 100000 in
set_option maxHeartbeats 4000000 in
theorem Vq (k a:Int) (va:Value) (args:zL) (w:World) (hM:zR w va args) (h5:k=5->args.length=2) (h1:k=12\/k=13\/k=14\/k=15\/k=17\/k=18->1<=args.length) :
 Calls Tryz.prog 179 #[.agg #[.int .i64 k,.int .i64 a],va] w fun e w'=>e=.returned (.bool (xJ k args))/\Below w.heap.size w w':=by
 obtain⟨aa,ca,rfl,hal,hc⟩:=hM
 have hA:Below w.heap.size w (w.alloc (.cells #[.int .i64 k,.int .i64 a] 33)):=zB _ _
 have ro:=yS w 33 (.int .i64 k) (.int .i64 a)
 by_cases e5:k=5
 ·subst e5
  have hl:=h5 rfl
  obtain⟨b,o,rfl,p0,p1⟩:=hc 0 (by omega)
  obtain⟨b',o',Z2,q0,q1⟩:=hc 1 (by omega)
  obtain⟨rfl,rfl⟩:b=b'/\o=o':=by injection Z2 with e;injection e with e1 e2;exact⟨e1,e2⟩
  have hz0:(0:Int)<(args.length:Int):=by omega
  have hz1:(1:Int)<(args.length:Int):=by omega
  have hK:xJ 5 args=((args[0]'(by omega)).1 == 1 && (args[1]'(by omega)).1 == 1):=by
   unfold xJ
   rw[if_pos rfl,yi (by omega),yi (by omega)]
  have HK:Hid (xJ 5 args=((args[0]'(by omega)).1 == 1 && (args[1]'(by omega)).1 == 1)):=hK
  clear hK
  have p0A:=zc hA p0
  have q0A:=zc hA q0
  simp only[Nat.zero_mul,Nat.add_zero,Nat.one_mul] at p0A q0A
  go_enter Tryz.func179,Tryz.ntmps179
  go_upto_region 1 with fail
  generalize w.alloc (.cells #[.int .i64 5,.int .i64 a] 33)=W at *
  obtain⟨⟨o0,o1⟩,_⟩:=zy ro
  generalize hx:args[0].1=X at *
  generalize hy:args[1].1=Y at *
  by_cases ex:X=1
  ·subst ex
   go_wp2
   go_ret
   exact⟨by rw[HK.out];simp,hA⟩
  ·have ex':(X == 1)=false:=zG.2 ex
   go_wp2
   go_ret
   exact⟨by rw[HK.out,ex'];simp,hA⟩
 have e5':(k == 5)=false:=zG.2 e5
 by_cases ek:k=12\/k=13\/k=14\/k=15\/k=17\/k=18
 ·have hl:=h1 ek
  obtain⟨b,o,rfl,p0,p1⟩:=hc 0 (by omega)
  have hz0:(0:Int)<(args.length:Int):=by omega
  have HK:Hid (xJ k args=((args[0]'(by omega)).1 == 2)):=by
   show _=_
   unfold xJ
   rw[if_neg e5,if_pos ek,yi (by omega)]
  have p0A:=zc hA p0
  simp only[Nat.zero_mul,Nat.add_zero] at p0A
  generalize args[0].1=X at *
  rcases ek with e | e | e | e | e | e
  all_goals
   subst e
   go_enter Tryz.func179,Tryz.ntmps179
   go_upto_region 1 with fail
   generalize w.alloc _=W at *
   obtain⟨⟨o0,o1⟩,_⟩:=zy ro
   go_wp2
   go_ret
   exact⟨by rw[HK.out];rfl,hA⟩
 ·have HK:Hid (xJ k args=true):=by
   show _=_
   unfold xJ
   rw[if_neg e5,if_neg ek]
  have n12:(k == 12)=false:=zG.2 (by omega)
  have n13:(k == 13)=false:=zG.2 (by omega)
  have n14:(k == 14)=false:=zG.2 (by omega)
  have n15:(k == 15)=false:=zG.2 (by omega)
  have n17:(k == 17)=false:=zG.2 (by omega)
  have n18:(k == 18)=false:=zG.2 (by omega)
  clear e5 ek
  go_enter Tryz.func179,Tryz.ntmps179
  go_upto_region 1 with fail
  generalize w.alloc _=W at *
  obtain⟨⟨o0,o1⟩,_⟩:=zy ro
  go_wp2
  go_ret
  exact⟨by rw[HK.out];rfl,hA⟩
theorem zc4 {k:Int} (h1:k≠1) (h5:k≠5) (h6:k≠6):(k == 1)=false/\(k == 5)=false/\(k == 6)=false:=⟨zG.2 h1,zG.2 h5,zG.2 h6⟩
set_option maxRecDepth 100000 in
set_option maxHeartbeats 4000000 in
theorem qq (k a:Int) (va:Value) (w:World) (h1:k≠1) (h5:k≠5) (h6:k≠6) :
 Calls Tryz.prog 190 #[.agg #[.int .i64 k,.int .i64 a],va] w fun e w'=>e=.returned (.tuple #[.agg #[.int .i64 0,.int .i64 0],.bool false])/\Below w.heap.size w w':=by
 obtain⟨n1,n5,n6⟩:=zc4 h1 h5 h6
 go_enter Tryz.func190,Tryz.ntmps190
 go_wp2
 refine bodyPost_ret (v:=.tuple #[.agg #[.int .i64 0,.int .i64 0],.bool false]) (by simp[results,Tryz.results190,go_sem]) rfl ?_
 exact⟨rfl,(zB _ _).alloc (by simp) _⟩
set_option maxRecDepth 100000 in
set_option maxHeartbeats 4000000 in
theorem Uw (a:Int) (va:Value) (w:World) :
 Calls Tryz.prog 190 #[.agg #[.int .i64 1,.int .i64 a],va] w fun e w'=>e=.returned (.tuple #[.agg #[.int .i64 1,.int .i64 a],.bool true])/\Below w.heap.size w w':=by
 have hA:Below w.heap.size w ((w.alloc (.cells #[.int .i64 1,.int .i64 a] 33)).alloc (.cells #[.int .i64 0,.int .i64 0] 98)):=(zB _ _).alloc (by simp) _
 have ro:=(yS w 33 (.int .i64 1) (.int .i64 a)).alloc (.cells #[.int .i64 0,.int .i64 0] 98)
 have rr:=yS (w.alloc (.cells #[.int .i64 1,.int .i64 a] 33)) 98 (.int .i64 0) (.int .i64 0)
 simp only[World.size_alloc] at rr
 go_enter Tryz.func190,Tryz.ntmps190
 go_upto_region 1 with fail
 generalize (w.alloc (.cells #[.int .i64 1,.int .i64 a] 33)).alloc (.cells #[.int .i64 0,.int .i64 0] 98)=W at *
 obtain⟨⟨o0,o1⟩,_⟩:=zy ro
 go_wp2_with (go_at_call 191;refine(kJ _ _).mono ?_;rintro e w' ⟨rfl,hw⟩;have rr':=zz hw rr;have hA':=hA.trans (hw.mono hA.size);obtain⟨⟨r0,r1⟩,f0,f1⟩:=zy rr')
 obtain⟨⟨s0,s1⟩,_⟩:=zy (jJ rr' (.int .i64 1) (.int .i64 a))
 refine bodyPost_ret (v:=.tuple #[.agg #[.int .i64 1,.int .i64 a],.bool true]) (by simp[results,Tryz.results190,go_sem,s0,s1]) rfl ?_
 exact⟨rfl,(hA'.setCell (p:=⟨w.heap.size+1,0,none⟩) (Nat.le_succ _) _).setCell (p:=⟨w.heap.size+1,1,none⟩) (Nat.le_succ _) _⟩
set_option maxRecDepth 100000 in
set_option maxHeartbeats 4000000 in
theorem Uv (a:Int) (va:Value) (args:zL) (w:World) (hM:zR w va args) (hl:args.length=2) (hx:0<=(args[0]'(by omega)).2/\(args[0]'(by omega)).2<=999) (hy:0<=(args[1]'(by omega)).2/\(args[1]'(by omega)).2<=999) :
 Calls Tryz.prog 190 #[.agg #[.int .i64 5,.int .i64 a],va] w fun e w'=>e=.returned (.tuple #[.agg #[.int .i64 1,.int .i64 (((args[0]'(by omega)).2+(args[1]'(by omega)).2) % 1000)],.bool true])/\Below w.heap.size w w':=by
 obtain⟨aa,ca,rfl,hal,hc⟩:=hM
 obtain⟨b,o,rfl,p0,p1⟩:=hc 0 (by omega)
 obtain⟨b',o',Z2,q0,q1⟩:=hc 1 (by omega)
 obtain⟨rfl,rfl⟩:b=b'/\o=o':=by injection Z2 with e;injection e with e1 e2;exact⟨e1,e2⟩
 have hz0:(0:Int)<(args.length:Int):=by omega
 have hz1:(1:Int)<(args.length:Int):=by omega
 have hA:Below w.heap.size w ((w.alloc (.cells #[.int .i64 5,.int .i64 a] 33)).alloc (.cells #[.int .i64 0,.int .i64 0] 98)):=(zB _ _).alloc (by simp) _
 have ro:=(yS w 33 (.int .i64 5) (.int .i64 a)).alloc (.cells #[.int .i64 0,.int .i64 0] 98)
 have rr:=yS (w.alloc (.cells #[.int .i64 5,.int .i64 a] 33)) 98 (.int .i64 0) (.int .i64 0)
 simp only[World.size_alloc] at rr
 have p1A:=zc hA p1
 have q1A:=zc hA q1
 simp only[Nat.zero_mul,Nat.add_zero,Nat.one_mul] at p1A q1A
 generalize args[0].2=X at *
 generalize args[1].2=Y at *
 clear hc p0 p1 q0 q1 Z2
 have hw1:IntKind.i64.wrap (X+Y)=X+Y:=by rw[IntKind.wrap_i64];omega
 have HM:Hid ((X+Y).tmod 1000=(X+Y) % 1000):=Int.tmod_eq_emod_of_nonneg (by omega)
 go_enter Tryz.func190,Tryz.ntmps190
 go_upto_region 1 with fail
 generalize (w.alloc (.cells #[.int .i64 5,.int .i64 a] 33)).alloc (.cells #[.int .i64 0,.int .i64 0] 98)=W at *
 obtain⟨⟨o0,o1⟩,_⟩:=zy ro
 go_wp2_with fail
 go_region_with (go_at_call 191;refine(kJ _ _).mono ?_;rintro e w' ⟨rfl,hw⟩;have rr':=zz hw (show W.drew.rowIs (w.heap.size+1) 98 2 _ from rr);have hA':=(hA.drew).trans (hw.mono hA.size);obtain⟨⟨r0,r1⟩,f0,f1⟩:=zy rr')
 all_goals
  go_wp2
  obtain⟨⟨s0,s1⟩,_⟩:=zy (jJ rr' (.int .i64 1) (.int .i64 ((X+Y).tmod 1000)))
  refine bodyPost_ret (v:=.tuple #[.agg #[.int .i64 1,.int .i64 ((X+Y).tmod 1000)],.bool true]) (by simp[results,Tryz.results190,go_sem,s0,s1]) rfl ?_
  exact⟨by rw[HM.out],(hA'.setCell (p:=⟨w.heap.size+1,0,none⟩) (Nat.le_succ _) _).setCell (p:=⟨w.heap.size+1,1,none⟩) (Nat.le_succ _) _⟩
set_option maxRecDepth 100000 in
set_option maxHeartbeats 4000000 in
theorem Vr (a:Int) (va:Value) (args:zL) (w:World) (hM:zR w va args) (hl:args.length=2) :
 Calls Tryz.prog 190 #[.agg #[.int .i64 6,.int .i64 a],va] w fun e w'=>e=.returned (.tuple #[.agg #[.int .i64 1,.int .i64 (ZS (decide (args[0]'(by omega)=args[1]'(by omega)))).2],.bool true])/\Below w.heap.size w w':=by
 obtain⟨aa,ca,rfl,hal,hc⟩:=hM
 obtain⟨b,o,rfl,p0,p1⟩:=hc 0 (by omega)
 obtain⟨b',o',Z2,q0,q1⟩:=hc 1 (by omega)
 obtain⟨rfl,rfl⟩:b=b'/\o=o':=by injection Z2 with e;injection e with e1 e2;exact⟨e1,e2⟩
 have hz0:(0:Int)<(args.length:Int):=by omega
 have hz1:(1:Int)<(args.length:Int):=by omega
 have hA:Below w.heap.size w ((w.alloc (.cells #[.int .i64 6,.int .i64 a] 33)).alloc (.cells #[.int .i64 0,.int .i64 0] 98)):=(zB _ _).alloc (by simp) _
 have ro:=(yS w 33 (.int .i64 6) (.int .i64 a)).alloc (.cells #[.int .i64 0,.int .i64 0] 98)
 have rr:=yS (w.alloc (.cells #[.int .i64 6,.int .i64 a] 33)) 98 (.int .i64 0) (.int .i64 0)
 simp only[World.size_alloc] at rr
 have p0A:=zc hA p0
 have q0A:=zc hA q0
 have p1A:=zc hA p1
 have q1A:=zc hA q1
 simp only[Nat.zero_mul,Nat.add_zero,Nat.one_mul] at p0A q0A p1A q1A
 generalize args[0]=X at *
 generalize args[1]=Y at *
 obtain⟨x0,x1⟩:=X
 obtain⟨y0,y1⟩:=Y
 simp only[] at p0A q0A p1A q1A
 clear hc p0 p1 q0 q1 Z2
 by_cases e0:x0=y0
 ·subst e0
  by_cases e1:x1=y1
  ·subst e1
   have HM:Hid ((ZS (decide ((x0,x1)=(x0,x1)))).2=1):=by show _=_;simp[ZS]
   go_enter Tryz.func190,Tryz.ntmps190
   go_upto_region 1 with fail
   generalize (w.alloc (.cells #[.int .i64 6,.int .i64 a] 33)).alloc (.cells #[.int .i64 0,.int .i64 0] 98)=W at *
   obtain⟨⟨o0,o1⟩,_⟩:=zy ro
   go_wp2_with fail
   go_region_with (go_at_call 197;refine(uI true _).mono ?_;rintro e w' ⟨rfl,hw⟩;have rr':=zz hw (show W.drew.rowIs (w.heap.size+1) 98 2 _ from rr);have hA':=(hA.drew).trans (hw.mono hA.size);obtain⟨⟨r0,r1⟩,f0,f1⟩:=zy rr')
   all_goals
    go_wp2
    obtain⟨⟨s0,s1⟩,_⟩:=zy (jJ rr' (.int .i64 1) (.int .i64 1))
    refine bodyPost_ret (v:=.tuple #[.agg #[.int .i64 1,.int .i64 1],.bool true]) (by simp[results,Tryz.results190,go_sem,s0,s1]) rfl ?_
    exact⟨by rw[HM.out],(hA'.setCell (p:=⟨w.heap.size+1,0,none⟩) (Nat.le_succ _) _).setCell (p:=⟨w.heap.size+1,1,none⟩) (Nat.le_succ _) _⟩
  ·have HM:Hid ((ZS (decide ((x0,x1)=(x0,y1)))).2=0):=by show _=_;simp[ZS,e1]
   have e1':(x1 == y1)=false:=zG.2 e1
   clear e1
   go_enter Tryz.func190,Tryz.ntmps190
   go_upto_region 1 with fail
   generalize (w.alloc (.cells #[.int .i64 6,.int .i64 a] 33)).alloc (.cells #[.int .i64 0,.int .i64 0] 98)=W at *
   obtain⟨⟨o0,o1⟩,_⟩:=zy ro
   go_wp2_with fail
   go_region_with (go_at_call 197;refine(uI false _).mono ?_;rintro e w' ⟨rfl,hw⟩;have rr':=zz hw (show W.drew.rowIs (w.heap.size+1) 98 2 _ from rr);have hA':=(hA.drew).trans (hw.mono hA.size);obtain⟨⟨r0,r1⟩,f0,f1⟩:=zy rr')
   all_goals
    go_wp2
    obtain⟨⟨s0,s1⟩,_⟩:=zy (jJ rr' (.int .i64 1) (.int .i64 0))
    refine bodyPost_ret (v:=.tuple #[.agg #[.int .i64 1,.int .i64 0],.bool true]) (by simp[results,Tryz.results190,go_sem,s0,s1]) rfl ?_
    exact⟨by rw[HM.out],(hA'.setCell (p:=⟨w.heap.size+1,0,none⟩) (Nat.le_succ _) _).setCell (p:=⟨w.heap.size+1,1,none⟩) (Nat.le_succ _) _⟩
 ·have HM:Hid ((ZS (decide ((x0,x1)=(y0,y1)))).2=0):=by show _=_;simp[ZS,e0]
  have e0':(x0 == y0)=false:=zG.2 e0
  clear e0
  go_enter Tryz.func190,Tryz.ntmps190
  go_upto_region 1 with fail
  generalize (w.alloc (.cells #[.int .i64 6,.int .i64 a] 33)).alloc (.cells #[.int .i64 0,.int .i64 0] 98)=W at *
  obtain⟨⟨o0,o1⟩,_⟩:=zy ro
  go_wp2_with fail
  go_region_with (go_at_call 197;refine(uI false _).mono ?_;rintro e w' ⟨rfl,hw⟩;have rr':=zz hw (show W.drew.rowIs (w.heap.size+1) 98 2 _ from rr);have hA':=(hA.drew).trans (hw.mono hA.size);obtain⟨⟨r0,r1⟩,f0,f1⟩:=zy rr')
  all_goals
   go_wp2
   obtain⟨⟨s0,s1⟩,_⟩:=zy (jJ rr' (.int .i64 1) (.int .i64 0))
   refine bodyPost_ret (v:=.tuple #[.agg #[.int .i64 1,.int .i64 0],.bool true]) (by simp[results,Tryz.results190,go_sem,s0,s1]) rfl ?_
   exact⟨by rw[HM.out],(hA'.setCell (p:=⟨w.heap.size+1,0,none⟩) (Nat.le_succ _) _).setCell (p:=⟨w.heap.size+1,1,none⟩) (Nat.le_succ _) _⟩
end Go.Proofs.YtjbgpcileapogaaGreat

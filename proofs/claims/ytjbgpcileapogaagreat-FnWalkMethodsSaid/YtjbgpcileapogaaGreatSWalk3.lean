/-
  The model's heap at work, walked: l11Num, l11Bit, now, die.
-/
import Derived.Test.YtjbgpcileapogaaGreatSMem2
import Derived.Test.YtjbgpcileapogaaGreatImplOk
import Derived.BigQuiet
import Derived.Deep.QuietTactic
import Derived.Deep.RegionHeld3
import Derived.Handy
import Derived.Test.YtjbgpcileapogaaGreatVSpec
namespace Go.Proofs.YtjbgpcileapogaaGreat
open Go.RowKit
def duo (x0 x1:Value):Nat→Value:=fun i=>if i=0 then x0 else x1
theorem duo_new (w:World) (t:TypeId) (x0 x1:Value):(w.alloc (.cells #[x0,x1] t)).rowIs w.heap.size t 2 (duo x0 x1) :=
  ⟨_,Go.Deep.blk_alloc_new _ _,rfl,fun i hi=>by match i,hi with | 0,_=>rfl | 1,_=>rfl⟩
theorem duo_cells {w:World} {g:Nat} {t:TypeId} {x0 x1:Value} (h:w.rowIs g t 2 (duo x0 x1)):(w.cell? ⟨g,0,none⟩=some x0∧w.cell? ⟨g,1,none⟩=some x1)∧(w.frozen? ⟨g,0,none⟩=false∧w.frozen? ⟨g,1,none⟩=false) :=
  ⟨⟨h.cell (i:=0) (by decide),h.cell (i:=1) (by decide)⟩,h.frozen 0,h.frozen 1⟩
theorem duo_set {w:World} {g:Nat} {t:TypeId} {x0 x1:Value} (h:w.rowIs g t 2 (duo x0 x1)) (u v:Value):((w.setCell ⟨g,0,none⟩ u).setCell ⟨g,1,none⟩ v).rowIs g t 2 (duo u v) :=
  ((h.set 0 u).set 1 v).congr fun i hi=>by match i,hi with | 0,_=>rfl | 1,_=>rfl
set_option maxHeartbeats 1000000 in
theorem l11Num_any (n:Int) (w:World):Calls Tryz.prog 191 #[.int .i64 n] w fun e w'=>e=.returned (.agg #[.int .i64 1,.int .i64 n])∧Below w.heap.size w w':=by
  go_enter Tryz.func191,Tryz.ntmps191
  go_wp2
  go_returns
  exact⟨rfl,(Below.refl _ _).alloc (Nat.le_refl _) _⟩
set_option maxHeartbeats 1000000 in
theorem l11Bit_any (b:Bool) (w:World):Calls Tryz.prog 197 #[.bool b] w fun e w'=>e=.returned (.agg #[.int .i64 1,.int .i64 (if b then 1 else 0)])∧Below w.heap.size w w':=by
  have hA:Below w.heap.size w (w.alloc (.cells #[.int .i64 0,.int .i64 0] 98)):=(Below.refl _ _).alloc (Nat.le_refl _) _
  have rx:=duo_new w 98 (.int .i64 0) (.int .i64 0)
  cases b
  all_goals
    go_enter Tryz.func197,Tryz.ntmps197
    go_upto_region 1 with fail
    generalize w.alloc (.cells #[.int .i64 0,.int .i64 0] 98)=W at *
    go_wp2_with (go_at_call 191;refine(l11Num_any _ _).mono ?_;rintro e w' ⟨rfl,hw⟩;have r2:=row_below hw rx;obtain⟨⟨t0,t1⟩,tf0,tf1⟩:=duo_cells r2;have hB:=hA.trans (hw.mono hA.size))
  · obtain⟨⟨s0,s1⟩,_⟩:=duo_cells (duo_set r2 (.int .i64 1) (.int .i64 0))
    refine bodyPost_ret (v:=.agg #[.int .i64 1,.int .i64 0]) (by simp[results,Tryz.results197,go_sem,s0,s1]) rfl ?_
    exact⟨rfl,(hB.setCell (p:=⟨w.heap.size,0,none⟩) (Nat.le_refl _) _).setCell (p:=⟨w.heap.size,1,none⟩) (Nat.le_refl _) _⟩
  · obtain⟨⟨s0,s1⟩,_⟩:=duo_cells (duo_set r2 (.int .i64 1) (.int .i64 1))
    refine bodyPost_ret (v:=.agg #[.int .i64 1,.int .i64 1]) (by simp[results,Tryz.results197,go_sem,s0,s1]) rfl ?_
    exact⟨rfl,(hB.setCell (p:=⟨w.heap.size,0,none⟩) (Nat.le_refl _) _).setCell (p:=⟨w.heap.size,1,none⟩) (Nat.le_refl _) _⟩
set_option maxRecDepth 100000 in
set_option maxHeartbeats 2000000 in
theorem now_any {A:Nat→Prop} {B:Nat} {w:World} {bo:Nat} {vp vs:Value} {g off cap:Nat} {ms:List (Int × Int × List (Int × Int))} {h:Hp} {V:Nat→Value × Value} (k:SM A B w bo vp (.slice (some ⟨g,off,none⟩) h.calls.length cap) vs ms h V) {j:Nat} (hn:h.now=j) (hj:j<h.calls.length) :
    Calls Tryz.prog 177 #[.pointer (some ⟨bo,0,none⟩)] w fun e w'=>e=.returned (.pointer (some ⟨g,off+j * 6,none⟩))∧Below w.heap.size w w':=by
  obtain⟨⟨x0,x1,x2,x3,x4,x5⟩,_⟩:=six_cells k.box
  rw[hn] at x2
  have hjz:(j:Int)<(h.calls.length:Int):=by omega
  go_enter Tryz.func177,Tryz.ntmps177
  go_wp2
  go_region
  go_wp2
  go_ret
  exact⟨rfl,(Below.refl _ _).drew⟩
theorem SM.die {A:Nat→Prop} {B:Nat} {w:World} {bo:Nat} {vp vs:Value} {g off cap:Nat} {ms:List (Int × Int × List (Int × Int))} {h:Hp} {V:Nat→Value × Value} (k:SM A B w bo vp (.slice (some ⟨g,off,none⟩) h.calls.length cap) vs ms h V) {j:Nat} (hj:j<h.calls.length) (e:TypeId) :
    ∃V',SM A B ((((w.setCell ⟨g,off+j * 6+5,none⟩ (.bool true)).alloc (.cells #[] e)).setCell ⟨g,off+j * 6+3,none⟩ (.slice (some ⟨w.heap.size,0,none⟩) 0 0)).setCell ⟨g,off+j * 6+4,none⟩ (.int .i64 (-1))) bo vp (.slice (some ⟨g,off,none⟩) h.calls.length cap) vs ms {h with calls:=h.calls.set j {h.calls[j] with stack:=[],sender:=-1,dead:=true}} V' ∧
      Cm A B w ((((w.setCell ⟨g,off+j * 6+5,none⟩ (.bool true)).alloc (.cells #[] e)).setCell ⟨g,off+j * 6+3,none⟩ (.slice (some ⟨w.heap.size,0,none⟩) 0 0)).setCell ⟨g,off+j * 6+4,none⟩ (.int .i64 (-1))):=by
  obtain⟨hgB,hgl⟩:=k.own.c.lt (g:=g) (.inl rfl)
  have b1:=(Below.refl B w).setCell (p:=⟨g,off+j * 6+5,none⟩) hgB (.bool true)
  obtain⟨k1,m1⟩:=k.put hj (put_cell k.own.c hj 5 (.bool true) {h.calls[j] with dead:=true} (by decide) rfl rfl rfl rfl rfl rfl) b1
  have hs1:(w.setCell ⟨g,off+j * 6+5,none⟩ (.bool true)).heap.size=w.heap.size:=by simp[World.setCell]
  have hj1:j<(h.calls.set j {h.calls[j] with dead:=true}).length:=by simpa using hj
  have hwB:B≤w.heap.size:=by omega
  have mk:PairRow B ((w.setCell ⟨g,off+j * 6+5,none⟩ (.bool true)).alloc (.cells #[] e)) (.slice (some ⟨w.heap.size,0,none⟩) 0 0) []:=by
    have:=PairRow.made (B:=B) (w:=w.setCell ⟨g,off+j * 6+5,none⟩ (.bool true)) (e:=e) (by rw[hs1];exact hwB)
    rwa [hs1] at this
  obtain⟨k2,m2⟩:=k1.put hj1 (put_stack k1.own.c hj1 (.slice (some ⟨w.heap.size,0,none⟩) 0 0) [] (Nat.le_of_lt (by simp)) (fun q hq _=>Below.heap_alloc _ _ q hq) mk (fun q e=>by
    simp[Value.ownBlock] at e
    exact .inr (by rw[hs1];omega))) (((Below.refl B _).alloc (by rw[hs1];exact hwB) _).setCell (p:=⟨g,off+j * 6+3,none⟩) hgB _)
  have hj2:j<((h.calls.set j {h.calls[j] with dead:=true}).set j {(h.calls.set j {h.calls[j] with dead:=true})[j] with stack:=[]}).length:=by simpa using hj
  obtain⟨k3,m3⟩:=k2.put hj2 (put_cell k2.own.c hj2 4 (.int .i64 (-1)) {((h.calls.set j {h.calls[j] with dead:=true}).set j {(h.calls.set j {h.calls[j] with dead:=true})[j] with stack:=[]})[j] with sender:=-1} (by decide) rfl rfl rfl rfl rfl rfl) ((Below.refl B _).setCell (p:=⟨g,off+j * 6+4,none⟩) hgB _)
  simp only[List.getElem_set_self,List.set_set] at k3
  exact⟨_,k3,(m1.trans m2).trans m3⟩
set_option maxRecDepth 100000 in
set_option maxHeartbeats 2000000 in
theorem die_any {A:Nat→Prop} {B:Nat} {w:World} {bo:Nat} {vp vs:Value} {g off cap:Nat} {ms:List (Int × Int × List (Int × Int))} {h:Hp} {V:Nat→Value × Value} (k:SM A B w bo vp (.slice (some ⟨g,off,none⟩) h.calls.length cap) vs ms h V) {j:Nat} (hj:j<h.calls.length) :
    Calls Tryz.prog 198 #[.pointer (some ⟨bo,0,none⟩),.int .i64 (j:Int)] w fun e w'=>e=.returned (.tuple #[])∧(∃V',SM A B w' bo vp (.slice (some ⟨g,off,none⟩) h.calls.length cap) vs ms {h with calls:=h.calls.set j {h.calls[j] with stack:=[],sender:=-1,dead:=true}} V')∧Cm A B w w':=by
  obtain⟨⟨x0,x1,x2,x3,x4,x5⟩,_⟩:=six_cells k.box
  obtain⟨⟨c0,c1,c2,c3,c4,c5⟩,fz⟩:=k.own.c.cells hj
  have f3:=fz 3 (by decide)
  have f4:=fz 4 (by decide)
  have f5:=fz 5 (by decide)
  have hjz:(j:Int)<(h.calls.length:Int):=by omega
  have hgl:=(k.own.c.lt (g:=g) (.inl rfl)).2
  obtain⟨V',k',b'⟩:=k.die hj 98
  have hs1:g<(w.setCell ⟨g,off+j * 6+5,none⟩ (.bool true)).heap.size:=by simp[World.setCell];exact hgl
  have hs2:g<((w.setCell ⟨g,off+j * 6+5,none⟩ (.bool true)).setCell ⟨g,off+j * 6+3,none⟩ (.slice (some ⟨w.heap.size,0,none⟩) 0 0)).heap.size:=by simp[World.setCell];exact hgl
  rw[World.setCell_alloc_past _ _ _ _ hs1,World.setCell_alloc_past _ _ _ _ hs2] at k' b'
  clear hs1 hs2
  have HK:Hid (SM A B _ bo vp _ vs ms _ V'):=k'
  clear fz k' k
  go_enter Tryz.func198,Tryz.ntmps198
  go_wp2
  refine bodyPost_end (results_none rfl _ _ _) rfl ?_
  exact⟨rfl,⟨V',HK.out⟩,b'⟩
set_option maxRecDepth 100000 in
set_option maxHeartbeats 4000000 in
theorem look_any {A:Nat→Prop} {B:Nat} {w:World} {bo:Nat} {vp vs:Value} {g off cap:Nat} {ms:List (Int × Int × List (Int × Int))} {h:Hp} {V:Nat→Value × Value} (k:SM A B w bo vp (.slice (some ⟨g,off,none⟩) h.calls.length cap) vs ms h V) (kk a:Int) (j:Nat) (hj:j<h.calls.length) (hk:kk=12∨kk=13∨kk=17∨kk=18) (ha:0≤a) :
    Calls Tryz.prog 194 #[.pointer (some ⟨bo,0,none⟩),.agg #[.int .i64 kk,.int .i64 a],.int .i64 (j:Int)] w fun e w'=>e=.returned (.agg #[.int .i64 (lookV h kk a j).1,.int .i64 (lookV h kk a j).2])∧Below w.heap.size w w':=by
  obtain⟨⟨x0,x1,x2,x3,x4,x5⟩,_⟩:=six_cells k.box
  obtain⟨⟨c0,c1,c2,c3,c4,c5⟩,_⟩:=k.own.c.cells hj
  have hjz:(j:Int)<(h.calls.length:Int):=by omega
  have hbo:bo<w.heap.size:=k.box.lt
  have hgl:=(k.own.c.lt (g:=g) (.inl rfl)).2
  obtain⟨ta,tc,hVt,_⟩:=(k.own.c.lists j hj).1.slice
  obtain⟨sa,sc,hVs,_⟩:=(k.own.c.lists j hj).2.slice
  rw[hVt] at c2
  rw[hVs] at c3
  have hA:Below w.heap.size w (((w.alloc (.cells #[.int .i64 kk,.int .i64 a] 33)).alloc (.cells #[.int .i64 0,.int .i64 0] 98)).alloc (.cells #[.int .i64 h.calls[j].m,.int .i64 h.calls[j].pc,.slice ta h.calls[j].temps.length tc,.slice sa h.calls[j].stack.length sc,.int .i64 h.calls[j].sender,.bool h.calls[j].dead] 37)):=(((Below.refl _ _).alloc (Nat.le_refl _) _).alloc (by simp) _).alloc (by simp;omega) _
  have ro:(((w.alloc (.cells #[.int .i64 kk,.int .i64 a] 33)).alloc (.cells #[.int .i64 0,.int .i64 0] 98)).alloc (.cells #[.int .i64 h.calls[j].m,.int .i64 h.calls[j].pc,.slice ta h.calls[j].temps.length tc,.slice sa h.calls[j].stack.length sc,.int .i64 h.calls[j].sender,.bool h.calls[j].dead] 37)).rowIs w.heap.size 33 2 (duo (.int .i64 kk) (.int .i64 a)):=((duo_new w _ _ _).alloc _).alloc _
  have rr:=(duo_new (w.alloc (.cells #[.int .i64 kk,.int .i64 a] 33)) 98 (.int .i64 0) (.int .i64 0)).alloc (.cells #[.int .i64 h.calls[j].m,.int .i64 h.calls[j].pc,.slice ta h.calls[j].temps.length tc,.slice sa h.calls[j].stack.length sc,.int .i64 h.calls[j].sender,.bool h.calls[j].dead] 37)
  have rc:=six_new ((w.alloc (.cells #[.int .i64 kk,.int .i64 a] 33)).alloc (.cells #[.int .i64 0,.int .i64 0] 98)) 37 (.int .i64 h.calls[j].m) (.int .i64 h.calls[j].pc) (.slice ta h.calls[j].temps.length tc) (.slice sa h.calls[j].stack.length sc) (.int .i64 h.calls[j].sender) (.bool h.calls[j].dead)
  simp only[World.size_alloc] at rr rc
  have ht:=(k.own.c.lists j hj).1
  rw[hVt] at ht
  have htA:=ht.below hA
  have hlook:lookV h kk a j=if kk=12 then(if 0≤h.calls[j].sender then(2,h.calls[j].sender) else(0,0)) else if kk=13 then h.calls[j].temps.getD a.toNat (0,0) else if kk=17 then bitV h.calls[j].dead else(1,h.calls[j].pc):=by
    unfold lookV
    simp only[getD_at hj]
  have HL:Hid (lookV h kk a j=if kk=12 then(if 0≤h.calls[j].sender then(2,h.calls[j].sender) else(0,0)) else if kk=13 then h.calls[j].temps.getD a.toNat (0,0) else if kk=17 then bitV h.calls[j].dead else(1,h.calls[j].pc)):=hlook
  clear hlook ht
  generalize hT:h.calls[j].temps=TS at *
  generalize hS:h.calls[j].stack=SS at *
  clear hT hS
  rcases hk with e | e | e | e
  · subst e
    by_cases hs:0≤h.calls[j].sender
    · have HR:Hid (lookV h 12 a j=(2,h.calls[j].sender)):=by show _=_;rw[HL.out];rw[if_pos rfl,if_pos hs]
      go_enter Tryz.func194,Tryz.ntmps194
      go_upto_region 3 with fail
      generalize ((w.alloc (.cells #[.int .i64 12,.int .i64 a] 33)).alloc (.cells #[.int .i64 0,.int .i64 0] 98)).alloc (.cells #[.int .i64 h.calls[j].m,.int .i64 h.calls[j].pc,.slice ta TS.length tc,.slice sa SS.length sc,.int .i64 h.calls[j].sender,.bool h.calls[j].dead] 37)=W at *
      obtain⟨⟨d0,d1,d2,d3,d4,d5⟩,_⟩:=six_cells rc
      obtain⟨⟨o0,o1⟩,_⟩:=duo_cells ro
      obtain⟨⟨r0,r1⟩,f0,f1⟩:=duo_cells rr
      go_wp2
      obtain⟨⟨s0,s1⟩,_⟩:=duo_cells (duo_set rr (.int .i64 2) (.int .i64 h.calls[j].sender))
      refine bodyPost_ret (v:=.agg #[.int .i64 2,.int .i64 h.calls[j].sender]) (by simp[results,Tryz.results194,go_sem,s0,s1]) rfl ?_
      exact⟨by rw[HR.out],(hA.setCell (p:=⟨w.heap.size+1,0,none⟩) (Nat.le_succ _) _).setCell (p:=⟨w.heap.size+1,1,none⟩) (Nat.le_succ _) _⟩
    · have hs':h.calls[j].sender<0:=by omega
      have HR:Hid (lookV h 12 a j=(0,0)):=by show _=_;rw[HL.out];rw[if_pos rfl,if_neg hs]
      go_enter Tryz.func194,Tryz.ntmps194
      go_upto_region 3 with fail
      generalize ((w.alloc (.cells #[.int .i64 12,.int .i64 a] 33)).alloc (.cells #[.int .i64 0,.int .i64 0] 98)).alloc (.cells #[.int .i64 h.calls[j].m,.int .i64 h.calls[j].pc,.slice ta TS.length tc,.slice sa SS.length sc,.int .i64 h.calls[j].sender,.bool h.calls[j].dead] 37)=W at *
      obtain⟨⟨d0,d1,d2,d3,d4,d5⟩,_⟩:=six_cells rc
      obtain⟨⟨o0,o1⟩,_⟩:=duo_cells ro
      obtain⟨⟨r0,r1⟩,f0,f1⟩:=duo_cells rr
      go_wp2
      obtain⟨⟨s0,s1⟩,_⟩:=duo_cells (duo_set rr (.int .i64 0) (.int .i64 0))
      refine bodyPost_ret (v:=.agg #[.int .i64 0,.int .i64 0]) (by simp[results,Tryz.results194,go_sem,s0,s1]) rfl ?_
      exact⟨by rw[HR.out],(hA.setCell (p:=⟨w.heap.size+1,0,none⟩) (Nat.le_succ _) _).setCell (p:=⟨w.heap.size+1,1,none⟩) (Nat.le_succ _) _⟩
  · subst e
    obtain⟨i,rfl⟩:=Int.eq_ofNat_of_zero_le ha
    by_cases hi:i<TS.length
    · have hiz:(i:Int)<(TS.length:Int):=by omega
      obtain⟨gt,ot,ct,hte,_,hgt⟩:=htA.form (by omega)
      obtain⟨rfl,rfl⟩:ta=some ⟨gt,ot,none⟩∧tc=ct:=by injection hte with e1 _ e3;exact⟨e1,e3⟩
      clear hte
      obtain⟨⟨q0,q1⟩,_⟩:=htA.cell hi
      have HR:Hid (lookV h 13 (i:Int) j=(TS[i].1,TS[i].2)):=by show _=_;rw[HL.out];simp[hi]
      go_enter Tryz.func194,Tryz.ntmps194
      go_upto_region 3 with fail
      generalize ((w.alloc (.cells #[.int .i64 13,.int .i64 (i:Int)] 33)).alloc (.cells #[.int .i64 0,.int .i64 0] 98)).alloc (.cells #[.int .i64 h.calls[j].m,.int .i64 h.calls[j].pc,.slice (some ⟨gt,ot,none⟩) TS.length tc,.slice sa SS.length sc,.int .i64 h.calls[j].sender,.bool h.calls[j].dead] 37)=W at *
      obtain⟨⟨d0,d1,d2,d3,d4,d5⟩,_⟩:=six_cells rc
      obtain⟨⟨o0,o1⟩,_⟩:=duo_cells ro
      obtain⟨⟨r0,r1⟩,f0,f1⟩:=duo_cells rr
      go_wp2
      obtain⟨⟨s0,s1⟩,_⟩:=duo_cells (duo_set rr (.int .i64 TS[i].1) (.int .i64 TS[i].2))
      refine bodyPost_ret (v:=.agg #[.int .i64 TS[i].1,.int .i64 TS[i].2]) (by simp[results,Tryz.results194,go_sem,s0,s1]) rfl ?_
      exact⟨by rw[HR.out],(hA.setCell (p:=⟨w.heap.size+1,0,none⟩) (Nat.le_succ _) _).setCell (p:=⟨w.heap.size+1,1,none⟩) (Nat.le_succ _) _⟩
    · have hiz:¬(i:Int)<(TS.length:Int):=by omega
      have HR:Hid (lookV h 13 (i:Int) j=(0,0)):=by show _=_;rw[HL.out];simp[hi]
      go_enter Tryz.func194,Tryz.ntmps194
      go_upto_region 3 with fail
      generalize ((w.alloc (.cells #[.int .i64 13,.int .i64 (i:Int)] 33)).alloc (.cells #[.int .i64 0,.int .i64 0] 98)).alloc (.cells #[.int .i64 h.calls[j].m,.int .i64 h.calls[j].pc,.slice ta TS.length tc,.slice sa SS.length sc,.int .i64 h.calls[j].sender,.bool h.calls[j].dead] 37)=W at *
      obtain⟨⟨d0,d1,d2,d3,d4,d5⟩,_⟩:=six_cells rc
      obtain⟨⟨o0,o1⟩,_⟩:=duo_cells ro
      obtain⟨⟨r0,r1⟩,f0,f1⟩:=duo_cells rr
      go_wp2
      obtain⟨⟨s0,s1⟩,_⟩:=duo_cells (duo_set rr (.int .i64 0) (.int .i64 0))
      refine bodyPost_ret (v:=.agg #[.int .i64 0,.int .i64 0]) (by simp[results,Tryz.results194,go_sem,s0,s1]) rfl ?_
      exact⟨by rw[HR.out],(hA.setCell (p:=⟨w.heap.size+1,0,none⟩) (Nat.le_succ _) _).setCell (p:=⟨w.heap.size+1,1,none⟩) (Nat.le_succ _) _⟩
  · subst e
    generalize h.calls[j].dead=D at *
    cases D
    · have HR:Hid (lookV h 17 a j=(1,0)):=by show _=_;rw[HL.out];rfl
      go_enter Tryz.func194,Tryz.ntmps194
      go_upto_region 3 with fail
      generalize ((w.alloc (.cells #[.int .i64 17,.int .i64 a] 33)).alloc (.cells #[.int .i64 0,.int .i64 0] 98)).alloc (.cells #[.int .i64 h.calls[j].m,.int .i64 h.calls[j].pc,.slice ta TS.length tc,.slice sa SS.length sc,.int .i64 h.calls[j].sender,.bool false] 37)=W at *
      obtain⟨⟨d0,d1,d2,d3,d4,d5⟩,_⟩:=six_cells rc
      obtain⟨⟨o0,o1⟩,_⟩:=duo_cells ro
      obtain⟨⟨r0,r1⟩,f0,f1⟩:=duo_cells rr
      go_wp2_with (go_at_call 197;refine(l11Bit_any _ _).mono ?_;rintro e w' ⟨rfl,hw⟩;have rr':=row_below hw rr;have hA':=hA.trans (hw.mono hA.size);clear r0 r1 f0 f1;obtain⟨⟨r0,r1⟩,f0,f1⟩:=duo_cells rr')
      obtain⟨⟨s0,s1⟩,_⟩:=duo_cells (duo_set rr' (.int .i64 1) (.int .i64 0))
      refine bodyPost_ret (v:=.agg #[.int .i64 1,.int .i64 0]) (by simp[results,Tryz.results194,go_sem,s0,s1]) rfl ?_
      exact⟨by rw[HR.out],(hA'.setCell (p:=⟨w.heap.size+1,0,none⟩) (Nat.le_succ _) _).setCell (p:=⟨w.heap.size+1,1,none⟩) (Nat.le_succ _) _⟩
    · have HR:Hid (lookV h 17 a j=(1,1)):=by show _=_;rw[HL.out];rfl
      go_enter Tryz.func194,Tryz.ntmps194
      go_upto_region 3 with fail
      generalize ((w.alloc (.cells #[.int .i64 17,.int .i64 a] 33)).alloc (.cells #[.int .i64 0,.int .i64 0] 98)).alloc (.cells #[.int .i64 h.calls[j].m,.int .i64 h.calls[j].pc,.slice ta TS.length tc,.slice sa SS.length sc,.int .i64 h.calls[j].sender,.bool true] 37)=W at *
      obtain⟨⟨d0,d1,d2,d3,d4,d5⟩,_⟩:=six_cells rc
      obtain⟨⟨o0,o1⟩,_⟩:=duo_cells ro
      obtain⟨⟨r0,r1⟩,f0,f1⟩:=duo_cells rr
      go_wp2_with (go_at_call 197;refine(l11Bit_any _ _).mono ?_;rintro e w' ⟨rfl,hw⟩;have rr':=row_below hw rr;have hA':=hA.trans (hw.mono hA.size);clear r0 r1 f0 f1;obtain⟨⟨r0,r1⟩,f0,f1⟩:=duo_cells rr')
      obtain⟨⟨s0,s1⟩,_⟩:=duo_cells (duo_set rr' (.int .i64 1) (.int .i64 1))
      refine bodyPost_ret (v:=.agg #[.int .i64 1,.int .i64 1]) (by simp[results,Tryz.results194,go_sem,s0,s1]) rfl ?_
      exact⟨by rw[HR.out],(hA'.setCell (p:=⟨w.heap.size+1,0,none⟩) (Nat.le_succ _) _).setCell (p:=⟨w.heap.size+1,1,none⟩) (Nat.le_succ _) _⟩
  · subst e
    have HR:Hid (lookV h 18 a j=(1,h.calls[j].pc)):=by show _=_;rw[HL.out];rfl
    go_enter Tryz.func194,Tryz.ntmps194
    go_upto_region 3 with fail
    generalize ((w.alloc (.cells #[.int .i64 18,.int .i64 a] 33)).alloc (.cells #[.int .i64 0,.int .i64 0] 98)).alloc (.cells #[.int .i64 h.calls[j].m,.int .i64 h.calls[j].pc,.slice ta TS.length tc,.slice sa SS.length sc,.int .i64 h.calls[j].sender,.bool h.calls[j].dead] 37)=W at *
    obtain⟨⟨d0,d1,d2,d3,d4,d5⟩,_⟩:=six_cells rc
    obtain⟨⟨o0,o1⟩,_⟩:=duo_cells ro
    obtain⟨⟨r0,r1⟩,f0,f1⟩:=duo_cells rr
    go_wp2_with (go_at_call 191;refine(l11Num_any _ _).mono ?_;rintro e w' ⟨rfl,hw⟩;have rr':=row_below hw rr;have hA':=hA.trans (hw.mono hA.size);clear r0 r1 f0 f1;obtain⟨⟨r0,r1⟩,f0,f1⟩:=duo_cells rr')
    obtain⟨⟨s0,s1⟩,_⟩:=duo_cells (duo_set rr' (.int .i64 1) (.int .i64 h.calls[j].pc))
    refine bodyPost_ret (v:=.agg #[.int .i64 1,.int .i64 h.calls[j].pc]) (by simp[results,Tryz.results194,go_sem,s0,s1]) rfl ?_
    exact⟨by rw[HR.out],(hA'.setCell (p:=⟨w.heap.size+1,0,none⟩) (Nat.le_succ _) _).setCell (p:=⟨w.heap.size+1,1,none⟩) (Nat.le_succ _) _⟩
set_option maxRecDepth 100000 in
set_option maxHeartbeats 4000000 in
theorem l11Kinds_any (k a:Int) (va:Value) (args:List (Int × Int)) (w:World) (hM:OpsAt w va args) (h5:k=5→args.length=2) (h1:k=12∨k=13∨k=14∨k=15∨k=17∨k=18→1≤args.length) :
    Calls Tryz.prog 179 #[.agg #[.int .i64 k,.int .i64 a],va] w fun e w'=>e=.returned (.bool (kindsOk k args))∧Below w.heap.size w w':=by
  obtain⟨aa,ca,rfl,hal,hc⟩:=hM
  have hA:Below w.heap.size w (w.alloc (.cells #[.int .i64 k,.int .i64 a] 33)):=(Below.refl _ _).alloc (Nat.le_refl _) _
  have ro:=duo_new w 33 (.int .i64 k) (.int .i64 a)
  by_cases e5:k=5
  · subst e5
    have hl:=h5 rfl
    obtain⟨b,o,rfl,p0,p1⟩:=hc 0 (by omega)
    obtain⟨b',o',hbo,q0,q1⟩:=hc 1 (by omega)
    obtain⟨rfl,rfl⟩:b=b'∧o=o':=by injection hbo with e;injection e with e1 e2;exact⟨e1,e2⟩
    have hz0:(0:Int)<(args.length:Int):=by omega
    have hz1:(1:Int)<(args.length:Int):=by omega
    have hK:kindsOk 5 args=((args[0]'(by omega)).1 == 1 && (args[1]'(by omega)).1 == 1):=by
      unfold kindsOk
      rw[if_pos rfl,getD_at (by omega),getD_at (by omega)]
    have HK:Hid (kindsOk 5 args=((args[0]'(by omega)).1 == 1 && (args[1]'(by omega)).1 == 1)):=hK
    clear hK
    have p0A:=cell_below hA p0
    have q0A:=cell_below hA q0
    simp only[Nat.zero_mul,Nat.add_zero,Nat.one_mul] at p0A q0A
    go_enter Tryz.func179,Tryz.ntmps179
    go_upto_region 1 with fail
    generalize w.alloc (.cells #[.int .i64 5,.int .i64 a] 33)=W at *
    obtain⟨⟨o0,o1⟩,_⟩:=duo_cells ro
    generalize hx:args[0].1=X at *
    generalize hy:args[1].1=Y at *
    by_cases ex:X=1
    · subst ex
      go_wp2
      go_ret
      exact⟨by rw[HK.out];simp,hA⟩
    · have ex':(X == 1)=false:=beq_eq_false_iff_ne.2 ex
      go_wp2
      go_ret
      exact⟨by rw[HK.out,ex'];simp,hA⟩
  have e5':(k == 5)=false:=beq_eq_false_iff_ne.2 e5
  by_cases ek:k=12∨k=13∨k=14∨k=15∨k=17∨k=18
  · have hl:=h1 ek
    obtain⟨b,o,rfl,p0,p1⟩:=hc 0 (by omega)
    have hz0:(0:Int)<(args.length:Int):=by omega
    have HK:Hid (kindsOk k args=((args[0]'(by omega)).1 == 2)):=by
      show _=_
      unfold kindsOk
      rw[if_neg e5,if_pos ek,getD_at (by omega)]
    have p0A:=cell_below hA p0
    simp only[Nat.zero_mul,Nat.add_zero] at p0A
    generalize args[0].1=X at *
    rcases ek with e | e | e | e | e | e
    all_goals
      subst e
      go_enter Tryz.func179,Tryz.ntmps179
      go_upto_region 1 with fail
      generalize w.alloc _=W at *
      obtain⟨⟨o0,o1⟩,_⟩:=duo_cells ro
      go_wp2
      go_ret
      exact⟨by rw[HK.out];rfl,hA⟩
  · have HK:Hid (kindsOk k args=true):=by
      show _=_
      unfold kindsOk
      rw[if_neg e5,if_neg ek]
    have n12:(k == 12)=false:=beq_eq_false_iff_ne.2 (by omega)
    have n13:(k == 13)=false:=beq_eq_false_iff_ne.2 (by omega)
    have n14:(k == 14)=false:=beq_eq_false_iff_ne.2 (by omega)
    have n15:(k == 15)=false:=beq_eq_false_iff_ne.2 (by omega)
    have n17:(k == 17)=false:=beq_eq_false_iff_ne.2 (by omega)
    have n18:(k == 18)=false:=beq_eq_false_iff_ne.2 (by omega)
    clear e5 ek
    go_enter Tryz.func179,Tryz.ntmps179
    go_upto_region 1 with fail
    generalize w.alloc _=W at *
    obtain⟨⟨o0,o1⟩,_⟩:=duo_cells ro
    go_wp2
    go_ret
    exact⟨by rw[HK.out];rfl,hA⟩
theorem made_no {k:Int} (h1:k≠1) (h5:k≠5) (h6:k≠6):(k == 1)=false∧(k == 5)=false∧(k == 6)=false:=⟨beq_eq_false_iff_ne.2 h1,beq_eq_false_iff_ne.2 h5,beq_eq_false_iff_ne.2 h6⟩
set_option maxRecDepth 100000 in
set_option maxHeartbeats 4000000 in
theorem l11Made_no (k a:Int) (va:Value) (w:World) (h1:k≠1) (h5:k≠5) (h6:k≠6) :
    Calls Tryz.prog 190 #[.agg #[.int .i64 k,.int .i64 a],va] w fun e w'=>e=.returned (.tuple #[.agg #[.int .i64 0,.int .i64 0],.bool false])∧Below w.heap.size w w':=by
  obtain⟨n1,n5,n6⟩:=made_no h1 h5 h6
  go_enter Tryz.func190,Tryz.ntmps190
  go_wp2
  refine bodyPost_ret (v:=.tuple #[.agg #[.int .i64 0,.int .i64 0],.bool false]) (by simp[results,Tryz.results190,go_sem]) rfl ?_
  exact⟨rfl,((Below.refl _ _).alloc (Nat.le_refl _) _).alloc (by simp) _⟩
set_option maxRecDepth 100000 in
set_option maxHeartbeats 4000000 in
theorem l11Made_num (a:Int) (va:Value) (w:World) :
    Calls Tryz.prog 190 #[.agg #[.int .i64 1,.int .i64 a],va] w fun e w'=>e=.returned (.tuple #[.agg #[.int .i64 1,.int .i64 a],.bool true])∧Below w.heap.size w w':=by
  have hA:Below w.heap.size w ((w.alloc (.cells #[.int .i64 1,.int .i64 a] 33)).alloc (.cells #[.int .i64 0,.int .i64 0] 98)):=((Below.refl _ _).alloc (Nat.le_refl _) _).alloc (by simp) _
  have ro:=(duo_new w 33 (.int .i64 1) (.int .i64 a)).alloc (.cells #[.int .i64 0,.int .i64 0] 98)
  have rr:=duo_new (w.alloc (.cells #[.int .i64 1,.int .i64 a] 33)) 98 (.int .i64 0) (.int .i64 0)
  simp only[World.size_alloc] at rr
  go_enter Tryz.func190,Tryz.ntmps190
  go_upto_region 1 with fail
  generalize (w.alloc (.cells #[.int .i64 1,.int .i64 a] 33)).alloc (.cells #[.int .i64 0,.int .i64 0] 98)=W at *
  obtain⟨⟨o0,o1⟩,_⟩:=duo_cells ro
  go_wp2_with (go_at_call 191;refine(l11Num_any _ _).mono ?_;rintro e w' ⟨rfl,hw⟩;have rr':=row_below hw rr;have hA':=hA.trans (hw.mono hA.size);obtain⟨⟨r0,r1⟩,f0,f1⟩:=duo_cells rr')
  obtain⟨⟨s0,s1⟩,_⟩:=duo_cells (duo_set rr' (.int .i64 1) (.int .i64 a))
  refine bodyPost_ret (v:=.tuple #[.agg #[.int .i64 1,.int .i64 a],.bool true]) (by simp[results,Tryz.results190,go_sem,s0,s1]) rfl ?_
  exact⟨rfl,(hA'.setCell (p:=⟨w.heap.size+1,0,none⟩) (Nat.le_succ _) _).setCell (p:=⟨w.heap.size+1,1,none⟩) (Nat.le_succ _) _⟩
set_option maxRecDepth 100000 in
set_option maxHeartbeats 4000000 in
theorem l11Made_add (a:Int) (va:Value) (args:List (Int × Int)) (w:World) (hM:OpsAt w va args) (hl:args.length=2) (hx:0≤(args[0]'(by omega)).2∧(args[0]'(by omega)).2≤999) (hy:0≤(args[1]'(by omega)).2∧(args[1]'(by omega)).2≤999) :
    Calls Tryz.prog 190 #[.agg #[.int .i64 5,.int .i64 a],va] w fun e w'=>e=.returned (.tuple #[.agg #[.int .i64 1,.int .i64 (((args[0]'(by omega)).2+(args[1]'(by omega)).2) % 1000)],.bool true])∧Below w.heap.size w w':=by
  obtain⟨aa,ca,rfl,hal,hc⟩:=hM
  obtain⟨b,o,rfl,p0,p1⟩:=hc 0 (by omega)
  obtain⟨b',o',hbo,q0,q1⟩:=hc 1 (by omega)
  obtain⟨rfl,rfl⟩:b=b'∧o=o':=by injection hbo with e;injection e with e1 e2;exact⟨e1,e2⟩
  have hz0:(0:Int)<(args.length:Int):=by omega
  have hz1:(1:Int)<(args.length:Int):=by omega
  have hA:Below w.heap.size w ((w.alloc (.cells #[.int .i64 5,.int .i64 a] 33)).alloc (.cells #[.int .i64 0,.int .i64 0] 98)):=((Below.refl _ _).alloc (Nat.le_refl _) _).alloc (by simp) _
  have ro:=(duo_new w 33 (.int .i64 5) (.int .i64 a)).alloc (.cells #[.int .i64 0,.int .i64 0] 98)
  have rr:=duo_new (w.alloc (.cells #[.int .i64 5,.int .i64 a] 33)) 98 (.int .i64 0) (.int .i64 0)
  simp only[World.size_alloc] at rr
  have p1A:=cell_below hA p1
  have q1A:=cell_below hA q1
  simp only[Nat.zero_mul,Nat.add_zero,Nat.one_mul] at p1A q1A
  generalize args[0].2=X at *
  generalize args[1].2=Y at *
  clear hc p0 p1 q0 q1 hbo
  have hw1:IntKind.i64.wrap (X+Y)=X+Y:=by rw[IntKind.wrap_i64];omega
  have HM:Hid ((X+Y).tmod 1000=(X+Y) % 1000):=Int.tmod_eq_emod_of_nonneg (by omega)
  go_enter Tryz.func190,Tryz.ntmps190
  go_upto_region 1 with fail
  generalize (w.alloc (.cells #[.int .i64 5,.int .i64 a] 33)).alloc (.cells #[.int .i64 0,.int .i64 0] 98)=W at *
  obtain⟨⟨o0,o1⟩,_⟩:=duo_cells ro
  go_wp2_with fail
  go_region_with (go_at_call 191;refine(l11Num_any _ _).mono ?_;rintro e w' ⟨rfl,hw⟩;have rr':=row_below hw (show W.drew.rowIs (w.heap.size+1) 98 2 _ from rr);have hA':=(hA.drew).trans (hw.mono hA.size);obtain⟨⟨r0,r1⟩,f0,f1⟩:=duo_cells rr')
  all_goals
    go_wp2
    obtain⟨⟨s0,s1⟩,_⟩:=duo_cells (duo_set rr' (.int .i64 1) (.int .i64 ((X+Y).tmod 1000)))
    refine bodyPost_ret (v:=.tuple #[.agg #[.int .i64 1,.int .i64 ((X+Y).tmod 1000)],.bool true]) (by simp[results,Tryz.results190,go_sem,s0,s1]) rfl ?_
    exact⟨by rw[HM.out],(hA'.setCell (p:=⟨w.heap.size+1,0,none⟩) (Nat.le_succ _) _).setCell (p:=⟨w.heap.size+1,1,none⟩) (Nat.le_succ _) _⟩
set_option maxRecDepth 100000 in
set_option maxHeartbeats 4000000 in
theorem l11Made_same (a:Int) (va:Value) (args:List (Int × Int)) (w:World) (hM:OpsAt w va args) (hl:args.length=2) :
    Calls Tryz.prog 190 #[.agg #[.int .i64 6,.int .i64 a],va] w fun e w'=>e=.returned (.tuple #[.agg #[.int .i64 1,.int .i64 (bitV (decide (args[0]'(by omega)=args[1]'(by omega)))).2],.bool true])∧Below w.heap.size w w':=by
  obtain⟨aa,ca,rfl,hal,hc⟩:=hM
  obtain⟨b,o,rfl,p0,p1⟩:=hc 0 (by omega)
  obtain⟨b',o',hbo,q0,q1⟩:=hc 1 (by omega)
  obtain⟨rfl,rfl⟩:b=b'∧o=o':=by injection hbo with e;injection e with e1 e2;exact⟨e1,e2⟩
  have hz0:(0:Int)<(args.length:Int):=by omega
  have hz1:(1:Int)<(args.length:Int):=by omega
  have hA:Below w.heap.size w ((w.alloc (.cells #[.int .i64 6,.int .i64 a] 33)).alloc (.cells #[.int .i64 0,.int .i64 0] 98)):=((Below.refl _ _).alloc (Nat.le_refl _) _).alloc (by simp) _
  have ro:=(duo_new w 33 (.int .i64 6) (.int .i64 a)).alloc (.cells #[.int .i64 0,.int .i64 0] 98)
  have rr:=duo_new (w.alloc (.cells #[.int .i64 6,.int .i64 a] 33)) 98 (.int .i64 0) (.int .i64 0)
  simp only[World.size_alloc] at rr
  have p0A:=cell_below hA p0
  have q0A:=cell_below hA q0
  have p1A:=cell_below hA p1
  have q1A:=cell_below hA q1
  simp only[Nat.zero_mul,Nat.add_zero,Nat.one_mul] at p0A q0A p1A q1A
  generalize args[0]=X at *
  generalize args[1]=Y at *
  obtain⟨x0,x1⟩:=X
  obtain⟨y0,y1⟩:=Y
  simp only[] at p0A q0A p1A q1A
  clear hc p0 p1 q0 q1 hbo
  by_cases e0:x0=y0
  · subst e0
    by_cases e1:x1=y1
    · subst e1
      have HM:Hid ((bitV (decide ((x0,x1)=(x0,x1)))).2=1):=by show _=_;simp[bitV]
      go_enter Tryz.func190,Tryz.ntmps190
      go_upto_region 1 with fail
      generalize (w.alloc (.cells #[.int .i64 6,.int .i64 a] 33)).alloc (.cells #[.int .i64 0,.int .i64 0] 98)=W at *
      obtain⟨⟨o0,o1⟩,_⟩:=duo_cells ro
      go_wp2_with fail
      go_region_with (go_at_call 197;refine(l11Bit_any true _).mono ?_;rintro e w' ⟨rfl,hw⟩;have rr':=row_below hw (show W.drew.rowIs (w.heap.size+1) 98 2 _ from rr);have hA':=(hA.drew).trans (hw.mono hA.size);obtain⟨⟨r0,r1⟩,f0,f1⟩:=duo_cells rr')
      all_goals
        go_wp2
        obtain⟨⟨s0,s1⟩,_⟩:=duo_cells (duo_set rr' (.int .i64 1) (.int .i64 1))
        refine bodyPost_ret (v:=.tuple #[.agg #[.int .i64 1,.int .i64 1],.bool true]) (by simp[results,Tryz.results190,go_sem,s0,s1]) rfl ?_
        exact⟨by rw[HM.out],(hA'.setCell (p:=⟨w.heap.size+1,0,none⟩) (Nat.le_succ _) _).setCell (p:=⟨w.heap.size+1,1,none⟩) (Nat.le_succ _) _⟩
    · have HM:Hid ((bitV (decide ((x0,x1)=(x0,y1)))).2=0):=by show _=_;simp[bitV,e1]
      have e1':(x1 == y1)=false:=beq_eq_false_iff_ne.2 e1
      clear e1
      go_enter Tryz.func190,Tryz.ntmps190
      go_upto_region 1 with fail
      generalize (w.alloc (.cells #[.int .i64 6,.int .i64 a] 33)).alloc (.cells #[.int .i64 0,.int .i64 0] 98)=W at *
      obtain⟨⟨o0,o1⟩,_⟩:=duo_cells ro
      go_wp2_with fail
      go_region_with (go_at_call 197;refine(l11Bit_any false _).mono ?_;rintro e w' ⟨rfl,hw⟩;have rr':=row_below hw (show W.drew.rowIs (w.heap.size+1) 98 2 _ from rr);have hA':=(hA.drew).trans (hw.mono hA.size);obtain⟨⟨r0,r1⟩,f0,f1⟩:=duo_cells rr')
      all_goals
        go_wp2
        obtain⟨⟨s0,s1⟩,_⟩:=duo_cells (duo_set rr' (.int .i64 1) (.int .i64 0))
        refine bodyPost_ret (v:=.tuple #[.agg #[.int .i64 1,.int .i64 0],.bool true]) (by simp[results,Tryz.results190,go_sem,s0,s1]) rfl ?_
        exact⟨by rw[HM.out],(hA'.setCell (p:=⟨w.heap.size+1,0,none⟩) (Nat.le_succ _) _).setCell (p:=⟨w.heap.size+1,1,none⟩) (Nat.le_succ _) _⟩
  · have HM:Hid ((bitV (decide ((x0,x1)=(y0,y1)))).2=0):=by show _=_;simp[bitV,e0]
    have e0':(x0 == y0)=false:=beq_eq_false_iff_ne.2 e0
    clear e0
    go_enter Tryz.func190,Tryz.ntmps190
    go_upto_region 1 with fail
    generalize (w.alloc (.cells #[.int .i64 6,.int .i64 a] 33)).alloc (.cells #[.int .i64 0,.int .i64 0] 98)=W at *
    obtain⟨⟨o0,o1⟩,_⟩:=duo_cells ro
    go_wp2_with fail
    go_region_with (go_at_call 197;refine(l11Bit_any false _).mono ?_;rintro e w' ⟨rfl,hw⟩;have rr':=row_below hw (show W.drew.rowIs (w.heap.size+1) 98 2 _ from rr);have hA':=(hA.drew).trans (hw.mono hA.size);obtain⟨⟨r0,r1⟩,f0,f1⟩:=duo_cells rr')
    all_goals
      go_wp2
      obtain⟨⟨s0,s1⟩,_⟩:=duo_cells (duo_set rr' (.int .i64 1) (.int .i64 0))
      refine bodyPost_ret (v:=.tuple #[.agg #[.int .i64 1,.int .i64 0],.bool true]) (by simp[results,Tryz.results190,go_sem,s0,s1]) rfl ?_
      exact⟨by rw[HM.out],(hA'.setCell (p:=⟨w.heap.size+1,0,none⟩) (Nat.le_succ _) _).setCell (p:=⟨w.heap.size+1,1,none⟩) (Nat.le_succ _) _⟩
end Go.Proofs.YtjbgpcileapogaaGreat

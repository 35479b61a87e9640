/-
  The model's heap at work, walked: say.
-/
import Derived.Test.YtjbgpcileapogaaGreatSWalk3
import Derived.Test.YtjbgpcileapogaaGreatVSpec
import Derived.Deep.RegionLaw
import Derived.Deep.RegionWith
namespace Go.Proofs.YtjbgpcileapogaaGreat
open Go.RowKit
theorem duo_set1 {w:World} {g:Nat} {t:TypeId} {x0 x1:Value} (h:w.rowIs g t 2 (duo x0 x1)) (v:Value):(w.setCell ⟨g,1,none⟩ v).rowIs g t 2 (duo x0 v) :=
  (h.set 1 v).congr fun i hi=>by match i,hi with | 0,_=>rfl | 1,_=>rfl
theorem one_drew (w:World) (k q:Int) (e:TypeId) (c:Nat):OpsAt (w.alloc (.cells #[.int .i64 k,.int .i64 q] e)).drew (.slice (some ⟨w.heap.size,0,none⟩) 1 c) [(k,q)]:=one_at w k q e c
set_option maxRecDepth 100000 in
set_option maxHeartbeats 4000000 in
theorem say_any {A:Nat→Prop} {B:Nat} {w:World} {bo:Nat} {vp vs:Value} {g off cap:Nat} {ms:List (Int × Int × List (Int × Int))} {h:Hp} {V:Nat→Value × Value} (k:SM A B w bo vp (.slice (some ⟨g,off,none⟩) h.calls.length cap) vs ms h V) (hB:B≤w.heap.size) (a b:Int) (hv:a=2→0≤b∧b<(h.calls.length:Int)) (hsd:h.said.length≤2900000) :
    Calls Tryz.prog 196 #[.pointer (some ⟨bo,0,none⟩),.agg #[.int .i64 a,.int .i64 b]] w fun e w'=>e=.returned (.tuple #[])∧(∃vs' V',SM A B w' bo vp (.slice (some ⟨g,off,none⟩) h.calls.length cap) vs' ms (sayH h (a,b)) V')∧Cm A B w w':=by
  have hA:Below w.heap.size w (w.alloc (.cells #[.int .i64 a,.int .i64 b] 98)):=(Below.refl _ _).alloc (Nat.le_refl _) _
  have rx:=duo_new w 98 (.int .i64 a) (.int .i64 b)
  have k1:=k.below hA
  have hbo:bo<w.heap.size:=k.box.lt
  obtain⟨sa,sc,hsv,_⟩:=k.own.s.slice
  subst hsv
  have tail:∀(W:World) (m:Int),Below w.heap.size w W→W.rowIs w.heap.size 98 2 (duo (.int .i64 a) (.int .i64 m))→(a,m)=sayV h (a,b) →
      SM A B W bo vp (.slice (some ⟨g,off,none⟩) h.calls.length cap) (.slice sa h.said.length sc) ms h V ∧
      (W.cell? ⟨bo,4,none⟩=some (.slice sa h.said.length sc)∧W.cell? ⟨w.heap.size,0,none⟩=some (.int .i64 a)∧W.cell? ⟨w.heap.size,1,none⟩=some (.int .i64 m)) ∧
      PairRow B (W.alloc (.cells #[.int .i64 a,.int .i64 m] 98)).drew (.slice sa h.said.length sc) h.said ∧
      ∀v' w',PairRow B w' v' (h.said ++ [(a,m)])→(W.alloc (.cells #[.int .i64 a,.int .i64 m] 98)).drew.grownBy w' (Value.slice sa h.said.length sc).ownBlock→(v'.ownBlock=(Value.slice sa h.said.length sc).ownBlock∨v'.ownBlock=some (W.alloc (.cells #[.int .i64 a,.int .i64 m] 98)).drew.heap.size) →
        (w'.cell? ⟨bo,4,none⟩=some (.slice sa h.said.length sc)∧w'.frozen? ⟨bo,4,none⟩=false)∧(∃vs' V',SM A B (w'.setCell ⟨bo,4,none⟩ v') bo vp (.slice (some ⟨g,off,none⟩) h.calls.length cap) vs' ms (sayH h (a,b)) V')∧Cm A B w (w'.setCell ⟨bo,4,none⟩ v'):=fun W m hW rW hm=>by
    have kW:=k.below hW
    obtain⟨⟨_,_,_,_,y4,_⟩,_⟩:=six_cells kW.box
    obtain⟨⟨t0,t1⟩,_⟩:=duo_cells rW
    have N:Below W.heap.size W (W.alloc (.cells #[.int .i64 a,.int .i64 m] 98)).drew:=((Below.refl _ _).alloc (Nat.le_refl _) _).drew
    have zW:=hW.size
    refine⟨kW,⟨y4,t0,t1⟩,kW.own.s.below N,fun v' w' hr hg hv'=>?_⟩
    have hzN:=N.size
    have hzg:=hg.size
    have hsb:(Value.slice sa h.said.length sc).ownBlock≠some bo:=fun e=>k.nb (.inl e)
    have hbl:∀q,q<W.heap.size→(Value.slice sa h.said.length sc).ownBlock≠some q→w'.heap[q]?=W.heap[q]?:=fun q hq hn=>(hg.block q (by omega) (fun e=>hn e.symm)).trans (N.block q hq)
    have bx:=kW.box.of_block (hbl bo (by omega) hsb)
    obtain⟨⟨_,_,_,_,z4,_⟩,_,_,_,_,f4,_⟩:=six_cells bx
    have b':Below B W w':=⟨hg.os.trans N.os,hg.tape.trans N.tape,hg.output.trans N.output,by omega,fun q hq=>hbl q (by omega) (fun e=>by have:=(k.own.s.lt q e).1;omega)⟩
    obtain⟨ks,cs⟩:=kW.say v' (h.said ++ [(a,m)]) (by omega) hbl hr (fun q e=>by
      rcases hv' with x | x
      · exact .inl (by rw[←x];exact e)
      · rw[x] at e;cases e;exact .inr hzN) b'
    refine⟨⟨z4,f4⟩,⟨v',V,?_⟩,(k.cm hW hB).trans cs⟩
    unfold sayH
    rw[←hm]
    exact ks
  by_cases ha:a=2
  · subst ha
    obtain⟨b0,b1⟩:=hv rfl
    obtain⟨j,rfl⟩:=Int.eq_ofNat_of_zero_le b0
    have hj:j<h.calls.length:=by omega
    obtain⟨⟨x0,x1,x2,x3,x4,x5⟩,_⟩:=six_cells k1.box
    obtain⟨⟨c0,c1,c2,c3,c4,c5⟩,_⟩:=k1.own.c.cells hj
    obtain⟨⟨t0,t1⟩,tf0,tf1⟩:=duo_cells rx
    have hjz:(j:Int)<(h.calls.length:Int):=by omega
    have hsay:((2:Int),h.calls[j].m)=sayV h (2,(j:Int)):=by unfold sayV;simp[hj]
    have rW:=duo_set1 rx (.int .i64 h.calls[j].m)
    have hW:Below w.heap.size w ((w.alloc (.cells #[.int .i64 2,.int .i64 (j:Int)] 98)).setCell ⟨w.heap.size,1,none⟩ (.int .i64 h.calls[j].m)).drew:=(hA.setCell (p:=⟨w.heap.size,1,none⟩) (Nat.le_refl _) _).drew
    obtain⟨kW,⟨y4,y0,y1⟩,hown,hend⟩:=tail _ _ hW rW hsay
    have HE:Hid _:=hend
    have zW:=hW.size
    have hBW:B≤((w.alloc (.cells #[.int .i64 2,.int .i64 (j:Int)] 98)).setCell ⟨w.heap.size,1,none⟩ (.int .i64 h.calls[j].m)).drew.heap.size:=by omega
    have hbW:bo<((w.alloc (.cells #[.int .i64 2,.int .i64 (j:Int)] 98)).setCell ⟨w.heap.size,1,none⟩ (.int .i64 h.calls[j].m)).drew.heap.size:=by omega
    have hwW:=World.block_lt_of_cell? _ _ y0
    clear hend tail zW hsay
    go_enter Tryz.func196,Tryz.ntmps196
    go_upto_region 1 with fail
    generalize w.alloc (.cells #[.int .i64 2,.int .i64 (j:Int)] 98)=W1 at *
    go_wp2
    go_region
    go_upto_region 3 with fail
    generalize (W1.setCell ⟨w.heap.size,1,none⟩ (.int .i64 h.calls[j].m)).drew=W at *
    clear x0 x1 x2 x3 x4 x5 c0 c1 c2 c3 c4 c5 t0 t1 tf0 tf1 rx k1 hA
    go_region_law (refine step_vals _ (by rfl) _ _ (by rfl) B _ _ h.said [(2,h.calls[j].m)] (by rfl) (by rfl) hown (one_drew W 2 h.calls[j].m _ _) (by simp;omega) (by simp;omega) ?_;intro v' w' hrow hg hbk;obtain⟨a',c',hv',_⟩:=hrow.slice;rw[List.length_append] at hv';subst hv';obtain⟨⟨z4,f4⟩,hSM⟩:=HE.out _ w' hrow hg hbk)
    all_goals exact bodyPost_end (results_none rfl _ _ _) rfl ⟨rfl,hSM⟩
  · have hae:(a == 2)=false:=beq_eq_false_iff_ne.2 ha
    have hsay:(a,b)=sayV h (a,b):=by unfold sayV;rw[if_neg ha]
    obtain⟨kW,⟨y4,y0,y1⟩,hown,hend⟩:=tail _ _ hA rx hsay
    have HE:Hid _:=hend
    have zW:=hA.size
    have hBW:B≤(w.alloc (.cells #[.int .i64 a,.int .i64 b] 98)).heap.size:=by omega
    have hbW:bo<(w.alloc (.cells #[.int .i64 a,.int .i64 b] 98)).heap.size:=by omega
    have hwW:=World.block_lt_of_cell? _ _ y0
    clear hend tail zW k1 rx hsay
    go_enter Tryz.func196,Tryz.ntmps196
    go_upto_region 1 with fail
    generalize w.alloc (.cells #[.int .i64 a,.int .i64 b] 98)=W at *
    go_upto_region 3 with fail
    go_region_law (refine step_vals _ (by rfl) _ _ (by rfl) B _ _ h.said [(a,b)] (by rfl) (by rfl) hown (one_drew W a b _ _) (by simp;omega) (by simp;omega) ?_;intro v' w' hrow hg hbk;obtain⟨a',c',hv',_⟩:=hrow.slice;rw[List.length_append] at hv';subst hv';obtain⟨⟨z4,f4⟩,hSM⟩:=HE.out _ w' hrow hg hbk)
    all_goals exact bodyPost_end (results_none rfl _ _ _) rfl ⟨rfl,hSM⟩
set_option maxRecDepth 100000 in
set_option maxHeartbeats 2000000 in
theorem now_drew {A:Nat→Prop} {B:Nat} {w:World} {bo:Nat} {vp vs:Value} {g off cap:Nat} {ms:List (Int × Int × List (Int × Int))} {h:Hp} {V:Nat→Value × Value} (k:SM A B w bo vp (.slice (some ⟨g,off,none⟩) h.calls.length cap) vs ms h V) {j:Nat} (hn:h.now=j) (hj:j<h.calls.length) :
    Calls Tryz.prog 177 #[.pointer (some ⟨bo,0,none⟩)] w fun e w'=>e=.returned (.pointer (some ⟨g,off+j * 6,none⟩))∧w'=w.drew:=by
  obtain⟨⟨x0,x1,x2,x3,x4,x5⟩,_⟩:=six_cells k.box
  rw[hn] at x2
  have hjz:(j:Int)<(h.calls.length:Int):=by omega
  go_enter Tryz.func177,Tryz.ntmps177
  go_wp2
  go_region
  go_wp2
  go_ret
  exact⟨rfl,rfl⟩
theorem SM.drew {A:Nat→Prop} {B:Nat} {w:World} {bo:Nat} {vp vc vs:Value} {ms:List (Int × Int × List (Int × Int))} {h:Hp} {V:Nat→Value × Value} (k:SM A B w bo vp vc vs ms h V):SM A B w.drew bo vp vc vs ms h V:=k.below (Below.refl _ _).drew
theorem push_tail {A:Nat→Prop} {B:Nat} {w:World} {bo:Nat} {vp vs:Value} {g off cap:Nat} {ms:List (Int × Int × List (Int × Int))} {h:Hp} {V:Nat→Value × Value} (k:SM A B w bo vp (.slice (some ⟨g,off,none⟩) h.calls.length cap) vs ms h V) (hB:B≤w.heap.size) {j:Nat} (hj:j<h.calls.length) {sa:Option Addr} {sc:Nat} (hV:(V j).2=.slice sa h.calls[j].stack.length sc) (X:World) (hX:Below w.heap.size w X) (x:Int × Int) :
    PairRow B X (.slice sa h.calls[j].stack.length sc) h.calls[j].stack∧∀v' w',PairRow B w' v' (h.calls[j].stack ++ [x])→X.grownBy w' (Value.slice sa h.calls[j].stack.length sc).ownBlock→(v'.ownBlock=(Value.slice sa h.calls[j].stack.length sc).ownBlock∨v'.ownBlock=some X.heap.size) →
      (w'.cell? ⟨g,off+j * 6+3,none⟩=some (.slice sa h.calls[j].stack.length sc)∧w'.frozen? ⟨g,off+j * 6+3,none⟩=false) ∧
      (∃V',SM A B (w'.setCell ⟨g,off+j * 6+3,none⟩ v') bo vp (.slice (some ⟨g,off,none⟩) h.calls.length cap) vs ms {h with calls:=h.calls.set j {h.calls[j] with stack:=h.calls[j].stack ++ [x]}} V')∧Cm A B w (w'.setCell ⟨g,off+j * 6+3,none⟩ v'):=by
  have hs:=(k.own.c.lists j hj).2
  rw[hV] at hs
  have hgl:=(k.own.c.lt (g:=g) (.inl rfl)).2
  have hzX:=hX.size
  have hng:(Value.slice sa h.calls[j].stack.length sc).ownBlock≠some g:=fun e=>by
    have:=(k.own.c.apart (j * 2+1) (by omega) g (by rw[lst_1,hV];exact e)).1
    exact this rfl
  refine⟨hs.below hX,fun v' w' hr hg hv'=>?_⟩
  have hbg:w'.heap[g]?=w.heap[g]?:=(hg.block g (by omega) (fun e=>hng e.symm)).trans (hX.block g hgl)
  obtain⟨⟨_,_,_,c3,_,_⟩,fz⟩:=k.own.c.cells hj
  rw[hV] at c3
  refine⟨⟨by rw[World.cell?_of_block (a:=⟨g,off+j * 6+3,none⟩) hbg];exact c3,by rw[World.frozen?_of_block (a:=⟨g,off+j * 6+3,none⟩) hbg];exact fz 3 (by decide)⟩,?_⟩
  exact k.push hj hB hX (by rw[hV];exact hg) hr (by rw[hV];exact hv')
theorem six_now (x0 x1 x2 x3 x4 x5 v:Value):∀q,q<6→six x0 x1 v x3 x4 x5 q=if q=2 then v else six x0 x1 x2 x3 x4 x5 q:=fun q hq=>by
  have h6:q=0∨q=1∨q=2∨q=3∨q=4∨q=5:=by omega
  rcases h6 with rfl | rfl | rfl | rfl | rfl | rfl <;> rfl
theorem six_born (x0 x1 x2 x3 x4 x5 v:Value):∀q,q<6→six x0 x1 x2 v x4 x5 q=if q=3 then v else six x0 x1 x2 x3 x4 x5 q:=fun q hq=>by
  have h6:q=0∨q=1∨q=2∨q=3∨q=4∨q=5:=by omega
  rcases h6 with rfl | rfl | rfl | rfl | rfl | rfl <;> rfl
theorem six_code (x0 x1 x2 x3 x4 x5 v:Value):∀q,q<6→six x0 x1 x2 x3 x4 v q=if q=5 then v else six x0 x1 x2 x3 x4 x5 q:=fun q hq=>by
  have h6:q=0∨q=1∨q=2∨q=3∨q=4∨q=5:=by omega
  rcases h6 with rfl | rfl | rfl | rfl | rfl | rfl <;> rfl
theorem SM.setNow {A:Nat→Prop} {B:Nat} {w:World} {bo:Nat} {vp vc vs:Value} {ms:List (Int × Int × List (Int × Int))} {h:Hp} {V:Nat→Value × Value} (k:SM A B w bo vp vc vs ms h V) (x:Int):SM A B (w.setCell ⟨bo,2,none⟩ (.int .i64 x)) bo vp vc vs ms {h with now:=x} V∧Cm A B w (w.setCell ⟨bo,2,none⟩ (.int .i64 x)):=k.num 2 x rfl rfl (six_now _ _ _ _ _ _ _)
theorem SM.setBorn {A:Nat→Prop} {B:Nat} {w:World} {bo:Nat} {vp vc vs:Value} {ms:List (Int × Int × List (Int × Int))} {h:Hp} {V:Nat→Value × Value} (k:SM A B w bo vp vc vs ms h V) (x:Int):SM A B (w.setCell ⟨bo,3,none⟩ (.int .i64 x)) bo vp vc vs ms {h with born:=x} V∧Cm A B w (w.setCell ⟨bo,3,none⟩ (.int .i64 x)):=k.num 3 x rfl rfl (six_born _ _ _ _ _ _ _)
theorem SM.setCode {A:Nat→Prop} {B:Nat} {w:World} {bo:Nat} {vp vc vs:Value} {ms:List (Int × Int × List (Int × Int))} {h:Hp} {V:Nat→Value × Value} (k:SM A B w bo vp vc vs ms h V) (x:Int):SM A B (w.setCell ⟨bo,5,none⟩ (.int .i64 x)) bo vp vc vs ms {h with code:=x} V∧Cm A B w (w.setCell ⟨bo,5,none⟩ (.int .i64 x)):=k.num 5 x rfl rfl (six_code _ _ _ _ _ _ _)
theorem leaveH_eq {h:Hp} {j:Nat} (hn:h.now=j) (hj:j<h.calls.length):leaveH h={h with calls:=h.calls.set j {h.calls[j] with stack:=[],sender:=-1,dead:=true},now:=h.calls[j].sender}:=by
  have e:h.now.toNat=j:=by omega
  unfold leaveH setH
  rw[cur_at hn hj,e]
  rfl
set_option maxRecDepth 100000 in
set_option maxHeartbeats 8000000 in
theorem ret_any {A:Nat→Prop} {B:Nat} {w:World} {bo:Nat} {vp vs:Value} {g off cap:Nat} {ms:List (Int × Int × List (Int × Int))} {h:Hp} {V:Nat→Value × Value} (k:SM A B w bo vp (.slice (some ⟨g,off,none⟩) h.calls.length cap) vs ms h V) (hB:B≤w.heap.size) {j:Nat} (hn:h.now=j) (hj:j<h.calls.length) (hs:-1≤h.calls[j].sender∧h.calls[j].sender<(h.calls.length:Int)) (a b:Int) (hv:a=2→0≤b∧b<(h.calls.length:Int)) (hsd:h.said.length≤2900000)
    (hst:∀s:Nat,h.calls[j].sender=s→∀hs:s<h.calls.length,h.calls[s].stack.length≤1000) :
    Calls Tryz.prog 193 #[.pointer (some ⟨bo,0,none⟩),.agg #[.int .i64 a,.int .i64 b]] w fun e w'=>e=.returned (.tuple #[])∧(∃vc' vs' V',SM A B w' bo vp vc' vs' ms (retH h (a,b)) V')∧Cm A B w w':=by
  obtain⟨⟨c0,c1,c2,c3,c4,c5⟩,fz⟩:=k.own.c.cells hj
  have hbo:bo<w.heap.size:=k.box.lt
  have hgl:=(k.own.c.lt (g:=g) (.inl rfl)).2
  go_enter Tryz.func193,Tryz.ntmps193
  have hA:Below w.heap.size w (w.alloc (.cells #[.int .i64 a,.int .i64 b] 98)):=(Below.refl _ _).alloc (Nat.le_refl _) _
  have rx:=duo_new w 98 (.int .i64 a) (.int .i64 b)
  have k1:=k.made hA (by simp)
  have cm1:=k.cm hA hB
  go_upto_region 1 with fail
  generalize w.alloc (.cells #[.int .i64 a,.int .i64 b] 98)=W1 at *
  have z1:=hA.size
  obtain⟨⟨d0,d1,d2,d3,d4,d5⟩,_⟩:=k1.own.c.cells hj
  go_upto_region 2 with(go_at_call 177;refine(now_drew k1 hn hj).mono ?_;rintro e w' ⟨rfl,hw⟩;obtain rfl:=hw)
  have k2:=k1.drew
  obtain⟨⟨x0,x1,x2,x3,x4,x5⟩,_⟩:=six_cells k2.box
  rw[hn] at x2
  go_upto_region 3 with(go_at_call 198;refine(die_any k2 hj).mono ?_;rintro e w3 ⟨rfl,⟨V3,k3⟩,cm3⟩)
  obtain⟨k4,cm4⟩:=k3.setNow h.calls[j].sender
  have hlv:leaveH h={h with calls:=h.calls.set j {h.calls[j] with stack:=[],sender:=-1,dead:=true},now:=h.calls[j].sender}:=leaveH_eq hn hj
  have hcl:(leaveH h).calls.length=h.calls.length:=by rw[hlv];simp
  have k4':SM (fun q=>A q∨q=w.heap.size) B (w3.setCell ⟨bo,2,none⟩ (.int .i64 h.calls[j].sender)) bo vp (.slice (some ⟨g,off,none⟩) (leaveH h).calls.length cap) vs ms (leaveH h) V3:=by rw[hcl,hlv];exact k4
  have rx4:=cm4.row (cm3.row (show W1.drew.rowIs w.heap.size _ 2 _ from rx) (.inr rfl)) (.inr rfl)
  have cmA:Cm A B w (w3.setCell ⟨bo,2,none⟩ (.int .i64 h.calls[j].sender)):=cm1.trans (((k1.cm (Below.refl _ _).drew (by omega)).trans (cm3.trans cm4)).less (fun q hq=>.inl hq))
  have hB3:B≤(w3.setCell ⟨bo,2,none⟩ (.int .i64 h.calls[j].sender)).heap.size:=by have:=cmA.b.size;omega
  obtain⟨⟨y0,y1,y2,y3,y4,y5⟩,_,_,f2,_,_,_⟩:=six_cells k3.box
  by_cases hneg:h.calls[j].sender<0
  · have hneg':decide (h.calls[j].sender<0)=true:=decide_eq_true hneg
    have HR:Hid (retH h (a,b)=codeH (sayH (leaveH h) (a,b)) 1):=by show _=_;unfold retH;rw[cur_at hn hj,if_pos hneg]
    have hsl:(leaveH h).said=h.said:=by rw[hlv]
    have hS:=say_any k4' hB3 a b (fun e=>by rw[hcl];exact hv e) (by rw[hsl];exact hsd)
    clear x0 x1 x2 x3 x4 x5 d0 d1 d2 d3 d4 d5 c0 c1 c2 c3 c4 c5 fz k2 k1 k
    go_upto_region 5 with fail
    generalize w3.setCell ⟨bo,2,none⟩ (.int .i64 h.calls[j].sender)=W4 at *
    obtain⟨⟨t0,t1⟩,_⟩:=duo_cells rx4
    go_upto_region 6 with(go_at_call 196;refine hS.mono ?_;rintro e w5 ⟨rfl,⟨vs5,V5,k5⟩,cm5⟩)
    obtain⟨⟨u0,u1,u2,u3,u4,u5⟩,_,_,_,_,_,g5⟩:=six_cells k5.box
    obtain⟨k6,cm6⟩:=k5.setCode 1
    go_wp2
    refine bodyPost_ret (results_none rfl _ _ _) rfl ?_
    refine⟨rfl,⟨.slice (some ⟨g,off,none⟩) (leaveH h).calls.length cap,vs5,V5,?_⟩,cmA.trans ((cm5.trans cm6).less (fun q hq=>.inl hq))⟩
    · rw[HR.out]
      exact k6.less (fun q hq=>.inl hq)
  · obtain⟨s,hse⟩:∃s:Nat,h.calls[j].sender=s:=⟨h.calls[j].sender.toNat,by omega⟩
    have hsn:s<h.calls.length:=by omega
    have hsn4:s<(leaveH h).calls.length:=by omega
    have hneg':¬(h.calls[j].sender<0):=hneg
    have hnow4:(leaveH h).now=s:=by rw[hlv];exact hse
    have HR:Hid (retH h (a,b)={leaveH h with calls:=(leaveH h).calls.set s {(leaveH h).calls[s] with stack:=(leaveH h).calls[s].stack ++ [(a,b)]}}):=by
      show _=_
      unfold retH
      rw[cur_at hn hj,if_neg hneg,pushH_eq hnow4 hsn4]
    have hst4:(leaveH h).calls[s].stack.length≤1000:=by
      have hq:(leaveH h).calls=h.calls.set j {h.calls[j] with stack:=[],sender:=-1,dead:=true}:=by rw[hlv]
      simp only[hq]
      by_cases e:j=s
      · subst e;simp
      · rw[List.getElem_set_ne e];exact hst s hse hsn
    obtain⟨sa,sc,hVs,_⟩:=(k4'.own.c.lists s hsn4).2.slice
    obtain⟨⟨e0,e1,e2,e3,e4,e5⟩,_⟩:=k4'.own.c.cells hsn4
    rw[hVs] at e3
    have hN:=now_drew k4' hnow4 hsn4
    have hgl4:=(k4'.own.c.lt (g:=g) (.inl rfl)).2
    clear x0 x1 x2 x3 x4 x5 d0 d1 d2 d3 d4 d5 c0 c1 c2 c3 c4 c5 fz k2 k1 k hneg hlv k4 cm4 hst
    generalize h.calls[j].sender=S at *
    subst hse
    go_upto_region 7 with fail
    have HPT:=push_tail k4' hB3 hsn4 hVs
    have hwl:=rx4.lt
    generalize w3.setCell ⟨bo,2,none⟩ (.int .i64 (s:Int))=W4 at *
    generalize hLH:leaveH h=LH at *
    obtain⟨⟨t0,t1⟩,_⟩:=duo_cells rx4
    obtain⟨hown,hend⟩:=HPT ((W4.alloc (.cells #[.int .i64 a,.int .i64 b] 98)).drew.drew.drew) ((((Below.refl _ _).alloc (Nat.le_refl _) _).drew.drew.drew)) (a,b)
    have HE:Hid _:=hend
    clear hend HPT
    go_region_law (first
      | (refine step_vals _ (by rfl) _ _ (by rfl) B _ _ LH.calls[s].stack [(a,b)] (by rfl) (by rfl) hown (one_at W4 a b _ _) (by simp;omega) (by simp;omega) ?_;intro v' w' hrow hg hbk;obtain⟨a',c',hv',_⟩:=hrow.slice;rw[List.length_append] at hv';subst hv';obtain⟨⟨z4,f4⟩,hSM⟩:=HE.out _ w' hrow hg hbk)
      | (go_simp;go_at_call 177;refine(now_drew (k4'.below (by first | exact(Below.refl _ _).drew | exact(Below.refl _ _).drew.drew | exact((Below.refl _ _).alloc (Nat.le_refl _) _).drew | exact((Below.refl _ _).alloc (Nat.le_refl _) _).drew.drew)) hnow4 hsn4).mono ?_;rintro e w' ⟨rfl,hw⟩;obtain rfl:=hw))
    all_goals
      obtain⟨⟨V',kV⟩,cV⟩:=hSM
      refine bodyPost_end (results_none rfl _ _ _) rfl ⟨rfl,⟨.slice (some ⟨g,off,none⟩) LH.calls.length cap,vs,V',?_⟩,cmA.trans (cV.less (fun q hq=>.inl hq))⟩
      rw[HR.out]
      exact kV.less (fun q hq=>.inl hq)
theorem step_call {ops:Array Oper} {o:Oper} {act:Act} {K:Act→World→Prop} {Q:Exit→Act→World→Prop} {E:Prop} (w:World) (hgd:o.guard=none) (s y:Operand)
    (ho:o.op=.call {callee:=.builtin .append,args:=#[s,y],argTypes:=#[26,26]}) (B:Nat) (v:Value) (L:List (Cl × Value × Value)) (x:Cl × Value × Value) (hs:act.eval s=v) (H c:Nat) (hy:act.eval y=.slice (some ⟨H,0,none⟩) 1 c) (hown:CallRow B w v L)
    (h1:x.2.1.oneCell'=true) (h2:x.2.2.oneCell'=true) (hx:∀j u,(cells6 x)[j]?=some u→w.cell? ⟨H,j,none⟩=some u) (hL:L.length≤900000) (hB:B≤w.heap.size)
    (h:∀v' w',CallRow B w' v' (L ++ [x])→w.grownBy w' v.ownBlock→(v'.ownBlock=v.ownBlock∨v'.ownBlock=some w.heap.size)→K (act.put o.dst v') w') :
    if Region.wanted o (yielded ops act.tmps)=true then Oper.wp Tryz.prog o act w K Q else E:=by
  obtain⟨v',w',hr,h3,h4,h5⟩:=run_append_call (ty:=o.type) hown x h1 h2 H c hx hL hB
  rw[if_pos (by simp[Region.wanted,hgd])]
  unfold Oper.wp execOp
  simp only[ho,resolve,invoke,builtin,Sem.run_bind,Sem.run_pure,Result.andThen_ok,List.map_toArray,List.map_cons,List.map_nil,hs,hy,hr]
  exact h v' w' h3 h4 h5
theorem callH_full {ms:Ms} {h:Hp} {m:Int} {args:List (Int × Int)} (hb:30≤h.born):callH ms h m args={h with code:=3}:=by unfold callH;rw[if_pos hb];rfl
theorem callH_new {ms:Ms} {h:Hp} {m:Nat} {args:List (Int × Int)} (hb:¬30≤h.born) (hm:m<ms.length) {t:Nat} (ht:ms[m].2.1=(t:Int)):callH ms h m args={h with calls:=h.calls ++ [⟨(m:Int),0,args ++ List.replicate (t - args.length) (0,0),[],h.now,false⟩],now:=h.calls.length,born:=h.born+1}:=by
  unfold callH
  rw[if_neg hb]
  have e:(ms.getD ((m:Int)).toNat (0,0,[])).2.1.toNat=t:=by simp[hm,ht]
  rw[e]
set_option maxRecDepth 100000 in
set_option maxHeartbeats 8000000 in
theorem call_any {A:Nat→Prop} {B:Nat} {w:World} {bo:Nat} {vp vs:Value} {g off cap:Nat} {ms:List (Int × Int × List (Int × Int))} {h:Hp} {V:Nat→Value × Value} (k:SM A B w bo vp (.slice (some ⟨g,off,none⟩) h.calls.length cap) vs ms h V) (hB:B≤w.heap.size) (m:Nat) (hm:m<ms.length) (t:Nat) (ht:ms[m].2.1=(t:Int)) (ht4:t≤1000) (va:Value) (args:List (Int × Int)) (ha:OpsAt w va args) (hat:args.length≤t) (hn:h.calls.length≤800000) (hbn:0≤h.born) :
    Calls Tryz.prog 192 #[.pointer (some ⟨bo,0,none⟩),.int .i64 (m:Int),va] w fun e w'=>e=.returned (.tuple #[])∧(∃vc' vs' V',SM A B w' bo vp vc' vs' ms (callH ms h m args) V')∧Cm A B w w':=by
  obtain⟨⟨x0,x1,x2,x3,x4,x5⟩,_,_,f2,f3,_,f5⟩:=six_cells k.box
  obtain⟨ap,cp,hvp,_⟩:=id k.prog
  obtain⟨aa,ca,hva⟩:=ha.shape
  subst hva
  by_cases hb:30≤h.born
  · have hb':decide (30≤h.born)=true:=decide_eq_true hb
    obtain⟨k2,cm2⟩:=k.setCode 3
    have HR:Hid (callH ms h m args={h with code:=3}):=callH_full hb
    clear hb
    go_enter Tryz.func192,Tryz.ntmps192
    go_wp2
    refine bodyPost_ret (results_none rfl _ _ _) rfl ⟨rfl,⟨.slice (some ⟨g,off,none⟩) h.calls.length cap,vs,V,?_⟩,cm2⟩
    rw[HR.out]
    exact k2
  · have hb':¬(30≤h.born):=hb
    subst hvp
    have HR:Hid (callH ms h m args={h with calls:=h.calls ++ [⟨(m:Int),0,args ++ List.replicate (t - args.length) (0,0),[],h.now,false⟩],now:=h.calls.length,born:=h.born+1}):=callH_new hb hm ht
    have hbo:bo<w.heap.size:=k.box.lt
    have HC:=fun(W:World) (hW:Below w.heap.size w W)=>l11Call_any _ _ ms m args h.now t W (k.prog.below hW) hm ht ht4 (ha.below hW) hat
    have hlr:=rowOf_len h.calls V
    have HTL:Hid ((args ++ List.replicate (t - args.length) ((0:Int),(0:Int))).length=t):=by show _=_;simp;omega
    -- behind the making of the call
    have H3:Hid (∀(w3:World) (at3 as3:Option Addr) (kt ks:Nat),Below w.drew.heap.size w.drew w3→PairRow w.drew.heap.size w3 (.slice at3 t kt) (args ++ List.replicate (t - args.length) (0,0))→PairRow w.drew.heap.size w3 (.slice as3 0 ks) []→(∀q,(Value.slice at3 t kt).ownBlock=some q→(Value.slice as3 0 ks).ownBlock≠some q) →
        (w3.cell? ⟨bo,1,none⟩=some (.slice (some ⟨g,off,none⟩) h.calls.length cap)∧bo<w3.heap.size) ∧
        CallRow B (w3.alloc (.cells #[.int .i64 (m:Int),.int .i64 0,.slice at3 t kt,.slice as3 0 ks,.int .i64 h.now,.bool false] 37)) (.slice (some ⟨g,off,none⟩) h.calls.length cap) (rowOf h.calls V) ∧
        (∀j u,(cells6 (⟨(m:Int),0,args ++ List.replicate (t - args.length) (0,0),[],h.now,false⟩,.slice at3 t kt,.slice as3 0 ks))[j]?=some u→(w3.alloc (.cells #[.int .i64 (m:Int),.int .i64 0,.slice at3 t kt,.slice as3 0 ks,.int .i64 h.now,.bool false] 37)).cell? ⟨w3.heap.size,j,none⟩=some u)∧B≤(w3.alloc (.cells #[.int .i64 (m:Int),.int .i64 0,.slice at3 t kt,.slice as3 0 ks,.int .i64 h.now,.bool false] 37)).heap.size ∧
        (∀v' w',CallRow B w' v' (rowOf h.calls V ++ [(⟨(m:Int),0,args ++ List.replicate (t - args.length) (0,0),[],h.now,false⟩,.slice at3 t kt,.slice as3 0 ks)])→(w3.alloc (.cells #[.int .i64 (m:Int),.int .i64 0,.slice at3 t kt,.slice as3 0 ks,.int .i64 h.now,.bool false] 37)).grownBy w' (Value.slice (some ⟨g,off,none⟩) h.calls.length cap).ownBlock→(v'.ownBlock=(Value.slice (some ⟨g,off,none⟩) h.calls.length cap).ownBlock∨v'.ownBlock=some (w3.alloc (.cells #[.int .i64 (m:Int),.int .i64 0,.slice at3 t kt,.slice as3 0 ks,.int .i64 h.now,.bool false] 37)).heap.size) →
          w'.rowIs bo 216 6 (six (.slice ap ms.length cp) (.slice (some ⟨g,off,none⟩) h.calls.length cap) (.int .i64 h.now) (.int .i64 h.born) vs (.int .i64 h.code)) ∧
          (∃V',SM A B (w'.setCell ⟨bo,1,none⟩ v') bo (.slice ap ms.length cp) v' vs ms {h with calls:=h.calls ++ [⟨(m:Int),0,args ++ List.replicate (t - args.length) (0,0),[],h.now,false⟩]} V')∧Cm A B w (w'.setCell ⟨bo,1,none⟩ v'))):=fun w3 at3 as3 kt ks hb3 hp3 hq3 hap3=>by
      have hb3':Below w.heap.size w w3:=(Below.refl w.heap.size w).drew.trans hb3
      have hz3:=hb3'.size
      have N:=(Below.refl w3.heap.size w3).alloc (Nat.le_refl _) (.cells #[.int .i64 (m:Int),.int .i64 0,.slice at3 t kt,.slice as3 0 ks,.int .i64 h.now,.bool false] 37)
      have hX:Below w.heap.size w _:=hb3'.trans (N.mono hz3)
      have hzX:=hX.size
      obtain⟨⟨_,y1,_⟩,_⟩:=six_cells (row_below hb3' k.box)
      refine⟨⟨y1,by omega⟩,(k.own.below hX).c.toRow,cells6_of (six_new w3 37 _ _ _ _ _ _),by omega,fun v' w' hr hg hv'=>?_⟩
      have hbn:(Value.slice (some ⟨g,off,none⟩) h.calls.length cap).ownBlock≠some bo:=fun e=>k.nb (.inr (.inl e))
      have hbk:w'.heap[bo]?=w.heap[bo]?:=(hg.block bo (by omega) (fun e=>hbn e.symm)).trans (hX.block bo hbo)
      exact⟨k.box.of_block hbk,k.born _ _ _ v' hB hX (hp3.below N) (hq3.below N) hap3 hr hg hv'⟩
    have hwb:IntKind.i64.wrap (h.born+1)=h.born+1:=by rw[IntKind.wrap_i64];omega
    have hwn:IntKind.i64.wrap ((h.calls.length:Int)+1 - 1)=(h.calls.length:Int):=by rw[IntKind.wrap_i64];omega
    go_enter Tryz.func192,Tryz.ntmps192
    go_upto_region 2 with fail
    clear x3 x4 x5 f2 f3 f5
    go_region_law (first
      | (refine step_call _ (by rfl) _ _ (by rfl) B _ (rowOf h.calls V) (⟨(m:Int),0,args ++ List.replicate (t - args.length) (0,0),[],h.now,false⟩,.slice at3 t kt,.slice as3 0 ks) (by rfl) w3.heap.size 1 (by rfl) hrow3 rfl rfl hcell3 (by rw[hlr];omega) hB3 ?_;intro v' w' hrow hg hbk;obtain⟨a',c',hv',_⟩:=hrow.slice;rw[List.length_append,hlr] at hv';subst hv';obtain⟨hbx,hSM⟩:=HEnd.out _ w' hrow hg hbk;obtain⟨⟨z0,z1,z2,z3,z4,z5⟩,y0,y1,y2,y3,y4,y5⟩:=six_cells hbx)
      | (go_simp;go_at_call 159;refine(HC _ ((Below.refl _ _).drew)).mono ?_;rintro e w3 ⟨vt,vs3,rfl,hp3,hq3,hap3,hb3⟩;obtain⟨at3,kt,hvt,_⟩:=hp3.slice;obtain⟨as3,ks,hvs,_⟩:=hq3.slice;rw[HTL.out] at hvt;subst hvt hvs;unfold clCells;obtain⟨⟨w31,w3b⟩,hrow3,hcell3,hB3,hE3⟩:=H3.out w3 at3 as3 kt ks hb3 hp3 hq3 hap3;have HEnd:Hid _:=hE3;clear hE3 hp3 hq3 hap3 hb3))
    all_goals
      obtain⟨⟨V5,k5⟩,cm5⟩:=hSM
      clear z0 z1 z2 z3 z4 z5 y0 y1 y2 y3 y4 y5 hbx hrow hg hbk
      obtain⟨⟨z0,z1,z2,z3,z4,z5⟩,y0,y1,y2,y3,y4,y5⟩:=six_cells k5.box
      obtain⟨k6,cm6⟩:=k5.setBorn (h.born+1)
      obtain⟨k7,cm7⟩:=k6.setNow h.calls.length
      generalize w'.setCell ⟨bo,1,none⟩ (.slice a' (h.calls.length+1) c')=W5 at *
      go_wp2
      refine bodyPost_end (results_none rfl _ _ _) rfl ⟨rfl,⟨.slice a' (h.calls.length+1) c',vs,V5,?_⟩,cm5.trans (cm6.trans cm7)⟩
      rw[HR.out]
      exact k7
set_option maxRecDepth 100000 in
set_option maxHeartbeats 8000000 in
theorem back_any {A:Nat→Prop} {B:Nat} {w:World} {bo:Nat} {vp vs:Value} {g off cap:Nat} {ms:List (Int × Int × List (Int × Int))} {h:Hp} {V:Nat→Value × Value} (k:SM A B w bo vp (.slice (some ⟨g,off,none⟩) h.calls.length cap) vs ms h V) (hB:B≤w.heap.size) (j:Nat) (hj:j<h.calls.length) (a b:Int) (l:List Nat) (hw:Waits h.calls h.now l) (hst:∀s:Nat,∀hs:s<h.calls.length,h.calls[s].stack.length≤1000) :
    Calls Tryz.prog 195 #[.pointer (some ⟨bo,0,none⟩),.int .i64 (j:Int),.agg #[.int .i64 a,.int .i64 b]] w fun e w'=>e=.returned (.tuple #[])∧(∃vc' vs' V',SM A B w' bo vp vc' vs' ms (backH h j (a,b)) V')∧Cm A B w w':=by
  have hA:Below w.heap.size w (w.alloc (.cells #[.int .i64 a,.int .i64 b] 98)):=(Below.refl _ _).alloc (Nat.le_refl _) _
  have rx:=duo_new w 98 (.int .i64 a) (.int .i64 b)
  have k1:=k.made hA (by simp)
  have cm1:=k.cm hA hB
  have hjz:(j:Int)<(h.calls.length:Int):=by omega
  go_enter Tryz.func195,Tryz.ntmps195
  go_upto_region 1 with fail
  generalize w.alloc (.cells #[.int .i64 a,.int .i64 b] 98)=W1 at *
  have z1:=hA.size
  obtain⟨⟨d0,d1,d2,d3,d4,d5⟩,_⟩:=k1.own.c.cells hj
  obtain⟨⟨x0,x1,x2,x3,x4,x5⟩,_,_,_,_,_,f5⟩:=six_cells k1.box
  cases hd:h.calls[j].dead
  case true =>
    rw[hd] at d5
    have HR:Hid (backH h j (a,b)={h with code:=2}):=by show _=_;unfold backH;rw[getD_at hj,hd];rfl
    obtain⟨k2,cm2⟩:=k1.setCode 2
    go_wp2
    refine bodyPost_ret (results_none rfl _ _ _) rfl ⟨rfl,⟨.slice (some ⟨g,off,none⟩) h.calls.length cap,vs,V,?_⟩,cm1.trans (cm2.less (fun q hq=>.inl hq))⟩
    rw[HR.out]
    exact k2.less (fun q hq=>.inl hq)
  case false =>
    rw[hd] at d5
    have HR:Hid (backH h j (a,b)=pushH (backTo h.calls.length h j) (a,b)):=by show _=_;unfold backH;rw[getD_at hj,hd];rfl
    have hjl:j∈l:=hw.all j hj hd
    have hll:=hw.len
    go_wp2
    go_loopg [] l.length (fun d wr=>∃(h':Hp) (V':Nat→Value × Value) (l':List Nat) (f:Nat),d=l'.length∧SM (fun q=>A q∨q=w.heap.size) B wr bo vp (.slice (some ⟨g,off,none⟩) h'.calls.length cap) vs ms h' V'∧Waits h'.calls h'.now l'∧j∈l'∧l'.length≤f∧backTo h.calls.length h j=backTo f h' j∧(∀s:Nat,∀hs:s<h'.calls.length,h'.calls[s].stack.length≤1000)∧Cm (fun q=>A q∨q=w.heap.size) B W1 wr)
    case atStart=>exact⟨h,V,l,h.calls.length,rfl,k1,hw,hjl,hll,rfl,hst,⟨Below.refl _ _,fun _ _=>rfl⟩⟩
    case round =>
      obtain⟨h',V',l',f,rfl,k',hw',hjl',hf,hback,hst',cm'⟩:=hrel
      have HBK:Hid (backTo h.calls.length h j=backTo f h' j):=hback
      clear hback
      obtain⟨f',rfl⟩:∃f',f=f'+1:=⟨f - 1,by cases l' with | nil=>cases hjl' | cons=>simp at hf;omega⟩
      have hn0:0≤h'.now:=by
        by_cases q:h'.now<0
        · obtain⟨f'',hf''⟩:=hw'.ch
          rw[walkC_neg q] at hf''
          cases hf''
          cases hjl'
        · omega
      obtain⟨i,hni⟩:∃i:Nat,h'.now=i:=⟨h'.now.toNat,by omega⟩
      rw[hni] at hw'
      have hi:i<h'.calls.length:=hw'.head.1
      obtain⟨⟨x0',x1',x2',x3',x4',x5'⟩,_,_,f2',_,_,_⟩:=six_cells k'.box
      rw[hni] at x2'
      by_cases hij:i=j
      · subst hij
        have HR2:Hid (backH h i (a,b)={h' with calls:=h'.calls.set i {h'.calls[i] with stack:=h'.calls[i].stack ++ [(a,b)]}}):=by
          show _=_
          rw[HR.out,HBK.out,backTo_here hni,pushH_eq hni hi]
        have rx4:=cm'.row rx (.inr rfl)
        have cmA:Cm A B w wr:=cm1.trans (cm'.less (fun q hq=>.inl hq))
        have hB3:B≤wr.heap.size:=by have:=cmA.b.size;omega
        have hst4:=hst' i hi
        obtain⟨sa,sc,hVs,_⟩:=(k'.own.c.lists i hi).2.slice
        obtain⟨⟨e0,e1,e2,e3,e4,e5⟩,_⟩:=k'.own.c.cells hi
        rw[hVs] at e3
        have hgl4:=(k'.own.c.lt (g:=g) (.inl rfl)).2
        have hbo4:bo<wr.heap.size:=k'.box.lt
        have HPT:=push_tail k' hB3 hi hVs
        have hwl:=rx4.lt
        obtain⟨⟨t0,t1⟩,_⟩:=duo_cells rx4
        obtain⟨hown,hend⟩:=HPT ((wr.alloc (.cells #[.int .i64 a,.int .i64 b] 98)).drew.drew.drew) ((((Below.refl _ _).alloc (Nat.le_refl _) _).drew.drew.drew)) (a,b)
        have HE:Hid _:=hend
        clear hend HPT x0 x1 x2 x3 x4 x5 d0 d1 d2 d3 d4 d5 k k1 hst hst'
        go_wp2_with fail
        go_region_law (first
          | (refine step_vals _ (by rfl) _ _ (by rfl) B _ _ h'.calls[i].stack [(a,b)] (by rfl) (by rfl) hown (one_at wr a b _ _) (by simp;omega) (by simp;omega) ?_;intro v' w' hrow hg hbk;obtain⟨a',c',hv',_⟩:=hrow.slice;rw[List.length_append] at hv';subst hv';obtain⟨⟨z4,f4⟩,hSM⟩:=HE.out _ w' hrow hg hbk)
          | (go_simp;go_at_call 177;refine(now_drew (k'.below (by first | exact(Below.refl _ _).drew | exact(Below.refl _ _).drew.drew | exact((Below.refl _ _).alloc (Nat.le_refl _) _).drew | exact((Below.refl _ _).alloc (Nat.le_refl _) _).drew.drew)) hni hi).mono ?_;rintro e w' ⟨rfl,hw⟩;obtain rfl:=hw))
        all_goals
          obtain⟨⟨V4,kV⟩,cV⟩:=hSM
          refine bodyPost_end (results_none rfl _ _ _) rfl ⟨rfl,⟨.slice (some ⟨g,off,none⟩) h'.calls.length cap,vs,V4,?_⟩,cmA.trans (cV.less (fun q hq=>.inl hq))⟩
          rw[HR2.out]
          exact kV.less (fun q hq=>.inl hq)
      · have hij':((i:Int) == (j:Int))=false:=beq_eq_false_iff_ne.2 (by omega)
        have HW:Hid (Waits h'.calls (i:Int) l'):=hw'
        obtain⟨t,hlt,hwt,_⟩:=hw'.leave hi (dieC h'.calls[i]) rfl
        have HWT:Hid (Waits (h'.calls.set i (dieC h'.calls[i])) h'.calls[i].sender t∧l'=i :: t):=⟨hwt,hlt⟩
        have hlv:=leaveH_eq hni hi
        have HLV:Hid (leaveH h'={h' with calls:=h'.calls.set i {h'.calls[i] with stack:=[],sender:=-1,dead:=true},now:=h'.calls[i].sender}):=hlv
        have HB2:Hid (backTo (f'+1) h' j=backTo f' (leaveH h') j):=backTo_on (fun e=>hij (by rw[hni] at e;omega))
        clear hw' hlv hwt hlt hij
        obtain⟨⟨e0,e1,e2,e3,e4,e5⟩,_⟩:=k'.own.c.cells hi
        obtain⟨k2,cm2⟩:=k'.drew.setNow h'.calls[i].sender
        have hN:=now_drew k' hni hi
        have hD:=die_any (h:={h' with now:=h'.calls[i].sender}) k2 (j:=i) hi
        have cmD:=k'.cm (Below.refl _ _).drew (by have:=k'.box.lt;have:=k'.le;omega)
        clear x0 x1 x2 x3 x4 x5 d0 d1 d2 d3 d4 d5 k k1
        go_wp2_with (first
          | (go_at_call 177;refine hN.mono ?_;rintro e w' ⟨rfl,hw⟩;obtain rfl:=hw)
          | (go_at_call 198;refine hD.mono ?_;rintro e w' ⟨rfl,⟨V3,k3⟩,cm3⟩))
        have hlen:(leaveH h').calls.length=h'.calls.length:=by rw[HLV.out];simp
        have k4:SM (fun q=>A q∨q=w.heap.size) B w' bo vp (.slice (some ⟨g,off,none⟩) (leaveH h').calls.length cap) vs ms (leaveH h') V3:=by rw[hlen,HLV.out];exact k3
        have hw4:Waits (leaveH h').calls (leaveH h').now t:=by
          rw[HLV.out]
          exact HWT.out.1
        have hst4:∀s:Nat,∀hs:s<(leaveH h').calls.length,(leaveH h').calls[s].stack.length≤1000:=fun s hs=>by
          have hq:(leaveH h').calls=h'.calls.set i {h'.calls[i] with stack:=[],sender:=-1,dead:=true}:=by rw[HLV.out]
          simp only[hq]
          by_cases e:i=s
          · subst e;simp
          · rw[List.getElem_set_ne e];exact hst' s (by omega)
        have hl':=HWT.out.2
        have hjt:j∈t:=by
          rw[hl'] at hjl'
          rcases List.mem_cons.1 hjl' with q | q
          · exact absurd (by omega:(i:Int)=j) (beq_eq_false_iff_ne.1 hij')
          · exact q
        go_roundg t.length
        case measure=>rw[hl'];simp
        case rel=>exact⟨leaveH h',V3,t,f',rfl,k4,hw4,hjt,by rw[hl'] at hf;simpa using hf,by rw[HBK.out,HB2.out],hst4,cm'.trans (cmD.trans (cm2.trans cm3))⟩
set_option maxRecDepth 100000 in
set_option maxHeartbeats 8000000 in
theorem do_made {A:Nat→Prop} {B:Nat} {w:World} {bo:Nat} {vp vs:Value} {g off cap:Nat} {ms:List (Int × Int × List (Int × Int))} {h:Hp} {V:Nat→Value × Value} (k:SM A B w bo vp (.slice (some ⟨g,off,none⟩) h.calls.length cap) vs ms h V) (hB:B≤w.heap.size) {j:Nat} (hn:h.now=j) (hj:j<h.calls.length) (hst:h.calls[j].stack.length≤1000) (kk a x:Int) (va:Value) (args:List (Int × Int)) (ha:OpsAt w va args)
    (hM:∀W:World,Below w.heap.size w W→Calls Tryz.prog 190 #[.agg #[.int .i64 kk,.int .i64 a],va] W fun e w'=>e=.returned (.tuple #[.agg #[.int .i64 1,.int .i64 x],.bool true])∧Below W.heap.size W w') :
    Calls Tryz.prog 180 #[.pointer (some ⟨bo,0,none⟩),.agg #[.int .i64 kk,.int .i64 a],va] w fun e w'=>e=.returned (.tuple #[])∧(∃vc' vs' V',SM A B w' bo vp vc' vs' ms (pushH h (1,x)) V')∧Cm A B w w':=by
  obtain⟨aa,ca,hva⟩:=ha.shape
  subst hva
  have hA:Below w.heap.size w (w.alloc (.cells #[.int .i64 kk,.int .i64 a] 33)):=(Below.refl _ _).alloc (Nat.le_refl _) _
  have rx:=duo_new w 33 (.int .i64 kk) (.int .i64 a)
  have k1:=k.made hA (by simp)
  have cm1:=k.cm hA hB
  go_enter Tryz.func180,Tryz.ntmps180
  go_upto_region 1 with fail
  generalize w.alloc (.cells #[.int .i64 kk,.int .i64 a] 33)=W1 at *
  have z1:=hA.size
  obtain⟨⟨t0,t1⟩,_⟩:=duo_cells rx
  go_upto_region 4 with(first
    | (go_at_call 177;refine(now_drew k1 hn hj).mono ?_;rintro e w' ⟨rfl,hw⟩;obtain rfl:=hw)
    | (go_at_call 190;refine(hM _ hA.drew).mono ?_;rintro e w3 ⟨rfl,hb3⟩))
  have N4:=(Below.refl w3.heap.size w3).alloc (Nat.le_refl _) (.cells #[.int .i64 1,.int .i64 x] 98)
  have r4:=duo_new w3 98 (.int .i64 1) (.int .i64 x)
  have b14:Below W1.heap.size W1 (w3.alloc (.cells #[.int .i64 1,.int .i64 x] 98)):=((Below.refl W1.heap.size W1).drew.trans hb3).trans (N4.mono hb3.size)
  have k4:=k1.below b14
  have cmA:Cm A B w (w3.alloc (.cells #[.int .i64 1,.int .i64 x] 98)):=cm1.trans ((k1.cm b14 (by omega)).less (fun q hq=>.inl hq))
  have hB4:B≤(w3.alloc (.cells #[.int .i64 1,.int .i64 x] 98)).heap.size:=by have:=cmA.b.size;omega
  have HR:Hid (pushH h (1,x)={h with calls:=h.calls.set j {h.calls[j] with stack:=h.calls[j].stack ++ [(1,x)]}}):=pushH_eq hn hj _
  obtain⟨sa,sc,hVs,_⟩:=(k4.own.c.lists j hj).2.slice
  obtain⟨⟨e0,e1,e2,e3,e4,e5⟩,_⟩:=k4.own.c.cells hj
  rw[hVs] at e3
  have hgl4:=(k4.own.c.lt (g:=g) (.inl rfl)).2
  have HPT:=push_tail k4 hB4 hj hVs
  have hwl:=r4.lt
  clear k1 k cm1 N4 b14 hb3 hM t0 t1 rx
  generalize w3.alloc (.cells #[.int .i64 1,.int .i64 x] 98)=W4 at *
  generalize w3.heap.size=bv at *
  obtain⟨⟨t0,t1⟩,_⟩:=duo_cells r4
  obtain⟨hown,hend⟩:=HPT ((W4.alloc (.cells #[.int .i64 1,.int .i64 x] 98)).drew) (((Below.refl _ _).alloc (Nat.le_refl _) _).drew) (1,x)
  have HE:Hid _:=hend
  clear hend HPT
  go_region_law (refine step_vals _ (by rfl) _ _ (by rfl) B _ _ h.calls[j].stack [(1,x)] (by rfl) (by rfl) hown (one_at W4 1 x _ _) (by simp;omega) (by simp;omega) ?_;intro v' w' hrow hg hbk;obtain⟨a',c',hv',_⟩:=hrow.slice;rw[List.length_append] at hv';subst hv';obtain⟨⟨z4,f4⟩,hSM⟩:=HE.out _ w' hrow hg hbk)
  all_goals
    obtain⟨⟨V4,kV⟩,cV⟩:=hSM
    go_wp2
    refine bodyPost_ret (results_none rfl _ _ _) rfl ⟨rfl,⟨.slice (some ⟨g,off,none⟩) h.calls.length cap,vs,V4,?_⟩,cmA.trans (cV.less (fun q hq=>.inl hq))⟩
    rw[HR.out]
    exact kV.less (fun q hq=>.inl hq)
end Go.Proofs.YtjbgpcileapogaaGreat

/-
  HeapNew of the program: the first call of a program that is ok, in memory of its own; else nothing.
-/
import Derived.Test.YtjbgpcileapogaaGreatImplOk
import Derived.Test.YtjbgpcileapogaaGreatVApart
import Derived.Test.YtjbgpcileapogaaGreatRunPlain
import Derived.Deep.RegionHeld3
import Derived.Test.YtjbgpcileapogaaGreatSMem2
import Derived.Test.YtjbgpcileapogaaGreatStepS
import Derived.Deep.QuietTactic
import Derived.Deep.DeepCutAuto
import Derived.Test.YtjbgpcileapogaaGreatQB
import Derived.BigQuiet
import Derived.Deep.RegionWith
namespace Go.Proofs.YtjbgpcileapogaaGreat
open Go.RowKit
def temps0 (ms:List (Int × Int × List (Int × Int))):Nat:=(ms.getD 0 (0,0,[])).2.1.toNat
def newHp (ms:List (Int × Int × List (Int × Int))):Hp :=
  if progOk ms=true then⟨[⟨0,0,List.replicate (temps0 ms) (0,0),[],-1,false⟩],0,1,[],0⟩ else⟨[],0,0,[],0⟩
theorem first_ok {ms:List (Int × Int × List (Int × Int))} (h:progOk ms=true):∃hl:0<ms.length,0≤ms[0].2.1∧ms[0].2.1≤4∧(temps0 ms:Int)=ms[0].2.1∧temps0 ms≤4:=by
  unfold progOk at h
  simp only[Bool.and_eq_true] at h
  have hl:=inR_true.1 h.1.1
  have h0:0<ms.length:=by omega
  have ha:=List.all_eq_true.1 h.2 _ (List.getElem_mem h0)
  unfold methOk at ha
  simp only[Bool.and_eq_true] at ha
  have a1:=inR_true.1 ha.1.1.1
  have a2:=inR_true.1 ha.1.1.2
  have e:temps0 ms=(ms[0].2.1).toNat:=by simp[temps0,h0]
  exact⟨h0,by omega,by omega,by rw[e];omega,by rw[e];omega⟩
theorem OwnHeap.none (B:Nat) (w:World):OwnHeap B w (.slice none 0 0) (.slice none 0 0) ⟨[],0,0,[],0⟩ (fun _=>(.slice none 0 0,.slice none 0 0)) :=
  ⟨⟨.inl ⟨rfl,rfl⟩,fun i hi=>absurd hi (Nat.not_lt_zero _),fun q hq=>by simp at hq⟩,PairRow.nil _ _,fun g e=>by simp[Value.ownBlock] at e⟩
set_option maxRecDepth 100000 in
set_option maxHeartbeats 2000000 in
theorem specHeapNew_kept (vp:Value) (ms:List (Int × Int × List (Int × Int))) (w:World) (h:MethsAt w vp ms) :
    Calls Tryz.prog 109 #[.agg #[vp]] w fun e w'=>Below w.heap.size w w'∧∃vc vs,e=.returned (.tuple #[.agg (hpCells vc vs (newHp ms)),.bool (progOk ms)])∧∀w'':World,w'.heap.size≤w''.heap.size→(∀g,w.heap.size≤g→g<w'.heap.size→w''.heap[g]?=w'.heap[g]?)→HeapAt w'' vc vs (newHp ms):=by
  obtain⟨a,cap,rfl,hl,hc⟩:=id h
  have hA:Below w.heap.size w ((w.alloc (.cells #[.slice a ms.length cap] 25)).alloc (.cells #[.slice none 0 0,.int .i64 0,.int .i64 0,.slice none 0 0,.int .i64 0] 29)):=((Below.refl _ _).alloc (Nat.le_refl _) _).alloc (by simp) _
  have bp:((w.alloc (.cells #[.slice a ms.length cap] 25)).alloc (.cells #[.slice none 0 0,.int .i64 0,.int .i64 0,.slice none 0 0,.int .i64 0] 29)).cell? ⟨w.heap.size,0,none⟩=some (.slice a ms.length cap):=by simp[go_sem]
  have bh:=five_new (w.alloc (.cells #[.slice a ms.length cap] 25)) 29 (.slice none 0 0) (.int .i64 0) (.int .i64 0) (.slice none 0 0) (.int .i64 0)
  simp only[World.size_alloc] at bh
  go_enter Tryz.func109,Tryz.ntmps109
  go_wp2_with fail
  generalize (w.alloc (.cells #[.slice a ms.length cap] 25)).alloc (.cells #[.slice none 0 0,.int .i64 0,.int .i64 0,.slice none 0 0,.int .i64 0] 29)=W0 at *
  have z0:=hA.size
  refine(specProgOk_any _ ms _ (h.below hA)).mono ?_
  rintro e w1 ⟨rfl,hb1⟩
  have B1:Below w.heap.size w w1:=hA.trans (hb1.mono z0)
  have bp1:=cell_below hb1 bp
  have bh1:=row_below hb1 bh
  have z1:=B1.size
  have hbz:=bh1.lt
  clear hb1 bp bh hA z0
  obtain⟨⟨x0,x1,x2,x3,x4⟩,⟨f0,f1,f2,f3,f4⟩⟩:=five_cells bh1
  by_cases hpf:progOk ms=false
  · have hN:Hid (newHp ms=⟨[],0,0,[],0⟩):=by show newHp ms=_;simp[newHp,hpf]
    have R9:=five_set4 (five_set3 (five_set2 (five_set1 (five_set0 bh1 (.slice none 0 0)) (.int .i64 0)) (.int .i64 0)) (.slice none 0 0)) (.int .i64 0)
    have B9:=((((B1.setCell (p:=⟨w.heap.size+1,0,none⟩) (Nat.le_succ _) (.slice none 0 0)).setCell (p:=⟨w.heap.size+1,1,none⟩) (Nat.le_succ _) (.int .i64 0)).setCell (p:=⟨w.heap.size+1,2,none⟩) (Nat.le_succ _) (.int .i64 0)).setCell (p:=⟨w.heap.size+1,3,none⟩) (Nat.le_succ _) (.slice none 0 0)).setCell (p:=⟨w.heap.size+1,4,none⟩) (Nat.le_succ _) (.int .i64 0)
    go_wp2
    generalize ((((w1.setCell ⟨w.heap.size+1,0,none⟩ (.slice none 0 0)).setCell ⟨w.heap.size+1,1,none⟩ (.int .i64 0)).setCell ⟨w.heap.size+1,2,none⟩ (.int .i64 0)).setCell ⟨w.heap.size+1,3,none⟩ (.slice none 0 0)).setCell ⟨w.heap.size+1,4,none⟩ (.int .i64 0)=W9 at *
    obtain⟨⟨q0,q1,q2,q3,q4⟩,_⟩:=five_cells R9
    exact bodyPost_ret (v:=.tuple #[.agg #[.slice none 0 0,.int .i64 0,.int .i64 0,.slice none 0 0,.int .i64 0],.bool false]) (by simp[results,Tryz.results109,go_sem,q0,q1,q2,q3,q4]) rfl ⟨B9,.slice none 0 0,.slice none 0 0,by rw[hN.out,hpf];rfl,fun _ _ _=>by rw[hN.out];exact(OwnHeap.none 0 _).at⟩
  have hp:progOk ms=true:=by simpa using hpf
  clear hpf
  obtain⟨hl0,ht0,ht4,hte,htn⟩:=first_ok hp
  have hm1:=h.below B1
  have HN:Hid (newHp ms=⟨[⟨0,0,List.replicate (temps0 ms) (0,0),[],-1,false⟩],0,1,[],0⟩):=by show newHp ms=_;unfold newHp;rw[if_pos hp]
  have hm2:=hm1.below ((Below.refl _ _).alloc (Nat.le_refl _) (.cells #[] 98))
  have mk:=(PairRow.made (B:=0) (w:=w1) (e:=98) (Nat.zero_le _)).at
  have bh2:=row_below ((Below.refl _ _).alloc (Nat.le_refl _) (.cells #[] 98)) bh1
  have B2:=B1.alloc z1 (.cells #[] 98)
  have z2:=B2.size
  have hz12:w1.heap.size≤(w1.alloc (.cells #[] 98)).heap.size:=by simp
  clear x0 x1 x2 x3 x4 f0 f1 f2 f3 f4
  go_wp2_with fail
  generalize w1.alloc (.cells #[] 98)=w2 at *
  refine(l11Call_any _ _ ms 0 [] (-1) (temps0 ms) _ hm2 hl0 hte.symm (by omega) mk (by simp)).mono ?_
  rintro e w3 ⟨vt,vs,rfl,ht3,hs3,_,hb3⟩
  obtain⟨at',ct',hvt,_⟩:=ht3.slice
  obtain⟨as',cs',hvs,_⟩:=hs3.slice
  subst hvt hvs
  unfold clCells
  simp only[List.nil_append,List.length_nil,Nat.sub_zero,List.length_replicate] at ht3 hs3 ⊢
  generalize temps0 ms=t at *
  have B3:Below w.heap.size w w3:=B2.trans (hb3.mono z2)
  have bh3:=row_below hb3 bh2
  have z3:=B3.size
  have hz23:=hb3.size
  have N5:∀o1 o2,Below w3.heap.size w3 ((w3.alloc o1).alloc o2):=fun o1 o2=>((Below.refl _ _).alloc (Nat.le_refl _) _).alloc (by simp) _
  have R5:Hid (∀o1 o2,((w3.alloc o1).alloc o2).rowIs (w.heap.size+1) 29 5 (five (.slice none 0 0) (.int .i64 0) (.int .i64 0) (.slice none 0 0) (.int .i64 0))):=fun o1 o2=>row_below (N5 o1 o2) bh3
  have x0':=fun o1 o2=>(five_cells (R5.out o1 o2)).1.1
  have x1':=fun o1 o2=>(five_cells (R5.out o1 o2)).1.2.1
  have x2':=fun o1 o2=>(five_cells (R5.out o1 o2)).1.2.2.1
  have x3':=fun o1 o2=>(five_cells (R5.out o1 o2)).1.2.2.2.1
  have x4':=fun o1 o2=>(five_cells (R5.out o1 o2)).1.2.2.2.2
  have f0':=fun o1 o2=>(five_cells (R5.out o1 o2)).2.1
  have f1':=fun o1 o2=>(five_cells (R5.out o1 o2)).2.2.1
  have f2':=fun o1 o2=>(five_cells (R5.out o1 o2)).2.2.2.1
  have f3':=fun o1 o2=>(five_cells (R5.out o1 o2)).2.2.2.2.1
  have f4':=fun o1 o2=>(five_cells (R5.out o1 o2)).2.2.2.2.2
  clear hb3 bh2 B2 z2 mk hm1 hm2 hc bh1
  go_wp2_with fail
  have R3:=R5.out (.cells #[.int .i64 0,.int .i64 0,.slice at' t ct',.slice as' 0 cs',.int .i64 (-1),.bool false] 37) (.cells #[] 98)
  have N3:=N5 (.cells #[.int .i64 0,.int .i64 0,.slice at' t ct',.slice as' 0 cs',.int .i64 (-1),.bool false] 37) (.cells #[] 98)
  have S3:=(six_new w3 37 (.int .i64 0) (.int .i64 0) (.slice at' t ct') (.slice as' 0 cs') (.int .i64 (-1)) (.bool false)).alloc (.cells #[] 98)
  have M3:=PairRow.made (B:=w2.heap.size) (w:=w3.alloc (.cells #[.int .i64 0,.int .i64 0,.slice at' t ct',.slice as' 0 cs',.int .i64 (-1),.bool false] 37)) (e:=98) (by simp;omega)
  simp only[World.size_alloc] at M3
  have P3:=ht3.below N3
  have Q3:=hs3.below N3
  have B5:=B3.trans (N3.mono z3)
  clear x0' x1' x2' x3' x4' f0' f1' f2' f3' f4' R5 N5
  generalize (w3.alloc (.cells #[.int .i64 0,.int .i64 0,.slice at' t ct',.slice as' 0 cs',.int .i64 (-1),.bool false] 37)).alloc (.cells #[] 98)=W3 at *
  have hne:∀{v:Value} {xs:List (Int × Int)},PairRow w2.heap.size W3 v xs→v.ownBlock≠some (w.heap.size+1):=fun hv e=>by have:=(hv.lt _ e).1;omega
  have nt:=hne P3
  have ns:=hne Q3
  have nm:=hne M3
  have keep:∀{v:Value} {xs:List (Int × Int)},PairRow w2.heap.size W3 v xs→PairRow w2.heap.size (((((W3.setCell ⟨w.heap.size+1,0,none⟩ (.slice (some ⟨w3.heap.size,0,none⟩) 1 1)).setCell ⟨w.heap.size+1,1,none⟩ (.int .i64 0)).setCell ⟨w.heap.size+1,2,none⟩ (.int .i64 1)).setCell ⟨w.heap.size+1,3,none⟩ (.slice (some ⟨w3.heap.size+1,0,none⟩) 0 0)).setCell ⟨w.heap.size+1,4,none⟩ (.int .i64 0)) v xs:=fun hv =>
    ((((hv.set_other (p:=⟨w.heap.size+1,0,none⟩) _ (hne hv)).set_other (p:=⟨w.heap.size+1,1,none⟩) _ (hne hv)).set_other (p:=⟨w.heap.size+1,2,none⟩) _ (hne hv)).set_other (p:=⟨w.heap.size+1,3,none⟩) _ (hne hv)).set_other (p:=⟨w.heap.size+1,4,none⟩) _ (hne hv)
  have P9:=keep P3
  have Q9:=keep Q3
  have M9:=keep M3
  have R9:=five_set4 (five_set3 (five_set2 (five_set1 (five_set0 R3 (.slice (some ⟨w3.heap.size,0,none⟩) 1 1)) (.int .i64 0)) (.int .i64 1)) (.slice (some ⟨w3.heap.size+1,0,none⟩) 0 0)) (.int .i64 0)
  have B9:=((((B5.setCell (p:=⟨w.heap.size+1,0,none⟩) (Nat.le_succ _) (.slice (some ⟨w3.heap.size,0,none⟩) 1 1)).setCell (p:=⟨w.heap.size+1,1,none⟩) (Nat.le_succ _) (.int .i64 0)).setCell (p:=⟨w.heap.size+1,2,none⟩) (Nat.le_succ _) (.int .i64 1)).setCell (p:=⟨w.heap.size+1,3,none⟩) (Nat.le_succ _) (.slice (some ⟨w3.heap.size+1,0,none⟩) 0 0)).setCell (p:=⟨w.heap.size+1,4,none⟩) (Nat.le_succ _) (.int .i64 0)
  have hw3:=bh3.lt
  have S9:=row_set (k:=w.heap.size+1) (o:=4) (row_set (k:=w.heap.size+1) (o:=3) (row_set (k:=w.heap.size+1) (o:=2) (row_set (k:=w.heap.size+1) (o:=1) (row_set (k:=w.heap.size+1) (o:=0) S3 (by omega) (.slice (some ⟨w3.heap.size,0,none⟩) 1 1)) (by omega) (.int .i64 0)) (by omega) (.int .i64 1)) (by omega) (.slice (some ⟨w3.heap.size+1,0,none⟩) 0 0)) (by omega) (.int .i64 0)
  clear keep hne
  generalize ((((W3.setCell ⟨w.heap.size+1,0,none⟩ (.slice (some ⟨w3.heap.size,0,none⟩) 1 1)).setCell ⟨w.heap.size+1,1,none⟩ (.int .i64 0)).setCell ⟨w.heap.size+1,2,none⟩ (.int .i64 1)).setCell ⟨w.heap.size+1,3,none⟩ (.slice (some ⟨w3.heap.size+1,0,none⟩) 0 0)).setCell ⟨w.heap.size+1,4,none⟩ (.int .i64 0)=W9 at *
  obtain⟨⟨q0,q1,q2,q3,q4⟩,_⟩:=five_cells R9
  have O9:∀W:World,W9.heap.size≤W.heap.size→(∀g,w.heap.size≤g→g<W9.heap.size→W.heap[g]?=W9.heap[g]?)→HeapAt W (.slice (some ⟨w3.heap.size,0,none⟩) 1 1) (.slice (some ⟨w3.heap.size+1,0,none⟩) 0 0) ⟨[⟨0,0,List.replicate t (0,0),[],-1,false⟩],0,1,[],0⟩:=by
    intro W hz hk
    obtain⟨⟨c0,c1,c2,c3,c4,c5⟩,_⟩:=six_cells (S9.of_block (hk _ (by omega) S9.lt))
    have P':=P9.kept hz (fun g e=>hk g (by have:=(P9.lt g e).1;omega) (P9.lt g e).2)
    have Q':=Q9.kept hz (fun g e=>hk g (by have:=(Q9.lt g e).1;omega) (Q9.lt g e).2)
    have M':=M9.kept hz (fun g e=>hk g (by have:=(M9.lt g e).1;omega) (M9.lt g e).2)
    exact⟨⟨_,1,rfl,by unfold maxLen;simp,fun i hi=>by
      obtain rfl:i=0:=by simpa using hi
      exact⟨w3.heap.size,0,_,_,rfl,c0,c1,c2,c3,c4,c5,P'.at,Q'.at⟩⟩,M'.at⟩
  exact bodyPost_ret (v:=.tuple #[.agg #[.slice (some ⟨w3.heap.size,0,none⟩) 1 1,.int .i64 0,.int .i64 1,.slice (some ⟨w3.heap.size+1,0,none⟩) 0 0,.int .i64 0],.bool true]) (by simp[results,Tryz.results109,go_sem,q0,q1,q2,q3,q4]) rfl ⟨B9,_,_,by rw[HN.out,hp];rfl,by rw[HN.out];exact O9⟩
theorem SM.push {A:Nat→Prop} {B:Nat} {w W0 w2:World} {bo:Nat} {vp vs:Value} {g off n cap:Nat} {ms:List (Int × Int × List (Int × Int))} {h:Hp} {V:Nat→Value × Value} (k:SM A B w bo vp (.slice (some ⟨g,off,none⟩) n cap) vs ms h V) {j:Nat} (hj:j<h.calls.length) {v':Value} {st:List (Int × Int)} (hB:B≤w.heap.size)
    (hW:Below w.heap.size w W0) (hg:W0.grownBy w2 (V j).2.ownBlock) (hr:PairRow B w2 v' st) (hv:v'.ownBlock=(V j).2.ownBlock∨v'.ownBlock=some W0.heap.size) :
    (∃V',SM A B (w2.setCell ⟨g,off+j * 6+3,none⟩ v') bo vp (.slice (some ⟨g,off,none⟩) n cap) vs ms {h with calls:=h.calls.set j {h.calls[j] with stack:=st}} V')∧Cm A B w (w2.setCell ⟨g,off+j * 6+3,none⟩ v'):=by
  have hz0:=hW.size
  have hz2:=hg.size
  have hgB:=(k.own.c.lt (g:=g) (.inl rfl)).1
  have hs:=(k.own.c.lists j hj).2
  have hbl:∀q,q<w.heap.size→(V j).2.ownBlock≠some q→w2.heap[q]?=w.heap[q]?:=fun q hq hn=>(hg.block q (by omega) (fun e=>hn e.symm)).trans (hW.block q hq)
  have b2:Below B w w2:=⟨hg.os.trans hW.os,hg.tape.trans hW.tape,hg.output.trans hW.output,by omega,fun q hq=>hbl q (by omega) (fun e=>by have:=(hs.lt q e).1;omega)⟩
  have b3:=b2.setCell (p:=⟨g,off+j * 6+3,none⟩) hgB v'
  have r:=k.put hj (put_stack k.own.c hj v' st (by omega) hbl hr (fun q e=>by
    rcases hv with x | x
    · exact .inl (by rw[←x];exact e)
    · rw[x] at e;cases e;exact .inr hz0)) b3
  exact⟨⟨_,r.1⟩,r.2⟩
theorem pushH_eq {h:Hp} {j:Nat} (hn:h.now=j) (hj:j<h.calls.length) (x:Int × Int):pushH h x={h with calls:=h.calls.set j {h.calls[j] with stack:=h.calls[j].stack ++ [x]}}:=by
  have e:h.now.toNat=j:=by omega
  unfold pushH setH
  rw[cur_at hn hj,e]
theorem setH_eq {h:Hp} {j:Nat} (hn:h.now=j) (c:Cl):setH h c={h with calls:=h.calls.set j c}:=by
  have e:h.now.toNat=j:=by omega
  unfold setH
  rw[e]
def tabN (n:Nat) (ps:List Nat):List Int:=(List.range n).map fun(p:Nat)=>numOf ps p
def two (x0 x1:Value):Nat→Value:=fun i=>if i=0 then x0 else x1
structure Ord (A:Nat→Prop) (B bo n:Nat) (ps:List Nat) (vp vn:Value) (w:World):Prop where
  le:B≤bo
  box:w.rowIs bo 125 2 (two vp vn)
  p:IntRow B w vp (nums ps)
  n:IntRow B w vn (tabN n ps)
  pb:vp.ownBlock≠some bo
  nb:vn.ownBlock≠some bo
  pn:∀g,vp.ownBlock=some g→vn.ownBlock≠some g
  av:∀g,A g→g≠bo∧g<w.heap.size∧vp.ownBlock≠some g∧vn.ownBlock≠some g
structure Came (A:Nat→Prop) (B:Nat) (w w':World):Prop where
  b:Below B w w'
  a:∀g,A g→w'.heap[g]?=w.heap[g]?
theorem Came.refl (A:Nat→Prop) (B:Nat) (w:World):Came A B w w:=⟨Below.refl _ _,fun _ _=>rfl⟩
theorem Came.trans {A:Nat→Prop} {B:Nat} {a b c:World} (h:Came A B a b) (k:Came A B b c):Came A B a c :=
  ⟨h.b.trans k.b,fun g hg=>(k.a g hg).trans (h.a g hg)⟩
theorem Ord.alloc {A:Nat→Prop} {B bo n:Nat} {ps:List Nat} {vp vn:Value} {w:World} (h:Ord A B bo n ps vp vn w) (o:Obj):Ord A B bo n ps vp vn (w.alloc o) :=
  have hb:=(Below.refl w.heap.size w).alloc (Nat.le_refl _) o
  ⟨h.le,row_below hb h.box,h.p.below hb,h.n.below hb,h.pb,h.nb,h.pn,fun g hg=>⟨(h.av g hg).1,by have:=(h.av g hg).2.1;simp;omega,(h.av g hg).2.2⟩⟩
theorem Came.alloc {A:Nat→Prop} {B:Nat} {w w':World} (h:Came A B w w') (hb:B≤w'.heap.size) (hA:∀g,A g→g<w'.heap.size) (o:Obj):Came A B w (w'.alloc o) :=
  ⟨h.b.alloc hb o,fun g hg=>(Below.heap_alloc _ _ _ (hA g hg)).trans (h.a g hg)⟩
theorem ret_int {a b:Int} (h:a=b):Ending.returned (.int .i64 a)=Ending.returned (.int .i64 b):=by rw[h]
def idxI (xs:List Int) (v:Int):Int:=match xs.findIdx? (fun x=>x == v) with | some i=>(i:Int) | none=>-1
theorem idxI_found {xs:List Int} {v:Int} {k:Nat} (hk:k<xs.length) (he:xs[k]=v) (hno:∀j,(hj:j<xs.length)→j<k→xs[j]≠v):idxI xs v=(k:Int):=by
  have:xs.findIdx? (fun x=>x == v)=some k:=by
    rw[List.findIdx?_eq_some_iff_getElem]
    exact⟨hk,by simp[he],fun j hj=>by simp[hno j (by omega) hj]⟩
  unfold idxI
  rw[this]
theorem idxI_none {xs:List Int} {v:Int} (hno:∀j,(hj:j<xs.length)→xs[j]≠v):idxI xs v=-1:=by
  have:xs.findIdx? (fun x=>x == v)=none:=by
    rw[List.findIdx?_eq_none_iff]
    intro x hx
    obtain⟨j,hj,rfl⟩:=List.getElem_of_mem hx
    simp[hno j hj]
  unfold idxI
  rw[this]
theorem idxI_mem {xs:List Int} {v:Int}:decide (0≤idxI xs v)=decide (v∈xs):=by
  by_cases h:v∈xs
  · obtain⟨j,hj,e⟩:=List.getElem_of_mem h
    have hs:(xs.findIdx? (fun x=>x == v)).isSome=true:=by
      rw[List.findIdx?_isSome]
      exact List.any_eq_true.2 ⟨v,h,by simp⟩
    obtain⟨i,hi⟩:=Option.isSome_iff_exists.1 hs
    unfold idxI
    rw[hi]
    simp[h]
  · have:=idxI_none (xs:=xs) (v:=v) (fun j hj e=>h (e ▸ List.getElem_mem hj))
    rw[this]
    simp[h]
set_option maxRecDepth 100000 in
set_option maxHeartbeats 4000000 in
theorem slicesIndex_any (v:Value) (xs:List Int) (x:Int) (w:World) (h:IntsAt w v xs) :
    Calls Tryz.prog 117 #[v,.int .i64 x] w fun e w'=>e=.returned (.int .i64 (idxI xs x))∧w'=w:=by
  obtain⟨a,cap,rfl,hl,hc⟩:=h
  unfold maxLen at hl
  go_enter Tryz.func117,Tryz.ntmps117
  go_wp2
  go_loopg [5,8] xs.length (fun g _ i wr=>∃k:Nat,k≤xs.length∧g=xs.length - k∧i=.int .i64 k∧wr=w∧∀j,(hj:j<xs.length)→j<k→xs[j]≠x)
  case atStart=>exact⟨0,Nat.zero_le _,rfl,rfl,rfl,fun j _ h=>absurd h (Nat.not_lt_zero _)⟩
  case round =>
    obtain⟨k,hk,rfl,rfl,hw,hall⟩:=hrel
    obtain rfl:=hw.symm
    have H:Hid (∀j,(hj:j<xs.length)→j<k→xs[j]≠x):=hall
    clear hall hw
    by_cases hlt:k<xs.length
    · obtain⟨b,o,rfl,c0⟩:=hc k hlt
      have hkz:(k:Int)<(xs.length:Int):=by omega
      by_cases he:xs[k]=x
      · have HE:Hid (idxI xs x=(k:Int)):=idxI_found hlt he H.out
        rw[he] at c0
        go_wp2
        go_ret
        exact⟨ret_int HE.out.symm,rfl⟩
      · have hne:(x == xs[k])=false:=by simp;exact fun e=>he e.symm
        have HN:Hid (∀j,(hj:j<xs.length)→j<k+1→xs[j]≠x):=fun j hj hjk=>by
          by_cases e:j=k
          · subst e;exact he
          · exact H.out j hj (by omega)
        have hne2:¬(x=xs[k]):=fun e=>he e.symm
        clear H
        go_wp2
        go_roundg (xs.length - (k+1))
        case measure=>omega
        case rel=>exact⟨k+1,by omega,rfl,by go_num,rfl,HN.out⟩
    · obtain rfl:k=xs.length:=by omega
      have HE:Hid (idxI xs x=-1):=idxI_none fun j hj=>H.out j hj hj
      go_wp2
      go_ret
      exact⟨ret_int HE.out.symm,rfl⟩
theorem slicesContains_any (v:Value) (xs:List Int) (x:Int) (w:World) (h:IntsAt w v xs) :
    Calls Tryz.prog 129 #[v,.int .i64 x] w fun e w'=>e=.returned (.bool (decide (x∈xs)))∧w'=w:=by
  obtain⟨a,cap,hv⟩:=h.shape
  subst hv
  go_enter Tryz.func129,Tryz.ntmps129
  go_wp2_with (go_at_call 117;refine(slicesIndex_any _ xs _ _ h).mono ?_;rintro e w' ⟨rfl,hw⟩;obtain rfl:=hw.symm)
  go_ret
  exact⟨ret_bool idxI_mem,rfl⟩
def offTo (ts:List Tw) (k:Nat):Nat:=((ts.take k).filter fun t=>t.page == -1).length
theorem offTo_succ {ts:List Tw} {k:Nat} (h:k<ts.length):offTo ts (k+1)=offTo ts k+(if ts[k].page=-1 then 1 else 0):=by
  unfold offTo
  rw[List.take_add_one,List.getElem?_eq_getElem h,List.filter_append]
  simp only[Option.toList_some,List.length_append]
  by_cases e:ts[k].page=-1 <;> simp[e]
theorem offTo_le (ts:List Tw) (k:Nat):offTo ts k≤k:=by
  unfold offTo
  exact Nat.le_trans (List.length_filter_le _ _) (by simp;omega)
def callsN (m:Mc):Nat:=framesN m.pages+offTo m.twins m.twins.length
set_option maxRecDepth 100000 in
set_option maxHeartbeats 4000000 in
theorem callsOf_any (vp vo vt vs:Value) (m:Mc) (w:World) (h:MachAt w vp vo vt vs m) (hn:m.pages.length≤1048576) (hf:framesN m.pages≤1099511627776) (htn:m.twins.length≤1099511627776) :
    Calls Tryz.prog 74 #[.agg (mcCells vp vo vt vs m).toArray] w fun e w'=>e=.returned (.int .i64 (callsN m:Int))∧Below w.heap.size w w':=by
  obtain⟨ap,cp,hvp,hlp,hcp⟩:=id h.p
  obtain⟨ao,co,hvo,hlo,hco⟩:=id h.o
  obtain⟨at',ct,hvt,hlt',hct⟩:=id h.t
  obtain⟨as',cs,hvs⟩:=h.s.shape
  subst hvp hvo hvt hvs
  unfold mcCells
  go_enter Tryz.func74,Tryz.ntmps74
  go_upto_region 1 with fail
  refine wp_gen (fun W=>Below w.heap.size w W∧Bx W w.heap.size 42 [.int .i64 m.cells,.slice ap m.pages.length cp,.slice ao m.order.length co,.int .i64 m.now,.slice at' m.twins.length ct,.int .i64 m.born,.slice as' m.said.length cs,.int .i64 m.code]) ⟨(Below.refl _ _).alloc (Nat.le_refl _) _,Bx.new w _ _⟩ ?_
  rintro W ⟨hb,hm⟩
  obtain⟨⟨m0,m1,m2,m3,m4,m5,m6,m7⟩,_⟩:=bx8 hm
  have HF:=implMachFrames_any _ _ _ _ m W (h.below hb) hn hf
  unfold mcCells at HF
  have zb:=hb.size
  go_wp2_with fail
  refine HF.mono ?_
  rintro e W1 ⟨rfl,t1⟩
  have hb1:=hb.trans (t1.mono zb)
  have hm1:=hm.below t1
  have z1:=hb1.size
  have HC:Hid (callsN m=framesN m.pages+offTo m.twins m.twins.length):=rfl
  clear HF t1 hm hb zb m0 m1 m2 m3 m4 m5 m6 m7
  obtain⟨⟨_,_,_,_,m4,_,_,_⟩,_⟩:=bx8 hm1
  go_wp2_with fail
  go_loopg [3,5,11] m.twins.length (fun g n _ i wr=>∃k:Nat,k≤m.twins.length∧g=m.twins.length - k∧i=.int .i64 k∧n=.int .i64 ((framesN m.pages+offTo m.twins k:Nat):Int)∧Below w.heap.size w wr)
  case atStart=>exact⟨0,Nat.zero_le _,rfl,rfl,by simp[offTo],hb1⟩
  case round =>
    clear m4 hm1 hb1 z1
    obtain⟨k,hk,rfl,rfl,rfl,hb⟩:=hrel
    by_cases hlt:k<m.twins.length
    · obtain⟨b,o,vt,vs,rfl,htw⟩:=hct k hlt
      obtain⟨d0,d1,d2,d3,d4,d5,d6,d7,dt,ds⟩:=htw.below hb
      obtain⟨a1,k1,e1⟩:=dt.shape
      obtain⟨a2,k2,e2⟩:=ds.shape
      rw[e1] at d4
      rw[e2] at d5
      have hkz:(k:Int)<(m.twins.length:Int):=by omega
      have hof:=offTo_succ hlt
      have hol:=offTo_le m.twins k
      have zb:=hb.size
      have HB2:Hid (∀o,Below w.heap.size w (wr.alloc o)):=fun o=>hb.alloc zb _
      clear e1 e2 dt ds htw hct
      obtain⟨n,hn'⟩:∃n,framesN m.pages+offTo m.twins k=n:=⟨_,rfl⟩
      have hnb:n≤2199023255552:=by omega
      by_cases hp:m.twins[k].page=-1
      · rw[if_pos hp] at hof
        have HN:Hid (framesN m.pages+offTo m.twins (k+1)=n+1):=by show _=_;omega
        rw[hp] at d0
        rw[hn']
        clear hof hn' hol hb
        go_wp2
        go_roundg (m.twins.length - (k+1))
        case measure=>omega
        case rel=>exact⟨k+1,by omega,rfl,by go_num,by rw[HN.out];simp,HB2.out _⟩
      · rw[if_neg hp] at hof
        have HN:Hid (framesN m.pages+offTo m.twins (k+1)=n):=by show _=_;omega
        have hpe:(m.twins[k].page == -1)=false:=by simpa using hp
        rw[hn']
        clear hof hn' hol hb
        go_wp2
        go_roundg (m.twins.length - (k+1))
        case measure=>omega
        case rel=>exact⟨k+1,by omega,rfl,by go_num,by rw[HN.out],HB2.out _⟩
    · obtain rfl:k=m.twins.length:=by omega
      go_wp2
      go_ret
      exact⟨ret_int (by rw[HC.out]),hb⟩
def orderB (m:Mc):Bool:=decide (m.order.length=m.pages.length) && (List.range m.pages.length).all fun i=>decide ((i:Int)∈m.order)
theorem orderB_no {m:Mc} {k:Nat} (hk:k<m.pages.length) (h:¬((k:Int)∈m.order)):orderB m=false:=by
  unfold orderB
  rw[Bool.and_eq_false_iff]
  right
  rw[List.all_eq_false]
  exact⟨k,List.mem_range.2 hk,by simpa using h⟩
theorem orderB_yes {m:Mc} (hl:m.order.length=m.pages.length) (h:∀k,k<m.pages.length→(k:Int)∈m.order):orderB m=true:=by
  unfold orderB
  rw[Bool.and_eq_true_iff]
  exact⟨by simpa using hl,List.all_eq_true.2 fun k hk=>by simpa using h k (List.mem_range.1 hk)⟩
set_option maxRecDepth 100000 in
set_option maxHeartbeats 4000000 in
theorem orderOk_any (vp vo vt vs:Value) (m:Mc) (w:World) (h:MachAt w vp vo vt vs m) :
    Calls Tryz.prog 71 #[.agg (mcCells vp vo vt vs m).toArray] w fun e w'=>e=.returned (.bool (orderB m))∧Below w.heap.size w w':=by
  obtain⟨ap,cp,hvp,hlp,hcp⟩:=id h.p
  obtain⟨ao,co,hvo,hlo,hco⟩:=id h.o
  obtain⟨at',ct,hvt,hlt',hct⟩:=id h.t
  obtain⟨as',cs,hvs⟩:=h.s.shape
  subst hvp hvo hvt hvs
  unfold mcCells
  unfold maxLen at hlp hlo
  have HO:=h.o
  go_enter Tryz.func71,Tryz.ntmps71
  go_upto_region 1 with fail
  refine wp_gen (fun W=>Below w.heap.size w W∧Bx W w.heap.size 42 [.int .i64 m.cells,.slice ap m.pages.length cp,.slice ao m.order.length co,.int .i64 m.now,.slice at' m.twins.length ct,.int .i64 m.born,.slice as' m.said.length cs,.int .i64 m.code]) ⟨(Below.refl _ _).alloc (Nat.le_refl _) _,Bx.new w _ _⟩ ?_
  rintro W ⟨hb,hm⟩
  obtain⟨⟨m0,m1,m2,m3,m4,m5,m6,m7⟩,_⟩:=bx8 hm
  have HOW:Hid (IntsAt W (.slice ao m.order.length co) m.order):=HO.below hb
  by_cases hle:m.order.length=m.pages.length
  case neg =>
    have HE:Hid (orderB m=false):=by show _=_;unfold orderB;simp[hle]
    have hlz:¬((m.order.length:Int)=(m.pages.length:Int)):=by omega
    go_wp2
    go_ret
    exact⟨ret_bool HE.out.symm,hb⟩
  have HLE:Hid (m.order.length=m.pages.length):=hle
  rw[hle] at m2 HOW
  clear hle
  go_wp2_with fail
  go_loopg [3,14] m.pages.length (fun g _ i wr=>∃k:Nat,k≤m.pages.length∧g=m.pages.length - k∧i=.int .i64 k∧wr=W∧∀j,j<k→(j:Int)∈m.order)
  case atStart=>exact⟨0,Nat.zero_le _,rfl,rfl,rfl,fun j h=>absurd h (Nat.not_lt_zero _)⟩
  case round =>
    obtain⟨k,hk,rfl,rfl,hw,hall⟩:=hrel
    obtain rfl:=hw.symm
    have H:Hid (∀j,j<k→(j:Int)∈m.order):=hall
    clear hall hw
    by_cases hlt:k<m.pages.length
    · have hkz:(k:Int)<(m.pages.length:Int):=by omega
      obtain⟨f,hf⟩:∃f,decide ((k:Int)∈m.order)=f:=⟨_,rfl⟩
      have HC:=slicesContains_any _ m.order (k:Int) W HOW.out
      rw[hf] at HC
      go_wp2_with fail
      refine HC.mono ?_
      rintro e W1 ⟨rfl,hw⟩
      obtain rfl:=hw.symm
      clear hw HC
      cases f
      · have HE:Hid (orderB m=false):=orderB_no hlt (by simpa using hf)
        go_wp2
        go_ret
        exact⟨ret_bool HE.out.symm,hb⟩
      · have HN:Hid (∀j,j<k+1→(j:Int)∈m.order):=fun j hj=>by
          by_cases e:j=k
          · subst e;simpa using hf
          · exact H.out j (by omega)
        clear hf H
        go_wp2
        go_roundg (m.pages.length - (k+1))
        case measure=>omega
        case rel=>exact⟨k+1,by omega,rfl,by go_num,rfl,HN.out⟩
    · obtain rfl:k=m.pages.length:=by omega
      have HE:Hid (orderB m=true):=orderB_yes HLE.out H.out
      go_wp2
      go_ret
      exact⟨ret_bool HE.out.symm,hb⟩
theorem cellsOf_any (a:Option Addr) (n c:Nat) (w:World) (hn:n≤1099511627776):Calls Tryz.prog 132 #[.slice a n c] w fun e w'=>e=.returned (.int .i64 ((10+n:Nat):Int))∧w'=w:=by
  go_enter Tryz.func132,Tryz.ntmps132
  go_wp2
  go_ret
  exact⟨ret_int (by omega),rfl⟩
theorem few_ints:∀(l A:List Int),l.Nodup→(∀k∈l,k∈A)→l.length≤A.length
  | [],_,_,_=>Nat.zero_le _
  | x :: l,A,hn,hA=>by
    have hx:x∈A:=hA x (List.mem_cons_self ..)
    obtain⟨hx1,hn1⟩:=List.nodup_cons.1 hn
    have:=few_ints l (A.erase x) hn1 fun k hk=>(List.mem_erase_of_ne (show k≠x from fun e=>hx1 (by rw[←e];exact hk))).2 (hA k (List.mem_cons_of_mem _ hk))
    rw[List.length_erase_of_mem hx] at this
    have h0:0<A.length:=List.length_pos_of_mem hx
    simp only[List.length_cons]
    omega
theorem order_in {m:Mc} (h:orderB m=true) {x:Int} (hx:x∈m.order):0≤x∧x<(m.pages.length:Int):=by
  unfold orderB at h
  rw[Bool.and_eq_true_iff] at h
  have hl:m.order.length=m.pages.length:=by simpa using h.1
  have ha:=List.all_eq_true.1 h.2
  by_cases hr:0≤x∧x<(m.pages.length:Int)
  · exact hr
  · exfalso
    have hnd:((List.range m.pages.length).map fun i:Nat=>(i:Int)).Nodup:=by
      refine List.Pairwise.map _ (fun a b hab e=>hab (by omega)) List.nodup_range
    have hmem:∀k∈(List.range m.pages.length).map fun i:Nat=>(i:Int),k∈m.order:=fun k hk=>by
      obtain⟨i,hi,rfl⟩:=List.mem_map.1 hk
      simpa using ha i hi
    have hnx:x∉(List.range m.pages.length).map fun i:Nat=>(i:Int):=fun hk=>by
      obtain⟨i,hi,rfl⟩:=List.mem_map.1 hk
      exact hr ⟨by omega,by have:=List.mem_range.1 hi;omega⟩
    have:=few_ints (x :: (List.range m.pages.length).map fun i:Nat=>(i:Int)) m.order (List.nodup_cons.2 ⟨hnx,hnd⟩) (fun k hk=>by
      rcases List.mem_cons.1 hk with rfl | hk
      · exact hx
      · exact hmem k hk)
    simp at this
    omega
theorem bel_drewN {B:Nat} {w0 w:World} (h:Below B w0 w) (n:Nat):Below B w0 (w.drewN n):=⟨h.os,h.tape,h.output,h.size,h.block⟩
def Pg.none:Pg:=⟨-1,[]⟩
def pgAt (m:Mc) (i:Int):Pg:=m.pages.getD i.toNat Pg.none
theorem pgAt_at {m:Mc} {k:Nat} (h:k<m.pages.length):pgAt m (k:Int)=m.pages[k]:=by simp[pgAt,h]
def nowB (m:Mc):Bool:=m.now == -1 || (m.now == m.order.getD (m.order.length - 1) 0 && decide (0<(pgAt m m.now).frames.length))
set_option maxRecDepth 100000 in
set_option maxHeartbeats 4000000 in
theorem nowOk_any (vp vo vt vs:Value) (m:Mc) (w:World) (h:MachAt w vp vo vt vs m) (ho:orderB m=true) (hp1:1≤m.pages.length) :
    Calls Tryz.prog 72 #[.agg (mcCells vp vo vt vs m).toArray] w fun e w'=>e=.returned (.bool (nowB m))∧Below w.heap.size w w':=by
  have HLEQ:Hid (m.order.length=m.pages.length):=by show _=_;unfold orderB at ho;rw[Bool.and_eq_true_iff] at ho;simpa using ho.1
  have HIN:Hid (∀x∈m.order,0≤x∧x<(m.pages.length:Int)):=fun x hx=>order_in ho hx
  clear ho
  obtain⟨ap,cp,hvp,hlp,hcp⟩:=id h.p
  obtain⟨ao,co,hvo,hlo,hco⟩:=id h.o
  obtain⟨at',ct,hvt,hlt',hct⟩:=id h.t
  obtain⟨as',cs,hvs⟩:=h.s.shape
  subst hvp hvo hvt hvs
  unfold mcCells
  unfold maxLen at hlp hlo
  go_enter Tryz.func72,Tryz.ntmps72
  go_upto_region 1 with fail
  refine wp_gen (fun W=>Below w.heap.size w W∧Bx W w.heap.size 42 [.int .i64 m.cells,.slice ap m.pages.length cp,.slice ao m.order.length co,.int .i64 m.now,.slice at' m.twins.length ct,.int .i64 m.born,.slice as' m.said.length cs,.int .i64 m.code]) ⟨(Below.refl _ _).alloc (Nat.le_refl _) _,Bx.new w _ _⟩ ?_
  rintro W ⟨hb,hm⟩
  obtain⟨⟨m0,m1,m2,m3,m4,m5,m6,m7⟩,_⟩:=bx8 hm
  by_cases hnow:m.now=-1
  · have HE:Hid (nowB m=true):=by show _=_;unfold nowB;rw[hnow];rfl
    rw[hnow] at m3
    go_wp2
    go_ret
    exact⟨ret_bool HE.out.symm,hb⟩
  have hne:(m.now == -1)=false:=by simpa using hnow
  obtain⟨q,hq⟩:∃q,m.order.length=q+1:=⟨m.order.length - 1,by have:=HLEQ.out;omega⟩
  have hql:q<m.order.length:=by omega
  obtain⟨b,o,hao,c0⟩:=hco q hql
  subst hao
  have d0:=cell_below hb c0
  have HL:Hid (m.order.getD (m.order.length - 1) 0=m.order[q]):=by show _=_;rw[hq];simp[hql]
  have hrng:=HIN.out _ (List.getElem_mem hql)
  obtain⟨last,hla⟩:∃l,m.order[q]=l:=⟨_,rfl⟩
  rw[hla] at HL d0 hrng
  have hq1:((m.order.length:Int)) - 1=(q:Int):=by omega
  have hqz:(q:Int)<(m.order.length:Int):=by omega
  have hwq:IntKind.i64.wrap ((m.order.length:Int) - 1)=(q:Int):=by rw[IntKind.wrap_i64];omega
  have hbl:b<w.heap.size:=World.block_lt_of_cell? _ _ c0
  clear hla c0 hco hq hq1
  obtain⟨k,hk⟩:=Int.eq_ofNat_of_zero_le hrng.1
  subst hk
  have hkl:k<m.pages.length:=by omega
  obtain⟨b2,o2,vf,hap,hpg⟩:=hcp k hkl
  subst hap
  obtain⟨af,cf,hvf⟩:=hpg.f.shape
  have e1:=cell_below hb hpg.c1
  rw[hvf] at e1
  obtain⟨nf,hnf⟩:∃nf,m.pages[k].frames.length=nf:=⟨_,rfl⟩
  have HPG:Hid ((pgAt m (k:Int)).frames.length=nf):=by show _=_;rw[pgAt_at hkl,hnf]
  rw[hnf] at e1
  clear hnf hpg hcp hvf
  have hkz:(k:Int)<(m.pages.length:Int):=by omega
  by_cases hnl:m.now=(k:Int)
  · have HE:Hid (nowB m=decide (0<nf)):=by show _=_;unfold nowB;rw[hne,HL.out,hnl,HPG.out];simp
    rw[hnl] at m3 hne
    go_wp2_with fail
    go_quiet (fail)
    go_wp2
    go_ret
    exact⟨ret_bool HE.out.symm,bel_drewN hb _⟩
  · have HE:Hid (nowB m=false):=by show _=_;unfold nowB;rw[hne,HL.out];simp[hnl]
    have hnl2:(m.now == (k:Int))=false:=by simpa using hnl
    go_wp2_with fail
    go_quiet (fail)
    go_wp2
    go_ret
    exact⟨ret_bool HE.out.symm,bel_drewN hb _⟩
end Go.Proofs.YtjbgpcileapogaaGreat

/-
  HeapNew of the program: the first call of a program that is ok, in memory of its own; else nothing.
-/
import Derived.Test.YtjbgpcileapogaaGreatImplOk
import Derived.Test.YtjbgpcileapogaaGreatVApart
import Derived.Test.YtjbgpcileapogaaGreatRunPlain
import Derived.Deep.RegionHeld3
import Derived.Test.YtjbgpcileapogaaGreatTakes2
import Derived.Test.YtjbgpcileapogaaGreatSMem2
import Derived.Deep.QuietTactic
namespace Go.Proofs.YtjbgpcileapogaaGreat
open Go.RowKit
def temps0 (ms:List (Int × Int × List (Int × Int))):Nat:=(ms.getD 0 (0,0,[])).2.1.toNat
def newHp (ms:List (Int × Int × List (Int × Int))):Hp :=
  if progOk ms=true then⟨[⟨0,0,List.replicate (temps0 ms) (0,0),[],-1,false⟩],0,1,[],0⟩ else⟨[],0,0,[],0⟩
theorem first_ok {ms:List (Int × Int × List (Int × Int))} (h:progOk ms=true):∃hl:0<ms.length,0≤ms[0].2.1∧ms[0].2.1≤4∧(temps0 ms:Int)=ms[0].2.1∧temps0 ms≤4:=by
  unfold progOk at h
  simp only[Bool.and_eq_true] at h
  have hl:=inR_true.1 h.1.1
  have h0:0<ms.length:=by omega
  have ha:=List.all_eq_true.1 h.2 _ (List.getElem_mem h0)
  unfold methOk at ha
  simp only[Bool.and_eq_true] at ha
  have a1:=inR_true.1 ha.1.1.1
  have a2:=inR_true.1 ha.1.1.2
  have e:temps0 ms=(ms[0].2.1).toNat:=by simp[temps0,h0]
  exact⟨h0,by omega,by omega,by rw[e];omega,by rw[e];omega⟩
theorem OwnHeap.none (B:Nat) (w:World):OwnHeap B w (.slice none 0 0) (.slice none 0 0) ⟨[],0,0,[],0⟩ (fun _=>(.slice none 0 0,.slice none 0 0)) :=
  ⟨⟨.inl ⟨rfl,rfl⟩,fun i hi=>absurd hi (Nat.not_lt_zero _),fun q hq=>by simp at hq⟩,PairRow.nil _ _,fun g e=>by simp[Value.ownBlock] at e⟩
set_option maxRecDepth 100000 in
set_option maxHeartbeats 2000000 in
theorem specHeapNew_kept (vp:Value) (ms:List (Int × Int × List (Int × Int))) (w:World) (h:MethsAt w vp ms) :
    Calls Tryz.prog 109 #[.agg #[vp]] w fun e w'=>Below w.heap.size w w'∧∃vc vs,e=.returned (.tuple #[.agg (hpCells vc vs (newHp ms)),.bool (progOk ms)])∧∀w'':World,w'.heap.size≤w''.heap.size→(∀g,w.heap.size≤g→g<w'.heap.size→w''.heap[g]?=w'.heap[g]?)→HeapAt w'' vc vs (newHp ms):=by
  obtain⟨a,cap,rfl,hl,hc⟩:=id h
  have hA:Below w.heap.size w ((w.alloc (.cells #[.slice a ms.length cap] 25)).alloc (.cells #[.slice none 0 0,.int .i64 0,.int .i64 0,.slice none 0 0,.int .i64 0] 29)):=((Below.refl _ _).alloc (Nat.le_refl _) _).alloc (by simp) _
  have bp:((w.alloc (.cells #[.slice a ms.length cap] 25)).alloc (.cells #[.slice none 0 0,.int .i64 0,.int .i64 0,.slice none 0 0,.int .i64 0] 29)).cell? ⟨w.heap.size,0,none⟩=some (.slice a ms.length cap):=by simp[go_sem]
  have bh:=five_new (w.alloc (.cells #[.slice a ms.length cap] 25)) 29 (.slice none 0 0) (.int .i64 0) (.int .i64 0) (.slice none 0 0) (.int .i64 0)
  simp only[World.size_alloc] at bh
  go_enter Tryz.func109,Tryz.ntmps109
  go_wp2_with fail
  generalize (w.alloc (.cells #[.slice a ms.length cap] 25)).alloc (.cells #[.slice none 0 0,.int .i64 0,.int .i64 0,.slice none 0 0,.int .i64 0] 29)=W0 at *
  have z0:=hA.size
  refine(specProgOk_any _ ms _ (h.below hA)).mono ?_
  rintro e w1 ⟨rfl,hb1⟩
  have B1:Below w.heap.size w w1:=hA.trans (hb1.mono z0)
  have bp1:=cell_below hb1 bp
  have bh1:=row_below hb1 bh
  have z1:=B1.size
  have hbz:=bh1.lt
  clear hb1 bp bh hA z0
  obtain⟨⟨x0,x1,x2,x3,x4⟩,⟨f0,f1,f2,f3,f4⟩⟩:=five_cells bh1
  by_cases hpf:progOk ms=false
  · have hN:Hid (newHp ms=⟨[],0,0,[],0⟩):=by show newHp ms=_;simp[newHp,hpf]
    have R9:=five_set4 (five_set3 (five_set2 (five_set1 (five_set0 bh1 (.slice none 0 0)) (.int .i64 0)) (.int .i64 0)) (.slice none 0 0)) (.int .i64 0)
    have B9:=((((B1.setCell (p:=⟨w.heap.size+1,0,none⟩) (Nat.le_succ _) (.slice none 0 0)).setCell (p:=⟨w.heap.size+1,1,none⟩) (Nat.le_succ _) (.int .i64 0)).setCell (p:=⟨w.heap.size+1,2,none⟩) (Nat.le_succ _) (.int .i64 0)).setCell (p:=⟨w.heap.size+1,3,none⟩) (Nat.le_succ _) (.slice none 0 0)).setCell (p:=⟨w.heap.size+1,4,none⟩) (Nat.le_succ _) (.int .i64 0)
    go_wp2
    generalize ((((w1.setCell ⟨w.heap.size+1,0,none⟩ (.slice none 0 0)).setCell ⟨w.heap.size+1,1,none⟩ (.int .i64 0)).setCell ⟨w.heap.size+1,2,none⟩ (.int .i64 0)).setCell ⟨w.heap.size+1,3,none⟩ (.slice none 0 0)).setCell ⟨w.heap.size+1,4,none⟩ (.int .i64 0)=W9 at *
    obtain⟨⟨q0,q1,q2,q3,q4⟩,_⟩:=five_cells R9
    exact bodyPost_ret (v:=.tuple #[.agg #[.slice none 0 0,.int .i64 0,.int .i64 0,.slice none 0 0,.int .i64 0],.bool false]) (by simp[results,Tryz.results109,go_sem,q0,q1,q2,q3,q4]) rfl ⟨B9,.slice none 0 0,.slice none 0 0,by rw[hN.out,hpf];rfl,fun _ _ _=>by rw[hN.out];exact(OwnHeap.none 0 _).at⟩
  have hp:progOk ms=true:=by simpa using hpf
  clear hpf
  obtain⟨hl0,ht0,ht4,hte,htn⟩:=first_ok hp
  have hm1:=h.below B1
  have HN:Hid (newHp ms=⟨[⟨0,0,List.replicate (temps0 ms) (0,0),[],-1,false⟩],0,1,[],0⟩):=by show newHp ms=_;unfold newHp;rw[if_pos hp]
  have hm2:=hm1.below ((Below.refl _ _).alloc (Nat.le_refl _) (.cells #[] 98))
  have mk:=(PairRow.made (B:=0) (w:=w1) (e:=98) (Nat.zero_le _)).at
  have bh2:=row_below ((Below.refl _ _).alloc (Nat.le_refl _) (.cells #[] 98)) bh1
  have B2:=B1.alloc z1 (.cells #[] 98)
  have z2:=B2.size
  have hz12:w1.heap.size≤(w1.alloc (.cells #[] 98)).heap.size:=by simp
  clear x0 x1 x2 x3 x4 f0 f1 f2 f3 f4
  go_wp2_with fail
  generalize w1.alloc (.cells #[] 98)=w2 at *
  refine(l11Call_any _ _ ms 0 [] (-1) (temps0 ms) _ hm2 hl0 hte.symm (by omega) mk (by simp)).mono ?_
  rintro e w3 ⟨vt,vs,rfl,ht3,hs3,_,hb3⟩
  obtain⟨at',ct',hvt,_⟩:=ht3.slice
  obtain⟨as',cs',hvs,_⟩:=hs3.slice
  subst hvt hvs
  unfold clCells
  simp only[List.nil_append,List.length_nil,Nat.sub_zero,List.length_replicate] at ht3 hs3 ⊢
  generalize temps0 ms=t at *
  have B3:Below w.heap.size w w3:=B2.trans (hb3.mono z2)
  have bh3:=row_below hb3 bh2
  have z3:=B3.size
  have hz23:=hb3.size
  have N5:∀o1 o2,Below w3.heap.size w3 ((w3.alloc o1).alloc o2):=fun o1 o2=>((Below.refl _ _).alloc (Nat.le_refl _) _).alloc (by simp) _
  have R5:Hid (∀o1 o2,((w3.alloc o1).alloc o2).rowIs (w.heap.size+1) 29 5 (five (.slice none 0 0) (.int .i64 0) (.int .i64 0) (.slice none 0 0) (.int .i64 0))):=fun o1 o2=>row_below (N5 o1 o2) bh3
  have x0':=fun o1 o2=>(five_cells (R5.out o1 o2)).1.1
  have x1':=fun o1 o2=>(five_cells (R5.out o1 o2)).1.2.1
  have x2':=fun o1 o2=>(five_cells (R5.out o1 o2)).1.2.2.1
  have x3':=fun o1 o2=>(five_cells (R5.out o1 o2)).1.2.2.2.1
  have x4':=fun o1 o2=>(five_cells (R5.out o1 o2)).1.2.2.2.2
  have f0':=fun o1 o2=>(five_cells (R5.out o1 o2)).2.1
  have f1':=fun o1 o2=>(five_cells (R5.out o1 o2)).2.2.1
  have f2':=fun o1 o2=>(five_cells (R5.out o1 o2)).2.2.2.1
  have f3':=fun o1 o2=>(five_cells (R5.out o1 o2)).2.2.2.2.1
  have f4':=fun o1 o2=>(five_cells (R5.out o1 o2)).2.2.2.2.2
  clear hb3 bh2 B2 z2 mk hm1 hm2 hc bh1
  go_wp2_with fail
  have R3:=R5.out (.cells #[.int .i64 0,.int .i64 0,.slice at' t ct',.slice as' 0 cs',.int .i64 (-1),.bool false] 37) (.cells #[] 98)
  have N3:=N5 (.cells #[.int .i64 0,.int .i64 0,.slice at' t ct',.slice as' 0 cs',.int .i64 (-1),.bool false] 37) (.cells #[] 98)
  have S3:=(six_new w3 37 (.int .i64 0) (.int .i64 0) (.slice at' t ct') (.slice as' 0 cs') (.int .i64 (-1)) (.bool false)).alloc (.cells #[] 98)
  have M3:=PairRow.made (B:=w2.heap.size) (w:=w3.alloc (.cells #[.int .i64 0,.int .i64 0,.slice at' t ct',.slice as' 0 cs',.int .i64 (-1),.bool false] 37)) (e:=98) (by simp;omega)
  simp only[World.size_alloc] at M3
  have P3:=ht3.below N3
  have Q3:=hs3.below N3
  have B5:=B3.trans (N3.mono z3)
  clear x0' x1' x2' x3' x4' f0' f1' f2' f3' f4' R5 N5
  generalize (w3.alloc (.cells #[.int .i64 0,.int .i64 0,.slice at' t ct',.slice as' 0 cs',.int .i64 (-1),.bool false] 37)).alloc (.cells #[] 98)=W3 at *
  have hne:∀{v:Value} {xs:List (Int × Int)},PairRow w2.heap.size W3 v xs→v.ownBlock≠some (w.heap.size+1):=fun hv e=>by have:=(hv.lt _ e).1;omega
  have nt:=hne P3
  have ns:=hne Q3
  have nm:=hne M3
  have keep:∀{v:Value} {xs:List (Int × Int)},PairRow w2.heap.size W3 v xs→PairRow w2.heap.size (((((W3.setCell ⟨w.heap.size+1,0,none⟩ (.slice (some ⟨w3.heap.size,0,none⟩) 1 1)).setCell ⟨w.heap.size+1,1,none⟩ (.int .i64 0)).setCell ⟨w.heap.size+1,2,none⟩ (.int .i64 1)).setCell ⟨w.heap.size+1,3,none⟩ (.slice (some ⟨w3.heap.size+1,0,none⟩) 0 0)).setCell ⟨w.heap.size+1,4,none⟩ (.int .i64 0)) v xs:=fun hv =>
    ((((hv.set_other (p:=⟨w.heap.size+1,0,none⟩) _ (hne hv)).set_other (p:=⟨w.heap.size+1,1,none⟩) _ (hne hv)).set_other (p:=⟨w.heap.size+1,2,none⟩) _ (hne hv)).set_other (p:=⟨w.heap.size+1,3,none⟩) _ (hne hv)).set_other (p:=⟨w.heap.size+1,4,none⟩) _ (hne hv)
  have P9:=keep P3
  have Q9:=keep Q3
  have M9:=keep M3
  have R9:=five_set4 (five_set3 (five_set2 (five_set1 (five_set0 R3 (.slice (some ⟨w3.heap.size,0,none⟩) 1 1)) (.int .i64 0)) (.int .i64 1)) (.slice (some ⟨w3.heap.size+1,0,none⟩) 0 0)) (.int .i64 0)
  have B9:=((((B5.setCell (p:=⟨w.heap.size+1,0,none⟩) (Nat.le_succ _) (.slice (some ⟨w3.heap.size,0,none⟩) 1 1)).setCell (p:=⟨w.heap.size+1,1,none⟩) (Nat.le_succ _) (.int .i64 0)).setCell (p:=⟨w.heap.size+1,2,none⟩) (Nat.le_succ _) (.int .i64 1)).setCell (p:=⟨w.heap.size+1,3,none⟩) (Nat.le_succ _) (.slice (some ⟨w3.heap.size+1,0,none⟩) 0 0)).setCell (p:=⟨w.heap.size+1,4,none⟩) (Nat.le_succ _) (.int .i64 0)
  have hw3:=bh3.lt
  have S9:=row_set (k:=w.heap.size+1) (o:=4) (row_set (k:=w.heap.size+1) (o:=3) (row_set (k:=w.heap.size+1) (o:=2) (row_set (k:=w.heap.size+1) (o:=1) (row_set (k:=w.heap.size+1) (o:=0) S3 (by omega) (.slice (some ⟨w3.heap.size,0,none⟩) 1 1)) (by omega) (.int .i64 0)) (by omega) (.int .i64 1)) (by omega) (.slice (some ⟨w3.heap.size+1,0,none⟩) 0 0)) (by omega) (.int .i64 0)
  clear keep hne
  generalize ((((W3.setCell ⟨w.heap.size+1,0,none⟩ (.slice (some ⟨w3.heap.size,0,none⟩) 1 1)).setCell ⟨w.heap.size+1,1,none⟩ (.int .i64 0)).setCell ⟨w.heap.size+1,2,none⟩ (.int .i64 1)).setCell ⟨w.heap.size+1,3,none⟩ (.slice (some ⟨w3.heap.size+1,0,none⟩) 0 0)).setCell ⟨w.heap.size+1,4,none⟩ (.int .i64 0)=W9 at *
  obtain⟨⟨q0,q1,q2,q3,q4⟩,_⟩:=five_cells R9
  have O9:∀W:World,W9.heap.size≤W.heap.size→(∀g,w.heap.size≤g→g<W9.heap.size→W.heap[g]?=W9.heap[g]?)→HeapAt W (.slice (some ⟨w3.heap.size,0,none⟩) 1 1) (.slice (some ⟨w3.heap.size+1,0,none⟩) 0 0) ⟨[⟨0,0,List.replicate t (0,0),[],-1,false⟩],0,1,[],0⟩:=by
    intro W hz hk
    obtain⟨⟨c0,c1,c2,c3,c4,c5⟩,_⟩:=six_cells (S9.of_block (hk _ (by omega) S9.lt))
    have P':=P9.kept hz (fun g e=>hk g (by have:=(P9.lt g e).1;omega) (P9.lt g e).2)
    have Q':=Q9.kept hz (fun g e=>hk g (by have:=(Q9.lt g e).1;omega) (Q9.lt g e).2)
    have M':=M9.kept hz (fun g e=>hk g (by have:=(M9.lt g e).1;omega) (M9.lt g e).2)
    exact⟨⟨_,1,rfl,by unfold maxLen;simp,fun i hi=>by
      obtain rfl:i=0:=by simpa using hi
      exact⟨w3.heap.size,0,_,_,rfl,c0,c1,c2,c3,c4,c5,P'.at,Q'.at⟩⟩,M'.at⟩
  exact bodyPost_ret (v:=.tuple #[.agg #[.slice (some ⟨w3.heap.size,0,none⟩) 1 1,.int .i64 0,.int .i64 1,.slice (some ⟨w3.heap.size+1,0,none⟩) 0 0,.int .i64 0],.bool true]) (by simp[results,Tryz.results109,go_sem,q0,q1,q2,q3,q4]) rfl ⟨B9,_,_,by rw[HN.out,hp];rfl,by rw[HN.out];exact O9⟩
theorem box_row (w:World) (t:TypeId) (x:Value):(w.alloc (.cells #[x] t)).rowIs w.heap.size t 1 (fun _=>x) :=
  ⟨_,Go.Deep.blk_alloc_new _ _,rfl,fun i hi=>by match i,hi with | 0,_=>rfl⟩
theorem setH_now {h:Hp} {j:Nat} (hn:h.now=j) (c:Cl):setH h c={h with calls:=h.calls.set j c}:=by
  unfold setH
  rw[hn,Int.toNat_natCast]
theorem val_from (w:World) (a:Option Addr) (n cap k:Nat) (hk:k≤n):(Instr.slice 27 (.slice a n cap) (some (.int .i64 (k:Int))) none none).run Tryz.prog w=.ok (sliced a k n cap 2) w:=by
  have hs:∀w,(sizeOf (Tryz.prog.elem 27)).run Tryz.prog w=.ok 2 w:=fun w=>by kernel_rfl
  rw[run_slice_l w 27 a n cap (by kernel_rfl) .i64 k (by omega) (by omega)]
  simp[hs,Result.andThen]
theorem val_to (w:World) (a:Option Addr) (n cap k:Nat) (hk:k≤cap):(Instr.slice 27 (.slice a n cap) none (some (.int .i64 (k:Int))) none).run Tryz.prog w=.ok (sliced a 0 k cap 2) w:=by
  have hs:∀w,(sizeOf (Tryz.prog.elem 27)).run Tryz.prog w=.ok 2 w:=fun w=>by kernel_rfl
  rw[run_slice_h w 27 a n cap (by kernel_rfl) .i64 k (by omega) (by omega)]
  simp[hs,Result.andThen]
theorem PairRow.piece {B:Nat} {w:World} {a:Option Addr} {n cap:Nat} {xs:List (Int × Int)} (h:PairRow B w (.slice a n cap) xs) {l k:Nat} (hl:l≤k) (hk:k≤xs.length):OpsAt w (sliced a l k cap 2) ((xs.take k).drop l)∧k≤cap:=by
  rcases h with⟨h0,rfl⟩ | ⟨g,off,cp,hv,hB,hg,hlc,hc,hsp,hx⟩
  · injection h0 with e1 e2 e3
    subst e1 e2 e3
    obtain rfl:k=0:=by simpa using hk
    obtain rfl:l=0:=by omega
    exact⟨⟨_,_,rfl,by simp,fun i hi=>absurd hi (by simp)⟩,Nat.le_refl _⟩
  · injection hv with e1 e2 e3
    subst e1 e2 e3
    refine⟨?_,by omega⟩
    have hlen:((xs.take k).drop l).length=k - l:=by simp;omega
    by_cases e:l=cap
    · have hkl:k - l=0:=by omega
      have hn:(xs.take k).drop l=[]:=List.eq_nil_of_length_eq_zero (by omega)
      rw[hn]
      unfold sliced
      exact⟨_,_,by rw[List.length_nil,←hkl],by simp,fun i hi=>absurd hi (by simp)⟩
    · unfold sliced
      refine⟨_,_,by rw[hlen],by rw[hlen];unfold maxLen at *;omega,fun i hi=>?_⟩
      rw[hlen] at hi
      have hi2:l+i<xs.length:=by omega
      obtain⟨y0,y1⟩:=hx (l+i) hi2
      refine⟨g,off+l * 2,?_,?_,?_⟩
      · rw[if_neg (by omega)]
        simp[Addr.add]
      · rw[show off+l * 2+i * 2=off+(l+i) * 2 by omega,y0]
        simp
      · rw[show off+l * 2+i * 2+1=off+(l+i) * 2+1 by omega,y1]
        simp
theorem takes_bound {ms:Ms} (hp:progOk ms=true) (kk a:Int):(0≤(takesOf ms kk a).1∧(takesOf ms kk a).1≤2)∧0≤(takesOf ms kk a).2∧(takesOf ms kk a).2≤1:=by
  unfold takesOf
  split
  · split
    · rename_i q
      rw[inR_true] at q
      have hq:a.toNat<ms.length:=by omega
      rw[getD_at hq]
      have:=(prog_meth hp hq).args
      simp only[]
      omega
    · decide
  · simp only[]
    unfold tk lv
    refine⟨?_,?_⟩
    · split
      · decide
      · split <;> decide
    · split <;> decide
theorem stepH_past {ms:Ms} {h:Hp} {j m pc:Nat} (hn:h.now=j) (hj:j<h.calls.length) (hm:h.calls[j].m=m) (hpc:h.calls[j].pc=pc) (hml:m<ms.length) (hl:ms[m].2.2.length≤pc):stepH ms h={h with code:=2}:=by
  unfold stepH
  simp only[cur_at hn hj,hm,hpc,Int.toNat_natCast,getD_at hml]
  rw[if_pos (by omega)]
  rfl
theorem opNext_at {ms:Ms} {h:Hp} {j m pc:Nat} (hj:j<h.calls.length) (hm:h.calls[j].m=m) (hpc:h.calls[j].pc=pc) (hml:m<ms.length) (hpl:pc<ms[m].2.2.length):opNext ms h.calls[j]=ms[m].2.2[pc]:=by
  unfold opNext
  rw[hm,hpc,Int.toNat_natCast,Int.toNat_natCast,getD_at hml,getD_at hpl]
theorem stepH_at {ms:Ms} {h:Hp} {j m pc:Nat} (hn:h.now=j) (hj:j<h.calls.length) (hm:h.calls[j].m=m) (hpc:h.calls[j].pc=pc) (hml:m<ms.length) (hpl:pc<ms[m].2.2.length) {kk a t l:Int} (ho:ms[m].2.2[pc]=(kk,a)) (ht:takesOf ms kk a=(t,l)) :
    stepH ms h=if(h.calls[j].stack.length:Int) - t<0∨6<(h.calls[j].stack.length:Int) - t+l then {h with code:=2}
      else if kindsOk kk (h.calls[j].stack.drop ((h.calls[j].stack.length:Int) - t).toNat)=false then {h with code:=2}
      else doH ms {h with calls:=h.calls.set j {h.calls[j] with stack:=h.calls[j].stack.take ((h.calls[j].stack.length:Int) - t).toNat,pc:=(pc:Int)+1}} kk a (h.calls[j].stack.drop ((h.calls[j].stack.length:Int) - t).toNat):=by
  unfold stepH
  simp only[cur_at hn hj,opNext_at hj hm hpc hml hpl,ho,ht]
  rw[hm,Int.toNat_natCast,getD_at hml,if_neg (by rw[hpc];omega),setH_now hn,hpc]
  rfl
theorem doing_at {ms:Ms} {h:Hp} {j m pc:Nat} (hg:Good ms h) (hc:h.code=0) (hn:h.now=j) (hj:j<h.calls.length) (hm:h.calls[j].m=m) (hpc:h.calls[j].pc=pc) (hml:m<ms.length) (hpl:pc<ms[m].2.2.length) {kk a t l:Int} (ho:ms[m].2.2[pc]=(kk,a)) (ht:takesOf ms kk a=(t,l))
    (h2:¬((h.calls[j].stack.length:Int) - t<0∨6<(h.calls[j].stack.length:Int) - t+l)) (h3:kindsOk kk (h.calls[j].stack.drop ((h.calls[j].stack.length:Int) - t).toNat)=true) :
    Doing ms {h with calls:=h.calls.set j {h.calls[j] with stack:=h.calls[j].stack.take ((h.calls[j].stack.length:Int) - t).toNat,pc:=(pc:Int)+1}} j kk a (h.calls[j].stack.drop ((h.calls[j].stack.length:Int) - t).toNat):=by
  have h1:¬((ms.getD (curC h).m.toNat (0,0,[])).2.2.length:Int)≤(curC h).pc:=by
    rw[cur_at hn hj,hm,Int.toNat_natCast,getD_at hml,hpc]
    omega
  have e:opNext ms (curC h)=(kk,a):=by rw[cur_at hn hj,opNext_at hj hm hpc hml hpl,ho]
  obtain⟨j',d⟩:=hg.doing hc h1 (by rw[e];simp only[];rw[ht,cur_at hn hj];exact h2) (by rw[e];simp only[];rw[ht,cur_at hn hj];exact h3)
  rw[e] at d
  simp only[] at d
  rw[ht,cur_at hn hj,setH_now hn,hpc] at d
  have hjj:j'=j:=by have:=d.now;simp only[] at this;omega
  subst hjj
  exact d
theorem SM.push {A:Nat→Prop} {B:Nat} {w W0 w2:World} {bo:Nat} {vp vs:Value} {g off n cap:Nat} {ms:List (Int × Int × List (Int × Int))} {h:Hp} {V:Nat→Value × Value} (k:SM A B w bo vp (.slice (some ⟨g,off,none⟩) n cap) vs ms h V) {j:Nat} (hj:j<h.calls.length) {v':Value} {st:List (Int × Int)} (hB:B≤w.heap.size)
    (hW:Below w.heap.size w W0) (hg:W0.grownBy w2 (V j).2.ownBlock) (hr:PairRow B w2 v' st) (hv:v'.ownBlock=(V j).2.ownBlock∨v'.ownBlock=some W0.heap.size) :
    (∃V',SM A B (w2.setCell ⟨g,off+j * 6+3,none⟩ v') bo vp (.slice (some ⟨g,off,none⟩) n cap) vs ms {h with calls:=h.calls.set j {h.calls[j] with stack:=st}} V')∧Cm A B w (w2.setCell ⟨g,off+j * 6+3,none⟩ v'):=by
  have hz0:=hW.size
  have hz2:=hg.size
  have hgB:=(k.own.c.lt (g:=g) (.inl rfl)).1
  have hs:=(k.own.c.lists j hj).2
  have hbl:∀q,q<w.heap.size→(V j).2.ownBlock≠some q→w2.heap[q]?=w.heap[q]?:=fun q hq hn=>(hg.block q (by omega) (fun e=>hn e.symm)).trans (hW.block q hq)
  have b2:Below B w w2:=⟨hg.os.trans hW.os,hg.tape.trans hW.tape,hg.output.trans hW.output,by omega,fun q hq=>hbl q (by omega) (fun e=>by have:=(hs.lt q e).1;omega)⟩
  have b3:=b2.setCell (p:=⟨g,off+j * 6+3,none⟩) hgB v'
  have r:=k.put hj (put_stack k.own.c hj v' st (by omega) hbl hr (fun q e=>by
    rcases hv with x | x
    · exact .inl (by rw[←x];exact e)
    · rw[x] at e;cases e;exact .inr hz0)) b3
  exact⟨⟨_,r.1⟩,r.2⟩
theorem pushH_eq {h:Hp} {j:Nat} (hn:h.now=j) (hj:j<h.calls.length) (x:Int × Int):pushH h x={h with calls:=h.calls.set j {h.calls[j] with stack:=h.calls[j].stack ++ [x]}}:=by
  have e:h.now.toNat=j:=by omega
  unfold pushH setH
  rw[cur_at hn hj,e]
theorem setH_eq {h:Hp} {j:Nat} (hn:h.now=j) (c:Cl):setH h c={h with calls:=h.calls.set j c}:=by
  have e:h.now.toNat=j:=by omega
  unfold setH
  rw[e]
set_option maxRecDepth 100000 in
set_option maxHeartbeats 2000000 in
theorem l11Copy_any (vt vs:Value) (c:Cl) (w:World) (ht:OpsAt w vt c.temps) (hs:OpsAt w vs c.stack) (hb:c.temps.length≤1000∧c.stack.length≤1000) :
    Calls Tryz.prog 65 #[.agg (clCells vt vs c)] w fun e w'=>∃vt' vs',e=.returned (.agg (clCells vt' vs' c))∧PairRow w.heap.size w' vt' c.temps∧PairRow w.heap.size w' vs' c.stack∧(∀g,vt'.ownBlock=some g→vs'.ownBlock≠some g)∧Below w.heap.size w w':=by
  obtain⟨at',ct',hvt⟩:=ht.shape
  obtain⟨as',cs',hvs⟩:=hs.shape
  subst hvt hvs
  unfold clCells
  obtain⟨hb1,hb2⟩:=hb
  have hA:Below w.heap.size w ((w.alloc (.cells #[.int .i64 c.m,.int .i64 c.pc,.slice at' c.temps.length ct',.slice as' c.stack.length cs',.int .i64 c.sender,.bool c.dead] 37)).alloc (.cells #[.int .i64 0,.int .i64 0,.slice none 0 0,.slice none 0 0,.int .i64 0,.bool false] 37)):=((Below.refl _ _).alloc (Nat.le_refl _) _).alloc (by simp) _
  have bc:=(six_new w 37 (.int .i64 c.m) (.int .i64 c.pc) (.slice at' c.temps.length ct') (.slice as' c.stack.length cs') (.int .i64 c.sender) (.bool c.dead)).alloc (.cells #[.int .i64 0,.int .i64 0,.slice none 0 0,.slice none 0 0,.int .i64 0,.bool false] 37)
  have bz:=six_new (w.alloc (.cells #[.int .i64 c.m,.int .i64 c.pc,.slice at' c.temps.length ct',.slice as' c.stack.length cs',.int .i64 c.sender,.bool c.dead] 37)) 37 (.int .i64 0) (.int .i64 0) (.slice none 0 0) (.slice none 0 0) (.int .i64 0) (.bool false)
  simp only[World.size_alloc] at bz
  go_enter Tryz.func65,Tryz.ntmps65
  go_upto_region 1 with fail
  generalize (w.alloc (.cells #[.int .i64 c.m,.int .i64 c.pc,.slice at' c.temps.length ct',.slice as' c.stack.length cs',.int .i64 c.sender,.bool c.dead] 37)).alloc (.cells #[.int .i64 0,.int .i64 0,.slice none 0 0,.slice none 0 0,.int .i64 0,.bool false] 37)=W1 at *
  have zA:=hA.size
  have yA:=bz.lt
  have N1:=(Below.refl W1.heap.size W1).alloc (Nat.le_refl _) (.cells #[] 98)
  have mk1:=PairRow.made (B:=W1.heap.size) (w:=W1) (e:=98) (Nat.le_refl _)
  have ht1:=(ht.below hA).below N1
  have bc1:=row_below N1 bc
  have bz1:=row_below N1 bz
  obtain⟨⟨x0,x1,x2,x3,x4,x5⟩,xf⟩:=six_cells bc1
  clear xf
  go_upto_region 2 with(at_builtin;refine append_vals _ (by rfl) _ _ (by rfl) W1.heap.size _ _ [] c.temps (by rfl) (by rfl) mk1 ht1 (by simp;omega) N1.size ?_;intro v2 w2 hrow2 hg2 hbk2;rw[List.nil_append] at hrow2;obtain⟨a2,c2,hv2,_⟩:=hrow2.slice;subst hv2;have bc2:=bc1.of_block (hg2.block w.heap.size bc1.lt (fun e=>by have:=(mk1.lt _ e.symm).1;omega));have bz2:=bz1.of_block (hg2.block (w.heap.size+1) bz1.lt (fun e=>by have:=(mk1.lt _ e.symm).1;omega));obtain⟨⟨y0,y1,y2,y3,y4,y5⟩,k0,k1,k2,k3,k4,k5⟩:=six_cells bc2)
  have B2:Below w.heap.size w w2:=(hA.trans (N1.mono zA)).grown hg2 (by have:=N1.size;omega) (fun q e=>by have:=(mk1.lt q e).1;omega)
  have hz2:W1.heap.size≤w2.heap.size:=Nat.le_trans N1.size hg2.size
  clear hg2 hbk2 mk1 ht1 bc1 bz1 N1 x0 x1 x2 x3 x4 x5 y0 y1 y2 y3 y4 y5 k0 k1 k2 k3 k4 k5 bc bz hA
  have hne2:(Value.slice a2 c.temps.length c2).ownBlock≠some w.heap.size:=fun e=>by have:=(hrow2.lt _ e).1;omega
  have P3:=hrow2.set_other (p:=⟨w.heap.size,2,none⟩) (.slice a2 c.temps.length c2) hne2
  have bc3:=six_set2 bc2 (.slice a2 c.temps.length c2)
  have bz3:=row_set (k:=w.heap.size) (o:=2) bz2 (by omega) (.slice a2 c.temps.length c2)
  have B3:=B2.setCell (p:=⟨w.heap.size,2,none⟩) (Nat.le_refl _) (.slice a2 c.temps.length c2)
  have hz3:W1.heap.size≤(w2.setCell ⟨w.heap.size,2,none⟩ (.slice a2 c.temps.length c2)).heap.size:=by simp[World.setCell];exact hz2
  generalize w2.setCell ⟨w.heap.size,2,none⟩ (.slice a2 c.temps.length c2)=w3 at *
  clear bc2 bz2 B2 hrow2
  have N3:=(Below.refl w3.heap.size w3).alloc (Nat.le_refl _) (.cells #[] 98)
  have mk3:=PairRow.made (B:=w3.heap.size) (w:=w3) (e:=98) (Nat.le_refl _)
  have hs3:=(hs.below B3).below N3
  have bc4:=row_below N3 bc3
  have bz4:=row_below N3 bz3
  have P4:=P3.below N3
  have z3:=B3.size
  obtain⟨⟨x0,x1,x2,x3,x4,x5⟩,xf⟩:=six_cells bc4
  clear xf
  go_upto_region 3 with(at_builtin;refine append_vals _ (by rfl) _ _ (by rfl) w3.heap.size _ _ [] c.stack (by rfl) (by rfl) mk3 hs3 (by simp;omega) N3.size ?_;intro v5 w5 hrow5 hg5 hbk5;rw[List.nil_append] at hrow5;obtain⟨a5,c5,hv5,_⟩:=hrow5.slice;subst hv5;have bc5:=bc4.of_block (hg5.block w.heap.size bc4.lt (fun e=>by have:=(mk3.lt _ e.symm).1;omega));have bz5:=bz4.of_block (hg5.block (w.heap.size+1) bz4.lt (fun e=>by have:=(mk3.lt _ e.symm).1;omega));obtain⟨⟨y0,y1,y2,y3,y4,y5⟩,k0,k1,k2,k3,k4,k5⟩:=six_cells bc5)
  have B5:Below w.heap.size w w5:=(B3.trans (N3.mono z3)).grown hg5 (by have:=N3.size;omega) (fun q e=>by have:=(mk3.lt q e).1;omega)
  have P5:=P4.kept hg5.size fun q e=>hg5.block q (P4.lt q e).2 (fun e2=>by have h1:=(mk3.lt _ e2.symm).1;have h2:=(P3.lt q e).2;omega)
  have hap:∀q,(Value.slice a2 c.temps.length c2).ownBlock=some q→(Value.slice a5 c.stack.length c5).ownBlock≠some q:=fun q e e2=>by have h1:=(P3.lt q e).2;have h2:=(hrow5.lt q e2).1;omega
  clear hg5 hbk5 mk3 hs3 bc4 bz4 N3 x0 x1 x2 x3 x4 x5 y0 y1 y2 y3 y4 y5 k0 k1 k2 k3 k4 k5 bc3 bz3 P3 P4 B3
  have hne5:(Value.slice a5 c.stack.length c5).ownBlock≠some w.heap.size:=fun e=>by have:=(hrow5.lt _ e).1;omega
  have P6:=P5.set_other (p:=⟨w.heap.size,3,none⟩) (.slice a5 c.stack.length c5) hne2
  have Q6:=hrow5.set_other (p:=⟨w.heap.size,3,none⟩) (.slice a5 c.stack.length c5) hne5
  have bc6:=six_set3 bc5 (.slice a5 c.stack.length c5)
  have bz6:=row_set (k:=w.heap.size) (o:=3) bz5 (by omega) (.slice a5 c.stack.length c5)
  have B6:=B5.setCell (p:=⟨w.heap.size,3,none⟩) (Nat.le_refl _) (.slice a5 c.stack.length c5)
  generalize w5.setCell ⟨w.heap.size,3,none⟩ (.slice a5 c.stack.length c5)=w6 at *
  clear P5 hrow5 bc5 bz5 B5
  have nt1:(Value.slice a2 c.temps.length c2).ownBlock≠some (w.heap.size+1):=fun e=>by have:=(P6.lt _ e).1;omega
  have ns1:(Value.slice a5 c.stack.length c5).ownBlock≠some (w.heap.size+1):=fun e=>by have:=(Q6.lt _ e).1;omega
  obtain⟨⟨x0,x1,x2,x3,x4,x5⟩,xf⟩:=six_cells bc6
  obtain⟨⟨y0,y1,y2,y3,y4,y5⟩,k0,k1,k2,k3,k4,k5⟩:=six_cells bz6
  clear xf
  have R9:=six_set5 (six_set4 (six_set3 (six_set2 (six_set1 (six_set0 bz6 (.int .i64 c.m)) (.int .i64 c.pc)) (.slice a2 c.temps.length c2)) (.slice a5 c.stack.length c5)) (.int .i64 c.sender)) (.bool c.dead)
  have P9:=(((((P6.set_other (p:=⟨w.heap.size+1,0,none⟩) (.int .i64 c.m) nt1).set_other (p:=⟨w.heap.size+1,1,none⟩) (.int .i64 c.pc) nt1).set_other (p:=⟨w.heap.size+1,2,none⟩) (.slice a2 c.temps.length c2) nt1).set_other (p:=⟨w.heap.size+1,3,none⟩) (.slice a5 c.stack.length c5) nt1).set_other (p:=⟨w.heap.size+1,4,none⟩) (.int .i64 c.sender) nt1).set_other (p:=⟨w.heap.size+1,5,none⟩) (.bool c.dead) nt1
  have Q9:=(((((Q6.set_other (p:=⟨w.heap.size+1,0,none⟩) (.int .i64 c.m) ns1).set_other (p:=⟨w.heap.size+1,1,none⟩) (.int .i64 c.pc) ns1).set_other (p:=⟨w.heap.size+1,2,none⟩) (.slice a2 c.temps.length c2) ns1).set_other (p:=⟨w.heap.size+1,3,none⟩) (.slice a5 c.stack.length c5) ns1).set_other (p:=⟨w.heap.size+1,4,none⟩) (.int .i64 c.sender) ns1).set_other (p:=⟨w.heap.size+1,5,none⟩) (.bool c.dead) ns1
  have B9:=(((((B6.setCell (p:=⟨w.heap.size+1,0,none⟩) (Nat.le_succ _) (.int .i64 c.m)).setCell (p:=⟨w.heap.size+1,1,none⟩) (Nat.le_succ _) (.int .i64 c.pc)).setCell (p:=⟨w.heap.size+1,2,none⟩) (Nat.le_succ _) (.slice a2 c.temps.length c2)).setCell (p:=⟨w.heap.size+1,3,none⟩) (Nat.le_succ _) (.slice a5 c.stack.length c5)).setCell (p:=⟨w.heap.size+1,4,none⟩) (Nat.le_succ _) (.int .i64 c.sender)).setCell (p:=⟨w.heap.size+1,5,none⟩) (Nat.le_succ _) (.bool c.dead)
  go_wp2
  generalize (((((w6.setCell ⟨w.heap.size+1,0,none⟩ (.int .i64 c.m)).setCell ⟨w.heap.size+1,1,none⟩ (.int .i64 c.pc)).setCell ⟨w.heap.size+1,2,none⟩ (.slice a2 c.temps.length c2)).setCell ⟨w.heap.size+1,3,none⟩ (.slice a5 c.stack.length c5)).setCell ⟨w.heap.size+1,4,none⟩ (.int .i64 c.sender)).setCell ⟨w.heap.size+1,5,none⟩ (.bool c.dead)=W9 at *
  obtain⟨⟨q0,q1,q2,q3,q4,q5⟩,_⟩:=six_cells R9
  exact bodyPost_ret (v:=.agg #[.int .i64 c.m,.int .i64 c.pc,.slice a2 c.temps.length c2,.slice a5 c.stack.length c5,.int .i64 c.sender,.bool c.dead]) (by simp[results,Tryz.results65,go_sem,q0,q1,q2,q3,q4,q5]) rfl ⟨_,_,rfl,P9.mono (by omega),Q9.mono (by omega),hap,B9⟩
def tabN (n:Nat) (ps:List Nat):List Int:=(List.range n).map fun(p:Nat)=>numOf ps p
def two (x0 x1:Value):Nat→Value:=fun i=>if i=0 then x0 else x1
theorem two_new (w:World) (t:TypeId) (x0 x1:Value):(w.alloc (.cells #[x0,x1] t)).rowIs w.heap.size t 2 (two x0 x1) :=
  ⟨_,Go.Deep.blk_alloc_new _ _,rfl,fun i hi=>by match i,hi with | 0,_=>rfl | 1,_=>rfl⟩
theorem two_cells {w:World} {g:Nat} {t:TypeId} {x0 x1:Value} (h:w.rowIs g t 2 (two x0 x1)):(w.cell? ⟨g,0,none⟩=some x0∧w.cell? ⟨g,1,none⟩=some x1)∧(w.frozen? ⟨g,0,none⟩=false∧w.frozen? ⟨g,1,none⟩=false) :=
  ⟨⟨h.cell (i:=0) (by decide),h.cell (i:=1) (by decide)⟩,h.frozen 0,h.frozen 1⟩
theorem two_set0 {w:World} {g:Nat} {t:TypeId} {x0 x1:Value} (h:w.rowIs g t 2 (two x0 x1)) (v:Value):(w.setCell ⟨g,0,none⟩ v).rowIs g t 2 (two v x1) :=
  (h.set 0 v).congr fun i hi=>by match i,hi with | 0,_=>rfl | 1,_=>rfl
structure Ord (A:Nat→Prop) (B bo n:Nat) (ps:List Nat) (vp vn:Value) (w:World):Prop where
  le:B≤bo
  box:w.rowIs bo 125 2 (two vp vn)
  p:IntRow B w vp (nums ps)
  n:IntRow B w vn (tabN n ps)
  pb:vp.ownBlock≠some bo
  nb:vn.ownBlock≠some bo
  pn:∀g,vp.ownBlock=some g→vn.ownBlock≠some g
  av:∀g,A g→g≠bo∧g<w.heap.size∧vp.ownBlock≠some g∧vn.ownBlock≠some g
structure Came (A:Nat→Prop) (B:Nat) (w w':World):Prop where
  b:Below B w w'
  a:∀g,A g→w'.heap[g]?=w.heap[g]?
theorem Came.refl (A:Nat→Prop) (B:Nat) (w:World):Came A B w w:=⟨Below.refl _ _,fun _ _=>rfl⟩
theorem Came.trans {A:Nat→Prop} {B:Nat} {a b c:World} (h:Came A B a b) (k:Came A B b c):Came A B a c :=
  ⟨h.b.trans k.b,fun g hg=>(k.a g hg).trans (h.a g hg)⟩
theorem Ord.alloc {A:Nat→Prop} {B bo n:Nat} {ps:List Nat} {vp vn:Value} {w:World} (h:Ord A B bo n ps vp vn w) (o:Obj):Ord A B bo n ps vp vn (w.alloc o) :=
  have hb:=(Below.refl w.heap.size w).alloc (Nat.le_refl _) o
  ⟨h.le,row_below hb h.box,h.p.below hb,h.n.below hb,h.pb,h.nb,h.pn,fun g hg=>⟨(h.av g hg).1,by have:=(h.av g hg).2.1;simp;omega,(h.av g hg).2.2⟩⟩
theorem Came.alloc {A:Nat→Prop} {B:Nat} {w w':World} (h:Came A B w w') (hb:B≤w'.heap.size) (hA:∀g,A g→g<w'.heap.size) (o:Obj):Came A B w (w'.alloc o) :=
  ⟨h.b.alloc hb o,fun g hg=>(Below.heap_alloc _ _ _ (hA g hg)).trans (h.a g hg)⟩
end Go.Proofs.YtjbgpcileapogaaGreat

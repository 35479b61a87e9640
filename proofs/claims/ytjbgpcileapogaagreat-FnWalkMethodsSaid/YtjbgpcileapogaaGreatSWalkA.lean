/-
  The model's heap at work, walked: l11Anew.
-/
import Derived.Test.YtjbgpcileapogaaGreatSWalkD
import Derived.Test.YtjbgpcileapogaaGreatMOk3
import Derived.Test.YtjbgpcileapogaaGreatPiece
import Derived.Test.YtjbgpcileapogaaGreatHHeapOk
import Derived.Test.YtjbgpcileapogaaGreatRunPlain
import Derived.Test.YtjbgpcileapogaaGreatVSpec
namespace Go.Proofs.YtjbgpcileapogaaGreat
open Go.RowKit
theorem OwnCalls.lower {B B':Nat} {w:World} {v:Value} {cs:List Cl} {V:Nat→Value × Value} (h:OwnCalls B w v cs V) (hB:B'≤B):OwnCalls B' w v cs V:=by
  refine⟨?_,fun i hi=>⟨(h.lists i hi).1.mono hB,(h.lists i hi).2.mono hB⟩,h.apart⟩
  rcases h.row with h0 | ⟨g,off,cap,hv,hg,r⟩
  · exact .inl h0
  · exact .inr ⟨g,off,cap,hv,by omega,r⟩
set_option maxRecDepth 100000 in
set_option maxHeartbeats 8000000 in
theorem l11Anew_any (vc vs:Value) (h:Hp) (w:World) (hh:HeapAt w vc vs h) (hn:h.calls.length≤1000) (hsh:∀i,(hi:i<h.calls.length)→h.calls[i].temps.length≤1000∧h.calls[i].stack.length≤1000) (hsd:h.said.length≤2900000) :
    Calls Tryz.prog 160 #[.agg (hpCells vc vs h)] w fun e w'=>(∃vc' vs' V',e=.returned (.agg (hpCells vc' vs' h))∧OwnHeap w.heap.size w' vc' vs' h V')∧Below w.heap.size w w':=by
  unfold hpCells
  obtain⟨ac,kc,hvc⟩:=hh.c.shape
  obtain⟨aD,kD,hvs⟩:=hh.s.shape
  subst hvc hvs
  have hA:Below w.heap.size w ((((w.alloc (.cells #[.slice ac h.calls.length kc,.int .i64 h.now,.int .i64 h.born,.slice aD h.said.length kD,.int .i64 h.code] 29)).alloc (.cells #[.slice none 0 0,.int .i64 0,.int .i64 0,.slice none 0 0,.int .i64 0] 29)).alloc (.cells #[.slice (some ⟨w.heap.size+1+1+1,0,none⟩) 0 0,.int .i64 h.now,.int .i64 h.born,.slice aD h.said.length kD,.int .i64 h.code] 29)).alloc (.cells #[] 37)):=((((Below.refl _ _).alloc (Nat.le_refl _) _).alloc (by simp) _).alloc (by simp;omega) _).alloc (by simp;omega) _
  have bh:((((w.alloc (.cells #[.slice ac h.calls.length kc,.int .i64 h.now,.int .i64 h.born,.slice aD h.said.length kD,.int .i64 h.code] 29)).alloc (.cells #[.slice none 0 0,.int .i64 0,.int .i64 0,.slice none 0 0,.int .i64 0] 29)).alloc (.cells #[.slice (some ⟨w.heap.size+1+1+1,0,none⟩) 0 0,.int .i64 h.now,.int .i64 h.born,.slice aD h.said.length kD,.int .i64 h.code] 29)).alloc (.cells #[] 37)).rowIs w.heap.size 29 5 (five (.slice ac h.calls.length kc) (.int .i64 h.now) (.int .i64 h.born) (.slice aD h.said.length kD) (.int .i64 h.code)):=(((five_new w _ _ _ _ _ _).alloc _).alloc _).alloc _
  have br:=((five_new (w.alloc (.cells #[.slice ac h.calls.length kc,.int .i64 h.now,.int .i64 h.born,.slice aD h.said.length kD,.int .i64 h.code] 29)) 29 (.slice none 0 0) (.int .i64 0) (.int .i64 0) (.slice none 0 0) (.int .i64 0)).alloc (.cells #[.slice (some ⟨w.heap.size+1+1+1,0,none⟩) 0 0,.int .i64 h.now,.int .i64 h.born,.slice aD h.said.length kD,.int .i64 h.code] 29)).alloc (.cells #[] 37)
  have bo:=(five_new ((w.alloc (.cells #[.slice ac h.calls.length kc,.int .i64 h.now,.int .i64 h.born,.slice aD h.said.length kD,.int .i64 h.code] 29)).alloc (.cells #[.slice none 0 0,.int .i64 0,.int .i64 0,.slice none 0 0,.int .i64 0] 29)) 29 (.slice (some ⟨w.heap.size+1+1+1,0,none⟩) 0 0) (.int .i64 h.now) (.int .i64 h.born) (.slice aD h.said.length kD) (.int .i64 h.code)).alloc (.cells #[] 37)
  have mk:CallRow (w.heap.size+3) ((((w.alloc (.cells #[.slice ac h.calls.length kc,.int .i64 h.now,.int .i64 h.born,.slice aD h.said.length kD,.int .i64 h.code] 29)).alloc (.cells #[.slice none 0 0,.int .i64 0,.int .i64 0,.slice none 0 0,.int .i64 0] 29)).alloc (.cells #[.slice (some ⟨w.heap.size+1+1+1,0,none⟩) 0 0,.int .i64 h.now,.int .i64 h.born,.slice aD h.said.length kD,.int .i64 h.code] 29)).alloc (.cells #[] 37)) (.slice (some ⟨w.heap.size+1+1+1,0,none⟩) 0 0) []:=by
    have:=CallRow.made (B:=w.heap.size+3) (w:=(((w.alloc (.cells #[.slice ac h.calls.length kc,.int .i64 h.now,.int .i64 h.born,.slice aD h.said.length kD,.int .i64 h.code] 29)).alloc (.cells #[.slice none 0 0,.int .i64 0,.int .i64 0,.slice none 0 0,.int .i64 0] 29)).alloc (.cells #[.slice (some ⟨w.heap.size+1+1+1,0,none⟩) 0 0,.int .i64 h.now,.int .i64 h.born,.slice aD h.said.length kD,.int .i64 h.code] 29))) (e:=37) (by simp)
    simpa using this
  have hz4:((((w.alloc (.cells #[.slice ac h.calls.length kc,.int .i64 h.now,.int .i64 h.born,.slice aD h.said.length kD,.int .i64 h.code] 29)).alloc (.cells #[.slice none 0 0,.int .i64 0,.int .i64 0,.slice none 0 0,.int .i64 0] 29)).alloc (.cells #[.slice (some ⟨w.heap.size+1+1+1,0,none⟩) 0 0,.int .i64 h.now,.int .i64 h.born,.slice aD h.said.length kD,.int .i64 h.code] 29)).alloc (.cells #[] 37)).heap.size=w.heap.size+4:=by simp
  simp only[World.size_alloc] at br bo
  go_enter Tryz.func160,Tryz.ntmps160
  go_upto_region 3 with fail
  generalize ((((w.alloc (.cells #[.slice ac h.calls.length kc,.int .i64 h.now,.int .i64 h.born,.slice aD h.said.length kD,.int .i64 h.code] 29)).alloc (.cells #[.slice none 0 0,.int .i64 0,.int .i64 0,.slice none 0 0,.int .i64 0] 29)).alloc (.cells #[.slice (some ⟨w.heap.size+1+1+1,0,none⟩) 0 0,.int .i64 h.now,.int .i64 h.born,.slice aD h.said.length kD,.int .i64 h.code] 29)).alloc (.cells #[] 37))=W4 at *
  go_wp2
  go_loopg [4] h.calls.length (fun d i wr=>∃(k:Nat) (L:List (Cl × Value × Value)) (o:Value),k≤h.calls.length∧d=h.calls.length - k∧i=.int .i64 k∧L.map (·.1)=h.calls.take k∧CallRow (w.heap.size+3) wr o L∧(∀j,(hj:j<L.length)→PairRow (w.heap.size+3) wr L[j].2.1 L[j].1.temps∧PairRow (w.heap.size+3) wr L[j].2.2 L[j].1.stack)∧ApartL L o∧wr.rowIs (w.heap.size+1+1) 29 5 (five o (.int .i64 h.now) (.int .i64 h.born) (.slice aD h.said.length kD) (.int .i64 h.code))∧wr.rowIs w.heap.size 29 5 (five (.slice ac h.calls.length kc) (.int .i64 h.now) (.int .i64 h.born) (.slice aD h.said.length kD) (.int .i64 h.code))∧wr.rowIs (w.heap.size+1) 29 5 (five (.slice none 0 0) (.int .i64 0) (.int .i64 0) (.slice none 0 0) (.int .i64 0))∧Below w.heap.size w wr)
  case atStart=>exact⟨0,[],_,Nat.zero_le _,rfl,rfl,rfl,mk,fun j hj=>absurd hj (Nat.not_lt_zero _),fun q hq=>absurd hq (Nat.not_lt_zero _),bo,bh,br,hA⟩
  case round =>
    obtain⟨k,L,o,hk,rfl,rfl,hmap,hrow,hls,hap,ro,rh,rr,hb⟩:=hrel
    have HMAP:Hid (L.map (·.1)=h.calls.take k):=hmap
    have HLS:Hid (∀j,(hj:j<L.length)→PairRow (w.heap.size+3) wr L[j].2.1 L[j].1.temps∧PairRow (w.heap.size+3) wr L[j].2.2 L[j].1.stack):=hls
    have hLl:L.length=k:=by have:=congrArg List.length hmap;simp at this;omega
    have HLL:Hid (L.length=k):=hLl
    obtain⟨ao,co,hvo,_⟩:=hrow.slice
    subst hvo
    have HAP:Hid (ApartL L (.slice ao L.length co)):=hap
    clear hmap hls hap hLl
    have hzw:=hb.size
    have hzr:=ro.lt
    obtain⟨⟨x0,x1,x2,x3,x4⟩,_⟩:=five_cells rh
    obtain⟨⟨o0,o1,o2,o3,o4⟩,of0,of1,of2,of3,of4⟩:=five_cells ro
    by_cases hlt:k<h.calls.length
    · have hkz:(k:Int)<(h.calls.length:Int):=by omega
      obtain⟨b,o',vt,vs',hac,hc⟩:=hh.c.cl hlt
      subst hac
      obtain⟨at',ct',hvt⟩:=hc.t.shape
      obtain⟨as',cs',hvs⟩:=hc.s.shape
      subst hvt hvs
      have q0:=cell_below hb hc.c0
      have q1:=cell_below hb hc.c1
      have q2:=cell_below hb hc.c2
      have q3:=cell_below hb hc.c3
      have q4:=cell_below hb hc.c4
      have q5:=cell_below hb hc.c5
      have hCp:=l11Copy_any _ _ h.calls[k] wr.drew ((hc.t.below hb).below (Below.refl _ _).drew) ((hc.s.below hb).below (Below.refl _ _).drew) (hsh k hlt)
      unfold clCells at hCp
      have HTK:Hid (h.calls.take (k+1)=h.calls.take k ++ [h.calls[k]]):=List.take_succ_eq_append_getElem hlt
      have HLT:=lists_lt HLS.out
      have hLb:L.length≤900000:=by rw[HLL.out];omega
      generalize h.calls[k]=c at *
      clear hc
      have H5:Hid (∀(w5:World) (at5 as5:Option Addr) (kt5 ks5:Nat),Below wr.drew.heap.size wr.drew w5→PairRow wr.drew.heap.size w5 (.slice at5 c.temps.length kt5) c.temps→PairRow wr.drew.heap.size w5 (.slice as5 c.stack.length ks5) c.stack→(∀q,(Value.slice at5 c.temps.length kt5).ownBlock=some q→(Value.slice as5 c.stack.length ks5).ownBlock≠some q) →
          (w5.cell? ⟨w.heap.size+1+1,0,none⟩=some (.slice ao L.length co)∧w.heap.size+1+1<w5.heap.size)∧CallRow (w.heap.size+3) (w5.alloc (.cells #[.int .i64 c.m,.int .i64 c.pc,.slice at5 c.temps.length kt5,.slice as5 c.stack.length ks5,.int .i64 c.sender,.bool c.dead] 37)) (.slice ao L.length co) L ∧
          (∀j u,(cells6 (c,Value.slice at5 c.temps.length kt5,Value.slice as5 c.stack.length ks5))[j]?=some u→(w5.alloc (.cells #[.int .i64 c.m,.int .i64 c.pc,.slice at5 c.temps.length kt5,.slice as5 c.stack.length ks5,.int .i64 c.sender,.bool c.dead] 37)).cell? ⟨w5.heap.size,j,none⟩=some u)∧w.heap.size+3≤(w5.alloc (.cells #[.int .i64 c.m,.int .i64 c.pc,.slice at5 c.temps.length kt5,.slice as5 c.stack.length ks5,.int .i64 c.sender,.bool c.dead] 37)).heap.size ∧
          (∀v' w',CallRow (w.heap.size+3) w' v' (L ++ [(c,Value.slice at5 c.temps.length kt5,Value.slice as5 c.stack.length ks5)])→(w5.alloc (.cells #[.int .i64 c.m,.int .i64 c.pc,.slice at5 c.temps.length kt5,.slice as5 c.stack.length ks5,.int .i64 c.sender,.bool c.dead] 37)).grownBy w' (Value.slice ao L.length co).ownBlock→(v'.ownBlock=(Value.slice ao L.length co).ownBlock∨v'.ownBlock=some (w5.alloc (.cells #[.int .i64 c.m,.int .i64 c.pc,.slice at5 c.temps.length kt5,.slice as5 c.stack.length ks5,.int .i64 c.sender,.bool c.dead] 37)).heap.size) →
            (w'.cell? ⟨w.heap.size+1+1,0,none⟩=some (.slice ao L.length co)∧w'.frozen? ⟨w.heap.size+1+1,0,none⟩=false) ∧
            ((L ++ [(c,Value.slice at5 c.temps.length kt5,Value.slice as5 c.stack.length ks5)]).map (·.1)=h.calls.take (k+1)∧CallRow (w.heap.size+3) (w'.setCell ⟨w.heap.size+1+1,0,none⟩ v') v' (L ++ [(c,Value.slice at5 c.temps.length kt5,Value.slice as5 c.stack.length ks5)])∧(∀j,(hj:j<(L ++ [(c,Value.slice at5 c.temps.length kt5,Value.slice as5 c.stack.length ks5)]).length)→PairRow (w.heap.size+3) (w'.setCell ⟨w.heap.size+1+1,0,none⟩ v') (L ++ [(c,Value.slice at5 c.temps.length kt5,Value.slice as5 c.stack.length ks5)])[j].2.1 (L ++ [(c,Value.slice at5 c.temps.length kt5,Value.slice as5 c.stack.length ks5)])[j].1.temps∧PairRow (w.heap.size+3) (w'.setCell ⟨w.heap.size+1+1,0,none⟩ v') (L ++ [(c,Value.slice at5 c.temps.length kt5,Value.slice as5 c.stack.length ks5)])[j].2.2 (L ++ [(c,Value.slice at5 c.temps.length kt5,Value.slice as5 c.stack.length ks5)])[j].1.stack)∧ApartL (L ++ [(c,Value.slice at5 c.temps.length kt5,Value.slice as5 c.stack.length ks5)]) v'∧(w'.setCell ⟨w.heap.size+1+1,0,none⟩ v').rowIs (w.heap.size+1+1) 29 5 (five v' (.int .i64 h.now) (.int .i64 h.born) (.slice aD h.said.length kD) (.int .i64 h.code))∧(w'.setCell ⟨w.heap.size+1+1,0,none⟩ v').rowIs w.heap.size 29 5 (five (.slice (some ⟨b,o',none⟩) h.calls.length kc) (.int .i64 h.now) (.int .i64 h.born) (.slice aD h.said.length kD) (.int .i64 h.code))∧(w'.setCell ⟨w.heap.size+1+1,0,none⟩ v').rowIs (w.heap.size+1) 29 5 (five (.slice none 0 0) (.int .i64 0) (.int .i64 0) (.slice none 0 0) (.int .i64 0))∧Below w.heap.size w (w'.setCell ⟨w.heap.size+1+1,0,none⟩ v')))):=fun w5 at5 as5 kt5 ks5 hb5 hp5 hq5 hap5=>by
        have hb5':Below wr.heap.size wr w5:=(Below.refl wr.heap.size wr).drew.trans hb5
        have hz5:=hb5'.size
        have N:=(Below.refl w5.heap.size w5).alloc (Nat.le_refl _) (.cells #[.int .i64 c.m,.int .i64 c.pc,.slice at5 c.temps.length kt5,.slice as5 c.stack.length ks5,.int .i64 c.sender,.bool c.dead] 37)
        have hX:Below wr.heap.size wr (w5.alloc (.cells #[.int .i64 c.m,.int .i64 c.pc,.slice at5 c.temps.length kt5,.slice as5 c.stack.length ks5,.int .i64 c.sender,.bool c.dead] 37)):=hb5'.trans (N.mono hz5)
        have hzX:=hX.size
        have hz1:(w5.alloc (.cells #[.int .i64 c.m,.int .i64 c.pc,.slice at5 c.temps.length kt5,.slice as5 c.stack.length ks5,.int .i64 c.sender,.bool c.dead] 37)).heap.size=w5.heap.size+1:=by simp
        refine⟨⟨cell_below hb5' o0,by omega⟩,hrow.below hX,cells6_of (six_new w5 37 _ _ _ _ _ _),by omega,fun v' w' hr hg hv'=>?_⟩
        have hzg:=hg.size
        have hbl:∀q,q<wr.heap.size→(Value.slice ao L.length co).ownBlock≠some q→w'.heap[q]?=wr.heap[q]?:=fun q h1 h2=>(hg.block q (by omega) (fun e=>h2 e.symm)).trans (hX.block q h1)
        have hno:∀q,q<w.heap.size+3→(Value.slice ao L.length co).ownBlock≠some q:=fun q hq e=>by have:=(hrow.lt q e).1;omega
        have hvn:∀q,v'.ownBlock=some q→(Value.slice ao L.length co).ownBlock=some q∨w5.heap.size+1≤q:=fun q e=>by
          rcases hv' with x | x
          · exact .inl (by rw[←x];exact e)
          · rw[x] at e;cases e;exact .inr (by omega)
        have hv3:∀q,v'.ownBlock=some q→w.heap.size+3≤q:=fun q e=>(hr.lt q e).1
        have ro':=ro.of_block (hbl _ ro.lt (hno _ (by omega)))
        have rh':=rh.of_block (hbl _ rh.lt (hno _ (by omega)))
        have rr':=rr.of_block (hbl _ rr.lt (hno _ (by omega)))
        obtain⟨⟨z0,_⟩,zf0,_⟩:=five_cells ro'
        have hsb:∀q,q≠w.heap.size+1+1→(w'.setCell ⟨w.heap.size+1+1,0,none⟩ v').heap[q]?=w'.heap[q]?:=fun q hq=>Below.heap_setCell _ _ _ _ hq
        have hP:∀{v:Value} {xs:List (Int × Int)},PairRow (w.heap.size+3) w' v xs→PairRow (w.heap.size+3) (w'.setCell ⟨w.heap.size+1+1,0,none⟩ v') v xs:=fun hp=>hp.set_other _ (fun e=>by have:=(hp.lt _ e).1;simp at this;omega)
        refine⟨⟨z0,zf0⟩,?_,hr.kept (by simp[World.setCell]) (fun q e=>hsb q (by have:=(hr.lt q e).1;omega)),fun j hj=>?_,?_,five_set0 ro' v',rh'.of_block (hsb _ (by omega)),rr'.of_block (hsb _ (by omega)),?_⟩
        · rw[List.map_append,HMAP.out,HTK.out]
          rfl
        · by_cases e:j<L.length
          · rw[List.getElem_append_left e]
            obtain⟨p1,p2⟩:=HLS.out j e
            have a0:=HAP.out (j * 2) (by omega)
            have a1:=HAP.out (j * 2+1) (by omega)
            have hget:L.getD j (Cl.none,.slice none 0 0,.slice none 0 0)=L[j]:=by simp[e]
            rw[lst_0,hget] at a0
            rw[lst_1,hget] at a1
            exact⟨hP (p1.kept (by omega) fun q h1=>hbl q (p1.lt q h1).2 (a0 q h1).1),hP (p2.kept (by omega) fun q h1=>hbl q (p2.lt q h1).2 (a1 q h1).1)⟩
          · rw[List.getElem_append_right (by omega)]
            simp only[List.getElem_singleton]
            have hd:wr.drew.heap.size=wr.heap.size:=rfl
            have hnb:∀q,wr.heap.size≤q→q<w5.heap.size→w'.heap[q]?=w5.heap[q]?:=fun q h1 h2=>(hg.block q (by omega) (fun e=>by have:=(hrow.lt q e.symm).2;omega)).trans (N.block q h2)
            exact⟨hP ((hp5.kept (by omega) fun q e=>hnb q (hp5.lt q e).1 (hp5.lt q e).2).mono (by omega)),hP ((hq5.kept (by omega) fun q e=>hnb q (hq5.lt q e).1 (hq5.lt q e).2).mono (by omega))⟩
        · exact apart_snoc (S:=wr.heap.size) (S':=w5.heap.size+1) HAP.out HLT (fun q e=>⟨(hp5.lt q e).1,by have:=(hp5.lt q e).2;omega⟩) (fun q e=>⟨(hq5.lt q e).1,by have:=(hq5.lt q e).2;omega⟩) hap5 (fun q e=>(hrow.lt q e).2) hvn (by omega)
        · have bX:Below w.heap.size w (w5.alloc (.cells #[.int .i64 c.m,.int .i64 c.pc,.slice at5 c.temps.length kt5,.slice as5 c.stack.length ks5,.int .i64 c.sender,.bool c.dead] 37)):=hb.trans (hX.mono hzw)
          exact(bX.grown hg (by omega) (fun q e=>by have:=(hrow.lt q e).1;omega)).setCell (p:=⟨w.heap.size+1+1,0,none⟩) (by simp;omega) v'
      clear HTK HLT
      go_wp2_with fail
      go_region_law (first
        | (refine step_call _ (by rfl) _ _ (by rfl) (w.heap.size+3) _ L (c,Value.slice at5 c.temps.length kt5,Value.slice as5 c.stack.length ks5) (by rfl) w5.heap.size 1 (by rfl) hrow5 rfl rfl hcell5 hLb hB5 ?_;intro v' w' hr hg hbk;obtain⟨a',c',hv',_⟩:=hr.slice;simp only[List.length_append,List.length_cons,List.length_nil,Nat.zero_add] at hv';subst hv';obtain⟨⟨z0,zf0⟩,hINV⟩:=HE.out _ w' hr hg hbk)
        | (go_simp;go_at_call 65;refine hCp.mono ?_;rintro e w5 ⟨vt5,vs5,rfl,hp5,hq5,hap5,hb5⟩;obtain⟨at5,kt5,hvt5,_⟩:=hp5.slice;obtain⟨as5,ks5,hvs5,_⟩:=hq5.slice;subst hvt5 hvs5;obtain⟨⟨w50,w5b⟩,hrow5,hcell5,hB5,hE5⟩:=H5.out w5 at5 as5 kt5 ks5 hb5 hp5 hq5 hap5;have HE:Hid _:=hE5;clear hE5 hp5 hq5 hap5 hb5))
      all_goals
        obtain⟨i1,i2,i3,i4,i5,i6,i7,i8⟩:=hINV
        clear z0 zf0 hr hg hbk HE
        generalize w'.setCell ⟨w.heap.size+1+1,0,none⟩ (.slice a' (L.length+1) c')=W9 at *
        go_wp2
        go_roundg (h.calls.length - (k+1))
        case measure=>omega
        case rel=>exact⟨k+1,_,_,by omega,rfl,by go_num,i1,i2,i3,i4,i5,i6,i7,i8⟩
    · obtain rfl:k=h.calls.length:=by omega
      have hoc:=hrow.own HLS.out HAP.out
      rw[HMAP.out,List.take_length] at hoc
      have hlz:L.length=h.calls.length:=HLL.out
      have N6:Below wr.heap.size wr (wr.alloc (.cells #[] 98)):=(Below.refl _ _).alloc (Nat.le_refl _) _
      have mk6:=PairRow.made (B:=wr.heap.size) (w:=wr) (e:=98) (Nat.le_refl _)
      have hS6:=(hh.s.below hb).below N6
      have hzh:=rh.lt
      have hzq:=rr.lt
      clear hlt
      go_upto_region 7 with fail
      go_upto_region 8 with(at_builtin;refine append_vals _ (by rfl) _ _ (by rfl) wr.heap.size _ _ [] h.said (by rfl) (by rfl) mk6 hS6 (by simp;omega) (by simp) ?_;intro v6 w6 hrow6 hg6 hb6;rw[List.nil_append] at hrow6;obtain⟨a6,c6,hv6,_⟩:=hrow6.slice;subst hv6;have b6:Below wr.heap.size wr w6:=N6.grown hg6 N6.size (fun q e=>(mk6.lt q e).1);obtain⟨⟨y0,y1,y2,y3,y4⟩,yf0,yf1,yf2,yf3,yf4⟩:=five_cells (row_below b6 ro))
      have hz6:=b6.size
      have ro7:=five_set3 (row_below b6 ro) (.slice a6 h.said.length c6)
      have rr7:=(row_below b6 rr).of_block (Below.heap_setCell w6 ⟨w.heap.size+1+1,3,none⟩ (.slice a6 h.said.length c6) _ (by simp))
      have hs7:=hrow6.set_other (p:=⟨w.heap.size+1+1,3,none⟩) (.slice a6 h.said.length c6) (fun e=>by have:=(hrow6.lt _ e).1;simp at this;omega)
      have b7:=(hb.trans (b6.mono hzw)).setCell (p:=⟨w.heap.size+1+1,3,none⟩) (by simp;omega) (.slice a6 h.said.length c6)
      have ho7:=(hoc.below b6).kept (w':=w6.setCell ⟨w.heap.size+1+1,3,none⟩ (.slice a6 h.said.length c6)) (by simp[World.setCell]) (fun q e=>Below.heap_setCell _ _ _ _ (fun e2=>by have:=(hoc.lt e).1;have e3:q=w.heap.size+1+1:=e2;omega))
      have HLTc:Hid (∀q,CallBlocks (.slice ao L.length co) h.calls.length (fun i=>(L.getD i (Cl.none,.slice none 0 0,.slice none 0 0)).2) q→w.heap.size+3≤q∧q<wr.heap.size):=fun q e=>hoc.lt e
      clear hrow6 hg6 hb6 y0 y1 y2 y3 y4 yf0 yf1 yf2 yf3 yf4 hoc
      generalize w6.setCell ⟨w.heap.size+1+1,3,none⟩ (.slice a6 h.said.length c6)=W7 at *
      obtain⟨⟨y0,y1,y2,y3,y4⟩,_⟩:=five_cells ro7
      obtain⟨⟨r0,r1,r2,r3,r4⟩,g0,g1,g2,g3,g4⟩:=five_cells rr7
      go_wp2
      have hz1:w.heap.size≤w.heap.size+1:=Nat.le_succ _
      rw[hlz] at ho7
      have HLT2:∀q,CallBlocks (.slice ao h.calls.length co) h.calls.length (fun i=>(L.getD i (Cl.none,Value.slice none 0 0,Value.slice none 0 0)).2) q→q<wr.heap.size:=fun q e=>(HLTc.out q (by rw[hlz];exact e)).2
      have nP:(Value.slice a6 h.said.length c6).ownBlock≠some (w.heap.size+1):=fun e=>by have:=(hs7.lt _ e).1;omega
      have RF:=(five_set4 (five_set3 (five_set2 (five_set1 (five_set0 rr7 (.slice ao h.calls.length co)) (.int .i64 h.now)) (.int .i64 h.born)) (.slice a6 h.said.length c6)) (.int .i64 h.code))
      have BF:=(((((b7.setCell (p:=⟨w.heap.size+1,0,none⟩) hz1 (.slice ao h.calls.length co)).setCell (p:=⟨w.heap.size+1,1,none⟩) hz1 (.int .i64 h.now)).setCell (p:=⟨w.heap.size+1,2,none⟩) hz1 (.int .i64 h.born)).setCell (p:=⟨w.heap.size+1,3,none⟩) hz1 (.slice a6 h.said.length c6)).setCell (p:=⟨w.heap.size+1,4,none⟩) hz1 (.int .i64 h.code))
      have PF:=PairRow.mono (B':=w.heap.size) (((((hs7.set_other (p:=⟨w.heap.size+1,0,none⟩) (.slice ao h.calls.length co) nP).set_other (p:=⟨w.heap.size+1,1,none⟩) (.int .i64 h.now) nP).set_other (p:=⟨w.heap.size+1,2,none⟩) (.int .i64 h.born) nP).set_other (p:=⟨w.heap.size+1,3,none⟩) (.slice a6 h.said.length c6) nP).set_other (p:=⟨w.heap.size+1,4,none⟩) (.int .i64 h.code) nP) (by omega)
      have OF:=OwnCalls.lower (ho7.kept (w':=(((((W7.setCell ⟨w.heap.size+1,0,none⟩ (.slice ao h.calls.length co)).setCell ⟨w.heap.size+1,1,none⟩ (.int .i64 h.now)).setCell ⟨w.heap.size+1,2,none⟩ (.int .i64 h.born)).setCell ⟨w.heap.size+1,3,none⟩ (.slice a6 h.said.length c6)).setCell ⟨w.heap.size+1,4,none⟩ (.int .i64 h.code))) (by simp[World.setCell]) (fun g e=>by
        have hne:g≠w.heap.size+1:=by have:=(ho7.lt e).1;omega
        rw[Below.heap_setCell _ _ _ _ hne,Below.heap_setCell _ _ _ _ hne,Below.heap_setCell _ _ _ _ hne,Below.heap_setCell _ _ _ _ hne,Below.heap_setCell _ _ _ _ hne])) (B':=w.heap.size) (by omega)
      have hapF:∀g,(Value.slice a6 h.said.length c6).ownBlock=some g→¬CallBlocks (.slice ao h.calls.length co) h.calls.length (fun i=>(L.getD i (Cl.none,Value.slice none 0 0,Value.slice none 0 0)).2) g:=fun g e e2=>by have h1:=(hs7.lt g e).1;have h2:=HLT2 g e2;omega
      generalize (((((W7.setCell ⟨w.heap.size+1,0,none⟩ (.slice ao h.calls.length co)).setCell ⟨w.heap.size+1,1,none⟩ (.int .i64 h.now)).setCell ⟨w.heap.size+1,2,none⟩ (.int .i64 h.born)).setCell ⟨w.heap.size+1,3,none⟩ (.slice a6 h.said.length c6)).setCell ⟨w.heap.size+1,4,none⟩ (.int .i64 h.code))=WF at *
      obtain⟨⟨q0,q1,q2,q3,q4⟩,_⟩:=five_cells RF
      exact bodyPost_ret (v:=.agg #[.slice ao h.calls.length co,.int .i64 h.now,.int .i64 h.born,.slice a6 h.said.length c6,.int .i64 h.code]) (by simp[results,Tryz.results160,go_sem,q0,q1,q2,q3,q4]) rfl ⟨⟨.slice ao h.calls.length co,.slice a6 h.said.length c6,(fun i=>(L.getD i (Cl.none,Value.slice none 0 0,Value.slice none 0 0)).2),rfl,⟨OF,PF,hapF⟩⟩,BF⟩
set_option maxRecDepth 100000 in
set_option maxHeartbeats 8000000 in
theorem specHeapRun_any (vp vc vs:Value) (ms:Ms) (h:Hp) (n:Int) (w:World) (hp:MethsAt w vp ms) (hh:HeapAt w vc vs h) (hn:h.calls.length≤1048576) (hsd:h.said.length≤1048576) :
    Calls Tryz.prog 110 #[.agg #[vp],.agg (hpCells vc vs h),.int .i64 n] w fun e w'=>(∃vc' vs' V',e=.returned (.tuple #[.agg (hpCells vc' vs' (hRun ms h n)),.bool (heapOk ms h && inR n 0 400)])∧OwnHeap w.heap.size w' vc' vs' (hRun ms h n) V')∧Below w.heap.size w w':=by
  obtain⟨ac,kc,hvc⟩:=hh.c.shape
  obtain⟨aD,kD,hvs⟩:=hh.s.shape
  obtain⟨ap,cp,hvp,hlp,_⟩:=id hp
  subst hvc hvs hvp
  unfold hpCells
  have hA:Below w.heap.size w (((w.alloc (.cells #[.slice ap ms.length cp] 25)).alloc (.cells #[.slice ac h.calls.length kc,.int .i64 h.now,.int .i64 h.born,.slice aD h.said.length kD,.int .i64 h.code] 29)).alloc (.cells #[.slice none 0 0,.int .i64 0,.int .i64 0,.slice none 0 0,.int .i64 0] 29)):=(((Below.refl _ _).alloc (Nat.le_refl _) _).alloc (by simp) _).alloc (by simp;omega) _
  have bp:(((w.alloc (.cells #[.slice ap ms.length cp] 25)).alloc (.cells #[.slice ac h.calls.length kc,.int .i64 h.now,.int .i64 h.born,.slice aD h.said.length kD,.int .i64 h.code] 29)).alloc (.cells #[.slice none 0 0,.int .i64 0,.int .i64 0,.slice none 0 0,.int .i64 0] 29)).cell? ⟨w.heap.size,0,none⟩=some (.slice ap ms.length cp):=by simp[go_sem]
  have bh:(((w.alloc (.cells #[.slice ap ms.length cp] 25)).alloc (.cells #[.slice ac h.calls.length kc,.int .i64 h.now,.int .i64 h.born,.slice aD h.said.length kD,.int .i64 h.code] 29)).alloc (.cells #[.slice none 0 0,.int .i64 0,.int .i64 0,.slice none 0 0,.int .i64 0] 29)).rowIs (w.heap.size+1) 29 5 (five (.slice ac h.calls.length kc) (.int .i64 h.now) (.int .i64 h.born) (.slice aD h.said.length kD) (.int .i64 h.code)):=by
    have:=(five_new (w.alloc (.cells #[.slice ap ms.length cp] 25)) 29 (.slice ac h.calls.length kc) (.int .i64 h.now) (.int .i64 h.born) (.slice aD h.said.length kD) (.int .i64 h.code)).alloc (.cells #[.slice none 0 0,.int .i64 0,.int .i64 0,.slice none 0 0,.int .i64 0] 29)
    simpa only [World.size_alloc] using this
  have bz:(((w.alloc (.cells #[.slice ap ms.length cp] 25)).alloc (.cells #[.slice ac h.calls.length kc,.int .i64 h.now,.int .i64 h.born,.slice aD h.said.length kD,.int .i64 h.code] 29)).alloc (.cells #[.slice none 0 0,.int .i64 0,.int .i64 0,.slice none 0 0,.int .i64 0] 29)).rowIs (w.heap.size+1+1) 29 5 (five (.slice none 0 0) (.int .i64 0) (.int .i64 0) (.slice none 0 0) (.int .i64 0)):=by
    have:=five_new ((w.alloc (.cells #[.slice ap ms.length cp] 25)).alloc (.cells #[.slice ac h.calls.length kc,.int .i64 h.now,.int .i64 h.born,.slice aD h.said.length kD,.int .i64 h.code] 29)) 29 (.slice none 0 0) (.int .i64 0) (.int .i64 0) (.slice none 0 0) (.int .i64 0)
    simpa only [World.size_alloc] using this
  have hz0:(((w.alloc (.cells #[.slice ap ms.length cp] 25)).alloc (.cells #[.slice ac h.calls.length kc,.int .i64 h.now,.int .i64 h.born,.slice aD h.said.length kD,.int .i64 h.code] 29)).alloc (.cells #[.slice none 0 0,.int .i64 0,.int .i64 0,.slice none 0 0,.int .i64 0] 29)).heap.size=w.heap.size+3:=by simp
  go_enter Tryz.func110,Tryz.ntmps110
  go_upto_region 1 with fail
  generalize (((w.alloc (.cells #[.slice ap ms.length cp] 25)).alloc (.cells #[.slice ac h.calls.length kc,.int .i64 h.now,.int .i64 h.born,.slice aD h.said.length kD,.int .i64 h.code] 29)).alloc (.cells #[.slice none 0 0,.int .i64 0,.int .i64 0,.slice none 0 0,.int .i64 0] 29))=W0 at *
  obtain⟨⟨x0,x1,x2,x3,x4⟩,_⟩:=five_cells bh
  have zA:=hA.size
  go_wp2_with fail
  refine(specHeapOk_any _ _ _ ms h _ (hp.below hA) (hh.below hA) hn).mono ?_
  rintro e w1 ⟨rfl,hb1⟩
  have hB1:Below w.heap.size w w1:=hA.trans (hb1.mono zA)
  have bp1:=cell_below hb1 bp
  have bh1:=row_below hb1 bh
  have bz1:=row_below hb1 bz
  have z1:=hb1.size
  clear hA bp bh bz x0 x1 x2 x3 x4
  obtain⟨⟨x0,x1,x2,x3,x4⟩,_⟩:=five_cells bh1
  obtain⟨⟨t0,t1,t2,t3,t4⟩,j0,j1,j2,j3,j4⟩:=five_cells bz1
  have hz2:w.heap.size≤w.heap.size+1+1:=by omega
  have RF:=(five_set4 (five_set3 (five_set2 (five_set1 (five_set0 bz1 (.slice none 0 0)) (.int .i64 0)) (.int .i64 0)) (.slice none 0 0)) (.int .i64 0))
  have BF:=(((((hB1.setCell (p:=⟨w.heap.size+1+1,0,none⟩) hz2 (.slice none 0 0)).setCell (p:=⟨w.heap.size+1+1,1,none⟩) hz2 (.int .i64 0)).setCell (p:=⟨w.heap.size+1+1,2,none⟩) hz2 (.int .i64 0)).setCell (p:=⟨w.heap.size+1+1,3,none⟩) hz2 (.slice none 0 0)).setCell (p:=⟨w.heap.size+1+1,4,none⟩) hz2 (.int .i64 0))
  cases h1:heapOk ms h
  · have hR:Hid (hRun ms h n=⟨[],0,0,[],0⟩):=by show _=_;simp[hRun,h1]
    have hE:Hid ((heapOk ms h && inR n 0 400)=false):=by show _=_;simp[h1]
    go_wp2
    generalize (((((w1.setCell ⟨w.heap.size+1+1,0,none⟩ (.slice none 0 0)).setCell ⟨w.heap.size+1+1,1,none⟩ (.int .i64 0)).setCell ⟨w.heap.size+1+1,2,none⟩ (.int .i64 0)).setCell ⟨w.heap.size+1+1,3,none⟩ (.slice none 0 0)).setCell ⟨w.heap.size+1+1,4,none⟩ (.int .i64 0))=WF at *
    obtain⟨⟨q0,q1,q2,q3,q4⟩,_⟩:=five_cells RF
    exact bodyPost_ret (v:=.tuple #[.agg #[.slice none 0 0,.int .i64 0,.int .i64 0,.slice none 0 0,.int .i64 0],.bool false]) (by simp[results,Tryz.results110,go_sem,q0,q1,q2,q3,q4]) rfl ⟨⟨.slice none 0 0,.slice none 0 0,_,by rw[hR.out,hE.out],by rw[hR.out];exact OwnHeap.none _ _⟩,BF⟩
  cases h2:inR n 0 400
  · have hR:Hid (hRun ms h n=⟨[],0,0,[],0⟩):=by show _=_;simp[hRun,h2]
    have hE:Hid ((heapOk ms h && inR n 0 400)=false):=by show _=_;simp[h2]
    go_wp2_with (go_at_call 57;refine(l6In_any _ _ _ _).mono ?_;rintro e w' ⟨rfl,hw⟩;obtain rfl:=hw.symm)
    generalize (((((w1.setCell ⟨w.heap.size+1+1,0,none⟩ (.slice none 0 0)).setCell ⟨w.heap.size+1+1,1,none⟩ (.int .i64 0)).setCell ⟨w.heap.size+1+1,2,none⟩ (.int .i64 0)).setCell ⟨w.heap.size+1+1,3,none⟩ (.slice none 0 0)).setCell ⟨w.heap.size+1+1,4,none⟩ (.int .i64 0))=WF at *
    obtain⟨⟨q0,q1,q2,q3,q4⟩,_⟩:=five_cells RF
    exact bodyPost_ret (v:=.tuple #[.agg #[.slice none 0 0,.int .i64 0,.int .i64 0,.slice none 0 0,.int .i64 0],.bool false]) (by simp[results,Tryz.results110,go_sem,q0,q1,q2,q3,q4]) rfl ⟨⟨.slice none 0 0,.slice none 0 0,_,by rw[hR.out,hE.out],by rw[hR.out];exact OwnHeap.none _ _⟩,BF⟩
  clear RF BF
  have hR:Hid (hRun ms h n=runH ms n.toNat h):=by show _=_;simp[hRun,h1,h2]
  have hE:Hid ((heapOk ms h && inR n 0 400)=true):=by show _=_;simp[h1,h2]
  have hg:=good_iff.1 h1
  have hn':=inR_true.1 h2
  obtain⟨N,rfl⟩:=Int.eq_ofNat_of_zero_le hn'.1
  have hN:N≤400:=by omega
  have hl:=hg.lens
  go_upto_region 2 with(go_at_call 57;refine(l6In_any _ _ _ _).mono ?_;rintro e w' ⟨rfl,hw⟩;obtain rfl:=hw.symm)
  have hD:Below w1.heap.size w1 w1.drew:=(Below.refl _ _).drew
  have hAn:=l11Anew_any _ _ h w1.drew ((hh.below hB1).below hD) (by omega) (fun i hi=>by have:=hl.2 i hi;omega) (by omega)
  have hdz:w1.drew.heap.size=w1.heap.size:=rfl
  rw[hdz] at hAn
  unfold hpCells at hAn
  have H2:Hid (∀w2 vc2 vs2 V2,OwnHeap w1.heap.size w2 vc2 vs2 h V2→Below w1.heap.size w1.drew w2 →
      (w2.cell? ⟨w.heap.size,0,none⟩=some (.slice ap ms.length cp))∧Hid (SM (fun _=>False) w1.heap.size (w2.alloc (.cells #[.slice ap ms.length cp,vc2,.int .i64 h.now,.int .i64 h.born,vs2,.int .i64 h.code] 216)) w2.heap.size (.slice ap ms.length cp) vc2 vs2 ms h V2∧Below w1.heap.size w1 (w2.alloc (.cells #[.slice ap ms.length cp,vc2,.int .i64 h.now,.int .i64 h.born,vs2,.int .i64 h.code] 216)))):=by
    intro w2 vc2 vs2 V2 ho2 hb2
    have hb2':=hD.trans hb2
    have hal:Below w2.heap.size w2 (w2.alloc (.cells #[.slice ap ms.length cp,vc2,.int .i64 h.now,.int .i64 h.born,vs2,.int .i64 h.code] 216)):=(Below.refl _ _).alloc (Nat.le_refl _) _
    have hB3:=hb2'.trans (hal.mono hb2'.size)
    exact⟨cell_below hb2' bp1,⟨six_new _ _ _ _ _ _ _ _,hb2'.size,ho2.below hal,fun e=>by have:=(ho2.lt e).2;omega,fun q hq=>hq.elim,w1,hp.below hB1,Nat.le_refl _,hB3⟩,hB3⟩
  clear hD hdz
  go_region_law (go_simp;go_at_call 160;refine hAn.mono ?_;rintro e w2 ⟨⟨vc2,vs2,V2,rfl,ho2⟩,hb2⟩;obtain⟨a2,c2,hv2⟩:=ho2.at.c.shape;obtain⟨a3,c3,hv3⟩:=ho2.at.s.shape;subst hv2 hv3;obtain⟨bp2,HS⟩:=H2.out w2 _ _ V2 ho2 hb2;clear ho2 hb2)
  all_goals
    obtain⟨k3,hb3⟩:=HS.out
    clear h1 h2 HS bp2 H2 hAn
    have hlt2:w2.heap.size<(w2.alloc (.cells #[.slice ap ms.length cp,.slice a2 h.calls.length c2,.int .i64 h.now,.int .i64 h.born,.slice a3 h.said.length c3,.int .i64 h.code] 216)).heap.size:=k3.box.lt
    generalize w2.alloc (.cells #[.slice ap ms.length cp,.slice a2 h.calls.length c2,.int .i64 h.now,.int .i64 h.born,.slice a3 h.said.length c3,.int .i64 h.code] 216)=W3 at *
    generalize w2.heap.size=bo at *
    go_wp2
    go_loopg [9] N (fun d i wr=>∃(k:Nat) (vc' vs':Value) (V':Nat→Value × Value),k≤N∧d=N - k∧i=.int .i64 k∧SM (fun _=>False) w1.heap.size wr bo (.slice ap ms.length cp) vc' vs' ms (runH ms k h) V'∧Below w1.heap.size w1 wr)
    case atStart=>exact⟨0,_,_,_,Nat.zero_le _,rfl,rfl,k3,hb3⟩
    case round =>
      obtain⟨k,vc',vs',V',hk,rfl,rfl,kk,hbr⟩:=hrel
      have hgk:=Good.run k h hg
      have hsk:=said_run ms k h
      have HSN:Hid ((runH ms k h).code=0→runH ms (k+1) h=stepH ms (runH ms k h)):=run_snoc ms k h
      have HST:Hid ((runH ms k h).code≠0→runH ms N h=runH ms k h):=run_stay ms N k h hk
      have HKN:Hid (k=N→runH ms N h=runH ms k h):=fun e=>by rw[e]
      generalize runH ms k h=H at *
      obtain⟨a5,c5,hv5⟩:=kk.own.at.c.shape
      obtain⟨a6,c6,hv6⟩:=kk.own.at.s.shape
      subst hv5 hv6
      obtain⟨⟨y0,y1,y2,y3,y4,y5⟩,_⟩:=six_cells kk.box
      have hzr:=hbr.size
      have HEND:Hid (runH ms N h=H→∃WF:World,WF=(((((wr.setCell ⟨w.heap.size+1+1,0,none⟩ (.slice a5 H.calls.length c5)).setCell ⟨w.heap.size+1+1,1,none⟩ (.int .i64 H.now)).setCell ⟨w.heap.size+1+1,2,none⟩ (.int .i64 H.born)).setCell ⟨w.heap.size+1+1,3,none⟩ (.slice a6 H.said.length c6)).setCell ⟨w.heap.size+1+1,4,none⟩ (.int .i64 H.code))∧WF.rowIs (w.heap.size+1+1) 29 5 (five (.slice a5 H.calls.length c5) (.int .i64 H.now) (.int .i64 H.born) (.slice a6 H.said.length c6) (.int .i64 H.code))∧OwnHeap w.heap.size WF (.slice a5 H.calls.length c5) (.slice a6 H.said.length c6) H V'∧Below w.heap.size w WF):=by
        intro _
        have hne:∀g,HeapBlocks (.slice a5 H.calls.length c5) (.slice a6 H.said.length c6) H.calls.length V' g→g≠w.heap.size+1+1:=fun g e=>by have:=(kk.own.lt e).1;omega
        have hBr:=hB1.trans (hbr.mono hB1.size)
        refine⟨_,rfl,(five_set4 (five_set3 (five_set2 (five_set1 (five_set0 (bz1.of_block (hbr.block _ bz1.lt)) (.slice a5 H.calls.length c5)) (.int .i64 H.now)) (.int .i64 H.born)) (.slice a6 H.said.length c6)) (.int .i64 H.code)),?_,(((((hBr.setCell (p:=⟨w.heap.size+1+1,0,none⟩) hz2 (.slice a5 H.calls.length c5)).setCell (p:=⟨w.heap.size+1+1,1,none⟩) hz2 (.int .i64 H.now)).setCell (p:=⟨w.heap.size+1+1,2,none⟩) hz2 (.int .i64 H.born)).setCell (p:=⟨w.heap.size+1+1,3,none⟩) hz2 (.slice a6 H.said.length c6)).setCell (p:=⟨w.heap.size+1+1,4,none⟩) hz2 (.int .i64 H.code))⟩
        have OK:=kk.own.kept (w':=(((((wr.setCell ⟨w.heap.size+1+1,0,none⟩ (.slice a5 H.calls.length c5)).setCell ⟨w.heap.size+1+1,1,none⟩ (.int .i64 H.now)).setCell ⟨w.heap.size+1+1,2,none⟩ (.int .i64 H.born)).setCell ⟨w.heap.size+1+1,3,none⟩ (.slice a6 H.said.length c6)).setCell ⟨w.heap.size+1+1,4,none⟩ (.int .i64 H.code))) (by simp[World.setCell]) (fun g e=>by
          have hne':=hne g e
          rw[Below.heap_setCell _ _ _ _ hne',Below.heap_setCell _ _ _ _ hne',Below.heap_setCell _ _ _ _ hne',Below.heap_setCell _ _ _ _ hne',Below.heap_setCell _ _ _ _ hne'])
        exact⟨OK.c.lower hB1.size,OK.s.mono hB1.size,OK.apart⟩
      by_cases hlt:k<N
      · have hkz:(k:Int)<(N:Int):=by omega
        by_cases hc:H.code=0
        · have hst:=step_any kk hzr hgk hc (by omega)
          rw[←HSN.out hc] at hst
          go_wp2_with (go_at_call 161;refine hst.mono ?_;rintro e w' ⟨rfl,⟨vc3,vs3,V3,k4⟩,cm4⟩)
          go_roundg (N - (k+1))
          case measure=>omega
          case rel=>exact⟨k+1,_,_,_,by omega,rfl,by go_num,k4,hbr.trans cm4.b⟩
        · have hcb:(H.code == 0)=false:=by simp[hc]
          have HH:=HST.out hc
          obtain⟨WF,hWF,RF,OF,BF⟩:=HEND.out HH
          obtain⟨⟨z0,z1',z2,z3,z4⟩,g0,g1,g2,g3,g4⟩:=five_cells (bz1.of_block (hbr.block _ bz1.lt))
          go_wp2
          rw[←hWF]
          obtain⟨⟨q0,q1,q2,q3,q4⟩,_⟩:=five_cells RF
          exact bodyPost_ret (v:=.tuple #[.agg #[.slice a5 H.calls.length c5,.int .i64 H.now,.int .i64 H.born,.slice a6 H.said.length c6,.int .i64 H.code],.bool true]) (by simp[results,Tryz.results110,go_sem,q0,q1,q2,q3,q4]) rfl (by first | exact⟨⟨.slice a5 H.calls.length c5,.slice a6 H.said.length c6,V',by rw[hR.out,hE.out,Int.toNat_natCast,HH],by rw[hR.out,Int.toNat_natCast,HH];exact OF⟩,BF⟩ | exact⟨⟨.slice a5 H.calls.length c5,.slice a6 H.said.length c6,by rw[hR.out,hE.out,Int.toNat_natCast,HH],V',by rw[hR.out,Int.toNat_natCast,HH];exact OF⟩,BF⟩)
      · have hkz:¬((k:Int)<(N:Int)):=by omega
        have HH:=HKN.out (by omega)
        obtain⟨WF,hWF,RF,OF,BF⟩:=HEND.out HH
        obtain⟨⟨z0,z1',z2,z3,z4⟩,g0,g1,g2,g3,g4⟩:=five_cells (bz1.of_block (hbr.block _ bz1.lt))
        go_wp2
        rw[←hWF]
        obtain⟨⟨q0,q1,q2,q3,q4⟩,_⟩:=five_cells RF
        exact bodyPost_ret (v:=.tuple #[.agg #[.slice a5 H.calls.length c5,.int .i64 H.now,.int .i64 H.born,.slice a6 H.said.length c6,.int .i64 H.code],.bool true]) (by simp[results,Tryz.results110,go_sem,q0,q1,q2,q3,q4]) rfl (by first | exact⟨⟨.slice a5 H.calls.length c5,.slice a6 H.said.length c6,V',by rw[hR.out,hE.out,Int.toNat_natCast,HH],by rw[hR.out,Int.toNat_natCast,HH];exact OF⟩,BF⟩ | exact⟨⟨.slice a5 H.calls.length c5,.slice a6 H.said.length c6,by rw[hR.out,hE.out,Int.toNat_natCast,HH],V',by rw[hR.out,Int.toNat_natCast,HH];exact OF⟩,BF⟩)
end Go.Proofs.YtjbgpcileapogaaGreat

/-
  Rows of values of their own: values are appended to them; l11None and l11Call of the model.
-/
import Derived.Test.YtjbgpcileapogaaGreatProg
import Derived.Test.YtjbgpcileapogaaGreatCRow
import Derived.Test.YtjbgpcileapogaaGreatHCopy2
import Derived.Test.YtjbgpcileapogaaGreatInts
import Derived.Test.YtjbgpcileapogaaGreatIntsM
namespace Go.Proofs.YtjbgpcileapogaaGreat
open Go.RowKit
def pcells (ops:List (Int × Int)):List Value:=ops.flatMap fun o=>[.int .i64 o.1,.int .i64 o.2]
theorem pcells_append (a b:List (Int × Int)):pcells (a ++ b)=pcells a ++ pcells b:=by simp[pcells]
theorem pcells_length (a:List (Int × Int)):(pcells a).length=a.length * 2:=by
  induction a with
  | nil=>rfl
  | cons x l ih=>simp[pcells] at ih ⊢;omega
theorem pcells_at (a:List (Int × Int)):∀(i:Nat) (h:i<a.length),(pcells a)[i * 2]?=some (.int .i64 a[i].1)∧(pcells a)[i * 2+1]?=some (.int .i64 a[i].2):=by
  induction a with
  | nil=>intro i h;exact absurd h (Nat.not_lt_zero _)
  | cons x l ih =>
    intro i h
    cases i with
    | zero=>exact⟨rfl,rfl⟩
    | succ i =>
      have:=ih i (by simpa using h)
      rw[show(i+1) * 2=i * 2+2 by omega]
      exact this
theorem pcells_one (M:List (Int × Int)):∀u∈pcells M,u.oneCell'=true:=by
  intro u hu
  simp only[pcells,List.mem_flatMap] at hu
  obtain⟨x,_,hx⟩:=hu
  simp at hx
  rcases hx with rfl | rfl <;> rfl
theorem PairRow.crow {B:Nat} {w:World} {v:Value} {ops:List (Int × Int)} (h:PairRow B w v ops):CRow B 2 w v ops.length (pcells ops):=by
  refine⟨pcells_length ops,?_⟩
  rcases h with⟨rfl,rfl⟩ | ⟨g,off,cap,rfl,hB,hg,hl,hc,hsp,hx⟩
  · exact .inl ⟨rfl,rfl⟩
  · refine .inr ⟨g,off,cap,rfl,hB,hg,hl,hc,hsp,fun i hi=>?_⟩
    rw[pcells_length] at hi
    have h2:=pcells_at ops (i / 2) (by omega)
    have h3:=hx (i / 2) (by omega)
    rcases Nat.mod_two_eq_zero_or_one i with hm | hm
    · rw[show i / 2 * 2=i by omega] at h2
      rw[show off+i / 2 * 2=off+i by omega] at h3
      rw[h3.1,←h2.1,List.getElem?_eq_getElem]
    · rw[show i / 2 * 2+1=i by omega] at h2
      rw[show off+i / 2 * 2+1=off+i by omega] at h3
      rw[h3.2,←h2.2,List.getElem?_eq_getElem]
theorem CRow.pair {B:Nat} {w:World} {v:Value} {n:Nat} {ops:List (Int × Int)} (hn:n=ops.length) (h:CRow B 2 w v n (pcells ops)):PairRow B w v ops:=by
  subst hn
  rcases h.2 with⟨rfl,e⟩ | ⟨g,off,cap,rfl,hB,hg,hl,hc,hsp,hx⟩
  · exact .inl ⟨rfl,List.eq_nil_of_length_eq_zero e⟩
  · refine .inr ⟨g,off,cap,rfl,hB,hg,hl,hc,hsp,fun i hi=>?_⟩
    have h2:=pcells_at ops i hi
    have hp:=pcells_length ops
    have h3:=hx (i * 2) (by omega)
    have h4:=hx (i * 2+1) (by omega)
    rw[←Nat.add_assoc] at h4
    rw[h3,h4,←List.getElem?_eq_getElem,←List.getElem?_eq_getElem,h2.1,h2.2]
    exact⟨rfl,rfl⟩
theorem src_vals {P:Program} {tx e':TypeId} (hk:P.underlying tx=some (.slice e')) {w:World} {v:Value} {ops:List (Int × Int)} (h:OpsAt w v ops):Src P 2 tx v ops.length (pcells ops) w:=by
  obtain⟨a,cap,rfl,hl,hc⟩:=h
  cases a with
  | none =>
    cases ops with
    | nil=>exact Src.ofNil w hk cap
    | cons x l =>
      obtain⟨b,o,e,_⟩:=hc 0 (by simp)
      cases e
  | some ad =>
    refine Src.ofSlice w hk ad _ cap _ (pcells_length _) (fun j u hu=>?_) (pcells_one _)
    have hj:j<(pcells ops).length:=by
      by_cases h:j<(pcells ops).length
      · exact h
      · rw[List.getElem?_eq_none (by omega)] at hu;cases hu
    rw[pcells_length] at hj
    obtain⟨b,o,e,h0,h1⟩:=hc (j / 2) (by omega)
    obtain rfl:ad=⟨b,o,none⟩:=by injection e
    rw[Addr.add_lit]
    have h2:=pcells_at ops (j / 2) (by omega)
    rcases Nat.mod_two_eq_zero_or_one j with hm | hm
    · rw[show o+j / 2 * 2=o+j by omega] at h0
      rw[show j / 2 * 2=j by omega] at h2
      rw[h0,←h2.1];exact hu
    · rw[show o+j / 2 * 2+1=o+j by omega] at h1
      rw[show j / 2 * 2+1=j by omega] at h2
      rw[h1,←h2.2];exact hu
theorem run_append_vals {ty:TypeId} {B:Nat} {w:World} {v xv:Value} {L M:List (Int × Int)} (hown:PairRow B w v L) (hM:OpsAt w xv M) (hL:L.length+M.length≤3000000) (hB:B≤w.heap.size) :
    ∃v' w',(Builtin.append_ #[27,27] ty #[v,xv]).run Tryz.prog w=.ok v' w'∧PairRow B w' v' (L ++ M)∧w.grownBy w' v.ownBlock∧(v'.ownBlock=v.ownBlock∨v'.ownBlock=some w.heap.size):=by
  obtain⟨i0,hi,hz0,hz1,hz2⟩:=info_parts Tryz.infoVal
  have h1:=hown.crow
  have h2:=src_vals (P:=Tryz.prog) Tryz.underlying27 hM
  rw[←hz1] at h1 h2
  obtain⟨v',w',hr,hc,hg,hb⟩:=run_append_rows (P:=Tryz.prog) (ty:=ty) Tryz.underlying27 hi hz0 (by rw[hz1];rfl) (by rw[hz2];omega) h1 xv M.length (pcells M) h2 hL hB
  refine⟨v',w',hr,?_,hg,hb⟩
  rw[hz1,←pcells_append] at hc
  exact hc.pair (by simp)
theorem append_vals {ops:Array Oper} {rest:List Oper} {o:Oper} {act:Act} {Q:Exit→Act→World→Prop} (w:World) (hgd:o.guard=none) (s x:Operand)
    (ho:o.op=.call {callee:=.builtin .append,args:=#[s,x],argTypes:=#[27,27]}) (B:Nat) (v xv:Value) (L M:List (Int × Int)) (hs:act.eval s=v) (hx:act.eval x=xv) (hown:PairRow B w v L) (hM:OpsAt w xv M)
    (hL:L.length+M.length≤3000000) (hB:B≤w.heap.size)
    (h:∀v' w',PairRow B w' v' (L ++ M)→w.grownBy w' v.ownBlock→(v'.ownBlock=v.ownBlock∨v'.ownBlock=some w.heap.size)→wpList Tryz.prog ops Q rest (act.put o.dst v') w') :
    wpList Tryz.prog ops Q (o :: rest) act w:=by
  obtain⟨v',w',hr,h2,h3,h4⟩:=run_append_vals (ty:=o.type) hown hM hL hB
  refine wpList_plain hgd fun K hK=>?_
  unfold Oper.wp execOp
  simp only[ho,resolve,invoke,builtin,Sem.run_bind,Sem.run_pure,Result.andThen_ok,List.map_toArray,List.map_cons,List.map_nil,hs,hx,hr]
  exact hK _ _ (h v' w' h2 h3 h4)
theorem step_vals {ops:Array Oper} {o:Oper} {act:Act} {K:Act→World→Prop} {Q:Exit→Act→World→Prop} {E:Prop} (w:World) (hgd:o.guard=none) (s x:Operand)
    (ho:o.op=.call {callee:=.builtin .append,args:=#[s,x],argTypes:=#[27,27]}) (B:Nat) (v xv:Value) (L M:List (Int × Int)) (hs:act.eval s=v) (hx:act.eval x=xv) (hown:PairRow B w v L) (hM:OpsAt w xv M)
    (hL:L.length+M.length≤3000000) (hB:B≤w.heap.size)
    (h:∀v' w',PairRow B w' v' (L ++ M)→w.grownBy w' v.ownBlock→(v'.ownBlock=v.ownBlock∨v'.ownBlock=some w.heap.size)→K (act.put o.dst v') w') :
    if Region.wanted o (yielded ops act.tmps)=true then Oper.wp Tryz.prog o act w K Q else E:=by
  obtain⟨v',w',hr,h2,h3,h4⟩:=run_append_vals (ty:=o.type) hown hM hL hB
  rw[if_pos (by simp[Region.wanted,hgd])]
  unfold Oper.wp execOp
  simp only[ho,resolve,invoke,builtin,Sem.run_bind,Sem.run_pure,Result.andThen_ok,List.map_toArray,List.map_cons,List.map_nil,hs,hx,hr]
  exact h v' w' h2 h3 h4
theorem PairRow.made {B:Nat} {w:World} {e:TypeId} (hB:B≤w.heap.size):PairRow B (w.alloc (.cells #[] e)) (.slice (some ⟨w.heap.size,0,none⟩) 0 0) []:=(CRow.made hB).pair rfl
theorem one_at (w:World) (k q:Int) (e:TypeId) (c:Nat):OpsAt (w.alloc (.cells #[.int .i64 k,.int .i64 q] e)) (.slice (some ⟨w.heap.size,0,none⟩) 1 c) [(k,q)] :=
  ⟨_,c,rfl,by unfold maxLen;simp,fun i hi=>by
    obtain rfl:i=0:=by simpa using hi
    exact⟨w.heap.size,0,rfl,by simp[go_sem],by simp[go_sem]⟩⟩
set_option maxRecDepth 100000 in
set_option maxHeartbeats 3000000 in
theorem l11None_any (n:Nat) (w:World) (hn:n≤1000) :
    Calls Tryz.prog 176 #[.int .i64 (n:Int)] w fun e w'=>∃v,e=.returned v∧PairRow w.heap.size w' v (List.replicate n (0,0))∧Below w.heap.size w w':=by
  have mk:=PairRow.made (B:=w.heap.size) (w:=w) (e:=98) (Nat.le_refl _)
  have hA:Below w.heap.size w (w.alloc (.cells #[] 98)):=(Below.refl _ _).alloc (Nat.le_refl _) _
  go_enter Tryz.func176,Tryz.ntmps176
  go_wp2
  go_loopg [3,4] n (fun g o i wr=>∃k:Nat,k≤n∧g=n - k∧i=.int .i64 k∧PairRow w.heap.size wr o (List.replicate k (0,0))∧Below w.heap.size w wr)
  case atStart=>exact⟨0,Nat.zero_le _,rfl,rfl,mk,hA⟩
  case round =>
    obtain⟨k,hk,rfl,rfl,hrow,hb⟩:=hrel
    have hbz:=hb.size
    by_cases hlt:k<n
    · have hkz:(k:Int)<(n:Int):=by omega
      go_wp2_with (at_builtin;refine append_vals _ (by rfl) _ _ (by rfl) w.heap.size _ _ (List.replicate k (0,0)) [(0,0)] (by rfl) (by rfl) (hrow.below ((Below.refl _ _).alloc (Nat.le_refl _) _)) (one_at wr 0 0 _ _) (by simp;omega) (by simp;omega) ?_;intro v2 w2 hrow2 hg2 hb2)
      rw[←List.replicate_succ'] at hrow2
      have hb3:Below w.heap.size w w2:=(hb.alloc hb.size _).grown hg2 (by simp;omega) (fun q e=>(hrow.lt q e).1)
      clear hg2 hb2
      go_roundg (n - (k+1))
      case measure=>omega
      case rel=>exact⟨k+1,by omega,rfl,by go_num,hrow2,hb3⟩
    · obtain rfl:k=n:=by omega
      go_wp2
      go_ret
      exact⟨_,rfl,hrow,hb⟩
set_option maxRecDepth 100000 in
set_option maxHeartbeats 3000000 in
theorem l11Call_any (vp va:Value) (ms:List (Int × Int × List (Int × Int))) (m:Nat) (args:List (Int × Int)) (sender:Int) (t:Nat) (w:World) (hp:MethsAt w vp ms) (hm:m<ms.length) (ht:ms[m].2.1=(t:Int)) (ht4:t≤1000) (ha:OpsAt w va args) (hat:args.length≤t) :
    Calls Tryz.prog 159 #[.agg #[vp],.int .i64 (m:Int),va,.int .i64 sender] w fun e w'=>∃vt vs,e=.returned (.agg (clCells vt vs ⟨m,0,args ++ List.replicate (t - args.length) (0,0),[],sender,false⟩)) ∧
      PairRow w.heap.size w' vt (args ++ List.replicate (t - args.length) (0,0))∧PairRow w.heap.size w' vs []∧(∀g,vt.ownBlock=some g→vs.ownBlock≠some g)∧Below w.heap.size w w':=by
  obtain⟨ap,cp,rfl,hl,hc⟩:=id hp
  obtain⟨aa,ca,hva⟩:=ha.shape
  subst hva
  obtain⟨b,o,vo,hap,d0,d1,d2,_⟩:=hc m hm
  subst hap
  rw[ht] at d1
  unfold clCells
  have hl63:ms.length≤2 ^ 63 - 1:=hl
  have hA:Below w.heap.size w (((w.alloc (.cells #[.slice (some ⟨b,o,none⟩) ms.length cp] 25)).alloc (.cells #[.int .i64 0,.int .i64 0,.slice none 0 0,.slice none 0 0,.int .i64 0,.bool false] 37)).alloc (.cells #[] 98)):=(((Below.refl _ _).alloc (Nat.le_refl _) _).alloc (by simp) _).alloc (by simp;omega) _
  have mk:=PairRow.made (B:=w.heap.size) (w:=(w.alloc (.cells #[.slice (some ⟨b,o,none⟩) ms.length cp] 25)).alloc (.cells #[.int .i64 0,.int .i64 0,.slice none 0 0,.slice none 0 0,.int .i64 0,.bool false] 37)) (e:=98) (by simp;omega)
  have bp:(((w.alloc (.cells #[.slice (some ⟨b,o,none⟩) ms.length cp] 25)).alloc (.cells #[.int .i64 0,.int .i64 0,.slice none 0 0,.slice none 0 0,.int .i64 0,.bool false] 37)).alloc (.cells #[] 98)).cell? ⟨w.heap.size,0,none⟩=some (.slice (some ⟨b,o,none⟩) ms.length cp):=by simp[go_sem]
  have bz:=(six_new (w.alloc (.cells #[.slice (some ⟨b,o,none⟩) ms.length cp] 25)) 37 (.int .i64 0) (.int .i64 0) (.slice none 0 0) (.slice none 0 0) (.int .i64 0) (.bool false)).alloc (.cells #[] 98)
  simp only[World.size_alloc] at mk bz
  have hs3:(((w.alloc (.cells #[.slice (some ⟨b,o,none⟩) ms.length cp] 25)).alloc (.cells #[.int .i64 0,.int .i64 0,.slice none 0 0,.slice none 0 0,.int .i64 0,.bool false] 37)).alloc (.cells #[] 98)).heap.size≥w.heap.size+1+1:=by simp
  have haA:=ha.below hA
  have d1A:=cell_below hA d1
  have hw:IntKind.i64.wrap ((t:Int) - (args.length:Int))=((t - args.length:Nat):Int):=by rw[IntKind.wrap_i64];omega
  go_enter Tryz.func159,Tryz.ntmps159
  go_upto_region 2 with(at_builtin;refine append_vals _ (by rfl) _ _ (by rfl) w.heap.size _ _ [] args (by rfl) (by rfl) mk haA (by simp;omega) (by simp;omega) ?_;intro v2 w2 hrow2 hg2 hb2)
  generalize ((w.alloc (.cells #[.slice (some ⟨b,o,none⟩) ms.length cp] 25)).alloc (.cells #[.int .i64 0,.int .i64 0,.slice none 0 0,.slice none 0 0,.int .i64 0,.bool false] 37)).alloc (.cells #[] 98)=W3 at *
  have B2:Below w.heap.size w w2:=hA.grown hg2 (by omega) (fun q e=>(mk.lt q e).1)
  have hg2':W3.grownBy w2 (some (w.heap.size+1+1)):=hg2
  have bp2:w2.cell? ⟨w.heap.size,0,none⟩=some (.slice (some ⟨b,o,none⟩) ms.length cp):=hg2'.cell bp (by simp;omega)
  have bz2:=bz.of_block (hg2'.block (w.heap.size+1) bz.lt (by simp))
  have d12:=cell_below B2 d1
  rw[List.nil_append] at hrow2
  have z2:=B2.size
  have hbb:∀g,v2.ownBlock=some g→w.heap.size+1<g:=fun g e=>by
    rcases hb2 with h2 | h2
    · rw[h2] at e;simp[Value.ownBlock] at e;omega
    · rw[h2] at e;simp at e;omega
  clear hg2 hg2' hb2 bp bz mk haA d1A hA hs3 d0 d1 d2 hc
  go_wp2_with fail
  refine(l11None_any (t - args.length) _ (by omega)).mono ?_
  rintro e w3 ⟨v3,rfl,hrow3,hb3⟩
  have B3:Below w.heap.size w w3:=B2.trans (hb3.mono z2)
  have z3:=B3.size
  have bz3:=row_below hb3 bz2
  have hrow23:=hrow2.below hb3
  have hbz:w.heap.size+1<w2.heap.size:=bz2.lt
  have y3:=hb3.size
  clear bp2 bz2 d12 hrow2 hb3 B2
  have HW4:∀(w4:World),w3.grownBy w4 v2.ownBlock→∀e,(w4.alloc e).rowIs (w.heap.size+1) 37 6 (six (.int .i64 0) (.int .i64 0) (.slice none 0 0) (.slice none 0 0) (.int .i64 0) (.bool false)):=fun w4 hg e=>by
    have h1:=bz3.of_block (hg.block (w.heap.size+1) bz3.lt (fun e=>by have:=hbb _ e.symm;omega))
    exact h1.alloc e
  go_wp2_with (at_builtin;refine append_vals _ (by rfl) _ _ (by rfl) w.heap.size _ _ args (List.replicate (t - args.length) (0,0)) (by rfl) (by rfl) hrow23 hrow3.at (by simp;omega) (by omega) ?_;intro v4 w4 hrow4 hg4 hb4;obtain⟨a4,c4,hv4,_⟩:=hrow4.slice;subst hv4;obtain⟨⟨q0,q1,q2,q3,q4,q5⟩,k0,k1,k2,k3,k4,k5⟩:=six_cells (HW4 w4 hg4 (.cells #[] 98)))
  have hlen:(args ++ List.replicate (t - args.length) ((0:Int),(0:Int))).length=t:=by simp;omega
  rw[hlen] at hrow4 hb4
  have hz4:=hg4.size
  have hne4:(Value.slice a4 t c4).ownBlock≠some (w.heap.size+1):=fun e=>by
    rcases hb4 with h4 | h4
    · rw[h4] at e;have:=hbb _ e;omega
    · rw[h4] at e;simp at e;omega
  have B4:Below w.heap.size w w4:=B3.grown hg4 z3 (fun q e=>(hrow23.lt q e).1)
  have R4:=HW4 w4 hg4 (.cells #[] 98)
  have P4:=hrow4.below ((Below.refl _ _).alloc (Nat.le_refl _) (.cells #[] 98))
  have M4:=PairRow.made (B:=w.heap.size) (w:=w4) (e:=98) (by omega)
  have hlt4:∀g,(Value.slice a4 t c4).ownBlock=some g→g<w4.heap.size:=fun g e=>(hrow4.lt g e).2
  have B5:=B4.alloc B4.size (.cells #[] 98)
  have hneM:(Value.slice (some ⟨w4.heap.size,0,none⟩) 0 0).ownBlock≠some (w.heap.size+1):=fun e=>by simp[Value.ownBlock] at e;omega
  clear hg4 hb4 hrow4 HW4 q0 q1 q2 q3 q4 q5 k0 k1 k2 k3 k4 k5
  generalize w4.alloc (.cells #[] 98)=w5 at *
  have R9:=six_set5 (six_set4 (six_set3 (six_set2 (six_set1 (six_set0 R4 (.int .i64 m)) (.int .i64 0)) (.slice a4 t c4)) (.slice (some ⟨w4.heap.size,0,none⟩) 0 0)) (.int .i64 sender)) (.bool false)
  have P9:=(((((P4.set_other (p:=⟨w.heap.size+1,0,none⟩) (.int .i64 m) hne4).set_other (p:=⟨w.heap.size+1,1,none⟩) (.int .i64 0) hne4).set_other (p:=⟨w.heap.size+1,2,none⟩) (.slice a4 t c4) hne4).set_other (p:=⟨w.heap.size+1,3,none⟩) (.slice (some ⟨w4.heap.size,0,none⟩) 0 0) hne4).set_other (p:=⟨w.heap.size+1,4,none⟩) (.int .i64 sender) hne4).set_other (p:=⟨w.heap.size+1,5,none⟩) (.bool false) hne4
  have M9:=(((((M4.set_other (p:=⟨w.heap.size+1,0,none⟩) (.int .i64 m) hneM).set_other (p:=⟨w.heap.size+1,1,none⟩) (.int .i64 0) hneM).set_other (p:=⟨w.heap.size+1,2,none⟩) (.slice a4 t c4) hneM).set_other (p:=⟨w.heap.size+1,3,none⟩) (.slice (some ⟨w4.heap.size,0,none⟩) 0 0) hneM).set_other (p:=⟨w.heap.size+1,4,none⟩) (.int .i64 sender) hneM).set_other (p:=⟨w.heap.size+1,5,none⟩) (.bool false) hneM
  have B9:=(((((B5.setCell (p:=⟨w.heap.size+1,0,none⟩) (Nat.le_succ _) (.int .i64 m)).setCell (p:=⟨w.heap.size+1,1,none⟩) (Nat.le_succ _) (.int .i64 0)).setCell (p:=⟨w.heap.size+1,2,none⟩) (Nat.le_succ _) (.slice a4 t c4)).setCell (p:=⟨w.heap.size+1,3,none⟩) (Nat.le_succ _) (.slice (some ⟨w4.heap.size,0,none⟩) 0 0)).setCell (p:=⟨w.heap.size+1,4,none⟩) (Nat.le_succ _) (.int .i64 sender)).setCell (p:=⟨w.heap.size+1,5,none⟩) (Nat.le_succ _) (.bool false)
  generalize (((((w5.setCell ⟨w.heap.size+1,0,none⟩ (.int .i64 m)).setCell ⟨w.heap.size+1,1,none⟩ (.int .i64 0)).setCell ⟨w.heap.size+1,2,none⟩ (.slice a4 t c4)).setCell ⟨w.heap.size+1,3,none⟩ (.slice (some ⟨w4.heap.size,0,none⟩) 0 0)).setCell ⟨w.heap.size+1,4,none⟩ (.int .i64 sender)).setCell ⟨w.heap.size+1,5,none⟩ (.bool false)=W9 at *
  obtain⟨⟨q0,q1,q2,q3,q4,q5⟩,_⟩:=six_cells R9
  exact bodyPost_ret (v:=.agg #[.int .i64 m,.int .i64 0,.slice a4 t c4,.slice (some ⟨w4.heap.size,0,none⟩) 0 0,.int .i64 sender,.bool false]) (by simp[results,Tryz.results159,go_sem,q0,q1,q2,q3,q4,q5]) rfl ⟨_,_,rfl,P9,M9,fun g e e2=>by have:=hlt4 g e;simp[Value.ownBlock] at e2;omega,B9⟩
def cells6 (x:Cl × Value × Value):List Value:=[.int .i64 x.1.m,.int .i64 x.1.pc,x.2.1,x.2.2,.int .i64 x.1.sender,.bool x.1.dead]
def rowC (L:List (Cl × Value × Value)):List Value:=L.flatMap cells6
theorem rowC_append (a b:List (Cl × Value × Value)):rowC (a ++ b)=rowC a ++ rowC b:=by simp[rowC]
theorem rowC_length (a:List (Cl × Value × Value)):(rowC a).length=a.length * 6:=by
  induction a with
  | nil=>rfl
  | cons x l ih=>simp[rowC,cells6] at ih ⊢;omega
theorem rowC_at (a:List (Cl × Value × Value)):∀(i:Nat) (h:i<a.length),(rowC a)[i * 6]?=some (.int .i64 a[i].1.m)∧(rowC a)[i * 6+1]?=some (.int .i64 a[i].1.pc)∧(rowC a)[i * 6+2]?=some a[i].2.1∧(rowC a)[i * 6+3]?=some a[i].2.2∧(rowC a)[i * 6+4]?=some (.int .i64 a[i].1.sender)∧(rowC a)[i * 6+5]?=some (.bool a[i].1.dead):=by
  induction a with
  | nil=>intro i h;exact absurd h (Nat.not_lt_zero _)
  | cons x l ih =>
    intro i h
    cases i with
    | zero=>exact⟨rfl,rfl,rfl,rfl,rfl,rfl⟩
    | succ i =>
      have:=ih i (by simpa using h)
      rw[show(i+1) * 6=i * 6+6 by omega]
      exact this
def CallRow (B:Nat) (w:World) (v:Value) (L:List (Cl × Value × Value)):Prop:=CRow B 6 w v L.length (rowC L)
theorem CallRow.nil (B:Nat) (w:World):CallRow B w (.slice none 0 0) []:=CRow.nil B 6 w
theorem CallRow.made {B:Nat} {w:World} {e:TypeId} (hB:B≤w.heap.size):CallRow B (w.alloc (.cells #[] e)) (.slice (some ⟨w.heap.size,0,none⟩) 0 0) []:=CRow.made hB
theorem CallRow.lt {B:Nat} {w:World} {v:Value} {L:List (Cl × Value × Value)} (h:CallRow B w v L):∀k,v.ownBlock=some k→B≤k∧k<w.heap.size:=CRow.lt h
theorem CallRow.kept {B:Nat} {w w':World} {v:Value} {L:List (Cl × Value × Value)} (h:CallRow B w v L) (hsz:w.heap.size≤w'.heap.size) (hb:∀g,v.ownBlock=some g→w'.heap[g]?=w.heap[g]?):CallRow B w' v L:=CRow.kept h hsz hb
theorem CallRow.below {B:Nat} {w w':World} {v:Value} {L:List (Cl × Value × Value)} (h:CallRow B w v L) (hb:Below w.heap.size w w'):CallRow B w' v L:=CRow.below h hb
theorem CallRow.slice {B:Nat} {w:World} {v:Value} {L:List (Cl × Value × Value)} (h:CallRow B w v L):∃a cap,v=.slice a L.length cap∧L.length≤maxLen:=by
  rcases h.2 with⟨rfl,e⟩ | ⟨g,off,cap,hv,hB,hg,hl,hc,_⟩
  · exact⟨none,0,by rw[e],by rw[e];omega⟩
  · exact⟨_,cap,hv,by omega⟩
theorem run_append_call {ty:TypeId} {B:Nat} {w:World} {v:Value} {L:List (Cl × Value × Value)} (hown:CallRow B w v L) (x:Cl × Value × Value) (h1:x.2.1.oneCell'=true) (h2:x.2.2.oneCell'=true) (H c:Nat)
    (hx:∀j u,(cells6 x)[j]?=some u→w.cell? ⟨H,j,none⟩=some u) (hL:L.length≤900000) (hB:B≤w.heap.size) :
    ∃v' w',(Builtin.append_ #[26,26] ty #[v,.slice (some ⟨H,0,none⟩) 1 c]).run Tryz.prog w=.ok v' w'∧CallRow B w' v' (L ++ [x])∧w.grownBy w' v.ownBlock∧(v'.ownBlock=v.ownBlock∨v'.ownBlock=some w.heap.size):=by
  obtain⟨i0,hi,hz0,hz1,hz2⟩:=info_parts Tryz.infoCall
  have hs:Src Tryz.prog 6 26 (.slice (some ⟨H,0,none⟩) 1 c) 1 (cells6 x) w:=Src.ofSlice w Tryz.underlying26 ⟨H,0,none⟩ 1 c (cells6 x) rfl (fun j u hu=>by rw[Addr.add_lit,Nat.zero_add];exact hx j u hu) (fun u hu=>by
    simp only[cells6,List.mem_cons,List.not_mem_nil,or_false] at hu
    rcases hu with rfl | rfl | rfl | rfl | rfl | rfl
    · rfl
    · rfl
    · exact h1
    · exact h2
    · rfl
    · rfl)
  have ho:CRow B 6 w v L.length (rowC L):=hown
  rw[←hz1] at hs ho
  obtain⟨v',w',hr,hc,hg,hb⟩:=run_append_rows (P:=Tryz.prog) (ty:=ty) Tryz.underlying26 hi hz0 (by rw[hz1];rfl) (by rw[hz2];omega) ho _ 1 (cells6 x) hs (by omega) hB
  refine⟨v',w',hr,?_,hg,hb⟩
  rw[hz1] at hc
  unfold CallRow
  rw[rowC_append,List.length_append]
  simpa [rowC] using hc
theorem cells6_of {w:World} {g:Nat} {t:TypeId} {x:Cl × Value × Value} (h:w.rowIs g t 6 (six (.int .i64 x.1.m) (.int .i64 x.1.pc) x.2.1 x.2.2 (.int .i64 x.1.sender) (.bool x.1.dead))):∀j u,(cells6 x)[j]?=some u→w.cell? ⟨g,j,none⟩=some u:=by
  obtain⟨⟨q0,q1,q2,q3,q4,q5⟩,_⟩:=six_cells h
  intro j u hu
  have hj:j<6:=by
    by_cases h:j<6
    · exact h
    · rw[List.getElem?_eq_none (by simp[cells6];omega)] at hu;cases hu
  have h6:j=0∨j=1∨j=2∨j=3∨j=4∨j=5:=by omega
  rcases h6 with rfl | rfl | rfl | rfl | rfl | rfl <;> (simp[cells6] at hu;subst hu;assumption)
theorem CallRow.at {B:Nat} {w:World} {v:Value} {L:List (Cl × Value × Value)} (h:CallRow B w v L) (hl:∀i,(hi:i<L.length)→OpsAt w L[i].2.1 L[i].1.temps∧OpsAt w L[i].2.2 L[i].1.stack):CallsAt w v (L.map (·.1)):=by
  rcases h.2 with⟨rfl,e⟩ | ⟨g,off,cap,rfl,hB,hg,hlc,hc,hsp,hx⟩
  · obtain rfl:=List.eq_nil_of_length_eq_zero e
    exact CallsAt.nil w
  · refine⟨some ⟨g,off,none⟩,cap,by simp,by simp;omega,fun i hi=>?_⟩
    have hi':i<L.length:=by simpa using hi
    obtain⟨r0,r1,r2,r3,r4,r5⟩:=rowC_at L i hi'
    have hrl:=rowC_length L
    have hget:∀(j:Nat) (u:Value),(rowC L)[j]?=some u→w.cell? ⟨g,off+j,none⟩=some u:=fun j u hu=>by
      have hj:j<(rowC L).length:=by
        by_cases h:j<(rowC L).length
        · exact h
        · rw[List.getElem?_eq_none (by omega)] at hu;cases hu
      rw[hx j hj,←List.getElem?_eq_getElem,hu]
    obtain⟨ht,hs⟩:=hl i hi'
    refine⟨g,off,L[i].2.1,L[i].2.2,rfl,?_,?_,?_,?_,?_,?_,?_,?_⟩
    · simpa using hget _ _ r0
    · simpa [Nat.add_assoc] using hget _ _ r1
    · simpa [Nat.add_assoc] using hget _ _ r2
    · simpa [Nat.add_assoc] using hget _ _ r3
    · simpa [Nat.add_assoc] using hget _ _ r4
    · simpa [Nat.add_assoc] using hget _ _ r5
    · simpa using ht
    · simpa using hs
def ApartL (L:List (Cl × Value × Value)) (o:Value):Prop:=∀q,q<L.length * 2→∀g,(lst (fun i=>(L.getD i (Cl.none,.slice none 0 0,.slice none 0 0)).2) q).ownBlock=some g →
  o.ownBlock≠some g∧∀q',q'<L.length * 2→q'≠q→(lst (fun i=>(L.getD i (Cl.none,.slice none 0 0,.slice none 0 0)).2) q').ownBlock≠some g
theorem lst_snoc_left {L:List (Cl × Value × Value)} {x:Cl × Value × Value} {q:Nat} (h:q<L.length * 2):lst (fun i=>((L ++ [x]).getD i (Cl.none,.slice none 0 0,.slice none 0 0)).2) q=lst (fun i=>(L.getD i (Cl.none,.slice none 0 0,.slice none 0 0)).2) q:=by
  unfold lst
  have h2:q / 2<L.length:=by omega
  simp[List.getElem?_append_left h2]
theorem lst_snoc_0 {L:List (Cl × Value × Value)} {x:Cl × Value × Value}:lst (fun i=>((L ++ [x]).getD i (Cl.none,.slice none 0 0,.slice none 0 0)).2) (L.length * 2)=x.2.1:=by
  rw[lst_0];simp
theorem lst_snoc_1 {L:List (Cl × Value × Value)} {x:Cl × Value × Value}:lst (fun i=>((L ++ [x]).getD i (Cl.none,.slice none 0 0,.slice none 0 0)).2) (L.length * 2+1)=x.2.2:=by
  rw[lst_1];simp
theorem apart_snoc {L:List (Cl × Value × Value)} {x:Cl × Value × Value} {o o':Value} {S S':Nat} (h:ApartL L o) (hlt:∀q,q<L.length * 2→∀g,(lst (fun i=>(L.getD i (Cl.none,.slice none 0 0,.slice none 0 0)).2) q).ownBlock=some g→g<S)
    (hx1:∀g,x.2.1.ownBlock=some g→S≤g∧g<S') (hx2:∀g,x.2.2.ownBlock=some g→S≤g∧g<S') (hx:∀g,x.2.1.ownBlock=some g→x.2.2.ownBlock≠some g) (ho:∀g,o.ownBlock=some g→g<S) (ho':∀g,o'.ownBlock=some g→o.ownBlock=some g∨S'≤g) (hS:S≤S') :
    ApartL (L ++ [x]) o':=by
  intro q hq g hg
  rw[List.length_append,List.length_singleton] at hq
  have key:∀q',q'<(L.length+1) * 2→(q'<L.length * 2∧lst (fun i=>((L ++ [x]).getD i (Cl.none,.slice none 0 0,.slice none 0 0)).2) q'=lst (fun i=>(L.getD i (Cl.none,.slice none 0 0,.slice none 0 0)).2) q')∨(q'=L.length * 2∧lst (fun i=>((L ++ [x]).getD i (Cl.none,.slice none 0 0,.slice none 0 0)).2) q'=x.2.1)∨(q'=L.length * 2+1∧lst (fun i=>((L ++ [x]).getD i (Cl.none,.slice none 0 0,.slice none 0 0)).2) q'=x.2.2):=fun q' h'=>by
    by_cases e:q'<L.length * 2
    · exact .inl ⟨e,lst_snoc_left e⟩
    · by_cases e2:q'=L.length * 2
      · exact .inr (.inl ⟨e2,by rw[e2];exact lst_snoc_0⟩)
      · have e3:q'=L.length * 2+1:=by omega
        exact .inr (.inr ⟨e3,by rw[e3];exact lst_snoc_1⟩)
  refine⟨fun eo=>?_,fun q' hq' hne e'=>?_⟩
  · rcases key q hq with⟨k1,k2⟩ | ⟨k1,k2⟩ | ⟨k1,k2⟩
    · rw[k2] at hg
      rcases ho' g eo with h1 | h1
      · exact(h q k1 g hg).1 h1
      · have:=hlt q k1 g hg;omega
    · rw[k2] at hg
      have h2:=hx1 g hg
      rcases ho' g eo with h1 | h1
      · have:=ho g h1;omega
      · omega
    · rw[k2] at hg
      have h2:=hx2 g hg
      rcases ho' g eo with h1 | h1
      · have:=ho g h1;omega
      · omega
  · rw[List.length_append,List.length_singleton] at hq'
    rcases key q hq with⟨k1,k2⟩ | ⟨k1,k2⟩ | ⟨k1,k2⟩ <;> rcases key q' hq' with⟨m1,m2⟩ | ⟨m1,m2⟩ | ⟨m1,m2⟩ <;> rw[k2] at hg <;> rw[m2] at e'
    · exact(h q k1 g hg).2 q' m1 hne e'
    · have h1:=hlt q k1 g hg;have h2:=hx1 g e';omega
    · have h1:=hlt q k1 g hg;have h2:=hx2 g e';omega
    · have h1:=hlt q' m1 g e';have h2:=hx1 g hg;omega
    · omega
    · exact hx g hg e'
    · have h1:=hlt q' m1 g e';have h2:=hx2 g hg;omega
    · exact hx g e' hg
    · omega
theorem CallRow.own {B:Nat} {w:World} {v:Value} {L:List (Cl × Value × Value)} (h:CallRow B w v L) (hl:∀j,(hj:j<L.length)→PairRow B w L[j].2.1 L[j].1.temps∧PairRow B w L[j].2.2 L[j].1.stack) (ha:ApartL L v) :
    OwnCalls B w v (L.map (·.1)) (fun i=>(L.getD i (Cl.none,.slice none 0 0,.slice none 0 0)).2):=by
  have hget:∀i,(hi:i<L.length)→L.getD i (Cl.none,.slice none 0 0,.slice none 0 0)=L[i]:=fun i hi=>by simp[hi]
  refine⟨?_,fun i hi=>?_,fun q hq g hg=>?_⟩
  · rcases h.2 with⟨rfl,e⟩ | ⟨g,off,cap,rfl,hB,hg,hlc,hc,hsp,hx⟩
    · exact .inl ⟨rfl,by rw[List.eq_nil_of_length_eq_zero e];rfl⟩
    · refine .inr ⟨g,off,cap,by simp,hB,hg,by simpa using hlc,hc,hsp,fun i hi=>?_⟩
      have hi':i<L.length:=by simpa using hi
      obtain⟨r0,r1,r2,r3,r4,r5⟩:=rowC_at L i hi'
      have hgt:∀(j:Nat) (u:Value),(rowC L)[j]?=some u→w.cell? ⟨g,off+j,none⟩=some u:=fun j u hu=>by
        have hj:j<(rowC L).length:=by
          by_cases h:j<(rowC L).length
          · exact h
          · rw[List.getElem?_eq_none (by omega)] at hu;cases hu
        rw[hx j hj,←List.getElem?_eq_getElem,hu]
      rw[hget i hi']
      refine⟨?_,?_,?_,?_,?_,?_⟩
      · simpa using hgt _ _ r0
      · simpa [Nat.add_assoc] using hgt _ _ r1
      · simpa [Nat.add_assoc] using hgt _ _ r2
      · simpa [Nat.add_assoc] using hgt _ _ r3
      · simpa [Nat.add_assoc] using hgt _ _ r4
      · simpa [Nat.add_assoc] using hgt _ _ r5
  · have hi':i<L.length:=by simpa using hi
    rw[hget i hi']
    simpa using hl i hi'
  · rw[List.length_map] at hq ⊢
    exact ha q hq g hg
theorem lists_lt {B:Nat} {w:World} {L:List (Cl × Value × Value)} (hl:∀j,(hj:j<L.length)→PairRow B w L[j].2.1 L[j].1.temps∧PairRow B w L[j].2.2 L[j].1.stack):∀q,q<L.length * 2→∀g,(lst (fun i=>(L.getD i (Cl.none,.slice none 0 0,.slice none 0 0)).2) q).ownBlock=some g→g<w.heap.size:=fun q hq g hg=>by
  have hi:q / 2<L.length:=by omega
  have hget:L.getD (q / 2) (Cl.none,.slice none 0 0,.slice none 0 0)=L[q / 2]:=by simp[hi]
  rcases Nat.mod_two_eq_zero_or_one q with hm | hm
  · rw[show q=q / 2 * 2 by omega,lst_0,hget] at hg
    exact((hl _ hi).1.lt g hg).2
  · rw[show q=q / 2 * 2+1 by omega,lst_1,hget] at hg
    exact((hl _ hi).2.lt g hg).2
def framesTo (ps:List Pg) (k:Nat):Nat:=((ps.take k).map fun p=>p.frames.length).sum
def framesN (ps:List Pg):Nat:=framesTo ps ps.length
def lowsTo (ps:List Pg) (k:Nat):List Int:=(List.range k).map fun i=>(framesTo ps i:Int)
def lows (ps:List Pg):List Int:=lowsTo ps ps.length
theorem framesTo_zero (ps:List Pg):framesTo ps 0=0:=by simp[framesTo]
theorem framesTo_succ {ps:List Pg} {k:Nat} (h:k<ps.length):framesTo ps (k+1)=framesTo ps k+ps[k].frames.length:=by
  unfold framesTo
  rw[List.take_add_one,List.getElem?_eq_getElem h,List.map_append,List.sum_append]
  simp
theorem framesTo_le (ps:List Pg):∀k j,k≤j→j≤ps.length→framesTo ps k≤framesTo ps j:=by
  intro k j hkj
  induction hkj with
  | refl=>intro _;exact Nat.le_refl _
  | @step j hk ih =>
    intro hl
    rw[framesTo_succ (show j<ps.length from hl)]
    have:=ih (by omega)
    omega
theorem framesTo_leN (ps:List Pg) {k:Nat} (h:k≤ps.length):framesTo ps k≤framesN ps:=framesTo_le ps k ps.length h (Nat.le_refl _)
theorem lowsTo_succ (ps:List Pg) (k:Nat):lowsTo ps (k+1)=lowsTo ps k ++ [(framesTo ps k:Int)]:=by simp[lowsTo,List.range_succ]
theorem lowsTo_length (ps:List Pg) (k:Nat):(lowsTo ps k).length=k:=by simp[lowsTo]
theorem lows_length (ps:List Pg):(lows ps).length=ps.length:=lowsTo_length _ _
theorem lows_at (ps:List Pg) (i:Nat) (h:i<(lows ps).length):(lows ps)[i]=(framesTo ps i:Int):=by simp[lows,lowsTo]
theorem Tryz.infoIntM:(Tryz.prog.info? 3).map (fun i=>(i.zero,i.size,i.bytes))=some (some (.int .i64 0),1,8):=by kernel_rfl
set_option maxRecDepth 100000 in
set_option maxHeartbeats 4000000 in
theorem thingPlacesOf_any (vp vo vt vs:Value) (m:Mc) (w:World) (h:MachAt w vp vo vt vs m) (hn:m.pages.length≤1048576) (hf:framesN m.pages≤1099511627776) :
    Calls Tryz.prog 83 #[.agg (mcCells vp vo vt vs m).toArray] w fun e w'=>∃vl,e=.returned (.agg (mcCells vp vo vt vs m ++ [vl,.int .i64 (framesN m.pages:Int)]).toArray)∧IntRow w.heap.size w' vl (lows m.pages)∧Below w.heap.size w w':=by
  obtain⟨ap,cp,hvp,hlp,hcp⟩:=id h.p
  obtain⟨ao,co,hvo⟩:=h.o.shape
  obtain⟨at',ct,hvt⟩:=h.t.shape
  obtain⟨as',cs,hvs⟩:=h.s.shape
  subst hvp hvo hvt hvs
  unfold mcCells
  obtain⟨i0,hi,hz0,hz1,hz2⟩:=info_parts Tryz.infoIntM
  go_enter Tryz.func83,Tryz.ntmps83
  go_upto_region 2 with fail
  refine wp_gen (fun W=>Below w.heap.size w W∧Bx W w.heap.size 42 [.int .i64 m.cells,.slice ap m.pages.length cp,.slice ao m.order.length co,.int .i64 m.now,.slice at' m.twins.length ct,.int .i64 m.born,.slice as' m.said.length cs,.int .i64 m.code]
      ∧ Bx W (w.heap.size+1) 128 [.int .i64 0,.slice none 0 0,.slice none 0 0,.int .i64 0,.slice none 0 0,.int .i64 0,.slice none 0 0,.int .i64 0,.slice none 0 0,.int .i64 0]
      ∧ Bx W (w.heap.size+1+1) 128 [.int .i64 m.cells,.slice ap m.pages.length cp,.slice ao m.order.length co,.int .i64 m.now,.slice at' m.twins.length ct,.int .i64 m.born,.slice as' m.said.length cs,.int .i64 m.code,.slice none 0 0,.int .i64 0]
      ∧ w.heap.size+1+1+1=W.heap.size) ⟨(((Below.refl _ _).alloc (Nat.le_refl _) _).alloc (by simp) _).alloc (by simp;omega) _,((Bx.new w _ _).alloc _).alloc _,(Bx.newAt _ _ _ (by simp)).alloc _,Bx.newAt _ _ _ (by simp),by simp⟩ ?_
  rintro W ⟨hb,hm,hr,hx,hW⟩
  have hW3:w.heap.size+1+1<W.heap.size:=by omega
  clear hW
  obtain⟨⟨_,m1,_,_,_,_,_,_⟩,_⟩:=bx8 hm
  go_wp2_with fail
  go_loopg [5,11] m.pages.length (fun g _ i wr=>∃(k:Nat) (vl:Value),k≤m.pages.length∧g=m.pages.length - k∧i=.int .i64 k∧IntRow W.heap.size wr vl (lowsTo m.pages k)∧Below w.heap.size w wr∧W.heap.size≤wr.heap.size∧Bx wr (w.heap.size+1) 128 [.int .i64 0,.slice none 0 0,.slice none 0 0,.int .i64 0,.slice none 0 0,.int .i64 0,.slice none 0 0,.int .i64 0,.slice none 0 0,.int .i64 0]
      ∧ Bx wr (w.heap.size+1+1) 128 [.int .i64 m.cells,.slice ap m.pages.length cp,.slice ao m.order.length co,.int .i64 m.now,.slice at' m.twins.length ct,.int .i64 m.born,.slice as' m.said.length cs,.int .i64 m.code,vl,.int .i64 (framesTo m.pages k:Int)])
  case atStart=>exact⟨0,.slice none 0 0,Nat.zero_le _,rfl,rfl,IntRow.nil _ _,hb,Nat.le_refl _,hr,by rw[framesTo_zero];exact hx⟩
  case round =>
    clear m1 hm hr hx hb
    obtain⟨k,vl,hk,rfl,rfl,hrow,hb,hz,hr,hx⟩:=hrel
    obtain⟨al,cl,hvl,_⟩:=hrow.slice
    subst hvl
    obtain⟨⟨x0,x1,x2,x3,x4,x5,x6,x7,x8,x9⟩,⟨f0,f1,f2,f3,f4,f5,f6,f7,f8,f9⟩⟩:=bx10 hx
    by_cases hlt:k<m.pages.length
    · obtain⟨b,o,vf,rfl,hpg⟩:=hcp k hlt
      obtain⟨af,cf,hvf⟩:=hpg.f.shape
      have d0:=cell_below hb hpg.c0
      have d1:=cell_below hb hpg.c1
      rw[hvf] at d1
      have hkz:(k:Int)<(m.pages.length:Int):=by omega
      have hft:framesTo m.pages (k+1)=framesTo m.pages k+m.pages[k].frames.length:=framesTo_succ hlt
      have hfl:=framesTo_leN m.pages (k:=k+1) hlt
      have HLS:Hid (lowsTo m.pages (k+1)=lowsTo m.pages k ++ [(framesTo m.pages k:Int)]):=lowsTo_succ _ _
      have hll:(lowsTo m.pages k).length≤2900000:=by rw[lowsTo_length];omega
      obtain⟨nf,hnf⟩:∃nf,m.pages[k].frames.length=nf:=⟨_,rfl⟩
      obtain⟨ft,hft0⟩:∃ft,framesTo m.pages k=ft:=⟨_,rfl⟩
      obtain⟨L,hL⟩:∃L,lowsTo m.pages k=L:=⟨_,rfl⟩
      rw[hnf] at d1 hft
      rw[hft0] at hft HLS hx x9
      rw[hL] at hll HLS hrow x8 hx
      have hfb:ft+nf≤1099511627776:=by omega
      have HFT:Hid (framesTo m.pages (k+1)=ft+nf):=hft
      have hzb:b<w.heap.size:=World.block_lt_of_cell? _ _ hpg.c0
      clear hnf hft0 hL hpg hvf hft hfl hcp x0 x1 x2 x3 x4 x5 x6 x7 f0 f1 f2 f3 f4 f5 f6 f7
      go_upto_region 5 with fail
      refine wp_gen (fun W'=>Below wr.heap.size wr W'∧Bx W' wr.heap.size 101 [.int .i64 m.pages[k].base,.slice af nf cf]) ⟨(Below.refl _ _).alloc (Nat.le_refl _) _,Bx.new _ _ _⟩ ?_
      rintro w1 ⟨hb1,hp1⟩
      have hrl:∀q,(Value.slice al L.length cl).ownBlock=some q→W.heap.size≤q∧q<wr.heap.size:=hrow.lt
      have r1:=hrow.below hb1
      have hx1:=hx.below hb1
      have hr1:=hr.below hb1
      have hB1:=hb.trans (hb1.mono hb.size)
      have hW1:W.heap.size≤w1.heap.size:=Nat.le_trans hz hb1.size
      have hzp:=hp1.lt
      clear hrow hx hr hb hb1 d0 d1 x8 x9 f8 f9
      obtain⟨⟨_,_,_,_,_,_,_,_,x8,x9⟩,⟨_,_,_,_,_,_,_,_,f8,f9⟩⟩:=bx10 hx1
      have y1:=hp1.cell 1 rfl
      go_upto_region 6 with(at_builtin;refine append_intM Tryz.underlying39 hi hz0 hz1 hz2 _ (by rfl) _ _ (by rfl) _ L (by rfl) r1 _ _ _ rfl (by rfl) hll hW1 ?_;intro g2 off2 cp2 w2 hrow2 hg2 hor2 hlt2;have hx2:=hx1.grown hg2 (fun e=>by have:=(r1.lt _ e).1;omega);have x8':=hx2.cell 8 rfl;have f8':=hx2.frozen 8)
      refine wp_gen (fun W'=>Below w.heap.size w W'∧IntRow W.heap.size W' (.slice (some ⟨g2,off2,none⟩) (L.length+1) cp2) (L ++ [(ft:Int)])∧W.heap.size≤W'.heap.size∧Bx W' (w.heap.size+1) 128 [.int .i64 0,.slice none 0 0,.slice none 0 0,.int .i64 0,.slice none 0 0,.int .i64 0,.slice none 0 0,.int .i64 0,.slice none 0 0,.int .i64 0]
        ∧ Bx W' wr.heap.size 101 [.int .i64 m.pages[k].base,.slice af nf cf]
        ∧ Bx W' (w.heap.size+1+1) 128 [.int .i64 m.cells,.slice (some ⟨b,o,none⟩) m.pages.length cp,.slice ao m.order.length co,.int .i64 m.now,.slice at' m.twins.length ct,.int .i64 m.born,.slice as' m.said.length cs,.int .i64 m.code,.slice (some ⟨g2,off2,none⟩) (L.length+1) cp2,.int .i64 (ft:Int)])
        ⟨(hB1.grown hg2 hB1.size (fun q e=>by have:=(r1.lt _ e).1;omega)).setCell (p:=⟨w.heap.size+1+1,8,none⟩) (Nat.le_trans (Nat.le_succ _) (Nat.le_succ _)) _,?_,?_,(hr1.grown hg2 (fun e=>by have:=(r1.lt _ e).1;omega)).other (by omega) _,?_,hx2.set 8 _⟩ ?_
      · refine hrow2.set_other (p:=⟨w.heap.size+1+1,8,none⟩) _ (fun e=>?_)
        have h9:g2=w.heap.size+1+1:=by injection e
        rcases hor2 with e2 | e2
        · have:=(hrl _ e2).1
          omega
        · omega
      · rw[World.size_setCell];exact Nat.le_trans hW1 hg2.size
      · exact(hp1.grown hg2 (fun e=>by have:=(hrl _ e).2;omega)).other (by omega) _
      rintro w3 ⟨hb3,hrow3,hz3,hr3,hp3,hx3⟩
      clear hx2 x8' f8' hrow2 hg2 hor2 hlt2 hrl r1 hx1 hr1 hB1 hp1 x8 x9 f8 f9 y1 hW1
      have x9:=hx3.cell 9 rfl
      have f9:=hx3.frozen 9
      have y1:=hp3.cell 1 rfl
      go_wp2
      go_roundg (m.pages.length - (k+1))
      case measure=>omega
      case rel=>exact⟨k+1,_,by omega,rfl,by go_num,by rw[HLS.out];exact hrow3.set_other (p:=⟨w.heap.size+1+1,9,none⟩) _ (fun e=>by have h9:W.heap.size≤w.heap.size+1+1:=(hrow3.lt _ e).1;omega),hb3.setCell (p:=⟨w.heap.size+1+1,9,none⟩) (Nat.le_trans (Nat.le_succ _) (Nat.le_succ _)) _,by rw[World.size_setCell];exact hz3,hr3.other (by omega) _,by rw[HFT.out];have:=hx3.set 9 (.int .i64 ((ft+nf:Nat):Int));simpa using this⟩
    · obtain rfl:k=m.pages.length:=by omega
      have hkz:¬((m.pages.length:Int)<(m.pages.length:Int)):=by omega
      have hr2:=hr
      obtain⟨⟨r0,r1,r2,r3,r4,r5,r6,r7,r8,r9⟩,⟨g0,g1,g2,g3,g4,g5,g6,g7,g8,g9⟩⟩:=bx10 hr2
      go_wp2
      refine bp_gen (fun W'=>Below w.heap.size w W'∧IntRow w.heap.size W' (.slice al (lowsTo m.pages m.pages.length).length cl) (lowsTo m.pages m.pages.length)∧Bx W' (w.heap.size+1) 128 [.int .i64 m.cells,.slice ap m.pages.length cp,.slice ao m.order.length co,.int .i64 m.now,.slice at' m.twins.length ct,.int .i64 m.born,.slice as' m.said.length cs,.int .i64 m.code,.slice al (lowsTo m.pages m.pages.length).length cl,.int .i64 (framesTo m.pages m.pages.length:Int)]) ?_ ?_
      · have HW:=(((((((((((Wr.refl1 (w.heap.size+1) wr).set1 (o:=0) (.int .i64 m.cells)).set1 (o:=1) (.slice ap m.pages.length cp)).set1 (o:=2) (.slice ao m.order.length co)).set1 (o:=3) (.int .i64 m.now)).set1 (o:=4) (.slice at' m.twins.length ct)).set1 (o:=5) (.int .i64 m.born)).set1 (o:=6) (.slice as' m.said.length cs)).set1 (o:=7) (.int .i64 m.code)).set1 (o:=8) (.slice al (lowsTo m.pages m.pages.length).length cl)).set1 (o:=9) (.int .i64 (framesTo m.pages m.pages.length:Int)))
        exact⟨HW.below1 hb (Nat.le_refl _) (Nat.le_succ _),(HW.ints hrow fun g e e2=>by have h9:W.heap.size≤g:=(hrow.lt _ e).1;omega).mono (by omega),(((((((((hr2.set 0 _).set 1 _).set 2 _).set 3 _).set 4 _).set 5 _).set 6 _).set 7 _).set 8 _).set 9 _⟩
      rintro W9 ⟨hb9,hrow9,hx9⟩
      obtain⟨⟨q0,q1,q2,q3,q4,q5,q6,q7,q8,q9⟩,_⟩:=bx10 hx9
      exact bodyPost_ret (v:=.agg #[.int .i64 m.cells,.slice ap m.pages.length cp,.slice ao m.order.length co,.int .i64 m.now,.slice at' m.twins.length ct,.int .i64 m.born,.slice as' m.said.length cs,.int .i64 m.code,.slice al (lowsTo m.pages m.pages.length).length cl,.int .i64 (framesTo m.pages m.pages.length:Int)]) (by simp[results,Tryz.results83,go_sem,q0,q1,q2,q3,q4,q5,q6,q7,q8,q9]) rfl ⟨_,rfl,hrow9,hb9⟩
set_option maxRecDepth 100000 in
theorem implMachFrames_any (vp vo vt vs:Value) (m:Mc) (w:World) (h:MachAt w vp vo vt vs m) (hn:m.pages.length≤1048576) (hf:framesN m.pages≤1099511627776) :
    Calls Tryz.prog 27 #[.agg (mcCells vp vo vt vs m).toArray] w fun e w'=>e=.returned (.int .i64 (framesN m.pages:Int))∧Below w.heap.size w w':=by
  obtain⟨ap,cp,hvp⟩:=h.p.shape
  obtain⟨ao,co,hvo⟩:=h.o.shape
  obtain⟨at',ct,hvt⟩:=h.t.shape
  obtain⟨as',cs,hvs⟩:=h.s.shape
  subst hvp hvo hvt hvs
  have HB:∀o,Below w.heap.size w (w.alloc o):=fun o=>(Below.refl _ _).alloc (Nat.le_refl _) _
  have HC:=fun o=>thingPlacesOf_any _ _ _ _ m _ (h.below (HB o)) hn hf
  unfold mcCells at HC ⊢
  simp only[List.cons_append,List.nil_append] at HC
  have hfd:∀(x0 x1 x2 x3 x4 x5 x6 x7 x8 x9:Value) (w:World),(Instr.field 128 (.agg #[x0,x1,x2,x3,x4,x5,x6,x7,x8,x9]) 2).run Tryz.prog w=.ok x9 w:=fun _ _ _ _ _ _ _ _ _ _ _=>by kernel_rfl
  go_enter Tryz.func27,Tryz.ntmps27
  go_wp2_with fail
  refine(HC _).mono ?_
  rintro e w1 ⟨vl,rfl,hrow,hb⟩
  obtain⟨al,cl,hvl,_⟩:=hrow.slice
  subst hvl
  go_wp2
  go_ret
  exact⟨rfl,(HB _).trans (hb.mono (by simp))⟩
end Go.Proofs.YtjbgpcileapogaaGreat

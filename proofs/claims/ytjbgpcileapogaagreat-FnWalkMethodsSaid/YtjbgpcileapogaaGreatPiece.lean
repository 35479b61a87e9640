/-
  What is seen of a heap, by the model: l11Found answers the calls that can be come to.
-/
import Derived.Test.YtjbgpcileapogaaGreatVSpec
import Derived.Deep.QuietTactic
import Derived.Test.YtjbgpcileapogaaGreatStepS
import Derived.Test.YtjbgpcileapogaaGreatRunPlain
import Derived.Test.YtjbgpcileapogaaGreatVApart
import Derived.Test.YtjbgpcileapogaaGreatTakes2
import Derived.Test.YtjbgpcileapogaaGreatMOk3
import Derived.Deep.RegionHeld3
import Derived.Lib.SliceRun
import Derived.Test.YtjbgpcileapogaaGreatMOk5
namespace Go.Proofs.YtjbgpcileapogaaGreat
open Go.RowKit
def Hp.short (h:Hp):Prop:=h.calls.length≤1000∧∀i,(hi:i<h.calls.length)→h.calls[i].temps.length≤1000∧h.calls[i].stack.length≤1000
theorem PsOk.nil (n:Nat):PsOk n []:=⟨by simp,fun p hp=>by cases hp⟩
theorem newHp_yes {ms:List (Int × Int × List (Int × Int))} (h:progOk ms=true):newHp ms=⟨[⟨0,0,List.replicate (temps0 ms) (0,0),[],-1,false⟩],0,1,[],0⟩:=if_pos h
theorem vals_zero (n:Int) (k:Nat):valsOk n (List.replicate k (0,0))=true:=by
  refine valsOk_yes fun i hi=>?_
  simp[valOk]
theorem newHp_ok {ms:List (Int × Int × List (Int × Int))} (h:progOk ms=true):heapOk ms (newHp ms)=true:=by
  obtain⟨hl,h0,h4,ht,_⟩:=first_ok h
  have hg:ms.getD 0 (0,0,[])=ms[0]:=by simp[hl]
  rw[newHp_yes h]
  have hv:=vals_zero 1 (temps0 ms)
  have hz:valsOk 1 []=true:=rfl
  have hz2:valsOk (ms.length:Int) []=true:=rfl
  have hm:inR 0 0 ((ms.length:Int) - 1)=true:=inR_true.2 ⟨by omega,by omega⟩
  have hpc:inR 0 0 (ms[0].2.2.length:Int)=true:=inR_true.2 ⟨by omega,by omega⟩
  have hc:clOk ms 1 ⟨0,0,List.replicate (temps0 ms) (0,0),[],-1,false⟩=true:=by
    have a2:inR (-1) (-1) 0=true:=by decide
    have hg2:ms[0]?=some ms[0]:=List.getElem?_eq_getElem hl
    simp[clOk,hg2,ht,hm,hpc,hv,hz,a2]
  have he:endOk ⟨[⟨0,0,List.replicate (temps0 ms) (0,0),[],-1,false⟩],0,1,[],0⟩=true:=by
    simp[endOk,chainOf,walkC,liveN,roomP]
  have hd:headOk ms ⟨[⟨0,0,List.replicate (temps0 ms) (0,0),[],-1,false⟩],0,1,[],0⟩=true:=by
    have a1:inR 0 (-1) (1 - 1)=true:=by decide
    have a2:inR 1 1 30=true:=by decide
    have a3:inR 0 0 3=true:=by decide
    simp[headOk,h,hz2,a2,a3]
    exact a1
  simp only[heapOk,hd,he,List.all_cons,List.all_nil,List.length_cons,List.length_nil,Nat.zero_add,hc,Bool.and_self]
theorem setH_now {h:Hp} {j:Nat} (hn:h.now=j) (c:Cl):setH h c={h with calls:=h.calls.set j c}:=by
  unfold setH
  rw[hn,Int.toNat_natCast]
theorem val_from (w:World) (a:Option Addr) (n cap k:Nat) (hk:k≤n):(Instr.slice 27 (.slice a n cap) (some (.int .i64 (k:Int))) none none).run Tryz.prog w=.ok (sliced a k n cap 2) w:=by
  have hs:∀w,(sizeOf (Tryz.prog.elem 27)).run Tryz.prog w=.ok 2 w:=fun w=>by kernel_rfl
  rw[run_slice_l w 27 a n cap (by kernel_rfl) .i64 k (by omega) (by omega)]
  simp[hs,Result.andThen]
theorem val_to (w:World) (a:Option Addr) (n cap k:Nat) (hk:k≤cap):(Instr.slice 27 (.slice a n cap) none (some (.int .i64 (k:Int))) none).run Tryz.prog w=.ok (sliced a 0 k cap 2) w:=by
  have hs:∀w,(sizeOf (Tryz.prog.elem 27)).run Tryz.prog w=.ok 2 w:=fun w=>by kernel_rfl
  rw[run_slice_h w 27 a n cap (by kernel_rfl) .i64 k (by omega) (by omega)]
  simp[hs,Result.andThen]
theorem PairRow.piece {B:Nat} {w:World} {a:Option Addr} {n cap:Nat} {xs:List (Int × Int)} (h:PairRow B w (.slice a n cap) xs) {l k:Nat} (hl:l≤k) (hk:k≤xs.length):OpsAt w (sliced a l k cap 2) ((xs.take k).drop l)∧k≤cap:=by
  rcases h with⟨h0,rfl⟩ | ⟨g,off,cp,hv,hB,hg,hlc,hc,hsp,hx⟩
  · injection h0 with e1 e2 e3
    subst e1 e2 e3
    obtain rfl:k=0:=by simpa using hk
    obtain rfl:l=0:=by omega
    exact⟨⟨_,_,rfl,by simp,fun i hi=>absurd hi (by simp)⟩,Nat.le_refl _⟩
  · injection hv with e1 e2 e3
    subst e1 e2 e3
    refine⟨?_,by omega⟩
    have hlen:((xs.take k).drop l).length=k - l:=by simp;omega
    by_cases e:l=cap
    · have hkl:k - l=0:=by omega
      have hn:(xs.take k).drop l=[]:=List.eq_nil_of_length_eq_zero (by omega)
      rw[hn]
      unfold sliced
      exact⟨_,_,by rw[List.length_nil,←hkl],by simp,fun i hi=>absurd hi (by simp)⟩
    · unfold sliced
      refine⟨_,_,by rw[hlen],by rw[hlen];unfold maxLen at *;omega,fun i hi=>?_⟩
      rw[hlen] at hi
      have hi2:l+i<xs.length:=by omega
      obtain⟨y0,y1⟩:=hx (l+i) hi2
      refine⟨g,off+l * 2,?_,?_,?_⟩
      · rw[if_neg (by omega)]
        simp[Addr.add]
      · rw[show off+l * 2+i * 2=off+(l+i) * 2 by omega,y0]
        simp
      · rw[show off+l * 2+i * 2+1=off+(l+i) * 2+1 by omega,y1]
        simp
theorem takes_bound {ms:Ms} (hp:progOk ms=true) (kk a:Int):(0≤(takesOf ms kk a).1∧(takesOf ms kk a).1≤2)∧0≤(takesOf ms kk a).2∧(takesOf ms kk a).2≤1:=by
  unfold takesOf
  split
  · split
    · rename_i q
      rw[inR_true] at q
      have hq:a.toNat<ms.length:=by omega
      rw[getD_at hq]
      have:=(prog_meth hp hq).args
      simp only[]
      omega
    · decide
  · simp only[]
    unfold tk lv
    refine⟨?_,?_⟩
    · split
      · decide
      · split <;> decide
    · split <;> decide
theorem stepH_past {ms:Ms} {h:Hp} {j m pc:Nat} (hn:h.now=j) (hj:j<h.calls.length) (hm:h.calls[j].m=m) (hpc:h.calls[j].pc=pc) (hml:m<ms.length) (hl:ms[m].2.2.length≤pc):stepH ms h={h with code:=2}:=by
  unfold stepH
  simp only[cur_at hn hj,hm,hpc,Int.toNat_natCast,getD_at hml]
  rw[if_pos (by omega)]
  rfl
theorem opNext_at {ms:Ms} {h:Hp} {j m pc:Nat} (hj:j<h.calls.length) (hm:h.calls[j].m=m) (hpc:h.calls[j].pc=pc) (hml:m<ms.length) (hpl:pc<ms[m].2.2.length):opNext ms h.calls[j]=ms[m].2.2[pc]:=by
  unfold opNext
  rw[hm,hpc,Int.toNat_natCast,Int.toNat_natCast,getD_at hml,getD_at hpl]
theorem stepH_at {ms:Ms} {h:Hp} {j m pc:Nat} (hn:h.now=j) (hj:j<h.calls.length) (hm:h.calls[j].m=m) (hpc:h.calls[j].pc=pc) (hml:m<ms.length) (hpl:pc<ms[m].2.2.length) {kk a t l:Int} (ho:ms[m].2.2[pc]=(kk,a)) (ht:takesOf ms kk a=(t,l)) :
    stepH ms h=if(h.calls[j].stack.length:Int) - t<0∨6<(h.calls[j].stack.length:Int) - t+l then {h with code:=2}
      else if kindsOk kk (h.calls[j].stack.drop ((h.calls[j].stack.length:Int) - t).toNat)=false then {h with code:=2}
      else doH ms {h with calls:=h.calls.set j {h.calls[j] with stack:=h.calls[j].stack.take ((h.calls[j].stack.length:Int) - t).toNat,pc:=(pc:Int)+1}} kk a (h.calls[j].stack.drop ((h.calls[j].stack.length:Int) - t).toNat):=by
  unfold stepH
  simp only[cur_at hn hj,opNext_at hj hm hpc hml hpl,ho,ht]
  rw[hm,Int.toNat_natCast,getD_at hml,if_neg (by rw[hpc];omega),setH_now hn,hpc]
  rfl
theorem doing_at {ms:Ms} {h:Hp} {j m pc:Nat} (hg:Good ms h) (hc:h.code=0) (hn:h.now=j) (hj:j<h.calls.length) (hm:h.calls[j].m=m) (hpc:h.calls[j].pc=pc) (hml:m<ms.length) (hpl:pc<ms[m].2.2.length) {kk a t l:Int} (ho:ms[m].2.2[pc]=(kk,a)) (ht:takesOf ms kk a=(t,l))
    (h2:¬((h.calls[j].stack.length:Int) - t<0∨6<(h.calls[j].stack.length:Int) - t+l)) (h3:kindsOk kk (h.calls[j].stack.drop ((h.calls[j].stack.length:Int) - t).toNat)=true) :
    Doing ms {h with calls:=h.calls.set j {h.calls[j] with stack:=h.calls[j].stack.take ((h.calls[j].stack.length:Int) - t).toNat,pc:=(pc:Int)+1}} j kk a (h.calls[j].stack.drop ((h.calls[j].stack.length:Int) - t).toNat):=by
  have h1:¬((ms.getD (curC h).m.toNat (0,0,[])).2.2.length:Int)≤(curC h).pc:=by
    rw[cur_at hn hj,hm,Int.toNat_natCast,getD_at hml,hpc]
    omega
  have e:opNext ms (curC h)=(kk,a):=by rw[cur_at hn hj,opNext_at hj hm hpc hml hpl,ho]
  obtain⟨j',d⟩:=hg.doing hc h1 (by rw[e];simp only[];rw[ht,cur_at hn hj];exact h2) (by rw[e];simp only[];rw[ht,cur_at hn hj];exact h3)
  rw[e] at d
  simp only[] at d
  rw[ht,cur_at hn hj,setH_now hn,hpc] at d
  have hjj:j'=j:=by have:=d.now;simp only[] at this;omega
  subst hjj
  exact d
theorem CallsAt.cl {w:World} {a:Option Addr} {n c:Nat} {cs:List Cl} (h:CallsAt w (.slice a n c) cs) {p:Nat} (hp:p<cs.length):∃b o vt vs,a=some ⟨b,o,none⟩∧ClAt w b (o+p * 6) vt vs cs[p]:=by
  obtain⟨a',c',e,_,hc⟩:=h
  obtain⟨b,o,vt,vs,rfl,hx⟩:=hc p hp
  injection e with e1 e2 e3
  exact⟨b,o,vt,vs,e1,hx⟩
set_option maxRecDepth 100000 in
set_option maxHeartbeats 1000000 in
theorem clone_any (v:Value) (xs:List (Int × Int)) (w:World) (h:OpsAt w v xs) (hl:xs.length≤1000) :
    Calls Tryz.prog 53 #[v] w fun e w'=>∃v',e=.returned v'∧PairRow w.heap.size w' v' xs∧Below w.heap.size w w':=by
  obtain⟨a,c,rfl,hlm,hc⟩:=id h
  have hnil:∀(W:World) (a:Option Addr) (n c:Nat),(binOp .eql 27 (.slice a n c) (.slice none 0 0)).run Tryz.prog W=.ok (.bool a.isNone) W:=fun W a n c=>Lib.run_eql_slice_nil W _ _ a n c 0 0 Tryz.underlying27
  cases a with
  | none =>
    have hx:xs=[]:=by
      cases xs with
      | nil=>rfl
      | cons y t=>obtain⟨b,o,e,_⟩:=hc 0 (by simp);cases e
    subst hx
    go_enter Tryz.func53,Tryz.ntmps53
    go_wp2
    go_ret
    exact⟨_,rfl,PairRow.nil _ _,Below.refl _ _⟩
  | some ad =>
    have N1:=(Below.refl w.heap.size w).alloc (Nat.le_refl _) (.cells #[] 98)
    have mk:=PairRow.made (B:=w.heap.size) (w:=w) (e:=98) (Nat.le_refl _)
    have h1:=h.below N1
    go_enter Tryz.func53,Tryz.ntmps53
    go_wp2_with (at_builtin;refine append_vals _ (by rfl) _ _ (by rfl) w.heap.size _ _ [] xs (by rfl) (by rfl) mk h1 (by simp;omega) N1.size ?_;intro v2 w2 hrow2 hg2 hb2;rw[List.nil_append] at hrow2)
    have B2:=N1.grown hg2 N1.size (fun q e=>(mk.lt q e).1)
    clear hg2 hb2
    go_ret
    exact⟨_,rfl,hrow2,B2⟩
theorem PairRow.set1 {B:Nat} {w:World} {g off n cap:Nat} {xs:List (Int × Int)} (h:PairRow B w (.slice (some ⟨g,off,none⟩) n cap) xs) (i:Nat) (hi:i<xs.length) (y:Int) :
    PairRow B (w.setCell ⟨g,off+i * 2+1,none⟩ (.int .i64 y)) (.slice (some ⟨g,off,none⟩) n cap) (xs.set i (xs[i].1,y)):=by
  obtain⟨⟨hc,hd⟩,_⟩:=h.cell hi
  rcases h with⟨h,_⟩ | ⟨g',off',cap',hv,hB,hg,hl,hm,hsp,hx⟩
  · cases h
  · cases hv
    refine .inr ⟨g,off,cap,by simp,hB,by simp[World.setCell];exact hg,by simpa using hl,hm,fun j hj=>?_,fun j hj=>?_⟩
    · rw[World.frozen?_setCell]
      refine⟨?_,(hsp j hj).2⟩
      by_cases e:j=i * 2+1
      · subst e;rw[show off+(i * 2+1)=off+i * 2+1 by omega,World.cell?_setCell_same _ _ _ hd];rfl
      · rw[World.cell?_setCell_other _ _ _ _ (fun q=>by have:=congrArg Addr.off q;simp at this;omega)];exact(hsp j hj).1
    · rw[List.length_set] at hj
      by_cases e:j=i
      · subst e
        rw[List.getElem_set_self]
        refine⟨?_,World.cell?_setCell_same _ _ _ hd⟩
        rw[World.cell?_setCell_other _ _ _ _ (fun q=>by have:=congrArg Addr.off q;simp at this)];exact hc
      · rw[List.getElem_set_ne (Ne.symm e),World.cell?_setCell_other _ _ _ _ (fun q=>by have:=congrArg Addr.off q;simp at this;omega),World.cell?_setCell_other _ _ _ _ (fun q=>by have:=congrArg Addr.off q;simp at this;omega)]
        exact hx j hj
theorem Ord.below {A:Nat→Prop} {B bo n:Nat} {ps:List Nat} {vp vn:Value} {w w':World} (h:Ord A B bo n ps vp vn w) (hb:Below w.heap.size w w'):Ord A B bo n ps vp vn w' :=
  ⟨h.le,row_below hb h.box,h.p.below hb,h.n.below hb,h.pb,h.nb,h.pn,fun g hg=>⟨(h.av g hg).1,Nat.lt_of_lt_of_le (h.av g hg).2.1 hb.size,(h.av g hg).2.2⟩⟩
theorem Ord.set {A:Nat→Prop} {B bo n:Nat} {ps:List Nat} {vp vn:Value} {w:World} (h:Ord A B bo n ps vp vn w) {p:Addr} (u:Value) (h1:bo≠p.block) (h2:vp.ownBlock≠some p.block) (h3:vn.ownBlock≠some p.block):Ord A B bo n ps vp vn (w.setCell p u) :=
  ⟨h.le,h.box.of_block (Below.heap_setCell _ _ _ _ h1),h.p.set_other u h2,h.n.set_other u h3,h.pb,h.nb,h.pn,fun g hg=>⟨(h.av g hg).1,by simp[World.setCell];exact(h.av g hg).2.1,(h.av g hg).2.2⟩⟩
def renW (f:Int→Int) (v:Int × Int):Int × Int:=if v.1=2 then(v.1,f v.2) else v
set_option maxRecDepth 100000 in
set_option maxHeartbeats 4000000 in
theorem renumValsT_any (vp vo vt vs vl:Value) (m:Mc) (vv:Value) (vals:List (Int × Int)) (w:World) (h:Pl w vp vo vt vs vl m) (hl:OpsAt w vv vals) (hvn:vals.length≤1000) (hok:∀i,(hi:i<vals.length)→vals[i].1=2→tellB m vals[i].2=true) :
    Calls Tryz.prog 144 #[vv,.func (.func 165) #[.agg (mcCells vp vo vt vs m ++ [vl,.int .i64 (framesN m.pages:Int)]).toArray] #[]] w fun e w'=>∃v,e=.returned v∧PairRow w.heap.size w' v (vals.map (renW (plTw m)))∧Below w.heap.size w w':=by
  have hPl:=h
  obtain⟨hM,hL,hN,hTn⟩:=h
  obtain⟨ap,cp,hvp,hlp,hcp⟩:=id hM.p
  obtain⟨ao,co,hvo⟩:=hM.o.shape
  obtain⟨at',ct,hvt,hlt',hct⟩:=id hM.t
  obtain⟨as',cs,hvs⟩:=hM.s.shape
  obtain⟨al,cl,hvl,hll,hcl⟩:=id hL
  subst hvp hvo hvt hvs hvl
  unfold mcCells
  simp only[List.cons_append,List.nil_append]
  obtain⟨av,cv,hvv,_,_⟩:=id hl
  subst hvv
  have HOK:Hid (∀i,(hi:i<vals.length)→vals[i].1=2→tellB m vals[i].2=true):=hok
  clear hok hcl hct hcp
  have HCA:Hid (∀(x:Int) (W:World),Below w.heap.size w W→tellB m x=true→Calls Tryz.prog 165 #[.agg #[.int .i64 m.cells,.slice ap m.pages.length cp,.slice ao m.order.length co,.int .i64 m.now,.slice at' m.twins.length ct,.int .i64 m.born,.slice as' m.said.length cs,.int .i64 m.code,.slice al (lows m.pages).length cl,.int .i64 (framesN m.pages:Int)],.int .i64 x] W fun e w'=>e=.returned (.int .i64 (plTw m x))∧Below W.heap.size W w'):=fun x W hW hx=>by
    have:=ofTwin_any _ _ _ _ _ m x W (hPl.below hW) hx
    unfold mcCells at this
    simpa only [List.cons_append,List.nil_append] using this
  go_enter Tryz.func144,Tryz.ntmps144
  go_wp2_with fail
  refine(clone_any _ vals _ hl hvn).mono ?_
  rintro e w1 ⟨v1,rfl,hr1,hb1⟩
  obtain⟨a1,c1,hv1,_⟩:=hr1.slice
  subst hv1
  have hz1:=hb1.size
  go_wp2
  go_loopg [6,7,12] vals.length (fun g _ _ i wr=>∃(k:Nat) (ys:List (Int × Int)),k≤vals.length∧g=vals.length - k∧i=.int .i64 k∧ys.length=vals.length∧PairRow w.heap.size wr (.slice a1 vals.length c1) ys∧(∀q,(hq:q<ys.length)→(hq':q<vals.length)→(q<k→ys[q]=renW (plTw m) vals[q])∧(k≤q→ys[q]=vals[q]))∧Below w.heap.size w wr)
  case atStart=>exact⟨0,vals,Nat.zero_le _,rfl,rfl,rfl,hr1,fun q _ _=>⟨fun hq=>absurd hq (Nat.not_lt_zero _),fun _=>rfl⟩,hb1⟩
  case round =>
    obtain⟨k,ys,hk,rfl,rfl,hyl,hr,hys,hb⟩:=hrel
    have HY:Hid (∀q,(hq:q<ys.length)→(hq':q<vals.length)→(q<k→ys[q]=renW (plTw m) vals[q])∧(k≤q→ys[q]=vals[q])):=hys
    clear hys
    have zb:=hb.size
    by_cases hlt:k<vals.length
    · obtain⟨g1,o1,c2,e1,hgB,hgl⟩:=hr.form (by omega)
      obtain rfl:a1=some ⟨g1,o1,none⟩:=by injection e1
      clear e1
      have hky:k<ys.length:=by omega
      have HYK:Hid (ys[k]=vals[k]):=(HY.out k hky hlt).2 (Nat.le_refl _)
      obtain⟨⟨d0,d1⟩,f0,f1⟩:=hr.cell hky
      rw[HYK.out] at d0 d1
      have hkz:(k:Int)<(vals.length:Int):=by omega
      have HOV:=HOK.out k hlt
      have HV:Hid (renW (plTw m) vals[k]=if vals[k].1=2 then(vals[k].1,plTw m vals[k].2) else vals[k]):=rfl
      obtain⟨va,hva⟩:∃va,vals[k].1=va:=⟨_,rfl⟩
      obtain⟨vb,hvb⟩:∃vb,vals[k].2=vb:=⟨_,rfl⟩
      have HVA:Hid (vals[k]=(va,vb)):=by show _=_;rw[←hva,←hvb]
      rw[hva] at d0 HV HOV
      rw[hvb] at d1 HV HOV
      clear hva hvb
      by_cases hkd:va=2
      · subst hkd
        have hokk:=HOV rfl
        rw[if_pos rfl] at HV
        clear HOV
        go_upto_region 6 with fail
        refine wp_gen (fun W'=>Below wr.heap.size wr W'∧Bx W' wr.heap.size 98 [.int .i64 2,.int .i64 vb]) ⟨(Below.refl _ _).alloc (Nat.le_refl _) _,Bx.new _ _ _⟩ ?_
        rintro W2 ⟨t2,y2⟩
        have hb2:=hb.trans (t2.mono zb)
        have hr2:=hr.below t2
        have z2:=hb2.size
        have y1:=y2.cell 1 rfl
        have HC:=HCA.out vb W2 hb2 hokk
        clear t2 hb hr d0 d1 f0 f1 y2 hokk
        go_wp2_with fail
        refine HC.mono ?_
        rintro e W3 ⟨rfl,t3⟩
        have hb3:=hb2.trans (t3.mono z2)
        have hr3:=hr2.below t3
        clear HC t3 hb2 hr2 y1
        obtain⟨⟨d0,d1⟩,f0,f1⟩:=hr3.cell hky
        have hset:=hr3.set1 k hky (plTw m vb)
        rw[HYK.out,HVA.out] at hset
        have hbS:=hb3.setCell (p:=⟨g1,o1+k * 2+1,none⟩) hgB (.int .i64 (plTw m vb))
        clear hb3 hr3
        go_wp2
        go_roundg (vals.length - (k+1))
        case measure=>omega
        case rel=>exact⟨k+1,_,by omega,rfl,by go_num,by rw[List.length_set];exact hyl,hset,fun q h1 h2=>by
            rw[List.length_set] at h1
            refine⟨fun hq=>?_,fun hq=>?_⟩
            · by_cases e:q=k
              · subst e;rw[List.getElem_set_self,HV.out]
              · rw[List.getElem_set_ne (fun x=>e x.symm)];exact(HY.out q h1 h2).1 (by omega)
            · rw[List.getElem_set_ne (by omega)];exact(HY.out q h1 h2).2 (by omega),hbS⟩
      · rw[if_neg hkd] at HV
        have hke:(va == 2)=false:=by simpa using hkd
        have hbA:∀o,Below w.heap.size w (wr.alloc o):=fun o=>hb.alloc zb _
        have hrA:∀o,PairRow w.heap.size (wr.alloc o) (.slice (some ⟨g1,o1,none⟩) vals.length c1) ys:=fun o=>hr.below ((Below.refl _ _).alloc (Nat.le_refl _) _)
        have HBA:Hid _:=hbA
        have HRA:Hid _:=hrA
        clear HOV hbA hrA hb hr
        go_wp2
        go_roundg (vals.length - (k+1))
        case measure=>omega
        case rel=>exact⟨k+1,ys,by omega,rfl,by go_num,hyl,HRA.out _,fun q h1 h2=>by
            refine⟨fun hq=>?_,fun hq=>(HY.out q h1 h2).2 (by omega)⟩
            by_cases e:q=k
            · subst e;rw[HYK.out,HV.out]
            · exact(HY.out q h1 h2).1 (by omega),HBA.out _⟩
    · obtain rfl:k=vals.length:=by omega
      have hE:ys=vals.map (renW (plTw m)):=List.ext_getElem (by simpa using hyl) fun q h1 h2=>by rw[(HY.out q h1 (by simpa using h2)).1 (by simpa using h2)];simp
      subst hE
      go_wp2
      go_ret
      exact⟨_,rfl,hr,hb⟩
set_option maxRecDepth 100000 in
set_option maxHeartbeats 4000000 in
theorem renumValsC_any (vp vo vt vs vl:Value) (m:Mc) (vv:Value) (vals:List (Int × Int)) (w:World) (h:Pl w vp vo vt vs vl m) (hl:OpsAt w vv vals) (hvn:vals.length≤1000) (hok:∀i,(hi:i<vals.length)→vals[i].1=2→(vals[i].2 == -1 || tellB m vals[i].2)=true) :
    Calls Tryz.prog 144 #[vv,.func (.func 164) #[.agg (mcCells vp vo vt vs m ++ [vl,.int .i64 (framesN m.pages:Int)]).toArray] #[]] w fun e w'=>∃v,e=.returned v∧PairRow w.heap.size w' v (vals.map (renW (plCa m)))∧Below w.heap.size w w':=by
  have hPl:=h
  obtain⟨hM,hL,hN,hTn⟩:=h
  obtain⟨ap,cp,hvp,hlp,hcp⟩:=id hM.p
  obtain⟨ao,co,hvo⟩:=hM.o.shape
  obtain⟨at',ct,hvt,hlt',hct⟩:=id hM.t
  obtain⟨as',cs,hvs⟩:=hM.s.shape
  obtain⟨al,cl,hvl,hll,hcl⟩:=id hL
  subst hvp hvo hvt hvs hvl
  unfold mcCells
  simp only[List.cons_append,List.nil_append]
  obtain⟨av,cv,hvv,_,_⟩:=id hl
  subst hvv
  have HOK:Hid (∀i,(hi:i<vals.length)→vals[i].1=2→(vals[i].2 == -1 || tellB m vals[i].2)=true):=hok
  clear hok hcl hct hcp
  have HCA:Hid (∀(x:Int) (W:World),Below w.heap.size w W→(x == -1 || tellB m x)=true→Calls Tryz.prog 164 #[.agg #[.int .i64 m.cells,.slice ap m.pages.length cp,.slice ao m.order.length co,.int .i64 m.now,.slice at' m.twins.length ct,.int .i64 m.born,.slice as' m.said.length cs,.int .i64 m.code,.slice al (lows m.pages).length cl,.int .i64 (framesN m.pages:Int)],.int .i64 x] W fun e w'=>e=.returned (.int .i64 (plCa m x))∧Below W.heap.size W w'):=fun x W hW hx=>by
    have:=ofCaller_any _ _ _ _ _ m x W (hPl.below hW) hx
    unfold mcCells at this
    simpa only [List.cons_append,List.nil_append] using this
  go_enter Tryz.func144,Tryz.ntmps144
  go_wp2_with fail
  refine(clone_any _ vals _ hl hvn).mono ?_
  rintro e w1 ⟨v1,rfl,hr1,hb1⟩
  obtain⟨a1,c1,hv1,_⟩:=hr1.slice
  subst hv1
  have hz1:=hb1.size
  go_wp2
  go_loopg [6,7,12] vals.length (fun g _ _ i wr=>∃(k:Nat) (ys:List (Int × Int)),k≤vals.length∧g=vals.length - k∧i=.int .i64 k∧ys.length=vals.length∧PairRow w.heap.size wr (.slice a1 vals.length c1) ys∧(∀q,(hq:q<ys.length)→(hq':q<vals.length)→(q<k→ys[q]=renW (plCa m) vals[q])∧(k≤q→ys[q]=vals[q]))∧Below w.heap.size w wr)
  case atStart=>exact⟨0,vals,Nat.zero_le _,rfl,rfl,rfl,hr1,fun q _ _=>⟨fun hq=>absurd hq (Nat.not_lt_zero _),fun _=>rfl⟩,hb1⟩
  case round =>
    obtain⟨k,ys,hk,rfl,rfl,hyl,hr,hys,hb⟩:=hrel
    have HY:Hid (∀q,(hq:q<ys.length)→(hq':q<vals.length)→(q<k→ys[q]=renW (plCa m) vals[q])∧(k≤q→ys[q]=vals[q])):=hys
    clear hys
    have zb:=hb.size
    by_cases hlt:k<vals.length
    · obtain⟨g1,o1,c2,e1,hgB,hgl⟩:=hr.form (by omega)
      obtain rfl:a1=some ⟨g1,o1,none⟩:=by injection e1
      clear e1
      have hky:k<ys.length:=by omega
      have HYK:Hid (ys[k]=vals[k]):=(HY.out k hky hlt).2 (Nat.le_refl _)
      obtain⟨⟨d0,d1⟩,f0,f1⟩:=hr.cell hky
      rw[HYK.out] at d0 d1
      have hkz:(k:Int)<(vals.length:Int):=by omega
      have HOV:=HOK.out k hlt
      have HV:Hid (renW (plCa m) vals[k]=if vals[k].1=2 then(vals[k].1,plCa m vals[k].2) else vals[k]):=rfl
      obtain⟨va,hva⟩:∃va,vals[k].1=va:=⟨_,rfl⟩
      obtain⟨vb,hvb⟩:∃vb,vals[k].2=vb:=⟨_,rfl⟩
      have HVA:Hid (vals[k]=(va,vb)):=by show _=_;rw[←hva,←hvb]
      rw[hva] at d0 HV HOV
      rw[hvb] at d1 HV HOV
      clear hva hvb
      by_cases hkd:va=2
      · subst hkd
        have hokk:=HOV rfl
        rw[if_pos rfl] at HV
        clear HOV
        go_upto_region 6 with fail
        refine wp_gen (fun W'=>Below wr.heap.size wr W'∧Bx W' wr.heap.size 98 [.int .i64 2,.int .i64 vb]) ⟨(Below.refl _ _).alloc (Nat.le_refl _) _,Bx.new _ _ _⟩ ?_
        rintro W2 ⟨t2,y2⟩
        have hb2:=hb.trans (t2.mono zb)
        have hr2:=hr.below t2
        have z2:=hb2.size
        have y1:=y2.cell 1 rfl
        have HC:=HCA.out vb W2 hb2 hokk
        clear t2 hb hr d0 d1 f0 f1 y2 hokk
        go_wp2_with fail
        refine HC.mono ?_
        rintro e W3 ⟨rfl,t3⟩
        have hb3:=hb2.trans (t3.mono z2)
        have hr3:=hr2.below t3
        clear HC t3 hb2 hr2 y1
        obtain⟨⟨d0,d1⟩,f0,f1⟩:=hr3.cell hky
        have hset:=hr3.set1 k hky (plCa m vb)
        rw[HYK.out,HVA.out] at hset
        have hbS:=hb3.setCell (p:=⟨g1,o1+k * 2+1,none⟩) hgB (.int .i64 (plCa m vb))
        clear hb3 hr3
        go_wp2
        go_roundg (vals.length - (k+1))
        case measure=>omega
        case rel=>exact⟨k+1,_,by omega,rfl,by go_num,by rw[List.length_set];exact hyl,hset,fun q h1 h2=>by
            rw[List.length_set] at h1
            refine⟨fun hq=>?_,fun hq=>?_⟩
            · by_cases e:q=k
              · subst e;rw[List.getElem_set_self,HV.out]
              · rw[List.getElem_set_ne (fun x=>e x.symm)];exact(HY.out q h1 h2).1 (by omega)
            · rw[List.getElem_set_ne (by omega)];exact(HY.out q h1 h2).2 (by omega),hbS⟩
      · rw[if_neg hkd] at HV
        have hke:(va == 2)=false:=by simpa using hkd
        have hbA:∀o,Below w.heap.size w (wr.alloc o):=fun o=>hb.alloc zb _
        have hrA:∀o,PairRow w.heap.size (wr.alloc o) (.slice (some ⟨g1,o1,none⟩) vals.length c1) ys:=fun o=>hr.below ((Below.refl _ _).alloc (Nat.le_refl _) _)
        have HBA:Hid _:=hbA
        have HRA:Hid _:=hrA
        clear HOV hbA hrA hb hr
        go_wp2
        go_roundg (vals.length - (k+1))
        case measure=>omega
        case rel=>exact⟨k+1,ys,by omega,rfl,by go_num,hyl,HRA.out _,fun q h1 h2=>by
            refine⟨fun hq=>?_,fun hq=>(HY.out q h1 h2).2 (by omega)⟩
            by_cases e:q=k
            · subst e;rw[HYK.out,HV.out]
            · exact(HY.out q h1 h2).1 (by omega),HBA.out _⟩
    · obtain rfl:k=vals.length:=by omega
      have hE:ys=vals.map (renW (plCa m)):=List.ext_getElem (by simpa using hyl) fun q h1 h2=>by rw[(HY.out q h1 (by simpa using h2)).1 (by simpa using h2)];simp
      subst hE
      go_wp2
      go_ret
      exact⟨_,rfl,hr,hb⟩
end Go.Proofs.YtjbgpcileapogaaGreat

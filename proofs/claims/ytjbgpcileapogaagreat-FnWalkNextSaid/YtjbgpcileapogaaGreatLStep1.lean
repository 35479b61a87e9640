/-
  What is seen of a heap, by the model: l11Found answers the calls that can be come to.
-/
import Derived.Test.YtjbgpcileapogaaGreatVSpec
import Derived.Deep.QuietTactic
import Derived.Test.YtjbgpcileapogaaGreatRunPlain
import Derived.Test.YtjbgpcileapogaaGreatVApart
import Derived.Deep.RegionHeld3
import Derived.Lib.SliceRun
import Derived.Test.YtjbgpcileapogaaGreatSMem2
import Derived.Deep.RegionWith
import Derived.Deep.DeepCutAuto
import Derived.Test.YtjbgpcileapogaaGreatQB
import Derived.BigQuiet
namespace Go.Proofs.YtjbgpcileapogaaGreat
open Go.RowKit
def Hp.short (h:Hp):Prop:=h.calls.length≤1000∧∀i,(hi:i<h.calls.length)→h.calls[i].temps.length≤1000∧h.calls[i].stack.length≤1000
theorem PsOk.nil (n:Nat):PsOk n []:=⟨by simp,fun p hp=>by cases hp⟩
theorem newHp_yes {ms:List (Int × Int × List (Int × Int))} (h:progOk ms=true):newHp ms=⟨[⟨0,0,List.replicate (temps0 ms) (0,0),[],-1,false⟩],0,1,[],0⟩:=if_pos h
theorem vals_zero (n:Int) (k:Nat):valsOk n (List.replicate k (0,0))=true:=by
  refine valsOk_yes fun i hi=>?_
  simp[valOk]
theorem newHp_ok {ms:List (Int × Int × List (Int × Int))} (h:progOk ms=true):heapOk ms (newHp ms)=true:=by
  obtain⟨hl,h0,h4,ht,_⟩:=first_ok h
  have hg:ms.getD 0 (0,0,[])=ms[0]:=by simp[hl]
  rw[newHp_yes h]
  have hv:=vals_zero 1 (temps0 ms)
  have hz:valsOk 1 []=true:=rfl
  have hz2:valsOk (ms.length:Int) []=true:=rfl
  have hm:inR 0 0 ((ms.length:Int) - 1)=true:=inR_true.2 ⟨by omega,by omega⟩
  have hpc:inR 0 0 (ms[0].2.2.length:Int)=true:=inR_true.2 ⟨by omega,by omega⟩
  have hc:clOk ms 1 ⟨0,0,List.replicate (temps0 ms) (0,0),[],-1,false⟩=true:=by
    have a2:inR (-1) (-1) 0=true:=by decide
    have hg2:ms[0]?=some ms[0]:=List.getElem?_eq_getElem hl
    simp[clOk,hg2,ht,hm,hpc,hv,hz,a2]
  have he:endOk ⟨[⟨0,0,List.replicate (temps0 ms) (0,0),[],-1,false⟩],0,1,[],0⟩=true:=by
    simp[endOk,chainOf,walkC,liveN,roomP]
  have hd:headOk ms ⟨[⟨0,0,List.replicate (temps0 ms) (0,0),[],-1,false⟩],0,1,[],0⟩=true:=by
    have a1:inR 0 (-1) (1 - 1)=true:=by decide
    have a2:inR 1 1 30=true:=by decide
    have a3:inR 0 0 3=true:=by decide
    simp[headOk,h,hz2,a2,a3]
    exact a1
  simp only[heapOk,hd,he,List.all_cons,List.all_nil,List.length_cons,List.length_nil,Nat.zero_add,hc,Bool.and_self]
theorem CallsAt.cl {w:World} {a:Option Addr} {n c:Nat} {cs:List Cl} (h:CallsAt w (.slice a n c) cs) {p:Nat} (hp:p<cs.length):∃b o vt vs,a=some ⟨b,o,none⟩∧ClAt w b (o+p * 6) vt vs cs[p]:=by
  obtain⟨a',c',e,_,hc⟩:=h
  obtain⟨b,o,vt,vs,rfl,hx⟩:=hc p hp
  injection e with e1 e2 e3
  exact⟨b,o,vt,vs,e1,hx⟩
set_option maxRecDepth 100000 in
set_option maxHeartbeats 1000000 in
theorem clone_any (v:Value) (xs:List (Int × Int)) (w:World) (h:OpsAt w v xs) (hl:xs.length≤1000) :
    Calls Tryz.prog 53 #[v] w fun e w'=>∃v',e=.returned v'∧PairRow w.heap.size w' v' xs∧Below w.heap.size w w':=by
  obtain⟨a,c,rfl,hlm,hc⟩:=id h
  have hnil:∀(W:World) (a:Option Addr) (n c:Nat),(binOp .eql 27 (.slice a n c) (.slice none 0 0)).run Tryz.prog W=.ok (.bool a.isNone) W:=fun W a n c=>Lib.run_eql_slice_nil W _ _ a n c 0 0 Tryz.underlying27
  cases a with
  | none =>
    have hx:xs=[]:=by
      cases xs with
      | nil=>rfl
      | cons y t=>obtain⟨b,o,e,_⟩:=hc 0 (by simp);cases e
    subst hx
    go_enter Tryz.func53,Tryz.ntmps53
    go_wp2
    go_ret
    exact⟨_,rfl,PairRow.nil _ _,Below.refl _ _⟩
  | some ad =>
    have N1:=(Below.refl w.heap.size w).alloc (Nat.le_refl _) (.cells #[] 98)
    have mk:=PairRow.made (B:=w.heap.size) (w:=w) (e:=98) (Nat.le_refl _)
    have h1:=h.below N1
    go_enter Tryz.func53,Tryz.ntmps53
    go_wp2_with (at_builtin;refine append_vals _ (by rfl) _ _ (by rfl) w.heap.size _ _ [] xs (by rfl) (by rfl) mk h1 (by simp;omega) N1.size ?_;intro v2 w2 hrow2 hg2 hb2;rw[List.nil_append] at hrow2)
    have B2:=N1.grown hg2 N1.size (fun q e=>(mk.lt q e).1)
    clear hg2 hb2
    go_ret
    exact⟨_,rfl,hrow2,B2⟩
theorem PairRow.set1 {B:Nat} {w:World} {g off n cap:Nat} {xs:List (Int × Int)} (h:PairRow B w (.slice (some ⟨g,off,none⟩) n cap) xs) (i:Nat) (hi:i<xs.length) (y:Int) :
    PairRow B (w.setCell ⟨g,off+i * 2+1,none⟩ (.int .i64 y)) (.slice (some ⟨g,off,none⟩) n cap) (xs.set i (xs[i].1,y)):=by
  obtain⟨⟨hc,hd⟩,_⟩:=h.cell hi
  rcases h with⟨h,_⟩ | ⟨g',off',cap',hv,hB,hg,hl,hm,hsp,hx⟩
  · cases h
  · cases hv
    refine .inr ⟨g,off,cap,by simp,hB,by simp[World.setCell];exact hg,by simpa using hl,hm,fun j hj=>?_,fun j hj=>?_⟩
    · rw[World.frozen?_setCell]
      refine⟨?_,(hsp j hj).2⟩
      by_cases e:j=i * 2+1
      · subst e;rw[show off+(i * 2+1)=off+i * 2+1 by omega,World.cell?_setCell_same _ _ _ hd];rfl
      · rw[World.cell?_setCell_other _ _ _ _ (fun q=>by have:=congrArg Addr.off q;simp at this;omega)];exact(hsp j hj).1
    · rw[List.length_set] at hj
      by_cases e:j=i
      · subst e
        rw[List.getElem_set_self]
        refine⟨?_,World.cell?_setCell_same _ _ _ hd⟩
        rw[World.cell?_setCell_other _ _ _ _ (fun q=>by have:=congrArg Addr.off q;simp at this)];exact hc
      · rw[List.getElem_set_ne (Ne.symm e),World.cell?_setCell_other _ _ _ _ (fun q=>by have:=congrArg Addr.off q;simp at this;omega),World.cell?_setCell_other _ _ _ _ (fun q=>by have:=congrArg Addr.off q;simp at this;omega)]
        exact hx j hj
theorem Ord.below {A:Nat→Prop} {B bo n:Nat} {ps:List Nat} {vp vn:Value} {w w':World} (h:Ord A B bo n ps vp vn w) (hb:Below w.heap.size w w'):Ord A B bo n ps vp vn w' :=
  ⟨h.le,row_below hb h.box,h.p.below hb,h.n.below hb,h.pb,h.nb,h.pn,fun g hg=>⟨(h.av g hg).1,Nat.lt_of_lt_of_le (h.av g hg).2.1 hb.size,(h.av g hg).2.2⟩⟩
theorem Ord.set {A:Nat→Prop} {B bo n:Nat} {ps:List Nat} {vp vn:Value} {w:World} (h:Ord A B bo n ps vp vn w) {p:Addr} (u:Value) (h1:bo≠p.block) (h2:vp.ownBlock≠some p.block) (h3:vn.ownBlock≠some p.block):Ord A B bo n ps vp vn (w.setCell p u) :=
  ⟨h.le,h.box.of_block (Below.heap_setCell _ _ _ _ h1),h.p.set_other u h2,h.n.set_other u h3,h.pb,h.nb,h.pn,fun g hg=>⟨(h.av g hg).1,by simp[World.setCell];exact(h.av g hg).2.1,(h.av g hg).2.2⟩⟩
variable {B:Nat} {w w':World} {bl br:Nat} {vp vcs vsd:Value} {C D:Nat→Nat} {T:Nat→Value × Value} {h h':Hp}
set_option maxRecDepth 100000 in
set_option maxHeartbeats 2000000 in
theorem opAt_any (vp:Value) (ms:Ms) (m pc:Nat) (w:World) (hM:MethsAt w vp ms) (hm:m<ms.length) :
    Calls Tryz.prog 46 #[.agg #[vp],.int .i64 m,.int .i64 pc] w fun e w'=>e=.returned (.tuple #[.agg #[.int .i64 (ms[m].2.2.getD pc (0,0)).1,.int .i64 (ms[m].2.2.getD pc (0,0)).2],.bool (decide (pc<ms[m].2.2.length))])∧Below w.heap.size w w':=by
  have hA:Below w.heap.size w ((w.alloc (.cells #[vp] 25)).alloc (.cells #[.int .i64 0,.int .i64 0] 33)):=((Below.refl _ _).alloc (Nat.le_refl _) _).alloc (by simp) _
  have hMA:=hM.below hA
  obtain⟨ap,cp,hvp,hlp,hms⟩:=id hMA
  obtain⟨pb,po,vo,hap,p0,p1,p2,p3⟩:=hms m hm
  obtain⟨oa,oc,hvo,hol,hops⟩:=id p3
  subst hvp hap hvo
  have r1:=two_new (w.alloc (.cells #[.slice (some ⟨pb,po,none⟩) ms.length cp] 25)) 33 (.int .i64 0) (.int .i64 0)
  simp only[World.size_alloc] at r1
  have hmz:(m:Int)<(ms.length:Int):=by omega
  clear hms hM hMA
  by_cases hpl:pc<ms[m].2.2.length
  · rw[decide_eq_true hpl,getD_at hpl]
    obtain⟨ob,oo,hob,q0,q1⟩:=hops pc hpl
    subst hob
    have hpz:(pc:Int)<(ms[m].2.2.length:Int):=by omega
    have hp0:(0:Int)≤(pc:Int):=by omega
    clear hops p3
    generalize ms[m].2.2[pc]=op at *
    obtain⟨kk,a⟩:=op
    generalize ms[m].2.2.length=no at *
    have r0:=(box_row w 25 (.slice (some ⟨pb,po,none⟩) ms.length cp)).alloc (.cells #[.int .i64 0,.int .i64 0] 33)
    go_enter Tryz.func46,Tryz.ntmps46
    go_upto_region 1 with fail
    generalize (w.alloc (.cells #[.slice (some ⟨pb,po,none⟩) ms.length cp] 25)).alloc (.cells #[.int .i64 0,.int .i64 0] 33)=W at *
    obtain⟨⟨u0,u1⟩,uf0,uf1⟩:=two_cells r1
    have v0:=r0.cell (i:=0) (by decide)
    go_wp2_with (go_at_call 61;refine(isPlace_any _ _ _).mono ?_;rintro e w' ⟨rfl,hw⟩;obtain rfl:=hw.symm;rw[inR_true.2 ⟨hp0,by omega⟩])
    have R9:((W.setCell ⟨w.heap.size+1,0,none⟩ (.int .i64 kk)).setCell ⟨w.heap.size+1,1,none⟩ (.int .i64 a)).rowIs (w.heap.size+1) 33 2 (two (.int .i64 kk) (.int .i64 a)):=((two_set0 r1 (.int .i64 kk)).set 1 (.int .i64 a)).congr fun i hi=>by match i,hi with | 0,_=>rfl | 1,_=>rfl
    have B9:Below w.heap.size w ((W.setCell ⟨w.heap.size+1,0,none⟩ (.int .i64 kk)).setCell ⟨w.heap.size+1,1,none⟩ (.int .i64 a)):=(hA.setCell (p:=⟨w.heap.size+1,0,none⟩) (Nat.le_succ _) _).setCell (p:=⟨w.heap.size+1,1,none⟩) (Nat.le_succ _) _
    obtain⟨⟨s0,s1⟩,_⟩:=two_cells R9
    generalize (W.setCell ⟨w.heap.size+1,0,none⟩ (.int .i64 kk)).setCell ⟨w.heap.size+1,1,none⟩ (.int .i64 a)=W9 at *
    exact bodyPost_ret (v:=.tuple #[.agg #[.int .i64 kk,.int .i64 a],.bool true]) (by simp[results,Tryz.results46,go_sem,s0,s1]) rfl ⟨rfl,B9⟩
  · rw[decide_eq_false hpl,List.getD_eq_getElem?_getD,List.getElem?_eq_none (by omega)]
    clear hops
    generalize ms[m].2.2.length=no at *
    have r0:=(box_row w 25 (.slice (some ⟨pb,po,none⟩) ms.length cp)).alloc (.cells #[.int .i64 0,.int .i64 0] 33)
    go_enter Tryz.func46,Tryz.ntmps46
    go_upto_region 1 with fail
    generalize (w.alloc (.cells #[.slice (some ⟨pb,po,none⟩) ms.length cp] 25)).alloc (.cells #[.int .i64 0,.int .i64 0] 33)=W at *
    obtain⟨⟨u0,u1⟩,uf0,uf1⟩:=two_cells r1
    have v0:=r0.cell (i:=0) (by decide)
    go_wp2_with (go_at_call 61;refine(isPlace_any _ _ _).mono ?_;rintro e w' ⟨rfl,hw⟩;obtain rfl:=hw.symm;rw[inR_false.2 (by omega)])
    have R9:((W.setCell ⟨w.heap.size+1,0,none⟩ (.int .i64 0)).setCell ⟨w.heap.size+1,1,none⟩ (.int .i64 0)).rowIs (w.heap.size+1) 33 2 (two (.int .i64 0) (.int .i64 0)):=((two_set0 r1 (.int .i64 0)).set 1 (.int .i64 0)).congr fun i hi=>by match i,hi with | 0,_=>rfl | 1,_=>rfl
    have B9:Below w.heap.size w ((W.setCell ⟨w.heap.size+1,0,none⟩ (.int .i64 0)).setCell ⟨w.heap.size+1,1,none⟩ (.int .i64 0)):=(hA.setCell (p:=⟨w.heap.size+1,0,none⟩) (Nat.le_succ _) _).setCell (p:=⟨w.heap.size+1,1,none⟩) (Nat.le_succ _) _
    obtain⟨⟨s0,s1⟩,_⟩:=two_cells R9
    generalize (W.setCell ⟨w.heap.size+1,0,none⟩ (.int .i64 0)).setCell ⟨w.heap.size+1,1,none⟩ (.int .i64 0)=W9 at *
    exact bodyPost_ret (v:=.tuple #[.agg #[.int .i64 0,.int .i64 0],.bool false]) (by simp[results,Tryz.results46,go_sem,s0,s1]) rfl ⟨rfl,B9⟩
theorem ret_int {a b:Int} (h:a=b):Ending.returned (.int .i64 a)=Ending.returned (.int .i64 b):=by rw[h]
def idxI (xs:List Int) (v:Int):Int:=match xs.findIdx? (fun x=>x == v) with | some i=>(i:Int) | none=>-1
theorem idxI_found {xs:List Int} {v:Int} {k:Nat} (hk:k<xs.length) (he:xs[k]=v) (hno:∀j,(hj:j<xs.length)→j<k→xs[j]≠v):idxI xs v=(k:Int):=by
  have:xs.findIdx? (fun x=>x == v)=some k:=by
    rw[List.findIdx?_eq_some_iff_getElem]
    exact⟨hk,by simp[he],fun j hj=>by simp[hno j (by omega) hj]⟩
  unfold idxI
  rw[this]
theorem idxI_none {xs:List Int} {v:Int} (hno:∀j,(hj:j<xs.length)→xs[j]≠v):idxI xs v=-1:=by
  have:xs.findIdx? (fun x=>x == v)=none:=by
    rw[List.findIdx?_eq_none_iff]
    intro x hx
    obtain⟨j,hj,rfl⟩:=List.getElem_of_mem hx
    simp[hno j hj]
  unfold idxI
  rw[this]
theorem idxI_mem {xs:List Int} {v:Int}:decide (0≤idxI xs v)=decide (v∈xs):=by
  by_cases h:v∈xs
  · obtain⟨j,hj,e⟩:=List.getElem_of_mem h
    have hs:(xs.findIdx? (fun x=>x == v)).isSome=true:=by
      rw[List.findIdx?_isSome]
      exact List.any_eq_true.2 ⟨v,h,by simp⟩
    obtain⟨i,hi⟩:=Option.isSome_iff_exists.1 hs
    unfold idxI
    rw[hi]
    simp[h]
  · have:=idxI_none (xs:=xs) (v:=v) (fun j hj e=>h (e ▸ List.getElem_mem hj))
    rw[this]
    simp[h]
set_option maxRecDepth 100000 in
set_option maxHeartbeats 4000000 in
theorem slicesIndex_any (v:Value) (xs:List Int) (x:Int) (w:World) (h:IntsAt w v xs) :
    Calls Tryz.prog 117 #[v,.int .i64 x] w fun e w'=>e=.returned (.int .i64 (idxI xs x))∧w'=w:=by
  obtain⟨a,cap,rfl,hl,hc⟩:=h
  unfold maxLen at hl
  go_enter Tryz.func117,Tryz.ntmps117
  go_wp2
  go_loopg [5,8] xs.length (fun g _ i wr=>∃k:Nat,k≤xs.length∧g=xs.length - k∧i=.int .i64 k∧wr=w∧∀j,(hj:j<xs.length)→j<k→xs[j]≠x)
  case atStart=>exact⟨0,Nat.zero_le _,rfl,rfl,rfl,fun j _ h=>absurd h (Nat.not_lt_zero _)⟩
  case round =>
    obtain⟨k,hk,rfl,rfl,hw,hall⟩:=hrel
    obtain rfl:=hw.symm
    have H:Hid (∀j,(hj:j<xs.length)→j<k→xs[j]≠x):=hall
    clear hall hw
    by_cases hlt:k<xs.length
    · obtain⟨b,o,rfl,c0⟩:=hc k hlt
      have hkz:(k:Int)<(xs.length:Int):=by omega
      by_cases he:xs[k]=x
      · have HE:Hid (idxI xs x=(k:Int)):=idxI_found hlt he H.out
        rw[he] at c0
        go_wp2
        go_ret
        exact⟨ret_int HE.out.symm,rfl⟩
      · have hne:(x == xs[k])=false:=by simp;exact fun e=>he e.symm
        have HN:Hid (∀j,(hj:j<xs.length)→j<k+1→xs[j]≠x):=fun j hj hjk=>by
          by_cases e:j=k
          · subst e;exact he
          · exact H.out j hj (by omega)
        have hne2:¬(x=xs[k]):=fun e=>he e.symm
        clear H
        go_wp2
        go_roundg (xs.length - (k+1))
        case measure=>omega
        case rel=>exact⟨k+1,by omega,rfl,by go_num,rfl,HN.out⟩
    · obtain rfl:k=xs.length:=by omega
      have HE:Hid (idxI xs x=-1):=idxI_none fun j hj=>H.out j hj hj
      go_wp2
      go_ret
      exact⟨ret_int HE.out.symm,rfl⟩
theorem slicesContains_any (v:Value) (xs:List Int) (x:Int) (w:World) (h:IntsAt w v xs) :
    Calls Tryz.prog 129 #[v,.int .i64 x] w fun e w'=>e=.returned (.bool (decide (x∈xs)))∧w'=w:=by
  obtain⟨a,cap,hv⟩:=h.shape
  subst hv
  go_enter Tryz.func129,Tryz.ntmps129
  go_wp2_with (go_at_call 117;refine(slicesIndex_any _ xs _ _ h).mono ?_;rintro e w' ⟨rfl,hw⟩;obtain rfl:=hw.symm)
  go_ret
  exact⟨ret_bool idxI_mem,rfl⟩
def offTo (ts:List Tw) (k:Nat):Nat:=((ts.take k).filter fun t=>t.page == -1).length
theorem offTo_succ {ts:List Tw} {k:Nat} (h:k<ts.length):offTo ts (k+1)=offTo ts k+(if ts[k].page=-1 then 1 else 0):=by
  unfold offTo
  rw[List.take_add_one,List.getElem?_eq_getElem h,List.filter_append]
  simp only[Option.toList_some,List.length_append]
  by_cases e:ts[k].page=-1 <;> simp[e]
theorem offTo_le (ts:List Tw) (k:Nat):offTo ts k≤k:=by
  unfold offTo
  exact Nat.le_trans (List.length_filter_le _ _) (by simp;omega)
def callsN (m:Mc):Nat:=framesN m.pages+offTo m.twins m.twins.length
set_option maxRecDepth 100000 in
set_option maxHeartbeats 4000000 in
theorem callsOf_any (vp vo vt vs:Value) (m:Mc) (w:World) (h:MachAt w vp vo vt vs m) (hn:m.pages.length≤1048576) (hf:framesN m.pages≤1099511627776) (htn:m.twins.length≤1099511627776) :
    Calls Tryz.prog 74 #[.agg (mcCells vp vo vt vs m).toArray] w fun e w'=>e=.returned (.int .i64 (callsN m:Int))∧Below w.heap.size w w':=by
  obtain⟨ap,cp,hvp,hlp,hcp⟩:=id h.p
  obtain⟨ao,co,hvo,hlo,hco⟩:=id h.o
  obtain⟨at',ct,hvt,hlt',hct⟩:=id h.t
  obtain⟨as',cs,hvs⟩:=h.s.shape
  subst hvp hvo hvt hvs
  unfold mcCells
  go_enter Tryz.func74,Tryz.ntmps74
  go_upto_region 1 with fail
  refine wp_gen (fun W=>Below w.heap.size w W∧Bx W w.heap.size 42 [.int .i64 m.cells,.slice ap m.pages.length cp,.slice ao m.order.length co,.int .i64 m.now,.slice at' m.twins.length ct,.int .i64 m.born,.slice as' m.said.length cs,.int .i64 m.code]) ⟨(Below.refl _ _).alloc (Nat.le_refl _) _,Bx.new w _ _⟩ ?_
  rintro W ⟨hb,hm⟩
  obtain⟨⟨m0,m1,m2,m3,m4,m5,m6,m7⟩,_⟩:=bx8 hm
  have HF:=implMachFrames_any _ _ _ _ m W (h.below hb) hn hf
  unfold mcCells at HF
  have zb:=hb.size
  go_wp2_with fail
  refine HF.mono ?_
  rintro e W1 ⟨rfl,t1⟩
  have hb1:=hb.trans (t1.mono zb)
  have hm1:=hm.below t1
  have z1:=hb1.size
  have HC:Hid (callsN m=framesN m.pages+offTo m.twins m.twins.length):=rfl
  clear HF t1 hm hb zb m0 m1 m2 m3 m4 m5 m6 m7
  obtain⟨⟨_,_,_,_,m4,_,_,_⟩,_⟩:=bx8 hm1
  go_wp2_with fail
  go_loopg [3,5,11] m.twins.length (fun g n _ i wr=>∃k:Nat,k≤m.twins.length∧g=m.twins.length - k∧i=.int .i64 k∧n=.int .i64 ((framesN m.pages+offTo m.twins k:Nat):Int)∧Below w.heap.size w wr)
  case atStart=>exact⟨0,Nat.zero_le _,rfl,rfl,by simp[offTo],hb1⟩
  case round =>
    clear m4 hm1 hb1 z1
    obtain⟨k,hk,rfl,rfl,rfl,hb⟩:=hrel
    by_cases hlt:k<m.twins.length
    · obtain⟨b,o,vt,vs,rfl,htw⟩:=hct k hlt
      obtain⟨d0,d1,d2,d3,d4,d5,d6,d7,dt,ds⟩:=htw.below hb
      obtain⟨a1,k1,e1⟩:=dt.shape
      obtain⟨a2,k2,e2⟩:=ds.shape
      rw[e1] at d4
      rw[e2] at d5
      have hkz:(k:Int)<(m.twins.length:Int):=by omega
      have hof:=offTo_succ hlt
      have hol:=offTo_le m.twins k
      have zb:=hb.size
      have HB2:Hid (∀o,Below w.heap.size w (wr.alloc o)):=fun o=>hb.alloc zb _
      clear e1 e2 dt ds htw hct
      obtain⟨n,hn'⟩:∃n,framesN m.pages+offTo m.twins k=n:=⟨_,rfl⟩
      have hnb:n≤2199023255552:=by omega
      by_cases hp:m.twins[k].page=-1
      · rw[if_pos hp] at hof
        have HN:Hid (framesN m.pages+offTo m.twins (k+1)=n+1):=by show _=_;omega
        rw[hp] at d0
        rw[hn']
        clear hof hn' hol hb
        go_wp2
        go_roundg (m.twins.length - (k+1))
        case measure=>omega
        case rel=>exact⟨k+1,by omega,rfl,by go_num,by rw[HN.out];simp,HB2.out _⟩
      · rw[if_neg hp] at hof
        have HN:Hid (framesN m.pages+offTo m.twins (k+1)=n):=by show _=_;omega
        have hpe:(m.twins[k].page == -1)=false:=by simpa using hp
        rw[hn']
        clear hof hn' hol hb
        go_wp2
        go_roundg (m.twins.length - (k+1))
        case measure=>omega
        case rel=>exact⟨k+1,by omega,rfl,by go_num,by rw[HN.out],HB2.out _⟩
    · obtain rfl:k=m.twins.length:=by omega
      go_wp2
      go_ret
      exact⟨ret_int (by rw[HC.out]),hb⟩
def orderB (m:Mc):Bool:=decide (m.order.length=m.pages.length) && (List.range m.pages.length).all fun i=>decide ((i:Int)∈m.order)
theorem orderB_no {m:Mc} {k:Nat} (hk:k<m.pages.length) (h:¬((k:Int)∈m.order)):orderB m=false:=by
  unfold orderB
  rw[Bool.and_eq_false_iff]
  right
  rw[List.all_eq_false]
  exact⟨k,List.mem_range.2 hk,by simpa using h⟩
theorem orderB_yes {m:Mc} (hl:m.order.length=m.pages.length) (h:∀k,k<m.pages.length→(k:Int)∈m.order):orderB m=true:=by
  unfold orderB
  rw[Bool.and_eq_true_iff]
  exact⟨by simpa using hl,List.all_eq_true.2 fun k hk=>by simpa using h k (List.mem_range.1 hk)⟩
set_option maxRecDepth 100000 in
set_option maxHeartbeats 4000000 in
theorem orderOk_any (vp vo vt vs:Value) (m:Mc) (w:World) (h:MachAt w vp vo vt vs m) :
    Calls Tryz.prog 71 #[.agg (mcCells vp vo vt vs m).toArray] w fun e w'=>e=.returned (.bool (orderB m))∧Below w.heap.size w w':=by
  obtain⟨ap,cp,hvp,hlp,hcp⟩:=id h.p
  obtain⟨ao,co,hvo,hlo,hco⟩:=id h.o
  obtain⟨at',ct,hvt,hlt',hct⟩:=id h.t
  obtain⟨as',cs,hvs⟩:=h.s.shape
  subst hvp hvo hvt hvs
  unfold mcCells
  unfold maxLen at hlp hlo
  have HO:=h.o
  go_enter Tryz.func71,Tryz.ntmps71
  go_upto_region 1 with fail
  refine wp_gen (fun W=>Below w.heap.size w W∧Bx W w.heap.size 42 [.int .i64 m.cells,.slice ap m.pages.length cp,.slice ao m.order.length co,.int .i64 m.now,.slice at' m.twins.length ct,.int .i64 m.born,.slice as' m.said.length cs,.int .i64 m.code]) ⟨(Below.refl _ _).alloc (Nat.le_refl _) _,Bx.new w _ _⟩ ?_
  rintro W ⟨hb,hm⟩
  obtain⟨⟨m0,m1,m2,m3,m4,m5,m6,m7⟩,_⟩:=bx8 hm
  have HOW:Hid (IntsAt W (.slice ao m.order.length co) m.order):=HO.below hb
  by_cases hle:m.order.length=m.pages.length
  case neg =>
    have HE:Hid (orderB m=false):=by show _=_;unfold orderB;simp[hle]
    have hlz:¬((m.order.length:Int)=(m.pages.length:Int)):=by omega
    go_wp2
    go_ret
    exact⟨ret_bool HE.out.symm,hb⟩
  have HLE:Hid (m.order.length=m.pages.length):=hle
  rw[hle] at m2 HOW
  clear hle
  go_wp2_with fail
  go_loopg [3,14] m.pages.length (fun g _ i wr=>∃k:Nat,k≤m.pages.length∧g=m.pages.length - k∧i=.int .i64 k∧wr=W∧∀j,j<k→(j:Int)∈m.order)
  case atStart=>exact⟨0,Nat.zero_le _,rfl,rfl,rfl,fun j h=>absurd h (Nat.not_lt_zero _)⟩
  case round =>
    obtain⟨k,hk,rfl,rfl,hw,hall⟩:=hrel
    obtain rfl:=hw.symm
    have H:Hid (∀j,j<k→(j:Int)∈m.order):=hall
    clear hall hw
    by_cases hlt:k<m.pages.length
    · have hkz:(k:Int)<(m.pages.length:Int):=by omega
      obtain⟨f,hf⟩:∃f,decide ((k:Int)∈m.order)=f:=⟨_,rfl⟩
      have HC:=slicesContains_any _ m.order (k:Int) W HOW.out
      rw[hf] at HC
      go_wp2_with fail
      refine HC.mono ?_
      rintro e W1 ⟨rfl,hw⟩
      obtain rfl:=hw.symm
      clear hw HC
      cases f
      · have HE:Hid (orderB m=false):=orderB_no hlt (by simpa using hf)
        go_wp2
        go_ret
        exact⟨ret_bool HE.out.symm,hb⟩
      · have HN:Hid (∀j,j<k+1→(j:Int)∈m.order):=fun j hj=>by
          by_cases e:j=k
          · subst e;simpa using hf
          · exact H.out j (by omega)
        clear hf H
        go_wp2
        go_roundg (m.pages.length - (k+1))
        case measure=>omega
        case rel=>exact⟨k+1,by omega,rfl,by go_num,rfl,HN.out⟩
    · obtain rfl:k=m.pages.length:=by omega
      have HE:Hid (orderB m=true):=orderB_yes HLE.out H.out
      go_wp2
      go_ret
      exact⟨ret_bool HE.out.symm,hb⟩
theorem cellsOf_any (a:Option Addr) (n c:Nat) (w:World) (hn:n≤1099511627776):Calls Tryz.prog 132 #[.slice a n c] w fun e w'=>e=.returned (.int .i64 ((10+n:Nat):Int))∧w'=w:=by
  go_enter Tryz.func132,Tryz.ntmps132
  go_wp2
  go_ret
  exact⟨ret_int (by omega),rfl⟩
theorem few_ints:∀(l A:List Int),l.Nodup→(∀k∈l,k∈A)→l.length≤A.length
  | [],_,_,_=>Nat.zero_le _
  | x :: l,A,hn,hA=>by
    have hx:x∈A:=hA x (List.mem_cons_self ..)
    obtain⟨hx1,hn1⟩:=List.nodup_cons.1 hn
    have:=few_ints l (A.erase x) hn1 fun k hk=>(List.mem_erase_of_ne (show k≠x from fun e=>hx1 (by rw[←e];exact hk))).2 (hA k (List.mem_cons_of_mem _ hk))
    rw[List.length_erase_of_mem hx] at this
    have h0:0<A.length:=List.length_pos_of_mem hx
    simp only[List.length_cons]
    omega
theorem order_in {m:Mc} (h:orderB m=true) {x:Int} (hx:x∈m.order):0≤x∧x<(m.pages.length:Int):=by
  unfold orderB at h
  rw[Bool.and_eq_true_iff] at h
  have hl:m.order.length=m.pages.length:=by simpa using h.1
  have ha:=List.all_eq_true.1 h.2
  by_cases hr:0≤x∧x<(m.pages.length:Int)
  · exact hr
  · exfalso
    have hnd:((List.range m.pages.length).map fun i:Nat=>(i:Int)).Nodup:=by
      refine List.Pairwise.map _ (fun a b hab e=>hab (by omega)) List.nodup_range
    have hmem:∀k∈(List.range m.pages.length).map fun i:Nat=>(i:Int),k∈m.order:=fun k hk=>by
      obtain⟨i,hi,rfl⟩:=List.mem_map.1 hk
      simpa using ha i hi
    have hnx:x∉(List.range m.pages.length).map fun i:Nat=>(i:Int):=fun hk=>by
      obtain⟨i,hi,rfl⟩:=List.mem_map.1 hk
      exact hr ⟨by omega,by have:=List.mem_range.1 hi;omega⟩
    have:=few_ints (x :: (List.range m.pages.length).map fun i:Nat=>(i:Int)) m.order (List.nodup_cons.2 ⟨hnx,hnd⟩) (fun k hk=>by
      rcases List.mem_cons.1 hk with rfl | hk
      · exact hx
      · exact hmem k hk)
    simp at this
    omega
theorem bel_drewN {B:Nat} {w0 w:World} (h:Below B w0 w) (n:Nat):Below B w0 (w.drewN n):=⟨h.os,h.tape,h.output,h.size,h.block⟩
def Pg.none:Pg:=⟨-1,[]⟩
def pgAt (m:Mc) (i:Int):Pg:=m.pages.getD i.toNat Pg.none
theorem pgAt_at {m:Mc} {k:Nat} (h:k<m.pages.length):pgAt m (k:Int)=m.pages[k]:=by simp[pgAt,h]
def nowB (m:Mc):Bool:=m.now == -1 || (m.now == m.order.getD (m.order.length - 1) 0 && decide (0<(pgAt m m.now).frames.length))
set_option maxRecDepth 100000 in
set_option maxHeartbeats 4000000 in
theorem nowOk_any (vp vo vt vs:Value) (m:Mc) (w:World) (h:MachAt w vp vo vt vs m) (ho:orderB m=true) (hp1:1≤m.pages.length) :
    Calls Tryz.prog 72 #[.agg (mcCells vp vo vt vs m).toArray] w fun e w'=>e=.returned (.bool (nowB m))∧Below w.heap.size w w':=by
  have HLEQ:Hid (m.order.length=m.pages.length):=by show _=_;unfold orderB at ho;rw[Bool.and_eq_true_iff] at ho;simpa using ho.1
  have HIN:Hid (∀x∈m.order,0≤x∧x<(m.pages.length:Int)):=fun x hx=>order_in ho hx
  clear ho
  obtain⟨ap,cp,hvp,hlp,hcp⟩:=id h.p
  obtain⟨ao,co,hvo,hlo,hco⟩:=id h.o
  obtain⟨at',ct,hvt,hlt',hct⟩:=id h.t
  obtain⟨as',cs,hvs⟩:=h.s.shape
  subst hvp hvo hvt hvs
  unfold mcCells
  unfold maxLen at hlp hlo
  go_enter Tryz.func72,Tryz.ntmps72
  go_upto_region 1 with fail
  refine wp_gen (fun W=>Below w.heap.size w W∧Bx W w.heap.size 42 [.int .i64 m.cells,.slice ap m.pages.length cp,.slice ao m.order.length co,.int .i64 m.now,.slice at' m.twins.length ct,.int .i64 m.born,.slice as' m.said.length cs,.int .i64 m.code]) ⟨(Below.refl _ _).alloc (Nat.le_refl _) _,Bx.new w _ _⟩ ?_
  rintro W ⟨hb,hm⟩
  obtain⟨⟨m0,m1,m2,m3,m4,m5,m6,m7⟩,_⟩:=bx8 hm
  by_cases hnow:m.now=-1
  · have HE:Hid (nowB m=true):=by show _=_;unfold nowB;rw[hnow];rfl
    rw[hnow] at m3
    go_wp2
    go_ret
    exact⟨ret_bool HE.out.symm,hb⟩
  have hne:(m.now == -1)=false:=by simpa using hnow
  obtain⟨q,hq⟩:∃q,m.order.length=q+1:=⟨m.order.length - 1,by have:=HLEQ.out;omega⟩
  have hql:q<m.order.length:=by omega
  obtain⟨b,o,hao,c0⟩:=hco q hql
  subst hao
  have d0:=cell_below hb c0
  have HL:Hid (m.order.getD (m.order.length - 1) 0=m.order[q]):=by show _=_;rw[hq];simp[hql]
  have hrng:=HIN.out _ (List.getElem_mem hql)
  obtain⟨last,hla⟩:∃l,m.order[q]=l:=⟨_,rfl⟩
  rw[hla] at HL d0 hrng
  have hq1:((m.order.length:Int)) - 1=(q:Int):=by omega
  have hqz:(q:Int)<(m.order.length:Int):=by omega
  have hwq:IntKind.i64.wrap ((m.order.length:Int) - 1)=(q:Int):=by rw[IntKind.wrap_i64];omega
  have hbl:b<w.heap.size:=World.block_lt_of_cell? _ _ c0
  clear hla c0 hco hq hq1
  obtain⟨k,hk⟩:=Int.eq_ofNat_of_zero_le hrng.1
  subst hk
  have hkl:k<m.pages.length:=by omega
  obtain⟨b2,o2,vf,hap,hpg⟩:=hcp k hkl
  subst hap
  obtain⟨af,cf,hvf⟩:=hpg.f.shape
  have e1:=cell_below hb hpg.c1
  rw[hvf] at e1
  obtain⟨nf,hnf⟩:∃nf,m.pages[k].frames.length=nf:=⟨_,rfl⟩
  have HPG:Hid ((pgAt m (k:Int)).frames.length=nf):=by show _=_;rw[pgAt_at hkl,hnf]
  rw[hnf] at e1
  clear hnf hpg hcp hvf
  have hkz:(k:Int)<(m.pages.length:Int):=by omega
  by_cases hnl:m.now=(k:Int)
  · have HE:Hid (nowB m=decide (0<nf)):=by show _=_;unfold nowB;rw[hne,HL.out,hnl,HPG.out];simp
    rw[hnl] at m3 hne
    go_wp2_with fail
    go_quiet (fail)
    go_wp2
    go_ret
    exact⟨ret_bool HE.out.symm,bel_drewN hb _⟩
  · have HE:Hid (nowB m=false):=by show _=_;unfold nowB;rw[hne,HL.out];simp[hnl]
    have hnl2:(m.now == (k:Int))=false:=by simpa using hnl
    go_wp2_with fail
    go_quiet (fail)
    go_wp2
    go_ret
    exact⟨ret_bool HE.out.symm,bel_drewN hb _⟩
def LvBody (B:Nat) (w:World) (d:Nat) (vt vs:Value) (c:Cl):Prop :=
  w.rowIs d 218 5 (five (.int .i64 c.m) (.int .i64 c.pc) vt vs (.bool c.dead))∧PairRow B w vt c.temps∧PairRow B w vs c.stack∧B≤d ∧
  (∀g,vt.ownBlock=some g→g≠d∧vs.ownBlock≠some g)∧(∀g,vs.ownBlock=some g→g≠d)
set_option maxRecDepth 100000 in
set_option maxHeartbeats 4000000 in
theorem lvBodyOf_any (c:Cl) (vt vs:Value) (w:World) (ht:OpsAt w vt c.temps) (hs:OpsAt w vs c.stack) (hl:c.temps.length≤1000∧c.stack.length≤1000) :
    Calls Tryz.prog 116 #[.agg #[.int .i64 c.m,.int .i64 c.pc,vt,vs,.int .i64 c.sender,.bool c.dead]] w fun e w'=>∃(d:Nat) (vt' vs':Value),e=.returned (.pointer (some ⟨d,0,none⟩))∧LvBody w.heap.size w' d vt' vs' c∧Below w.heap.size w w':=by
  obtain⟨at_,ct,hvt⟩:=ht.shape
  obtain⟨as_,cs,hvs⟩:=hs.shape
  subst hvt hvs
  have hA:Below w.heap.size w (w.alloc (.cells #[.int .i64 c.m,.int .i64 c.pc,.slice at_ c.temps.length ct,.slice as_ c.stack.length cs,.int .i64 c.sender,.bool c.dead] 37)):=(Below.refl _ _).alloc (Nat.le_refl _) _
  have r1:=six_new w 37 (.int .i64 c.m) (.int .i64 c.pc) (.slice at_ c.temps.length ct) (.slice as_ c.stack.length cs) (.int .i64 c.sender) (.bool c.dead)
  have HT:Hid (OpsAt w (.slice at_ c.temps.length ct) c.temps∧OpsAt w (.slice as_ c.stack.length cs) c.stack):=⟨ht,hs⟩
  have hzA:w.heap.size<(w.alloc (.cells #[.int .i64 c.m,.int .i64 c.pc,.slice at_ c.temps.length ct,.slice as_ c.stack.length cs,.int .i64 c.sender,.bool c.dead] 37)).heap.size:=by simp
  clear ht hs
  go_enter Tryz.func116,Tryz.ntmps116
  go_upto_region 1 with fail
  generalize w.alloc (.cells #[.int .i64 c.m,.int .i64 c.pc,.slice at_ c.temps.length ct,.slice as_ c.stack.length cs,.int .i64 c.sender,.bool c.dead] 37)=W at *
  obtain⟨⟨x0,x1,x2,x3,x4,x5⟩,_⟩:=six_cells r1
  have HS:∀w':World,Below W.heap.size W w'→((w'.cell? ⟨w.heap.size,0,none⟩=some (.int .i64 c.m)∧w'.cell? ⟨w.heap.size,1,none⟩=some (.int .i64 c.pc)∧w'.cell? ⟨w.heap.size,2,none⟩=some (.slice at_ c.temps.length ct)∧w'.cell? ⟨w.heap.size,3,none⟩=some (.slice as_ c.stack.length cs)∧w'.cell? ⟨w.heap.size,5,none⟩=some (.bool c.dead))∧Below W.heap.size W w'):=fun w' hb=>⟨⟨cell_below hb x0,cell_below hb x1,cell_below hb x2,cell_below hb x3,cell_below hb x5⟩,hb⟩
  have HCT:Hid (∀W',Below W.heap.size W W'→Calls Tryz.prog 53 #[.slice at_ c.temps.length ct] W' fun e w'=>∃v',e=.returned v'∧PairRow W'.heap.size w' v' c.temps∧Below W'.heap.size W' w'):=fun W' hb=>clone_any _ _ _ (HT.out.1.below (hA.trans (hb.mono hA.size))) hl.1
  have HCS:Hid (∀W',Below W.heap.size W W'→Calls Tryz.prog 53 #[.slice as_ c.stack.length cs] W' fun e w'=>∃v',e=.returned v'∧PairRow W'.heap.size w' v' c.stack∧Below W'.heap.size W' w'):=fun W' hb=>clone_any _ _ _ (HT.out.2.below (hA.trans (hb.mono hA.size))) hl.2
  clear x0 x1 x2 x3 x4 x5 r1
  go_region_held3 (fun w'=>(w'.cell? ⟨w.heap.size,0,none⟩=some (.int .i64 c.m)∧w'.cell? ⟨w.heap.size,1,none⟩=some (.int .i64 c.pc)∧w'.cell? ⟨w.heap.size,2,none⟩=some (.slice at_ c.temps.length ct)∧w'.cell? ⟨w.heap.size,3,none⟩=some (.slice as_ c.stack.length cs)∧w'.cell? ⟨w.heap.size,5,none⟩=some (.bool c.dead))∧Below W.heap.size W w')
    ((refine HS _ ?_;first
      | (with_reducible exact(‹(_∧_∧_∧_∧_)∧Below W.heap.size W _›).2)
      | (with_reducible exact(Below.refl _ _).drew)
      | (with_reducible exact hBT)
      | (with_reducible exact hBS)
      | (with_reducible exact hBT.alloc hBT.size _)
      | (with_reducible exact hBS.alloc hBS.size _)))
    (first
      | (go_at_call 53;refine(HCT.out _ (‹(_∧_∧_∧_∧_)∧Below W.heap.size W _›).2).mono ?_;rintro e wT ⟨vT,rfl,hrT,hbT⟩;have hBT:=Below.trans (‹(_∧_∧_∧_∧_)∧Below W.heap.size W _›).2 (hbT.mono ((‹(_∧_∧_∧_∧_)∧Below W.heap.size W _›).2).size);obtain⟨aT,kT,hvT,_⟩:=hrT.slice;subst hvT)
      | (go_at_call 53;refine(HCS.out _ (‹(_∧_∧_∧_∧_)∧Below W.heap.size W _›).2).mono ?_;rintro e wS ⟨vS,rfl,hrS,hbS⟩;have hBS:=Below.trans (‹(_∧_∧_∧_∧_)∧Below W.heap.size W _›).2 (hbS.mono ((‹(_∧_∧_∧_∧_)∧Below W.heap.size W _›).2).size);obtain⟨aS,kS,hvS,_⟩:=hrS.slice;subst hvS))
  all_goals first
    | (have hbXY:Below wT.heap.size wT wS:=hbS;
       have hzX:w.heap.size≤W.heap.size:=hA.size;
       have hzW:W.heap.size≤wT.heap.size:=hBT.size;
       have hzY:=hbS.size;
       have N9:=(Below.refl wS.heap.size wS).alloc (Nat.le_refl _) (.cells #[.int .i64 c.m,.int .i64 c.pc,.slice aT c.temps.length kT,.slice aS c.stack.length kS,.bool c.dead] 218);
       have r9:=five_new wS 218 (.int .i64 c.m) (.int .i64 c.pc) (.slice aT c.temps.length kT) (.slice aS c.stack.length kS) (.bool c.dead);
       have pX:=(hrT.below hbXY).below N9;
       have pY:=hrS.below N9;
       have B9:=(hA.trans (hBS.mono hA.size)).trans (N9.mono (Nat.le_trans hzX (Nat.le_trans hzW hzY)));
       have HFIN:Hid (LvBody w.heap.size (wS.alloc (.cells #[.int .i64 c.m,.int .i64 c.pc,.slice aT c.temps.length kT,.slice aS c.stack.length kS,.bool c.dead] 218)) wS.heap.size (.slice aT c.temps.length kT) (.slice aS c.stack.length kS) c):=⟨r9,pX.mono (by first | exact hzX | exact Nat.le_trans hzX hzW),pY.mono (by first | exact hzX | exact Nat.le_trans hzX hzW),by omega,fun g e=>⟨by have:=(hrT.lt g e).2;omega,fun e2=>by have q1:=hrT.lt g e;have q2:=hrS.lt g e2;omega⟩,fun g e=>by have:=(hrS.lt g e).2;omega⟩;
       clear HS HCT HCS;
       go_wp2;
       go_ret;
       exact⟨_,_,_,rfl,HFIN.out,B9⟩)
    | (have hbXY:Below wS.heap.size wS wT:=hbT;
       have hzX:w.heap.size≤W.heap.size:=hA.size;
       have hzW:W.heap.size≤wS.heap.size:=hBS.size;
       have hzY:=hbT.size;
       have N9:=(Below.refl wT.heap.size wT).alloc (Nat.le_refl _) (.cells #[.int .i64 c.m,.int .i64 c.pc,.slice aT c.temps.length kT,.slice aS c.stack.length kS,.bool c.dead] 218);
       have r9:=five_new wT 218 (.int .i64 c.m) (.int .i64 c.pc) (.slice aT c.temps.length kT) (.slice aS c.stack.length kS) (.bool c.dead);
       have pX:=(hrS.below hbXY).below N9;
       have pY:=hrT.below N9;
       have B9:=(hA.trans (hBT.mono hA.size)).trans (N9.mono (Nat.le_trans hzX (Nat.le_trans hzW hzY)));
       have HFIN:Hid (LvBody w.heap.size (wT.alloc (.cells #[.int .i64 c.m,.int .i64 c.pc,.slice aT c.temps.length kT,.slice aS c.stack.length kS,.bool c.dead] 218)) wT.heap.size (.slice aT c.temps.length kT) (.slice aS c.stack.length kS) c):=⟨r9,pY.mono (by first | exact hzX | exact Nat.le_trans hzX hzW),pX.mono (by first | exact hzX | exact Nat.le_trans hzX hzW),by omega,fun g e=>⟨by have:=(hrT.lt g e).2;omega,fun e2=>by have q1:=hrT.lt g e;have q2:=hrS.lt g e2;omega⟩,fun g e=>by have:=(hrS.lt g e).2;omega⟩;
       clear HS HCT HCS;
       go_wp2;
       go_ret;
       exact⟨_,_,_,rfl,HFIN.out,B9⟩)
end Go.Proofs.YtjbgpcileapogaaGreat

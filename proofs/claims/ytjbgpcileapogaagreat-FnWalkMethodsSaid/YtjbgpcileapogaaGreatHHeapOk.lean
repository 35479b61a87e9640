/-
  The calls that wait for one another: the chain, in plain words, and the document's model of it (l11Chain).
-/
import Derived.Test.YtjbgpcileapogaaGreatHImpl1
import Derived.Test.YtjbgpcileapogaaGreatInts
import Derived.Deep.RegionWith
namespace Go.Proofs.YtjbgpcileapogaaGreat
open Go.RowKit
def walkC (cs:List Cl):Nat→Int→Option (List Nat)
  | 0,a=>if a<0 then some [] else none
  | f+1,a=>if a<0 then some [] else if h:a.toNat<cs.length then(if cs[a.toNat].dead then none else(walkC cs f cs[a.toNat].sender).map (a.toNat :: ·)) else none
def chainOf (cs:List Cl) (now:Int):List Nat:=(walkC cs cs.length now).getD []
theorem walkC_neg {cs:List Cl} {f:Nat} {a:Int} (h:a<0):walkC cs f a=some []:=by
  cases f <;> simp[walkC,h]
theorem walkC_zero {cs:List Cl} {a:Int} (h:0≤a):walkC cs 0 a=none:=by
  simp[walkC];omega
theorem walkC_past {cs:List Cl} {f:Nat} {a:Nat} (h:¬a<cs.length):walkC cs f (a:Int)=none:=by
  cases f with
  | zero=>exact walkC_zero (by omega)
  | succ f =>
    simp only[walkC]
    rw[if_neg (by omega),dif_neg (by simpa using h)]
theorem walkC_dead {cs:List Cl} {f:Nat} {a:Nat} (h:a<cs.length) (hd:cs[a].dead=true):walkC cs f (a:Int)=none:=by
  cases f with
  | zero=>exact walkC_zero (by omega)
  | succ f =>
    simp only[walkC,Int.toNat_natCast]
    rw[if_neg (by omega),dif_pos h,if_pos hd]
theorem walkC_step {cs:List Cl} {f:Nat} {a:Nat} (h:a<cs.length) (hd:cs[a].dead=false):walkC cs (f+1) (a:Int)=(walkC cs f cs[a].sender).map (a :: ·):=by
  simp only[walkC,Int.toNat_natCast]
  rw[if_neg (by omega),dif_pos h,hd]
  rfl
def nums (l:List Nat):List Int:=l.map fun(k:Nat)=>(k:Int)
theorem nums_len (l:List Nat):(nums l).length=l.length:=by simp[nums]
theorem nums_snoc (l:List Nat) (k:Nat):nums l ++ [(k:Int)]=nums (l ++ [k]):=by simp[nums]
theorem Tryz.infoInt2:(Tryz.prog.info? 3).map (fun i=>(i.zero,i.size,i.bytes))=some (some (.int .i64 0),1,8):=by kernel_rfl
theorem int_made (w:World):IntRow w.heap.size (w.alloc (.cells #[] 3)) (.slice (some ⟨w.heap.size,0,none⟩) 0 0) [] :=
  .inr ⟨w.heap.size,0,0,rfl,Nat.le_refl _,by simp,Nat.le_refl _,Nat.zero_le _,fun i hi=>absurd hi (Nat.not_lt_zero _),fun i hi=>absurd hi (Nat.not_lt_zero _)⟩
set_option maxRecDepth 100000 in
set_option maxHeartbeats 4000000 in
theorem l11Chain_any (vc vs:Value) (h:Hp) (w:World) (hh:HeapAt w vc vs h) (hn:h.calls.length≤900000) :
    Calls Tryz.prog 55 #[.agg (hpCells vc vs h)] w fun e w'=>∃v,e=.returned v∧IntRow w.heap.size w' v (nums (chainOf h.calls h.now))∧Below w.heap.size w w':=by
  unfold hpCells
  obtain⟨cs,now,born,said,code⟩:=h
  obtain⟨hhc,hhs⟩:=hh
  simp only[] at hhc hhs hn ⊢
  obtain⟨aD,kD,hvs⟩:=hhs.shape
  subst hvs
  obtain⟨ac,kc,rfl,_,hcl⟩:=hhc
  have hA:=(Below.refl w.heap.size w).alloc (Nat.le_refl _) (.cells #[.slice ac cs.length kc,.int .i64 now,.int .i64 born,.slice aD said.length kD,.int .i64 code] 29)
  have b0:(w.alloc (.cells #[.slice ac cs.length kc,.int .i64 now,.int .i64 born,.slice aD said.length kD,.int .i64 code] 29)).cell? ⟨w.heap.size,0,none⟩=some (.slice ac cs.length kc):=by simp[go_sem]
  have b1:(w.alloc (.cells #[.slice ac cs.length kc,.int .i64 now,.int .i64 born,.slice aD said.length kD,.int .i64 code] 29)).cell? ⟨w.heap.size,1,none⟩=some (.int .i64 now):=by simp[go_sem]
  go_enter Tryz.func55,Tryz.ntmps55
  go_upto_region 1 with fail
  generalize w.alloc (.cells #[.slice ac cs.length kc,.int .i64 now,.int .i64 born,.slice aD said.length kD,.int .i64 code] 29)=W0 at *
  have zA:=hA.size
  have hw0:w.heap.size<W0.heap.size:=World.block_lt_of_cell? _ _ b0
  have bN:=fun o=>cell_below ((Below.refl _ _).alloc (Nat.le_refl _) o) b0
  have b1N:=fun o=>cell_below ((Below.refl _ _).alloc (Nat.le_refl _) o) b1
  have r0:=int_made W0
  have hB0:=hA.alloc zA (.cells #[] 3)
  go_upto_region 3 with fail
  go_wp2_with fail
  have HW:Hid (walkC cs cs.length now=(walkC cs (cs.length - ([]:List Nat).length) now).map (([]:List Nat) ++ ·)):=by
    show _=_
    simp
  obtain⟨i0,hi,hz0,hz1,hz2⟩:=info_parts Tryz.infoInt2
  clear hA b0 b1 b1N hhs
  go_loopg [3,4] cs.length (fun d v at_ wr=>∃(pre:List Nat) (a:Int),pre.length≤cs.length∧d=cs.length - pre.length∧at_=.int .i64 a∧IntRow W0.heap.size wr v (nums pre)∧wr.cell? ⟨w.heap.size,0,none⟩=some (.slice ac cs.length kc)∧Below w.heap.size w wr∧W0.heap.size≤wr.heap.size∧walkC cs cs.length now=(walkC cs (cs.length - pre.length) a).map (pre ++ ·))
  case atStart=>exact⟨[],now,Nat.zero_le _,rfl,rfl,r0,bN _,hB0,by simp,HW.out⟩
  case round =>
    obtain⟨pre,a,hpl,rfl,rfl,hrow,br,hb,hzr,hwalk⟩:=hrel
    have HK:Hid (walkC cs cs.length now=(walkC cs (cs.length - pre.length) a).map (pre ++ ·)):=hwalk
    clear hwalk bN r0 hB0 HW
    have hsz:=hb.size
    have hbw:w.heap.size<wr.heap.size:=World.block_lt_of_cell? _ _ br
    obtain⟨av,kv,hv,_⟩:=hrow.slice
    rw[nums_len] at hv
    subst hv
    by_cases ha:a<0
    · have HE:Hid (nums (chainOf cs now)=nums pre):=by
        show _=_
        unfold chainOf
        rw[HK.out,walkC_neg ha]
        simp
      go_wp2
      go_ret
      exact⟨_,rfl,by rw[HE.out];exact hrow.mono (by omega),hb⟩
    obtain⟨an,han⟩:=Int.eq_ofNat_of_zero_le (show 0≤a by omega)
    subst han
    clear ha
    have hnone:walkC cs (cs.length - pre.length) (an:Int)=none→nums (chainOf cs now)=[]:=fun e=>by
      unfold chainOf
      rw[HK.out,e]
      rfl
    have HN:Hid (walkC cs (cs.length - pre.length) (an:Int)=none→nums (chainOf cs now)=[]):=hnone
    clear hnone
    have hE:∀W:World,w.heap.size≤W.heap.size→IntRow w.heap.size (W.alloc (.cells #[] 3)) (.slice (some ⟨W.heap.size,0,none⟩) 0 0) []:=fun W hz=>(int_made W).mono hz
    by_cases hfull:cs.length≤pre.length
    · have hfz:(cs.length:Int)≤(pre.length:Int):=by omega
      have HE:Hid (nums (chainOf cs now)=[]):=HN.out (by rw[show cs.length - pre.length=0 by omega];exact walkC_zero (by omega))
      go_wp2
      go_ret
      exact⟨_,rfl,by rw[HE.out];exact hE _ hsz,hb.alloc hsz _⟩
    have hfz:(pre.length:Int)<(cs.length:Int):=by omega
    by_cases hin:cs.length≤an
    · have hinz:(cs.length:Int)≤(an:Int):=by omega
      have HE:Hid (nums (chainOf cs now)=[]):=HN.out (walkC_past (by omega))
      go_wp2
      go_ret
      exact⟨_,rfl,by rw[HE.out];exact hE _ hsz,hb.alloc hsz _⟩
    have han:an<cs.length:=by omega
    have hanz:(an:Int)<(cs.length:Int):=by omega
    obtain⟨b,o,vt,vs,rfl,hc⟩:=hcl an han
    have d4:=cell_below hb hc.c4
    have d5:=cell_below hb hc.c5
    have hbl:b<w.heap.size:=World.block_lt_of_cell? _ _ hc.c4
    rcases hdd:cs[an].dead with _ | _
    · rw[hdd] at d5
      have HS:Hid (walkC cs cs.length now=(walkC cs (cs.length - (pre ++ [an]).length) cs[an].sender).map ((pre ++ [an]) ++ ·)):=by
        show _=_
        rw[HK.out,show cs.length - pre.length=(cs.length - (pre ++ [an]).length)+1 by simp;omega,walkC_step han hdd]
        rw[Option.map_map]
        congr 1
        funext x
        simp
      generalize cs[an].sender=sd at *
      clear HN hE hc
      go_wp2_with (at_builtin;refine append_int Tryz.underlying39 hi hz0 hz1 hz2 _ (by rfl) _ _ (by rfl) _ (nums pre) (by rfl) hrow _ _ _ rfl (by rfl) (by rw[nums_len];omega) hzr ?_;intro g2 off2 cp2 w2 hrow2 hg2 hor2 hlt2;have br2:=hg2.cell br (fun e=>by have h9:W0.heap.size≤w.heap.size:=(hrow.lt _ e.symm).1;omega);have e4:=hg2.cell d4 (fun e=>by have h9:W0.heap.size≤b:=(hrow.lt _ e.symm).1;omega))
      have hb2:Below w.heap.size w w2:=hb.grown hg2 hsz (fun k e=>by have:=(hrow.lt k e).1;omega)
      have hz2':=hg2.size
      rw[nums_snoc] at hrow2
      have HL:Hid ((pre ++ [an]).length=pre.length+1):=by show _=_;simp
      clear hg2 hor2 hlt2 hrow d4 d5 br
      go_wp2
      go_roundg (cs.length - (pre ++ [an]).length)
      case measure=>have:=HL.out;omega
      case rel=>exact⟨pre ++ [an],_,by have:=HL.out;omega,rfl,rfl,by simpa [nums_len] using hrow2,br2,hb2,by omega,HS.out⟩
    · rw[hdd] at d5
      have HE:Hid (nums (chainOf cs now)=[]):=HN.out (walkC_dead han hdd)
      go_wp2
      go_ret
      exact⟨_,rfl,by rw[HE.out];exact hE _ hsz,hb.alloc hsz _⟩
theorem walkC_in {cs:List Cl}:∀(f:Nat) (a:Int) (l:List Nat),walkC cs f a=some l→∀k∈l,∃h:k<cs.length,cs[k].dead=false
  | 0,a,l,h,k,hk=>by
    simp only[walkC] at h
    split at h
    · cases h;cases hk
    · cases h
  | f+1,a,l,h,k,hk=>by
    simp only[walkC] at h
    split at h
    · cases h;cases hk
    · split at h
      · rename_i hn ha
        split at h
        · cases h
        · rename_i hd
          obtain⟨l',hl',rfl⟩:=Option.map_eq_some_iff.1 h
          rcases List.mem_cons.1 hk with rfl | hk
          · exact⟨ha,by simpa using hd⟩
          · exact walkC_in f _ l' hl' k hk
      · cases h
theorem chain_in {cs:List Cl} {now:Int} {k:Nat} (h:k∈chainOf cs now):∃h:k<cs.length,cs[k].dead=false:=by
  unfold chainOf at h
  cases hw:walkC cs cs.length now with
  | none=>rw[hw] at h;cases h
  | some l=>rw[hw] at h;exact walkC_in _ _ _ hw k h
def roomP (cs:List Cl) (ch:List Nat):Bool:=(ch.drop 1).all fun k=>decide ((cs.getD k Cl.none).stack.length<6)
theorem roomP_no {cs:List Cl} {ch:List Nat} {i:Nat} (h1:1≤i) (hi:i<ch.length) (hk:ch[i]<cs.length) (h:¬cs[ch[i]].stack.length<6):roomP cs ch=false:=by
  unfold roomP
  rw[List.all_eq_false]
  refine⟨ch[i],?_,by simp[hk,h]⟩
  have:ch[i]=(ch.drop 1)[i - 1]'(by simp;omega):=by
    rw[List.getElem_drop]
    congr 1
    omega
  rw[this]
  exact List.getElem_mem _
theorem roomP_yes {cs:List Cl} {ch:List Nat} (hin:∀k∈ch,k<cs.length) (h:∀i,(hi:i<ch.length)→1≤i→∀hk:ch[i]<cs.length,cs[ch[i]].stack.length<6):roomP cs ch=true:=by
  unfold roomP
  rw[List.all_eq_true]
  intro k hk
  obtain⟨j,hj,rfl⟩:=List.getElem_of_mem hk
  have hj':j+1<ch.length:=by simp at hj;omega
  have e:(ch.drop 1)[j]=ch[j+1]:=by simp
  rw[e]
  have hk':=hin _ (List.getElem_mem hj')
  have:=h (j+1) hj' (by omega) hk'
  simp[hk',this]
set_option maxRecDepth 100000 in
set_option maxHeartbeats 4000000 in
theorem l11Wait_any (vc vs:Value) (h:Hp) (w:World) (hh:HeapAt w vc vs h) (hn:h.calls.length≤900000) :
    Calls Tryz.prog 60 #[.agg (hpCells vc vs h)] w fun e w'=>e=.returned (.bool (roomP h.calls (chainOf h.calls h.now)))∧Below w.heap.size w w':=by
  obtain⟨ac,kc,hvc⟩:=hh.c.shape
  obtain⟨aD,kD,hvs⟩:=hh.s.shape
  subst hvc hvs
  have hA:=(Below.refl w.heap.size w).alloc (Nat.le_refl _) (.cells (hpCells (.slice ac h.calls.length kc) (.slice aD h.said.length kD) h) 29)
  have b0:(w.alloc (.cells (hpCells (.slice ac h.calls.length kc) (.slice aD h.said.length kD) h) 29)).cell? ⟨w.heap.size,0,none⟩=some (.slice ac h.calls.length kc):=by simp[go_sem,hpCells]
  unfold hpCells at hA b0 ⊢
  go_enter Tryz.func60,Tryz.ntmps60
  go_wp2_with fail
  generalize w.alloc (.cells #[.slice ac h.calls.length kc,.int .i64 h.now,.int .i64 h.born,.slice aD h.said.length kD,.int .i64 h.code] 29)=W0 at *
  have zA:=hA.size
  refine(l11Chain_any _ _ h _ (hh.below hA) hn).mono ?_
  rintro e w1 ⟨v,rfl,hrow,hb1⟩
  have hB1:Below w.heap.size w w1:=hA.trans (hb1.mono zA)
  have c0:=cell_below hb1 b0
  have hin:Hid (∀k∈chainOf h.calls h.now,k<h.calls.length):=fun k hk=>(chain_in hk).1
  clear hA b0 hb1
  obtain⟨ch,hch⟩:∃ch,chainOf h.calls h.now=ch:=⟨_,rfl⟩
  rw[hch] at hrow hin
  have HCH:Hid (chainOf h.calls h.now=ch):=hch
  clear hch
  obtain⟨av,kv,hv,hlv⟩:=hrow.slice
  rw[nums_len] at hv hlv
  subst hv
  unfold maxLen at hlv
  have z1:=hB1.size
  go_wp2_with fail
  go_loopg [4] ch.length (fun d i wr=>∃k:Nat,1≤k∧k≤ch.length+1∧d=ch.length+1 - k∧i=.int .i64 k∧Below w1.heap.size w1 wr∧∀j,(hj:j<ch.length)→1≤j→j<k→∀hk:ch[j]<h.calls.length,h.calls[ch[j]].stack.length<6)
  case atStart=>exact⟨1,Nat.le_refl _,by omega,by omega,rfl,Below.refl _ _,fun j _ h1 h2=>absurd h2 (by omega)⟩
  case round =>
    obtain⟨k,hk1,hk,rfl,rfl,hb,hall⟩:=hrel
    have H:Hid (∀j,(hj:j<ch.length)→1≤j→j<k→∀hk:ch[j]<h.calls.length,h.calls[ch[j]].stack.length<6):=hall
    clear hall
    by_cases hlt:k<ch.length
    · have hkz:(k:Int)<(ch.length:Int):=by omega
      have hik:=hin.out _ (List.getElem_mem hlt)
      have hkn:k<(nums ch).length:=by rw[nums_len];exact hlt
      obtain⟨g1,o1,q1,e1,_⟩:=hrow.form (by omega)
      rw[nums_len] at e1
      cases e1
      have rc:=((hrow.below hb).cell hkn).1
      have en:(nums ch)[k]=((ch[k]:Nat):Int):=by simp[nums]
      rw[en] at rc
      have cr:=cell_below hb c0
      obtain⟨acx,kcx,hx,_,hcl⟩:=hh.c
      cases hx
      obtain⟨b,o,vt,vs,rfl,hc⟩:=hcl _ hik
      have hcr:=(hc.below hB1).below hb
      have d3:=hcr.c3
      obtain⟨a3,k3,h3⟩:=hcr.s.shape
      rw[h3] at d3
      have hikz:((ch[k]:Nat):Int)<(h.calls.length:Int):=by omega
      have HNO:Hid (¬h.calls[ch[k]].stack.length<6→roomP h.calls ch=false):=fun hno=>roomP_no hk1 hlt hik hno
      have HYES:Hid (h.calls[ch[k]].stack.length<6→∀j,(hj:j<ch.length)→1≤j→j<k+1→∀hk:ch[j]<h.calls.length,h.calls[ch[j]].stack.length<6):=fun hy j hj hj1 hjk hk'=>by
        by_cases e:j=k
        · subst e;exact hy
        · exact H.out j hj hj1 (by omega) hk'
      clear hcl hc hcr en h3
      generalize h.calls[ch[k]].stack.length=sl at *
      generalize ch[k]=ck at *
      by_cases h6:sl<6
      · have h6z:(sl:Int)<6:=by omega
        go_wp2_with fail
        go_region
        all_goals
          go_wp2
          go_roundg (ch.length+1 - (k+1))
          case measure=>omega
          case rel=>exact⟨k+1,by omega,by omega,rfl,by go_num,hb.drew,HYES.out h6⟩
      · have h6z:(6:Int)≤(sl:Int):=by omega
        go_wp2_with fail
        go_region
        all_goals
          go_wp2
          go_ret
          exact⟨ret_bool (by rw[HCH.out];exact(HNO.out h6).symm),hB1.trans (hb.drew.mono z1)⟩
    · have hkz:(ch.length:Int)≤(k:Int):=by omega
      go_wp2
      go_ret
      exact⟨ret_bool (by rw[HCH.out];exact(roomP_yes hin.out (fun i hi h1 hk'=>H.out i hi h1 (by omega) hk')).symm),hB1.trans (hb.mono z1)⟩
def headOk (ms:List (Int × Int × List (Int × Int))) (h:Hp):Bool :=
  progOk ms && inR h.now (-1) ((h.calls.length:Int) - 1) && inR h.born 1 30 && decide ((h.calls.length:Int)≤h.born) && inR h.code 0 3 && valsOk ms.length h.said && ((h.code == 1) == decide (h.now<0))
def liveN (cs:List Cl):Nat:=(cs.filter fun c=>!c.dead).length
def endOk (h:Hp):Bool:=(decide (h.now<0) || !(h.calls.getD h.now.toNat Cl.none).dead) && ((chainOf h.calls h.now).length == liveN h.calls) && roomP h.calls (chainOf h.calls h.now)
def heapOk (ms:List (Int × Int × List (Int × Int))) (h:Hp):Bool:=headOk ms h && h.calls.all (clOk ms h.calls.length) && endOk h
theorem heapOk_head {ms:List (Int × Int × List (Int × Int))} {h:Hp} (e:headOk ms h=false):heapOk ms h=false:=by simp[heapOk,e]
theorem heapOk_call {ms:List (Int × Int × List (Int × Int))} {h:Hp} {i:Nat} (hi:i<h.calls.length) (e:clOk ms h.calls.length h.calls[i]=false):heapOk ms h=false:=by
  simp only[heapOk,all_not hi e,Bool.and_false,Bool.false_and]
theorem heapOk_end {ms:List (Int × Int × List (Int × Int))} {h:Hp} (e:headOk ms h=true) (hc:∀i,(hi:i<h.calls.length)→clOk ms h.calls.length h.calls[i]=true):heapOk ms h=endOk h:=by
  simp only[heapOk,e,all_of hc,Bool.true_and]
theorem liveN_step {cs:List Cl} {k:Nat} (hk:k<cs.length):liveN (cs.take (k+1))=liveN (cs.take k)+(if cs[k].dead then 0 else 1):=by
  unfold liveN
  rw[List.take_succ_eq_append_getElem hk,List.filter_append,List.length_append]
  congr 1
  by_cases e:cs[k].dead=true <;> simp[e]
set_option maxRecDepth 100000 in
set_option maxHeartbeats 8000000 in
theorem specHeapOk_any (vp vc vs:Value) (ms:List (Int × Int × List (Int × Int))) (h:Hp) (w:World) (hp:MethsAt w vp ms) (hh:HeapAt w vc vs h) (hn:h.calls.length≤1048576) :
    Calls Tryz.prog 17 #[.agg #[vp],.agg (hpCells vc vs h)] w fun e w'=>e=.returned (.bool (heapOk ms h))∧Below w.heap.size w w':=by
  obtain⟨ac,kc,hvc⟩:=hh.c.shape
  obtain⟨aD,kD,hvs⟩:=hh.s.shape
  obtain⟨ap,cp,hvp,hlp,_⟩:=id hp
  subst hvc hvs hvp
  unfold maxLen at hlp
  unfold hpCells
  have hA:Below w.heap.size w ((w.alloc (.cells #[.slice ap ms.length cp] 25)).alloc (.cells #[.slice ac h.calls.length kc,.int .i64 h.now,.int .i64 h.born,.slice aD h.said.length kD,.int .i64 h.code] 29)):=((Below.refl _ _).alloc (Nat.le_refl _) _).alloc (by simp) _
  have bp:((w.alloc (.cells #[.slice ap ms.length cp] 25)).alloc (.cells #[.slice ac h.calls.length kc,.int .i64 h.now,.int .i64 h.born,.slice aD h.said.length kD,.int .i64 h.code] 29)).cell? ⟨w.heap.size,0,none⟩=some (.slice ap ms.length cp):=by simp[go_sem]
  have bh:=five_new (w.alloc (.cells #[.slice ap ms.length cp] 25)) 29 (.slice ac h.calls.length kc) (.int .i64 h.now) (.int .i64 h.born) (.slice aD h.said.length kD) (.int .i64 h.code)
  simp only[World.size_alloc] at bh
  go_enter Tryz.func17,Tryz.ntmps17
  go_upto_region 1 with fail
  generalize (w.alloc (.cells #[.slice ap ms.length cp] 25)).alloc (.cells #[.slice ac h.calls.length kc,.int .i64 h.now,.int .i64 h.born,.slice aD h.said.length kD,.int .i64 h.code] 29)=W0 at *
  obtain⟨⟨x0,x1,x2,x3,x4⟩,_⟩:=five_cells bh
  have zA:=hA.size
  go_wp2_with fail
  refine(specProgOk_any _ ms _ (hp.below hA)).mono ?_
  rintro e w1 ⟨rfl,hb1⟩
  have hB1:Below w.heap.size w w1:=hA.trans (hb1.mono zA)
  have bp1:=cell_below hb1 bp
  have bh1:=row_below hb1 bh
  have z1:=hB1.size
  clear hA bp bh x0 x1 x2 x3 x4 hb1
  obtain⟨⟨x0,x1,x2,x3,x4⟩,_⟩:=five_cells bh1
  have HH:Hid (headOk ms h=false→heapOk ms h=false):=heapOk_head
  cases h1:progOk ms
  · have HE:Hid (heapOk ms h=false):=HH.out (by simp[headOk,h1])
    go_wp2
    go_ret
    exact⟨ret_bool HE.out.symm,hB1⟩
  cases h2:inR h.now (-1) ((h.calls.length:Int) - 1)
  · have HE:Hid (heapOk ms h=false):=HH.out (by simp[headOk,h2])
    go_wp2_with (go_at_call 57;refine(l6In_any _ _ _ _).mono ?_;rintro e w' ⟨rfl,hw⟩;obtain rfl:=hw.symm)
    go_ret
    exact⟨ret_bool HE.out.symm,hB1⟩
  cases h3:inR h.born 1 30
  · have HE:Hid (heapOk ms h=false):=HH.out (by simp[headOk,h3])
    go_wp2_with (go_at_call 57;refine(l6In_any _ _ _ _).mono ?_;rintro e w' ⟨rfl,hw⟩;obtain rfl:=hw.symm)
    go_ret
    exact⟨ret_bool HE.out.symm,hB1⟩
  have h3':=inR_true.1 h3
  by_cases h4:h.born<(h.calls.length:Int)
  · have HE:Hid (heapOk ms h=false):=HH.out (by simp only[headOk,decide_eq_false (show ¬(h.calls.length:Int)≤h.born by omega),Bool.and_false,Bool.false_and])
    go_wp2_with (go_at_call 57;refine(l6In_any _ _ _ _).mono ?_;rintro e w' ⟨rfl,hw⟩;obtain rfl:=hw.symm)
    go_ret
    exact⟨ret_bool HE.out.symm,hB1⟩
  have h4':(h.calls.length:Int)≤h.born:=by omega
  replace hn:h.calls.length≤900000:=by omega
  clear h4
  cases h5:inR h.code 0 3
  · have HE:Hid (heapOk ms h=false):=HH.out (by simp[headOk,h5])
    go_wp2_with (go_at_call 57;refine(l6In_any _ _ _ _).mono ?_;rintro e w' ⟨rfl,hw⟩;obtain rfl:=hw.symm)
    go_ret
    exact⟨ret_bool HE.out.symm,hB1⟩
  go_wp2_with (go_at_call 57;refine(l6In_any _ _ _ _).mono ?_;rintro e w' ⟨rfl,hw⟩;obtain rfl:=hw.symm)
  refine(l11Said_any _ _ ms h.said _ (hp.below hB1) (hh.below hB1).s).mono ?_
  rintro e w2 ⟨rfl,hb2⟩
  have hB2:Below w.heap.size w w2:=hB1.trans (hb2.mono z1)
  have bp2:=cell_below hb2 bp1
  have bh2:=row_below hb2 bh1
  have z2:=hB2.size
  clear hB1 bp1 bh1 x0 x1 x2 x3 x4 hb2
  obtain⟨⟨x0,x1,x2,x3,x4⟩,_⟩:=five_cells bh2
  cases h6:valsOk ms.length h.said
  · have HE:Hid (heapOk ms h=false):=HH.out (by simp[headOk,h6])
    go_wp2
    go_ret
    exact⟨ret_bool HE.out.symm,hB2⟩
  have HEND:Hid (((h.code == 1) == decide (h.now<0))=true→(∀i,(hi:i<h.calls.length)→clOk ms h.calls.length h.calls[i]=true)→heapOk ms h=endOk h):=fun h7=>heapOk_end (by simp only[headOk,h1,h2,h3,decide_eq_true h4',h5,h6,h7,Bool.true_and])
  have h2':=inR_true.1 h2
  by_cases hc1:h.code=1
  · have hcb:(h.code == 1)=true:=by rw[beq_iff_eq];exact hc1
    have HC1:Hid (h.code=1):=hc1
    clear hc1
    by_cases hnn:h.now<0
    · have hdn:decide (h.now<0)=true:=decide_eq_true hnn
      replace HEND:Hid ((∀i,(hi:i<h.calls.length)→clOk ms h.calls.length h.calls[i]=true)→heapOk ms h=endOk h):=HEND.out (by rw[hcb,decide_eq_true hnn];rfl)
      have hnb:(h.calls.length:Int)≤30:=by omega
      clear h1 h2 h3 h5 h6 HH
      go_wp2_with fail
      go_loopg [6,7] h.calls.length (fun d lv i wr=>∃(k l:Nat),k≤h.calls.length∧d=h.calls.length - k∧lv=.int .i64 l∧i=.int .i64 k∧l≤k∧Hid (l=liveN (h.calls.take k))∧Below w2.heap.size w2 wr∧∀j,(hj:j<h.calls.length)→j<k→clOk ms h.calls.length h.calls[j]=true)
      case atStart=>exact⟨0,0,Nat.zero_le _,rfl,rfl,rfl,Nat.le_refl _,by show 0=_;simp[liveN],Below.refl _ _,fun j _ hj=>absurd hj (Nat.not_lt_zero _)⟩
      case round =>
        obtain⟨k,l,hk,rfl,rfl,rfl,hlk,HL,hbr,hall⟩:=hrel
        have HA:Hid (∀j,(hj:j<h.calls.length)→j<k→clOk ms h.calls.length h.calls[j]=true):=hall
        clear hall
        have hBr:Below w.heap.size w wr:=hB2.trans (hbr.mono z2)
        have zr:=hBr.size
        have bpr:=cell_below hbr bp2
        have bhr:=row_below hbr bh2
        obtain⟨⟨y0,y1,y2,y3,y4⟩,_⟩:=five_cells bhr
        clear x0 x1 x2 x3 x4
        by_cases hlt:k<h.calls.length
        · have hkz:(k:Int)<(h.calls.length:Int):=by omega
          obtain⟨_,_,hx,_,hcl⟩:=(hh.below hBr).c
          cases hx
          obtain⟨b,o,vt,vs',rfl,hc⟩:=hcl k hlt
          obtain⟨d0,d1,d2,d3,d4,d5,dt,ds⟩:=hc
          obtain⟨a1,k1,e1⟩:=dt.shape
          obtain⟨a2,k2,e2⟩:=ds.shape
          rw[e1] at d2 dt
          rw[e2] at d3 ds
          clear e1 e2 hcl
          have DT:OpsAt wr.drew _ _:=dt.below (Below.refl _ _).drew
          have DS:OpsAt wr.drew _ _:=ds.below (Below.refl _ _).drew
          have DP:MethsAt wr.drew _ ms:=(hp.below hBr).below (Below.refl _ _).drew
          have HNO:Hid (clOk ms h.calls.length h.calls[k]=false→heapOk ms h=false):=heapOk_call hlt
          have HST:Hid (liveN (h.calls.take (k+1))=liveN (h.calls.take k)+(if h.calls[k].dead then 0 else 1)):=liveN_step hlt
          have HYES:Hid (clOk ms h.calls.length h.calls[k]=true→∀j,(hj:j<h.calls.length)→j<k+1→clOk ms h.calls.length h.calls[j]=true):=fun hy j hj hjk=>by
            by_cases e:j=k
            · subst e;exact hy
            · exact HA.out j hj (by omega)
          obtain⟨r,hr⟩:∃r,clOk ms h.calls.length h.calls[k]=r:=⟨_,rfl⟩
          have HR:Hid (clOk ms h.calls.length h.calls[k]=r):=hr
          clear hr dt ds
          go_wp2_with fail
          go_region_with (go_at_call 59;refine(l11Form_any _ _ _ ms h.calls[k] h.calls.length _ DP DT DS (by unfold maxLen;omega)).mono ?_;rintro e w3 ⟨rfl,hb3⟩;rw[HR.out])
          all_goals
            have hb3':Below w2.heap.size w2 w3:=hbr.drew.trans (hb3.mono hbr.size)
            have hB3:Below w.heap.size w w3:=hB2.trans (hb3'.mono z2)
            have b3:=row_below hb3' bh2
            obtain⟨⟨v0,v1,v2,v3,v4⟩,_⟩:=five_cells b3
            have f5:w3.cell? ⟨b,o+k * 6+5,none⟩=some (.bool h.calls[k].dead):=cell_below hb3 d5
            clear hb3 d0 d1 d2 d3 d4 d5 DT DS DP y0 y1 y2 y3 y4 b3 bpr bhr
            cases r
            · go_wp2
              go_ret
              exact⟨ret_bool (HNO.out HR.out).symm,hB3⟩
            · have hy:=HYES.out HR.out
              have HY:Hid (∀j,(hj:j<h.calls.length)→j<k+1→clOk ms h.calls.length h.calls[j]=true):=hy
              clear hy HYES HNO
              cases hdd:h.calls[k].dead
              · rw[hdd] at f5
                have HL':Hid (l+1=liveN (h.calls.take (k+1))):=by show _=_;rw[HST.out,←HL.out,hdd];rfl
                go_wp2
                go_roundg (h.calls.length - (k+1))
                case measure=>omega
                case rel=>exact⟨k+1,l+1,by omega,rfl,by go_num,by go_num,by omega,HL',hb3',HY.out⟩
              · rw[hdd] at f5
                have HL':Hid (l=liveN (h.calls.take (k+1))):=by show _=_;rw[HST.out,←HL.out,hdd];rfl
                go_wp2
                go_roundg (h.calls.length - (k+1))
                case measure=>omega
                case rel=>exact⟨k+1,l,by omega,rfl,rfl,by go_num,by omega,HL',hb3',HY.out⟩
        · obtain rfl:k=h.calls.length:=by omega
          have HE:Hid (heapOk ms h=endOk h):=HEND.out (fun i hi=>HA.out i hi hi)
          have HLN:Hid (l=liveN h.calls):=by show _=_;rw[HL.out,List.take_length]
          clear HL HA HEND
          have HED:Hid (endOk h=(((chainOf h.calls h.now).length == l) && roomP h.calls (chainOf h.calls h.now))):=by
            show _=_
            unfold endOk
            rw[hdn,HLN.out]
            rfl
          go_wp2_with fail
          refine(l11Chain_any _ _ h _ (hh.below hBr) hn).mono ?_
          rintro e w3 ⟨v3,rfl,hrow,hb3⟩
          have hB3:Below w.heap.size w w3:=hBr.trans (hb3.mono zr)
          have z3:=hB3.size
          have b3:=row_below hb3 bhr
          obtain⟨⟨v0,v1,v2,v3',v4⟩,_⟩:=five_cells b3
          obtain⟨av,kv,hv,hlv⟩:=hrow.slice
          rw[nums_len] at hv hlv
          subst hv
          unfold maxLen at hlv
          clear hb3 hrow
          by_cases hl:(chainOf h.calls h.now).length=l
          · have hlb:(((chainOf h.calls h.now).length:Int) == (l:Int))=true:=by rw[beq_iff_eq];omega
            have HLL:Hid ((chainOf h.calls h.now).length=l):=hl
            clear hl
            go_wp2_with fail
            refine(l11Wait_any _ _ h _ (hh.below hB3) hn).mono ?_
            rintro e w4 ⟨rfl,hb4⟩
            have hB4:Below w.heap.size w w4:=hB3.trans (hb4.mono z3)
            clear hb4
            go_wp2
            go_ret
            exact⟨ret_bool (by rw[HE.out,HED.out,HLL.out];simp),hB4⟩
          · have hlb:(((chainOf h.calls h.now).length:Int) == (l:Int))=false:=by rw[beq_eq_false_iff_ne];omega
            have hlb':((chainOf h.calls h.now).length == l)=false:=beq_eq_false_iff_ne.2 hl
            go_wp2
            go_ret
            exact⟨ret_bool (by rw[HE.out,HED.out,hlb'];rfl),hB3⟩
    · have hn0:0≤h.now:=by omega
      have hdn:decide (h.now<0)=false:=decide_eq_false hnn
      have HE:Hid (heapOk ms h=false):=HH.out (by unfold headOk;rw[hcb,decide_eq_false hnn,show(true == false)=false from rfl,Bool.and_false])
      clear hnn
      go_wp2
      go_ret
      exact⟨ret_bool HE.out.symm,hB2⟩
  · have hcb:(h.code == 1)=false:=beq_eq_false_iff_ne.2 hc1
    by_cases hnn:h.now<0
    · have HE:Hid (heapOk ms h=false):=HH.out (by unfold headOk;rw[hcb,decide_eq_true hnn,show(false == true)=false from rfl,Bool.and_false])
      go_wp2
      go_ret
      exact⟨ret_bool HE.out.symm,hB2⟩
    · have hn0:0≤h.now:=by omega
      have hdn:decide (h.now<0)=false:=decide_eq_false hnn
      replace HEND:Hid ((∀i,(hi:i<h.calls.length)→clOk ms h.calls.length h.calls[i]=true)→heapOk ms h=endOk h):=HEND.out (by rw[hcb,decide_eq_false hnn];rfl)
      clear hnn
      have hnb:(h.calls.length:Int)≤30:=by omega
      clear h1 h2 h3 h5 h6 HH
      go_wp2_with fail
      go_loopg [6,7] h.calls.length (fun d lv i wr=>∃(k l:Nat),k≤h.calls.length∧d=h.calls.length - k∧lv=.int .i64 l∧i=.int .i64 k∧l≤k∧Hid (l=liveN (h.calls.take k))∧Below w2.heap.size w2 wr∧∀j,(hj:j<h.calls.length)→j<k→clOk ms h.calls.length h.calls[j]=true)
      case atStart=>exact⟨0,0,Nat.zero_le _,rfl,rfl,rfl,Nat.le_refl _,by show 0=_;simp[liveN],Below.refl _ _,fun j _ hj=>absurd hj (Nat.not_lt_zero _)⟩
      case round =>
        obtain⟨k,l,hk,rfl,rfl,rfl,hlk,HL,hbr,hall⟩:=hrel
        have HA:Hid (∀j,(hj:j<h.calls.length)→j<k→clOk ms h.calls.length h.calls[j]=true):=hall
        clear hall
        have hBr:Below w.heap.size w wr:=hB2.trans (hbr.mono z2)
        have zr:=hBr.size
        have bpr:=cell_below hbr bp2
        have bhr:=row_below hbr bh2
        obtain⟨⟨y0,y1,y2,y3,y4⟩,_⟩:=five_cells bhr
        clear x0 x1 x2 x3 x4
        by_cases hlt:k<h.calls.length
        · have hkz:(k:Int)<(h.calls.length:Int):=by omega
          obtain⟨_,_,hx,_,hcl⟩:=(hh.below hBr).c
          cases hx
          obtain⟨b,o,vt,vs',rfl,hc⟩:=hcl k hlt
          obtain⟨d0,d1,d2,d3,d4,d5,dt,ds⟩:=hc
          obtain⟨a1,k1,e1⟩:=dt.shape
          obtain⟨a2,k2,e2⟩:=ds.shape
          rw[e1] at d2 dt
          rw[e2] at d3 ds
          clear e1 e2 hcl
          have DT:OpsAt wr.drew _ _:=dt.below (Below.refl _ _).drew
          have DS:OpsAt wr.drew _ _:=ds.below (Below.refl _ _).drew
          have DP:MethsAt wr.drew _ ms:=(hp.below hBr).below (Below.refl _ _).drew
          have HNO:Hid (clOk ms h.calls.length h.calls[k]=false→heapOk ms h=false):=heapOk_call hlt
          have HST:Hid (liveN (h.calls.take (k+1))=liveN (h.calls.take k)+(if h.calls[k].dead then 0 else 1)):=liveN_step hlt
          have HYES:Hid (clOk ms h.calls.length h.calls[k]=true→∀j,(hj:j<h.calls.length)→j<k+1→clOk ms h.calls.length h.calls[j]=true):=fun hy j hj hjk=>by
            by_cases e:j=k
            · subst e;exact hy
            · exact HA.out j hj (by omega)
          obtain⟨r,hr⟩:∃r,clOk ms h.calls.length h.calls[k]=r:=⟨_,rfl⟩
          have HR:Hid (clOk ms h.calls.length h.calls[k]=r):=hr
          clear hr dt ds
          go_wp2_with fail
          go_region_with (go_at_call 59;refine(l11Form_any _ _ _ ms h.calls[k] h.calls.length _ DP DT DS (by unfold maxLen;omega)).mono ?_;rintro e w3 ⟨rfl,hb3⟩;rw[HR.out])
          all_goals
            have hb3':Below w2.heap.size w2 w3:=hbr.drew.trans (hb3.mono hbr.size)
            have hB3:Below w.heap.size w w3:=hB2.trans (hb3'.mono z2)
            have b3:=row_below hb3' bh2
            obtain⟨⟨v0,v1,v2,v3,v4⟩,_⟩:=five_cells b3
            have f5:w3.cell? ⟨b,o+k * 6+5,none⟩=some (.bool h.calls[k].dead):=cell_below hb3 d5
            clear hb3 d0 d1 d2 d3 d4 d5 DT DS DP y0 y1 y2 y3 y4 b3 bpr bhr
            cases r
            · go_wp2
              go_ret
              exact⟨ret_bool (HNO.out HR.out).symm,hB3⟩
            · have hy:=HYES.out HR.out
              have HY:Hid (∀j,(hj:j<h.calls.length)→j<k+1→clOk ms h.calls.length h.calls[j]=true):=hy
              clear hy HYES HNO
              cases hdd:h.calls[k].dead
              · rw[hdd] at f5
                have HL':Hid (l+1=liveN (h.calls.take (k+1))):=by show _=_;rw[HST.out,←HL.out,hdd];rfl
                go_wp2
                go_roundg (h.calls.length - (k+1))
                case measure=>omega
                case rel=>exact⟨k+1,l+1,by omega,rfl,by go_num,by go_num,by omega,HL',hb3',HY.out⟩
              · rw[hdd] at f5
                have HL':Hid (l=liveN (h.calls.take (k+1))):=by show _=_;rw[HST.out,←HL.out,hdd];rfl
                go_wp2
                go_roundg (h.calls.length - (k+1))
                case measure=>omega
                case rel=>exact⟨k+1,l,by omega,rfl,rfl,by go_num,by omega,HL',hb3',HY.out⟩
        · obtain rfl:k=h.calls.length:=by omega
          have HE:Hid (heapOk ms h=endOk h):=HEND.out (fun i hi=>HA.out i hi hi)
          have HLN:Hid (l=liveN h.calls):=by show _=_;rw[HL.out,List.take_length]
          clear HL HA HEND
          obtain⟨nn,hnn⟩:=Int.eq_ofNat_of_zero_le hn0
          have hnl:nn<h.calls.length:=by omega
          have HNN:Hid (h.now=(nn:Int)):=hnn
          have hnz:(nn:Int)<(h.calls.length:Int):=by omega
          rw[hnn] at y1
          obtain⟨_,_,hx,_,hcl⟩:=(hh.below hBr).c
          cases hx
          obtain⟨b,o,vt,vs',rfl,hc⟩:=hcl nn hnl
          have d5:=hc.c5
          clear hcl hc hnn
          have hdn':decide ((nn:Int)<0)=false:=decide_eq_false (by omega)
          cases hdd:h.calls[nn].dead
          · rw[hdd] at d5
            have HED:Hid (endOk h=(((chainOf h.calls h.now).length == l) && roomP h.calls (chainOf h.calls h.now))):=by
              show _=_
              unfold endOk
              rw[hdn,HLN.out,HNN.out,Int.toNat_natCast,show h.calls.getD nn Cl.none=h.calls[nn] by simp[hnl],hdd]
              rfl
            go_wp2_with fail
            rw[←HNN.out]
            refine(l11Chain_any _ _ h _ (hh.below hBr) hn).mono ?_
            rintro e w3 ⟨v3,rfl,hrow,hb3⟩
            have hB3:Below w.heap.size w w3:=hBr.trans (hb3.mono zr)
            have z3:=hB3.size
            have b3:=row_below hb3 bhr
            obtain⟨⟨v0,v1,v2,v3',v4⟩,_⟩:=five_cells b3
            obtain⟨av,kv,hv,hlv⟩:=hrow.slice
            rw[nums_len] at hv hlv
            subst hv
            unfold maxLen at hlv
            clear hb3 hrow
            by_cases hl:(chainOf h.calls h.now).length=l
            · have hlb:(((chainOf h.calls h.now).length:Int) == (l:Int))=true:=by rw[beq_iff_eq];omega
              have HLL:Hid ((chainOf h.calls h.now).length=l):=hl
              clear hl
              go_wp2_with fail
              refine(l11Wait_any _ _ h _ (hh.below hB3) hn).mono ?_
              rintro e w4 ⟨rfl,hb4⟩
              have hB4:Below w.heap.size w w4:=hB3.trans (hb4.mono z3)
              clear hb4
              go_wp2
              go_ret
              exact⟨ret_bool (by rw[HE.out,HED.out,HLL.out];simp),hB4⟩
            · have hlb:(((chainOf h.calls h.now).length:Int) == (l:Int))=false:=by rw[beq_eq_false_iff_ne];omega
              have hlb':((chainOf h.calls h.now).length == l)=false:=beq_eq_false_iff_ne.2 hl
              go_wp2
              go_ret
              exact⟨ret_bool (by rw[HE.out,HED.out,hlb'];rfl),hB3⟩
          · rw[hdd] at d5
            have HED:Hid (endOk h=false):=by
              show _=_
              unfold endOk
              rw[hdn,HNN.out,Int.toNat_natCast,show h.calls.getD nn Cl.none=h.calls[nn] by simp[hnl],hdd]
              rfl
            go_wp2
            go_ret
            exact⟨ret_bool (by rw[HE.out,HED.out]),hBr⟩
def deepC (cs:List Cl):Nat→Int→Option Nat
  | 0,a=>if 0≤a∧a.toNat<cs.length then none else some 0
  | f+1,a=>if h:0≤a∧a.toNat<cs.length then(if(cs[a.toNat]'h.2).dead then none else(deepC cs f (cs[a.toNat]'h.2).sender).map (·+1)) else some 0
theorem deepC_out {cs:List Cl} {f:Nat} {a:Int} (h:¬(0≤a∧a<(cs.length:Int))):deepC cs f a=some 0:=by
  have h':¬(0≤a∧a.toNat<cs.length):=by omega
  cases f
  · simp only[deepC,if_neg h']
  · simp only[deepC,dif_neg h']
theorem deepC_zero {cs:List Cl} {a:Nat} (h:a<cs.length):deepC cs 0 (a:Int)=none:=by
  simp only[deepC]
  rw[if_pos (by simp;exact h)]
theorem deepC_dead {cs:List Cl} {f:Nat} {a:Nat} (h:a<cs.length) (hd:cs[a].dead=true):deepC cs f (a:Int)=none:=by
  cases f with
  | zero=>exact deepC_zero h
  | succ f =>
    simp only[deepC,Int.toNat_natCast]
    rw[dif_pos ⟨by omega,h⟩,if_pos hd]
theorem deepC_step {cs:List Cl} {f:Nat} {a:Nat} (h:a<cs.length) (hd:cs[a].dead=false):deepC cs (f+1) (a:Int)=(deepC cs f cs[a].sender).map (·+1):=by
  simp only[deepC,Int.toNat_natCast]
  rw[dif_pos ⟨by omega,h⟩,hd]
  rfl
def deepOf (cs:List Cl) (now:Int):Nat:=(deepC cs cs.length now).getD 0
theorem deepC_walk {cs:List Cl} (hs:∀i,(h:i<cs.length)→-1≤cs[i].sender∧cs[i].sender<(cs.length:Int)):∀(f:Nat) (a:Int),-1≤a→a<(cs.length:Int)→deepC cs f a=(walkC cs f a).map List.length
  | f,a,h0,h1=>by
    by_cases hn:a<0
    · rw[walkC_neg hn,deepC_out (by omega)];rfl
    obtain⟨n,rfl⟩:=Int.eq_ofNat_of_zero_le (show 0≤a by omega)
    have hl:n<cs.length:=by omega
    cases f with
    | zero=>rw[deepC_zero hl,walkC_zero (by omega)];rfl
    | succ f =>
      cases hd:cs[n].dead
      · rw[deepC_step hl hd,walkC_step hl hd,deepC_walk hs f _ (hs n hl).1 (hs n hl).2]
        cases walkC cs f cs[n].sender <;> rfl
      · rw[deepC_dead hl hd,walkC_dead hl hd];rfl
theorem deepOf_chain {cs:List Cl} {now:Int} (hs:∀i,(h:i<cs.length)→-1≤cs[i].sender∧cs[i].sender<(cs.length:Int)) (h0:-1≤now) (h1:now<(cs.length:Int)):deepOf cs now=(chainOf cs now).length:=by
  unfold deepOf chainOf
  rw[deepC_walk hs _ _ h0 h1]
  cases walkC cs cs.length now <;> rfl
set_option maxRecDepth 100000 in
set_option maxHeartbeats 4000000 in
theorem implHeapDeep_any (vc vs:Value) (h:Hp) (w:World) (hh:HeapAt w vc vs h) (hn:h.calls.length≤900000) :
    Calls Tryz.prog 18 #[.agg (hpCells vc vs h)] w fun e w'=>e=.returned (.int .i64 (deepOf h.calls h.now:Nat))∧Below w.heap.size w w':=by
  unfold hpCells
  obtain⟨cs,now,born,said,code⟩:=h
  obtain⟨hhc,hhs⟩:=hh
  simp only[] at hhc hhs hn ⊢
  obtain⟨aD,kD,hvs⟩:=hhs.shape
  subst hvs
  obtain⟨ac,kc,rfl,_,hcl⟩:=hhc
  have hA:=(Below.refl w.heap.size w).alloc (Nat.le_refl _) (.cells #[.slice ac cs.length kc,.int .i64 now,.int .i64 born,.slice aD said.length kD,.int .i64 code] 29)
  have b0:(w.alloc (.cells #[.slice ac cs.length kc,.int .i64 now,.int .i64 born,.slice aD said.length kD,.int .i64 code] 29)).cell? ⟨w.heap.size,0,none⟩=some (.slice ac cs.length kc):=by simp[go_sem]
  have b1:(w.alloc (.cells #[.slice ac cs.length kc,.int .i64 now,.int .i64 born,.slice aD said.length kD,.int .i64 code] 29)).cell? ⟨w.heap.size,1,none⟩=some (.int .i64 now):=by simp[go_sem]
  go_enter Tryz.func18,Tryz.ntmps18
  go_upto_region 1 with fail
  generalize w.alloc (.cells #[.slice ac cs.length kc,.int .i64 now,.int .i64 born,.slice aD said.length kD,.int .i64 code] 29)=W0 at *
  have HW:Hid (deepC cs cs.length now=(deepC cs (cs.length - 0) now).map (·+0)):=by
    show _=_
    simp
  clear hhs
  go_wp2_with fail
  go_loopg [3,4] cs.length (fun d v at_ wr=>∃(k:Nat) (a:Int),k≤cs.length∧d=cs.length - k∧v=.int .i64 (k:Nat)∧at_=.int .i64 a∧wr.cell? ⟨w.heap.size,0,none⟩=some (.slice ac cs.length kc)∧Below w.heap.size w wr∧deepC cs cs.length now=(deepC cs (cs.length - k) a).map (·+k))
  case atStart=>exact⟨0,now,Nat.zero_le _,rfl,rfl,rfl,b0,hA,HW.out⟩
  case round =>
    obtain⟨k,a,hk,rfl,rfl,rfl,br,hb,hwalk⟩:=hrel
    have HK:Hid (deepC cs cs.length now=(deepC cs (cs.length - k) a).map (·+k)):=hwalk
    clear hwalk HW b0 b1 hA
    have hsz:=hb.size
    by_cases ha:¬(0≤a∧a<(cs.length:Int))
    · have HI:Hid (inR a 0 ((cs.length:Int) - 1)=false):=inR_false.2 (by omega)
      have HE:Hid (deepOf cs now=k):=by
        show _=_
        unfold deepOf
        rw[HK.out,deepC_out ha]
        simp
      go_wp2_with (go_at_call 61;refine(isPlace_any _ _ _).mono ?_;rintro e w' ⟨rfl,hw⟩;obtain rfl:=hw.symm;rw[HI.out])
      go_ret
      exact⟨by rw[HE.out];rfl,hb⟩
    have ha:=Decidable.not_not.1 ha
    have HI:Hid (inR a 0 ((cs.length:Int) - 1)=true):=inR_true.2 (by omega)
    obtain⟨an,rfl⟩:=Int.eq_ofNat_of_zero_le ha.1
    have han:an<cs.length:=by omega
    have hanz:(an:Int)<(cs.length:Int):=by omega
    obtain⟨b,o,vt,vs,rfl,hc⟩:=hcl an han
    have d4:=cell_below hb hc.c4
    have d5:=cell_below hb hc.c5
    have HN:Hid (deepC cs (cs.length - k) (an:Int)=none→deepOf cs now=0):=fun e=>by
      unfold deepOf
      rw[HK.out,e]
      rfl
    clear hcl hc ha
    rcases hdd:cs[an].dead with _ | _
    · rw[hdd] at d5
      by_cases hf:cs.length≤k
      · have HE:Hid (deepOf cs now=0):=HN.out (by rw[show cs.length - k=0 by omega];exact deepC_zero han)
        have hkk:((k:Int) == (cs.length:Int))=true:=by simp;omega
        obtain rfl:k=cs.length:=by omega
        clear HN HK hdd
        go_wp2_with (go_at_call 61;refine(isPlace_any _ _ _).mono ?_;rintro e w' ⟨rfl,hw⟩;obtain rfl:=hw.symm;rw[HI.out])
        go_ret
        exact⟨by rw[HE.out];rfl,hb⟩
      · have HS:Hid (deepC cs cs.length now=(deepC cs (cs.length - (k+1)) cs[an].sender).map (·+(k+1))):=by
          show _=_
          rw[HK.out,show cs.length - k=(cs.length - (k+1))+1 by omega,deepC_step han hdd]
          cases deepC cs (cs.length - (k+1)) cs[an].sender with
          | none=>rfl
          | some q=>simp;omega
        have hkk:((k:Int) == (cs.length:Int))=false:=by simp;omega
        have hkl:(k:Int)<(cs.length:Int):=by omega
        clear HN HK hdd
        go_wp2_with (go_at_call 61;refine(isPlace_any _ _ _).mono ?_;rintro e w' ⟨rfl,hw⟩;obtain rfl:=hw.symm;rw[HI.out])
        go_roundg (cs.length - (k+1))
        case measure=>omega
        case rel=>exact⟨k+1,cs[an].sender,by omega,rfl,by go_num,rfl,br,hb,HS.out⟩
    · rw[hdd] at d5
      have HE:Hid (deepOf cs now=0):=HN.out (deepC_dead han hdd)
      clear HN HK hdd
      go_wp2_with (go_at_call 61;refine(isPlace_any _ _ _).mono ?_;rintro e w' ⟨rfl,hw⟩;obtain rfl:=hw.symm;rw[HI.out])
      go_ret
      exact⟨by rw[HE.out];rfl,hb⟩
end Go.Proofs.YtjbgpcileapogaaGreat

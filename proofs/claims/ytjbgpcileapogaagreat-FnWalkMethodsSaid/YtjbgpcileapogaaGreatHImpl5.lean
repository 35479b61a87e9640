/-
  The program's waitOk, in plain words (waitP).
-/
import Derived.Test.YtjbgpcileapogaaGreatHHeapOk
import Derived.Test.YtjbgpcileapogaaGreatTakes2
namespace Go.Proofs.YtjbgpcileapogaaGreat
open Go.RowKit
def freeP (cs:List Cl) (now:Int):Prop:=∀i,(h:i<cs.length)→(i:Int)≠now→cs[i].stack.length<6
open Classical in
noncomputable def waitP (cs:List Cl) (now:Int):Bool:=decide (freeP cs now) && ((deepOf cs now == liveN cs) && ((deepOf cs now == 0) == (now == -1)))
theorem waitP_no {cs:List Cl} {now:Int} {i:Nat} (h:i<cs.length) (hn:(i:Int)≠now) (h6:¬cs[i].stack.length<6):waitP cs now=false:=by
  have:¬freeP cs now:=fun hf=>h6 (hf i h hn)
  simp[waitP,this]
theorem waitP_yes {cs:List Cl} {now:Int} (h:freeP cs now):waitP cs now=((deepOf cs now == liveN cs) && ((deepOf cs now == 0) == (now == -1))):=by
  simp[waitP,h]
set_option maxRecDepth 100000 in
set_option maxHeartbeats 4000000 in
theorem implWaitOk_any (vc vs:Value) (h:Hp) (w:World) (hh:HeapAt w vc vs h) (hn:h.calls.length≤900000) :
    Calls Tryz.prog 79 #[.agg (hpCells vc vs h)] w fun e w'=>e=.returned (.bool (waitP h.calls h.now))∧Below w.heap.size w w':=by
  have HD:Hid (∀w',Below w.heap.size w w'→Calls Tryz.prog 18 #[.agg (hpCells vc vs h)] w' fun e w2=>e=.returned (.int .i64 (deepOf h.calls h.now:Nat))∧Below w'.heap.size w' w2):=fun w' hb=>implHeapDeep_any vc vs h w' (hh.below hb) hn
  unfold hpCells at *
  obtain⟨cs,now,born,said,code⟩:=h
  obtain⟨hhc,hhs⟩:=hh
  simp only[] at hhc hhs hn HD ⊢
  obtain⟨aD,kD,hvs⟩:=hhs.shape
  subst hvs
  obtain⟨ac,kc,rfl,_,hcl⟩:=hhc
  have hA:=(Below.refl w.heap.size w).alloc (Nat.le_refl _) (.cells #[.slice ac cs.length kc,.int .i64 now,.int .i64 born,.slice aD said.length kD,.int .i64 code] 29)
  have b5:=five_new w 29 (.slice ac cs.length kc) (.int .i64 now) (.int .i64 born) (.slice aD said.length kD) (.int .i64 code)
  go_enter Tryz.func79,Tryz.ntmps79
  go_upto_region 1 with fail
  generalize w.alloc (.cells #[.slice ac cs.length kc,.int .i64 now,.int .i64 born,.slice aD said.length kD,.int .i64 code] 29)=W0 at *
  obtain⟨⟨x0,x1,x2,x3,x4⟩,_⟩:=five_cells b5
  clear b5 hhs
  have zA:=hA.size
  have hw0:w.heap.size<W0.heap.size:=World.block_lt_of_cell? _ _ x0
  go_wp2_with fail
  go_loopg [3,10] cs.length (fun d v i wr=>∃k:Nat,k≤cs.length∧d=cs.length - k∧v=.int .i64 (liveN (cs.take k):Nat)∧i=.int .i64 (k:Nat)∧Below W0.heap.size W0 wr∧∀j,(hj:j<cs.length)→j<k→(j:Int)≠now→cs[j].stack.length<6)
  case atStart=>exact⟨0,Nat.zero_le _,rfl,rfl,rfl,Below.refl _ _,fun j _ h=>absurd h (Nat.not_lt_zero _)⟩
  case round =>
    obtain⟨k,hk,rfl,rfl,rfl,hb,hall⟩:=hrel
    have H:Hid (∀j,(hj:j<cs.length)→j<k→(j:Int)≠now→cs[j].stack.length<6):=hall
    clear hall
    have hsz:=hb.size
    have q1:=cell_below hb x1
    by_cases hlt:k<cs.length
    · have hkz:(k:Int)<(cs.length:Int):=by omega
      obtain⟨b,o,vt,vs,rfl,hc⟩:=hcl k hlt
      have hcW:=hc.below (hA.trans (hb.mono zA))
      obtain⟨d0,d1,d2,d3,d4,d5,ht,hs⟩:=hcW
      obtain⟨a1,k1,e1⟩:=ht.shape
      obtain⟨a2,k2,e2⟩:=hs.shape
      subst e1 e2
      have HL:Hid (liveN (cs.take (k+1))=liveN (cs.take k)+(if cs[k].dead then 0 else 1)):=liveN_step hlt
      have HLB:Hid (liveN (cs.take k)≤k):=by
        show _≤_
        unfold liveN
        exact Nat.le_trans (List.length_filter_le _ _) (by simp;omega)
      clear hc hcl ht hs
      have hLz:liveN (cs.take k)≤900000:=Nat.le_trans HLB.out (by omega)
      have qN:=fun o=>cell_below ((Below.refl _ _).alloc (Nat.le_refl _) o) q1
      generalize liveN (cs.take k)=L at *
      cases hdd:cs[k].dead
      · rw[hdd] at d5
        have HL2:Hid (liveN (cs.take (k+1))=L+1):=by
          show _=_
          rw[HL.out,hdd]
          rfl
        clear HL hdd
        by_cases hkn:(k:Int)=now
        · subst hkn
          go_wp2
          go_roundg (cs.length - (k+1))
          case measure=>omega
          case rel =>
            refine⟨k+1,by omega,rfl,by rw[HL2.out];go_num,by go_num,hb.alloc hsz _,fun j hj hjk hne=>?_⟩
            exact H.out j hj (by omega) hne
        · have ekn:((k:Int) == now)=false:=beq_eq_false_iff_ne.2 hkn
          have ekn':((k:Int) != now)=true:=by simp[hkn]
          by_cases h6:6≤cs[k].stack.length
          · have h6z:(6:Int)≤(cs[k].stack.length:Int):=by omega
            have HF:Hid (waitP cs now=false):=waitP_no hlt hkn (by omega)
            go_wp2
            go_ret
            exact⟨ret_bool HF.out.symm,hA.trans ((hb.alloc hsz _).mono zA)⟩
          · have h6z:(cs[k].stack.length:Int)<6:=by omega
            have H6:Hid (cs[k].stack.length<6):=by show _<_;omega
            go_wp2
            go_roundg (cs.length - (k+1))
            case measure=>omega
            case rel =>
              refine⟨k+1,by omega,rfl,by rw[HL2.out];go_num,by go_num,hb.alloc hsz _,fun j hj hjk hne=>?_⟩
              by_cases e:j=k
              · subst e;exact H6.out
              · exact H.out j hj (by omega) hne
      · rw[hdd] at d5
        have HL2:Hid (liveN (cs.take (k+1))=L):=by
          show _=_
          rw[HL.out,hdd]
          rfl
        clear HL hdd
        by_cases hkn:(k:Int)=now
        · subst hkn
          go_wp2
          go_roundg (cs.length - (k+1))
          case measure=>omega
          case rel =>
            refine⟨k+1,by omega,rfl,by rw[HL2.out],by go_num,hb.alloc hsz _,fun j hj hjk hne=>?_⟩
            exact H.out j hj (by omega) hne
        · have ekn:((k:Int) == now)=false:=beq_eq_false_iff_ne.2 hkn
          have ekn':((k:Int) != now)=true:=by simp[hkn]
          by_cases h6:6≤cs[k].stack.length
          · have h6z:(6:Int)≤(cs[k].stack.length:Int):=by omega
            have HF:Hid (waitP cs now=false):=waitP_no hlt hkn (by omega)
            go_wp2
            go_ret
            exact⟨ret_bool HF.out.symm,hA.trans ((hb.alloc hsz _).mono zA)⟩
          · have h6z:(cs[k].stack.length:Int)<6:=by omega
            have H6:Hid (cs[k].stack.length<6):=by show _<_;omega
            go_wp2
            go_roundg (cs.length - (k+1))
            case measure=>omega
            case rel =>
              refine⟨k+1,by omega,rfl,by rw[HL2.out],by go_num,hb.alloc hsz _,fun j hj hjk hne=>?_⟩
              by_cases e:j=k
              · subst e;exact H6.out
              · exact H.out j hj (by omega) hne
    · obtain rfl:k=cs.length:=by omega
      have HF:Hid (freeP cs now):=fun j hj hne=>H.out j hj hj hne
      have HL:Hid (liveN (cs.take cs.length)=liveN cs):=by show _=_;rw[List.take_length]
      have hLz:liveN cs≤900000:=Nat.le_trans (List.length_filter_le _ _) hn
      rw[HL.out]
      have HP:Hid (waitP cs now=((deepOf cs now == liveN cs) && ((deepOf cs now == 0) == (now == -1)))):=waitP_yes HF.out
      have q0:=cell_below hb x0
      have q2:=cell_below hb x2
      have q3:=cell_below hb x3
      have q4:=cell_below hb x4
      have HD2:=HD.out wr (hA.trans (hb.mono zA))
      have HD3:Hid (Calls Tryz.prog 18 #[.agg #[.slice ac cs.length kc,.int .i64 now,.int .i64 born,.slice aD said.length kD,.int .i64 code]] wr fun e w2=>e=.returned (.int .i64 (deepOf cs now:Nat))∧Below wr.heap.size wr w2):=HD2
      have hbW:Below w.heap.size w wr:=hA.trans (hb.mono zA)
      have zW:=hbW.size
      clear HD2 HD HF H HL hcl x0 x1 x2 x3 x4 hA hb
      generalize liveN cs=L at *
      generalize deepOf cs now=D at *
      by_cases hDL:D=L
      · subst hDL
        go_wp2_with (go_at_call 18;refine HD3.out.mono ?_;rintro e w2 ⟨rfl,hb2⟩;have p1:=cell_below hb2 q1)
        go_ret
        refine⟨ret_bool ?_,hbW.trans (hb2.mono zW)⟩
        rw[HP.out,beq_self_eq_true,Bool.true_and,show((D:Int) == 0)=(D == 0) from by rw[Bool.eq_iff_iff,beq_iff_eq,beq_iff_eq];omega]
      · have eDL:((D:Int) == (L:Int))=false:=beq_eq_false_iff_ne.2 (by omega)
        have hDz:¬(D:Int)=(L:Int):=by omega
        go_wp2_with (go_at_call 18;refine HD3.out.mono ?_;rintro e w2 ⟨rfl,hb2⟩;have p1:=cell_below hb2 q1)
        go_ret
        exact⟨ret_bool (by rw[HP.out,beq_eq_false_iff_ne.2 hDL,Bool.false_and]),hbW.trans (hb2.mono zW)⟩
end Go.Proofs.YtjbgpcileapogaaGreat
namespace Go.Proofs.YtjbgpcileapogaaGreat
theorem walkC_some {cs:List Cl} {f:Nat} {a:Int} {l:List Nat} (h:walkC cs f a=some l) (ha:0≤a):∃(g n:Nat) (hn:n<cs.length) (t:List Nat),f=g+1∧a=n∧l=n :: t∧cs[n].dead=false∧walkC cs g cs[n].sender=some t:=by
  obtain⟨n,rfl⟩:=Int.eq_ofNat_of_zero_le ha
  cases f with
  | zero=>rw[walkC_zero ha] at h;cases h
  | succ g =>
    by_cases hn:n<cs.length
    · cases hd:cs[n].dead
      · rw[walkC_step hn hd] at h
        cases hw:walkC cs g cs[n].sender with
        | none=>rw[hw] at h;cases h
        | some t=>rw[hw] at h;exact⟨g,n,hn,t,rfl,rfl,(Option.some.inj h).symm,hd,hw⟩
      · rw[walkC_dead hn hd] at h;cases h
    · rw[walkC_past hn] at h;cases h
theorem walkC_one {cs:List Cl}:∀(l:List Nat) (f f':Nat) (a:Int) (l':List Nat),walkC cs f a=some l→walkC cs f' a=some l'→l=l'
  | l,f,f',a,l',h,h'=>by
    by_cases ha:a<0
    · rw[walkC_neg ha] at h h'
      exact(Option.some.inj h).symm.trans (Option.some.inj h')
    obtain⟨g,n,hn,t,rfl,rfl,rfl,_,hw⟩:=walkC_some h (by omega)
    obtain⟨g',n',hn',t',rfl,e,rfl,_,hw'⟩:=walkC_some h' (by omega)
    obtain rfl:n=n':=by omega
    rw[walkC_one t g g' _ t' hw hw']
  termination_by l=>l.length
theorem walkC_tail {cs:List Cl}:∀(pre:List Nat) (f:Nat) (a:Int) (k:Nat) (post:List Nat),walkC cs f a=some (pre ++ k :: post)→∃f',walkC cs f' (k:Int)=some (k :: post)
  | [],f,a,k,post,h=>by
    by_cases ha:a<0
    · rw[walkC_neg ha] at h;cases h
    obtain⟨g,n,hn,t,rfl,rfl,e,_,hw⟩:=walkC_some h (by omega)
    obtain⟨rfl,rfl⟩:=List.cons.inj e
    exact⟨g+1,h⟩
  | p :: pre,f,a,k,post,h=>by
    by_cases ha:a<0
    · rw[walkC_neg ha] at h;cases h
    obtain⟨g,n,hn,t,rfl,rfl,e,_,hw⟩:=walkC_some h (by omega)
    obtain⟨rfl,rfl⟩:=List.cons.inj e
    exact walkC_tail pre g _ k post hw
theorem walkC_nodup {cs:List Cl}:∀(l:List Nat) (f:Nat) (a:Int),walkC cs f a=some l→l.Nodup
  | [],_,_,_=>List.nodup_nil
  | k :: t,f,a,h=>by
    by_cases ha:a<0
    · rw[walkC_neg ha] at h;cases h
    obtain⟨g,n,hn,t',rfl,rfl,e,_,hw⟩:=walkC_some h (by omega)
    obtain⟨rfl,rfl⟩:=List.cons.inj e
    refine List.nodup_cons.2 ⟨fun hm=>?_,walkC_nodup _ g _ hw⟩
    obtain⟨pre,post,rfl⟩:=List.append_of_mem hm
    obtain⟨f',hf⟩:=walkC_tail pre g _ k post hw
    have:=congrArg List.length (walkC_one _ _ _ _ _ h hf)
    simp at this
    omega
theorem few_of_nodup:∀(l A:List Nat),l.Nodup→(∀k∈l,k∈A)→l.length≤A.length
  | [],_,_,_=>Nat.zero_le _
  | a :: t,A,hn,hs=>by
    obtain⟨ha,ht⟩:=List.nodup_cons.1 hn
    have hm:a∈A:=hs a (List.mem_cons_self ..)
    have:=few_of_nodup t (A.erase a) ht fun k hk=>(List.mem_erase_of_ne (show k≠a from fun e=>ha (by rw[←e];exact hk))).2 (hs k (List.mem_cons_of_mem _ hk))
    rw[List.length_erase_of_mem hm] at this
    have:=List.length_pos_of_mem hm
    simp
    omega
def aliveL (cs:List Cl):List Nat:=(List.range cs.length).filter fun i=>!(cs.getD i Cl.none).dead
theorem aliveL_len (cs:List Cl):(aliveL cs).length=liveN cs:=by
  have e:(List.range cs.length).map (fun i=>cs.getD i Cl.none)=cs:=by
    apply List.ext_getElem
    · simp
    · intro i h1 h2
      simp[h2]
  unfold liveN aliveL
  conv=>rhs;rw[←e]
  rw[List.filter_map,List.length_map]
  rfl
theorem mem_alive {cs:List Cl} {k:Nat}:k∈aliveL cs ↔ ∃h:k<cs.length,cs[k].dead=false:=by
  unfold aliveL
  rw[List.mem_filter,List.mem_range]
  constructor
  · rintro⟨h,e⟩
    exact⟨h,by simpa [h] using e⟩
  · rintro⟨h,e⟩
    exact⟨h,by simp[h,e]⟩
theorem chain_nodup (cs:List Cl) (now:Int):(chainOf cs now).Nodup:=by
  unfold chainOf
  cases h:walkC cs cs.length now with
  | none=>exact List.nodup_nil
  | some l=>exact walkC_nodup l _ _ h
theorem chain_all {cs:List Cl} {now:Int} (h:(chainOf cs now).length=liveN cs) {k:Nat} (hk:k<cs.length) (hd:cs[k].dead=false):k∈chainOf cs now:=by
  apply Classical.byContradiction
  intro hn
  have:=few_of_nodup (k :: chainOf cs now) (aliveL cs) (List.nodup_cons.2 ⟨hn,chain_nodup cs now⟩) (fun j hj=>by
    rcases List.mem_cons.1 hj with rfl | hj
    · exact mem_alive.2 ⟨hk,hd⟩
    · exact mem_alive.2 (chain_in hj))
  rw[aliveL_len,List.length_cons] at this
  omega
theorem clOk_sender {ms:List (Int × Int × List (Int × Int))} {n:Nat} {c:Cl} (h:clOk ms n c=true):-1≤c.sender∧c.sender<(n:Int):=by
  simp only[clOk,Bool.and_eq_true,inR_true] at h
  omega
theorem clOk_dead {ms:List (Int × Int × List (Int × Int))} {n:Nat} {c:Cl} (h:clOk ms n c=true) (hd:c.dead=true):c.stack.length=0:=by
  simp only[clOk,Bool.and_eq_true,hd] at h
  have:=h.2.2
  simp at this
  rw[this.2]
  rfl
theorem wait_end {ms:List (Int × Int × List (Int × Int))} {h:Hp} (hc:∀i,(hi:i<h.calls.length)→clOk ms h.calls.length h.calls[i]=true) (h0:-1≤h.now) (h1:h.now<(h.calls.length:Int)):waitP h.calls h.now=endOk h:=by
  obtain⟨cs,now,born,said,code⟩:=h
  simp only[] at hc h0 h1 ⊢
  have hs:∀i,(h:i<cs.length)→-1≤cs[i].sender∧cs[i].sender<(cs.length:Int):=fun i h=>clOk_sender (hc i h)
  have hdeep:=deepOf_chain hs h0 h1
  have hdead:∀i,(h:i<cs.length)→cs[i].dead=true→cs[i].stack.length=0:=fun i h e=>clOk_dead (hc i h) e
  unfold waitP endOk
  simp only[hdeep]
  by_cases hl:(chainOf cs now).length=liveN cs
  · rw[beq_iff_eq.2 hl,Bool.true_and,Bool.and_true]
    by_cases hn:now<0
    · obtain rfl:now=-1:=by omega
      have e:chainOf cs (-1)=[]:=by unfold chainOf;rw[walkC_neg hn];rfl
      have hf:freeP cs (-1):=fun i hi _=>by
        cases hd:cs[i].dead
        · have:=chain_all hl hi hd
          rw[e] at this
          cases this
        · rw[hdead i hi hd];decide
      simp[e,hf,roomP]
    · obtain⟨n,rfl⟩:=Int.eq_ofNat_of_zero_le (show 0≤now by omega)
      have hnl:n<cs.length:=by omega
      cases hd:cs[n].dead
      · have hm:=chain_all hl hnl hd
        have hw:∃t,chainOf cs (n:Int)=n :: t:=by
          revert hm
          unfold chainOf
          cases hw:walkC cs cs.length (n:Int) with
          | none=>intro hm;cases hm
          | some l =>
            intro _
            obtain⟨g,n',hn',t,_,e,rfl,_,_⟩:=walkC_some hw (by omega)
            obtain rfl:n=n':=by omega
            exact⟨t,rfl⟩
        obtain⟨t,ht⟩:=hw
        have hnd:=chain_nodup cs (n:Int)
        rw[ht] at hnd
        have hnt:=(List.nodup_cons.1 hnd).1
        have hne:((chainOf cs (n:Int)).length == 0)=false:=by rw[ht];rfl
        have hn1:((n:Int) == -1)=false:=beq_eq_false_iff_ne.2 (by omega)
        have hA:(decide ((n:Int)<0) || !(cs.getD ((n:Int)).toNat Cl.none).dead)=true:=by simp[hnl,hd]
        rw[hne,hn1,hA]
        simp only[beq_self_eq_true,Bool.and_true,Bool.true_and]
        rw[Bool.eq_iff_iff,@decide_eq_true_iff _ (Classical.propDecidable _)]
        constructor
        · intro hf
          refine roomP_yes (fun k hk=>(chain_in hk).1) fun i hi h1 hk=>hf _ hk fun e=>?_
          have hz:(chainOf cs (n:Int))[i]∈t:=by
            have hi':i<(n :: t).length:=by rw[←ht];exact hi
            have e1:(chainOf cs (n:Int))[i]=(n :: t)[i]:=by simp only[ht]
            rw[e1]
            match i,h1,hi' with
            | i+1,_,hi'=>exact List.getElem_mem _
          have:(chainOf cs (n:Int))[i]=n:=by omega
          rw[this] at hz
          exact hnt hz
        · intro hr i hi hne'
          cases hdi:cs[i].dead
          · have hmi:=chain_all hl hi hdi
            rw[ht] at hmi
            rcases List.mem_cons.1 hmi with rfl | hmt
            · exact absurd rfl hne'
            · unfold roomP at hr
              rw[ht] at hr
              have:=List.all_eq_true.1 hr i (by simpa using hmt)
              simpa [hi] using this
          · rw[hdead i hi hdi];decide
      · have e:chainOf cs (n:Int)=[]:=by unfold chainOf;rw[walkC_dead hnl hd];rfl
        have hn1:((n:Int) == -1)=false:=beq_eq_false_iff_ne.2 (by omega)
        simp[e,hn1,hnl,hd]
        intro hx
        omega
  · rw[beq_eq_false_iff_ne.2 hl]
    simp
end Go.Proofs.YtjbgpcileapogaaGreat
namespace Go.Proofs.YtjbgpcileapogaaGreat
abbrev Ms:=List (Int × Int × List (Int × Int))
def curC (h:Hp):Cl:=h.calls.getD h.now.toNat Cl.none
def setH (h:Hp) (c:Cl):Hp:={h with calls:=h.calls.set h.now.toNat c}
def pushH (h:Hp) (v:Int × Int):Hp:=setH h {curC h with stack:=(curC h).stack ++ [v]}
def dieC (c:Cl):Cl:={c with stack:=[],sender:=-1,dead:=true}
def leaveH (h:Hp):Hp:={setH h (dieC (curC h)) with now:=(curC h).sender}
def sayV (h:Hp) (v:Int × Int):Int × Int:=if v.1=2 then(2,(h.calls.getD v.2.toNat Cl.none).m) else v
def sayH (h:Hp) (v:Int × Int):Hp:={h with said:=h.said ++ [sayV h v]}
def codeH (h:Hp) (k:Int):Hp:={h with code:=k}
def callH (ms:Ms) (h:Hp) (m:Int) (args:List (Int × Int)):Hp :=
  if 30≤h.born then codeH h 3
  else {h with calls:=h.calls ++ [⟨m,0,args ++ List.replicate ((ms.getD m.toNat (0,0,[])).2.1.toNat - args.length) (0,0),[],h.now,false⟩],now:=h.calls.length,born:=h.born+1}
def retH (h:Hp) (v:Int × Int):Hp :=
  if(curC h).sender<0 then codeH (sayH (leaveH h) v) 1 else pushH (leaveH h) v
def backTo:Nat→Hp→Nat→Hp
  | 0,h,_=>h
  | f+1,h,b=>if h.now=b then h else backTo f (leaveH h) b
def backH (h:Hp) (b:Nat) (v:Int × Int):Hp :=
  if(h.calls.getD b Cl.none).dead then codeH h 2 else pushH (backTo h.calls.length h b) v
def bitV (b:Bool):Int × Int:=(1,if b then 1 else 0)
def lookV (h:Hp) (k a:Int) (at_:Nat):Int × Int :=
  let c:=h.calls.getD at_ Cl.none
  if k=12 then(if 0≤c.sender then(2,c.sender) else(0,0))
  else if k=13 then c.temps.getD a.toNat (0,0)
  else if k=17 then bitV c.dead
  else(1,c.pc)
def kindsOk (k:Int) (args:List (Int × Int)):Bool :=
  if k=5 then(args.getD 0 (0,0)).1 == 1 && (args.getD 1 (0,0)).1 == 1
  else if k=12∨k=13∨k=14∨k=15∨k=17∨k=18 then(args.getD 0 (0,0)).1 == 2
  else true
def pokeH (h:Hp) (at_:Nat) (a:Int) (v:Int × Int):Hp :=
  {h with calls:=h.calls.set at_ {h.calls.getD at_ Cl.none with temps:=(h.calls.getD at_ Cl.none).temps.set a.toNat v}}
def doH (ms:Ms) (h:Hp) (k a:Int) (args:List (Int × Int)):Hp :=
  let x:=args.getD 0 (0,0)
  let y:=args.getD 1 (0,0)
  if k=1 then pushH h (1,a)
  else if k=5 then pushH h (1,(x.2+y.2) % 1000)
  else if k=6 then pushH h (bitV (decide (x=y)))
  else if k=2 then pushH h ((curC h).temps.getD a.toNat (0,0))
  else if k=3 then setH h {curC h with temps:=(curC h).temps.set a.toNat x}
  else if k=7 then setH h {curC h with pc:=a}
  else if k=8 then(if x.1=0∨x=(1,0) then setH h {curC h with pc:=a} else h)
  else if k=9 then callH ms h a args
  else if k=10 then retH h x
  else if k=11 then pushH h (2,h.now)
  else if k=12∨k=13∨k=17∨k=18 then pushH h (lookV h k a x.2.toNat)
  else if k=14 then pokeH h x.2.toNat a y
  else if k=15 then backH h x.2.toNat y
  else if k=16 then sayH h x
  else h
def opNext (ms:Ms) (c:Cl):Int × Int:=(ms.getD c.m.toNat (0,0,[])).2.2.getD c.pc.toNat (0,0)
def stepH (ms:Ms) (h:Hp):Hp :=
  let c:=curC h
  let op:=opNext ms c
  let t:=takesOf ms op.1 op.2
  let left:=(c.stack.length:Int) - t.1
  if((ms.getD c.m.toNat (0,0,[])).2.2.length:Int)≤c.pc then codeH h 2
  else if left<0∨6<left+t.2 then codeH h 2
  else if kindsOk op.1 (c.stack.drop left.toNat)=false then codeH h 2
  else doH ms (setH h {c with stack:=c.stack.take left.toNat,pc:=c.pc+1}) op.1 op.2 (c.stack.drop left.toNat)
def runH (ms:Ms):Nat→Hp→Hp
  | 0,h=>h
  | n+1,h=>if h.code=0 then runH ms n (stepH ms h) else h
theorem walkC_congr {cs cs':List Cl} (hl:cs'.length=cs.length) (h:∀i,(hi:i<cs.length)→(cs'[i]'(by omega)).dead=cs[i].dead∧(cs'[i]'(by omega)).sender=cs[i].sender):∀(f:Nat) (a:Int),walkC cs' f a=walkC cs f a
  | 0,a=>rfl
  | f+1,a=>by
    simp only[walkC]
    by_cases ha:a<0
    · rw[if_pos ha,if_pos ha]
    · rw[if_neg ha,if_neg ha]
      by_cases hn:a.toNat<cs.length
      · rw[dif_pos hn,dif_pos (by omega),(h _ hn).1,(h _ hn).2,walkC_congr hl h f]
      · rw[dif_neg hn,dif_neg (by omega)]
theorem walkC_more {cs:List Cl}:∀(l:List Nat) (f f':Nat) (a:Int),walkC cs f a=some l→l.length≤f'→walkC cs f' a=some l
  | [],f,f',a,h,_=>by
    by_cases ha:a<0
    · exact walkC_neg ha
    · obtain⟨g,n,hn,t,_,_,e,_⟩:=walkC_some h (by omega)
      cases e
  | k :: l,f,f',a,h,hl=>by
    by_cases ha:a<0
    · rw[walkC_neg ha] at h;cases h
    · obtain⟨g,n,hn,t,_,rfl,e,hd,ht⟩:=walkC_some h (by omega)
      cases e
      obtain⟨f'',rfl⟩:∃f'',f'=f''+1:=⟨f' - 1,by simp at hl;omega⟩
      rw[walkC_step hn hd,walkC_more l g f'' _ ht (by simpa using hl)]
      rfl
theorem walkC_set {cs:List Cl} {j:Nat} (c:Cl):∀(l:List Nat) (f:Nat) (a:Int),walkC cs f a=some l→j∉l→walkC (cs.set j c) f a=some l
  | [],f,a,h,_=>by
    by_cases ha:a<0
    · exact walkC_neg ha
    · obtain⟨g,n,hn,t,_,_,e,_⟩:=walkC_some h (by omega)
      cases e
  | k :: l,f,a,h,hj=>by
    by_cases ha:a<0
    · rw[walkC_neg ha] at h;cases h
    · obtain⟨g,n,hn,t,rfl,rfl,e,hd,ht⟩:=walkC_some h (by omega)
      cases e
      have hne:j≠k:=fun e=>hj (by rw[e];exact List.mem_cons_self)
      have hk':k<(cs.set j c).length:=by simpa using hn
      have he:(cs.set j c)[k]=cs[k]:=List.getElem_set_ne hne _
      rw[walkC_step hk' (by rw[he];exact hd),he,walkC_set c l g _ ht (fun e=>hj (List.mem_cons_of_mem _ e))]
      rfl
theorem walkC_append {cs:List Cl} (c:Cl):∀(l:List Nat) (f:Nat) (a:Int),walkC cs f a=some l→walkC (cs ++ [c]) f a=some l
  | [],f,a,h=>by
    by_cases ha:a<0
    · exact walkC_neg ha
    · obtain⟨g,n,hn,t,_,_,e,_⟩:=walkC_some h (by omega)
      cases e
  | k :: l,f,a,h=>by
    by_cases ha:a<0
    · rw[walkC_neg ha] at h;cases h
    · obtain⟨g,n,hn,t,rfl,rfl,e,hd,ht⟩:=walkC_some h (by omega)
      cases e
      have hk':k<(cs ++ [c]).length:=by simp;omega
      have he:(cs ++ [c])[k]=cs[k]:=List.getElem_append_left hn
      rw[walkC_step hk' (by rw[he];exact hd),he,walkC_append c l g _ ht]
      rfl
structure Waits (cs:List Cl) (now:Int) (l:List Nat):Prop where
  ch:∃f,walkC cs f now=some l
  all:∀k,(hk:k<cs.length)→cs[k].dead=false→k∈l
  room:∀k∈l.drop 1,∀hk:k<cs.length,cs[k].stack.length<6
theorem Waits.nodup {cs:List Cl} {now:Int} {l:List Nat} (h:Waits cs now l):l.Nodup:=by
  obtain⟨f,hf⟩:=h.ch
  exact walkC_nodup _ _ _ hf
theorem Waits.mem {cs:List Cl} {now:Int} {l:List Nat} (h:Waits cs now l) {k:Nat} (hk:k∈l):∃h:k<cs.length,cs[k].dead=false:=by
  obtain⟨f,hf⟩:=h.ch
  exact walkC_in _ _ _ hf k hk
theorem Waits.len {cs:List Cl} {now:Int} {l:List Nat} (h:Waits cs now l):l.length≤cs.length:=by
  have:=few_of_nodup l (List.range cs.length) h.nodup (fun k hk=>List.mem_range.2 (h.mem hk).1)
  simpa using this
theorem Waits.chain {cs:List Cl} {now:Int} {l:List Nat} (h:Waits cs now l):chainOf cs now=l:=by
  obtain⟨f,hf⟩:=h.ch
  unfold chainOf
  rw[walkC_more l f cs.length now hf h.len]
  rfl
end Go.Proofs.YtjbgpcileapogaaGreat
namespace Go.Proofs.YtjbgpcileapogaaGreat
structure ClP (ms:Ms) (n:Nat) (c:Cl):Prop where
  m:0≤c.m∧c.m<(ms.length:Int)
  pc:0≤c.pc∧c.pc≤((ms.getD c.m.toNat (0,0,[])).2.2.length:Int)
  t:(c.temps.length:Int)=(ms.getD c.m.toNat (0,0,[])).2.1
  s:c.stack.length≤6
  sd:-1≤c.sender∧c.sender<(n:Int)
  vt:valsOk n c.temps=true
  vs:valsOk n c.stack=true
  dd:c.dead=true→c.sender=-1∧c.stack=[]
theorem clOk_iff {ms:Ms} {n:Nat} {c:Cl}:clOk ms n c=true ↔ ClP ms n c:=by
  simp only[clOk,Bool.and_eq_true,inR_true,decide_eq_true_iff]
  constructor
  · rintro⟨⟨⟨⟨h1,h2⟩,h3⟩,h4⟩,⟨⟨⟨h5,h6⟩,h7⟩,h8⟩⟩
    refine⟨by omega,h2,h3,h4,by omega,h6,h7,fun hd=>?_⟩
    rw[hd] at h8
    simp at h8
    exact h8
  · rintro⟨h1,h2,h3,h4,h5,h6,h7,h8⟩
    refine⟨⟨⟨⟨by omega,h2⟩,h3⟩,h4⟩,⟨⟨⟨by omega,h6⟩,h7⟩,?_⟩⟩
    cases hd:c.dead
    · rfl
    · obtain⟨e1,e2⟩:=h8 hd
      simp[e1,e2]
theorem valOk_mono {n n':Nat} (hn:n≤n') {k a:Int} (h:valOk n k a=true):valOk n' k a=true:=by
  unfold valOk at h ⊢
  split at h
  · rename_i e;rw[if_pos e];exact h
  · rename_i e;rw[if_neg e]
    split at h
    · rename_i e1;rw[if_pos e1];exact h
    · rename_i e1;rw[if_neg e1]
      split at h
      · rename_i e2;rw[if_pos e2];rw[inR_true] at h ⊢;omega
      · cases h
theorem valsOk_iff {n:Int} {l:List (Int × Int)}:valsOk n l=true ↔ ∀v∈l,valOk n v.1 v.2=true:=by
  unfold valsOk
  rw[List.all_eq_true]
theorem valsOk_mono {n n':Nat} (hn:n≤n') {l:List (Int × Int)} (h:valsOk n l=true):valsOk n' l=true:=by
  rw[valsOk_iff] at h ⊢
  exact fun v hv=>valOk_mono hn (h v hv)
theorem ClP.mono {ms:Ms} {n n':Nat} {c:Cl} (h:ClP ms n c) (hn:n≤n'):ClP ms n' c :=
  ⟨h.m,h.pc,h.t,h.s,by have:=h.sd;omega,valsOk_mono hn h.vt,valsOk_mono hn h.vs,h.dd⟩
structure HeadP (ms:Ms) (h:Hp):Prop where
  p:progOk ms=true
  now:-1≤h.now∧h.now<(h.calls.length:Int)
  born:1≤h.born∧h.born≤30
  few:(h.calls.length:Int)≤h.born
  code:0≤h.code∧h.code≤3
  said:valsOk ms.length h.said=true
  fin:h.code=1 ↔ h.now<0
theorem headOk_iff {ms:Ms} {h:Hp}:headOk ms h=true ↔ HeadP ms h:=by
  simp only[headOk,Bool.and_eq_true,inR_true,decide_eq_true_iff]
  constructor
  · rintro⟨⟨⟨⟨⟨⟨h1,h2⟩,h3⟩,h4⟩,h5⟩,h6⟩,h7⟩
    refine⟨h1,by omega,h3,h4,h5,h6,?_⟩
    simp only[beq_iff_eq] at h7
    by_cases e:h.code=1
    · rw[beq_iff_eq.2 e] at h7
      exact⟨fun _=>of_decide_eq_true h7.symm,fun _=>e⟩
    · rw[beq_eq_false_iff_ne.2 e] at h7
      exact⟨fun q=>absurd q e,fun q=>absurd q (of_decide_eq_false h7.symm)⟩
  · rintro⟨h1,h2,h3,h4,h5,h6,h7⟩
    refine⟨⟨⟨⟨⟨⟨h1,by omega⟩,h3⟩,h4⟩,h5⟩,h6⟩,?_⟩
    simp only[beq_iff_eq]
    by_cases e:h.code=1
    · rw[beq_iff_eq.2 e,decide_eq_true (h7.1 e)]
    · rw[beq_eq_false_iff_ne.2 e,decide_eq_false (fun q=>e (h7.2 q))]
structure Good (ms:Ms) (h:Hp):Prop where
  head:HeadP ms h
  cl:∀i,(hi:i<h.calls.length)→ClP ms h.calls.length h.calls[i]
  w:∃l,Waits h.calls h.now l
theorem alive_nodup (cs:List Cl):(aliveL cs).Nodup:=by
  unfold aliveL
  exact List.Pairwise.filter _ List.nodup_range
theorem good_iff {ms:Ms} {h:Hp}:heapOk ms h=true ↔ Good ms h:=by
  unfold heapOk
  simp only[Bool.and_eq_true]
  constructor
  · rintro⟨⟨h1,h2⟩,h3⟩
    have hh:=headOk_iff.1 h1
    have hc:∀i,(hi:i<h.calls.length)→clOk ms h.calls.length h.calls[i]=true:=fun i hi=>List.all_eq_true.1 h2 _ (List.getElem_mem hi)
    refine⟨hh,fun i hi=>clOk_iff.1 (hc i hi),chainOf h.calls h.now,?_⟩
    unfold endOk at h3
    simp only[Bool.and_eq_true,Bool.or_eq_true,decide_eq_true_iff,beq_iff_eq] at h3
    obtain⟨⟨e1,e2⟩,e3⟩:=h3
    have hall:∀k,(hk:k<h.calls.length)→h.calls[k].dead=false→k∈chainOf h.calls h.now:=fun k hk hd=>chain_all e2 hk hd
    refine⟨?_,hall,fun k hk hkl=>?_⟩
    · cases hw:walkC h.calls h.calls.length h.now with
      | some l=>exact⟨_,by unfold chainOf;rw[hw];rfl⟩
      | none =>
        exfalso
        by_cases hn:h.now<0
        · rw[walkC_neg hn] at hw;cases hw
        · have hlt:h.now.toNat<h.calls.length:=by have:=hh.now;omega
          rcases e1 with e1 | e1
          · exact hn e1
          · have hd:h.calls[h.now.toNat].dead=false:=by simpa [hlt] using e1
            have:=hall _ hlt hd
            unfold chainOf at this
            rw[hw] at this
            cases this
    · unfold roomP at e3
      rw[List.all_eq_true] at e3
      have:=e3 k hk
      simpa [hkl] using this
  · rintro⟨h1,h2,l,hw⟩
    refine⟨⟨headOk_iff.2 h1,all_of fun i hi=>clOk_iff.2 (h2 i hi)⟩,?_⟩
    unfold endOk
    simp only[Bool.and_eq_true,Bool.or_eq_true,decide_eq_true_iff,beq_iff_eq]
    rw[hw.chain]
    refine⟨⟨?_,?_⟩,?_⟩
    · by_cases hn:h.now<0
      · exact .inl hn
      · obtain⟨f,hf⟩:=hw.ch
        obtain⟨g,n,hnl,t,_,e,_,hd,_⟩:=walkC_some hf (by omega)
        refine .inr ?_
        rw[e]
        simp[hnl,hd]
    · rw[←aliveL_len]
      have a1:=few_of_nodup l (aliveL h.calls) hw.nodup (fun k hk=>mem_alive.2 (hw.mem hk))
      have a2:=few_of_nodup (aliveL h.calls) l (alive_nodup _) (fun k hk=>by obtain⟨q1,q2⟩:=mem_alive.1 hk;exact hw.all k q1 q2)
      omega
    · unfold roomP
      rw[List.all_eq_true]
      intro k hk
      obtain⟨hkl,_⟩:=hw.mem (List.mem_of_mem_drop hk)
      have:=hw.room k hk hkl
      simpa [hkl] using this
theorem Waits.head {cs:List Cl} {j:Nat} {l:List Nat} (h:Waits cs (j:Int) l):∃(hj:j<cs.length) (t:List Nat),l=j :: t∧cs[j].dead=false∧(∃f,walkC cs f cs[j].sender=some t)∧j∉t:=by
  have hn:=h.nodup
  obtain⟨f,hf⟩:=h.ch
  obtain⟨g,n,hnl,t,_,e,e2,hd,ht⟩:=walkC_some hf (by omega)
  obtain rfl:j=n:=by omega
  subst e2
  exact⟨hnl,t,rfl,hd,⟨g,ht⟩,(List.nodup_cons.1 hn).1⟩
theorem Waits.set_like {cs:List Cl} {now:Int} {l:List Nat} (h:Waits cs now l) (j:Nat) (hj:j<cs.length) (c:Cl) (hd:c.dead=cs[j].dead) (hs:c.sender=cs[j].sender) (hr:j∈l.drop 1→c.stack.length<6):Waits (cs.set j c) now l:=by
  have hl:(cs.set j c).length=cs.length:=by simp
  have key:∀i,(hi:i<cs.length)→((cs.set j c)[i]'(by omega)).dead=cs[i].dead∧((cs.set j c)[i]'(by omega)).sender=cs[i].sender:=fun i hi=>by
    by_cases e:j=i
    · subst e;simp[hd,hs]
    · rw[List.getElem_set_ne e];exact⟨rfl,rfl⟩
  refine⟨?_,fun k hk hkd=>?_,fun k hk hkl=>?_⟩
  · obtain⟨f,hf⟩:=h.ch
    exact⟨f,by rw[walkC_congr hl key];exact hf⟩
  · rw[hl] at hk
    exact h.all k hk (by rw[←(key k hk).1];exact hkd)
  · rw[hl] at hkl
    by_cases e:j=k
    · subst e;simp only[List.getElem_set_self];exact hr hk
    · rw[List.getElem_set_ne e];exact h.room k hk hkl
theorem Waits.set_cur {cs:List Cl} {j:Nat} {l:List Nat} (h:Waits cs (j:Int) l) (hj:j<cs.length) (c:Cl) (hd:c.dead=cs[j].dead) (hs:c.sender=cs[j].sender):Waits (cs.set j c) (j:Int) l:=by
  obtain⟨_,t,rfl,_,_,hnt⟩:=h.head
  exact h.set_like j hj c hd hs (fun e=>absurd (by simpa using e) hnt)
theorem Waits.leave {cs:List Cl} {j:Nat} {l:List Nat} (h:Waits cs (j:Int) l) (hj:j<cs.length) (c:Cl) (hd:c.dead=true):∃t,l=j :: t∧Waits (cs.set j c) cs[j].sender t∧∀k∈t,∀hk:k<cs.length,cs[k].stack.length<6:=by
  obtain⟨_,t,rfl,hjd,⟨f,hf⟩,hnt⟩:=h.head
  have hr:∀k∈t,∀hk:k<cs.length,cs[k].stack.length<6:=fun k hk hkl=>h.room k (by simpa using hk) hkl
  refine⟨t,rfl,⟨⟨f,walkC_set c t f _ hf hnt⟩,fun k hk hkd=>?_,fun k hk hkl=>?_⟩,hr⟩
  · have hk':k<cs.length:=by simpa using hk
    by_cases e:j=k
    · subst e;simp only[List.getElem_set_self] at hkd;rw[hd] at hkd;cases hkd
    · rw[List.getElem_set_ne e] at hkd
      rcases List.mem_cons.1 (h.all k hk' hkd) with q | q
      · exact absurd q.symm e
      · exact q
  · have hkt:=List.mem_of_mem_drop hk
    have e:j≠k:=fun e=>hnt (by rw[e];exact hkt)
    rw[List.getElem_set_ne e]
    exact hr k hkt (by simpa using hkl)
theorem Waits.call {cs:List Cl} {j:Nat} {l:List Nat} (h:Waits cs (j:Int) l) (hj:j<cs.length) (h6:cs[j].stack.length<6) (c:Cl) (hd:c.dead=false) (hs:c.sender=(j:Int)):Waits (cs ++ [c]) (cs.length:Int) (cs.length :: l):=by
  have hn:cs.length<(cs ++ [c]).length:=by simp
  have he:(cs ++ [c])[cs.length]=c:=by simp
  obtain⟨_,t,hl,_⟩:=h.head
  refine⟨?_,fun k hk hkd=>?_,fun k hk hkl=>?_⟩
  · obtain⟨f,hf⟩:=h.ch
    refine⟨f+1,?_⟩
    rw[walkC_step hn (by rw[he];exact hd),he,hs,walkC_append c l f _ hf]
    rfl
  · by_cases e:k<cs.length
    · rw[List.getElem_append_left e] at hkd
      exact List.mem_cons_of_mem _ (h.all k e hkd)
    · obtain rfl:k=cs.length:=by simp at hk;omega
      exact List.mem_cons_self
  · have hkl':k∈l:=by simpa using hk
    obtain⟨hk2,_⟩:=h.mem hkl'
    rw[List.getElem_append_left hk2]
    subst hl
    rcases List.mem_cons.1 hkl' with q | q
    · subst q;exact h6
    · exact h.room k (by simpa using q) hk2
end Go.Proofs.YtjbgpcileapogaaGreat
namespace Go.Proofs.YtjbgpcileapogaaGreat
theorem valOk_none (n:Int):valOk n 0 0=true:=by simp[valOk]
theorem valOk_num {n a:Int} (h0:0≤a) (h1:a≤999):valOk n 1 a=true:=by
  unfold valOk
  rw[if_neg (by decide),if_pos rfl,inR_true]
  exact⟨h0,h1⟩
theorem valOk_ref {n:Nat} {a:Int} (h0:0≤a) (h1:a<(n:Int)):valOk n 2 a=true:=by
  unfold valOk
  rw[if_neg (by decide),if_neg (by decide),if_pos rfl,inR_true]
  omega
theorem valOk_ref' {n:Nat} {a:Int} (h:valOk n 2 a=true):0≤a∧a<(n:Int):=by
  unfold valOk at h
  rw[if_neg (by decide),if_neg (by decide),if_pos rfl,inR_true] at h
  omega
theorem valOk_else {n n':Int} {k a:Int} (hk:k≠2) (h:valOk n k a=true):valOk n' k a=true:=by
  unfold valOk at h ⊢
  split at h
  · rename_i e;rw[if_pos e];exact h
  · rename_i e;rw[if_neg e]
    split at h
    · rename_i e1;rw[if_pos e1];exact h
    · cases h
theorem valOk_bit (n:Int) (b:Bool):valOk n (bitV b).1 (bitV b).2=true:=by
  unfold bitV
  cases b
  · exact valOk_num (by decide) (by decide)
  · exact valOk_num (by decide) (by decide)
theorem vals_getD {n:Int} {l:List (Int × Int)} (h:valsOk n l=true) (i:Nat):valOk n (l.getD i (0,0)).1 (l.getD i (0,0)).2=true:=by
  by_cases hi:i<l.length
  · rw[show l.getD i (0,0)=l[i] by simp[hi]]
    exact valsOk_iff.1 h _ (List.getElem_mem hi)
  · rw[show l.getD i (0,0)=(0,0) by simp[hi]]
    exact valOk_none n
theorem vals_append {n:Int} {l l':List (Int × Int)} (h:valsOk n l=true) (h':valsOk n l'=true):valsOk n (l ++ l')=true:=by
  rw[valsOk_iff] at *
  intro v hv
  rcases List.mem_append.1 hv with q | q
  · exact h v q
  · exact h' v q
theorem vals_one {n:Int} {v:Int × Int} (h:valOk n v.1 v.2=true):valsOk n [v]=true:=by
  rw[valsOk_iff]
  intro u hu
  simp at hu
  subst hu
  exact h
theorem vals_set {n:Int} {l:List (Int × Int)} (h:valsOk n l=true) (i:Nat) {v:Int × Int} (hv:valOk n v.1 v.2=true):valsOk n (l.set i v)=true:=by
  rw[valsOk_iff] at *
  intro u hu
  rcases List.mem_or_eq_of_mem_set hu with q | q
  · exact h u q
  · subst q;exact hv
theorem vals_take {n:Int} {l:List (Int × Int)} (h:valsOk n l=true) (k:Nat):valsOk n (l.take k)=true:=by
  rw[valsOk_iff] at *
  exact fun v hv=>h v (List.mem_of_mem_take hv)
theorem vals_drop {n:Int} {l:List (Int × Int)} (h:valsOk n l=true) (k:Nat):valsOk n (l.drop k)=true:=by
  rw[valsOk_iff] at *
  exact fun v hv=>h v (List.mem_of_mem_drop hv)
theorem vals_nones (n:Int) (k:Nat):valsOk n (List.replicate k (0,0))=true:=by
  rw[valsOk_iff]
  intro v hv
  rw[List.eq_of_mem_replicate hv]
  exact valOk_none n
structure MethP (ms:Ms) (m:Int × Int × List (Int × Int)):Prop where
  args:0≤m.1∧m.1≤2
  temps:m.1≤m.2.1∧m.2.1≤4
  few:m.2.2.length≤14
  ops:∀op∈m.2.2,opOk ms.length m.2.2.length m.2.1 op.1 op.2=true
theorem prog_meth {ms:Ms} (hp:progOk ms=true) {m:Nat} (hm:m<ms.length):MethP ms ms[m]:=by
  unfold progOk at hp
  simp only[Bool.and_eq_true] at hp
  have:=List.all_eq_true.1 hp.2 _ (List.getElem_mem hm)
  unfold methOk at this
  simp only[Bool.and_eq_true,inR_true,decide_eq_true_iff] at this
  exact⟨this.1.1.1,this.1.1.2,this.1.2,fun op ho=>List.all_eq_true.1 this.2 op ho⟩
theorem set_cur {h:Hp} {j:Nat} (hn:h.now=j) (hj:j<h.calls.length) (c:Cl):curC (setH h c)=c:=by
  unfold curC setH
  simp[hn,hj]
theorem cur_at {h:Hp} {j:Nat} (hn:h.now=j) (hj:j<h.calls.length):curC h=h.calls[j]:=by
  unfold curC
  simp[hn,hj]
theorem Good.set {ms:Ms} {h:Hp} (g:Good ms h) {j:Nat} (_hj:j<h.calls.length) {c:Cl} (hc:ClP ms h.calls.length c) {l:List Nat} (hw:Waits (h.calls.set j c) h.now l):Good ms {h with calls:=h.calls.set j c}:=by
  have hl:(h.calls.set j c).length=h.calls.length:=by simp
  refine⟨⟨g.head.p,by simp only[hl];exact g.head.now,g.head.born,by simp only[hl];exact g.head.few,g.head.code,g.head.said,g.head.fin⟩,fun i hi=>?_,l,hw⟩
  simp only[hl] at hi ⊢
  by_cases e:j=i
  · subst e;simp only[List.getElem_set_self];exact hc
  · rw[List.getElem_set_ne e];exact g.cl i hi
theorem Good.cur {ms:Ms} {h:Hp} (g:Good ms h) {j:Nat} (hn:h.now=j) (hj:j<h.calls.length) {c:Cl} (hc:ClP ms h.calls.length c) (hd:c.dead=h.calls[j].dead) (hs:c.sender=h.calls[j].sender):Good ms (setH h c):=by
  obtain⟨l,hw⟩:=g.w
  unfold setH
  have e:h.now.toNat=j:=by omega
  rw[e]
  refine g.set hj hc (l:=l) ?_
  rw[hn] at hw ⊢
  exact hw.set_cur hj c hd hs
theorem Good.push {ms:Ms} {h:Hp} (g:Good ms h) {j:Nat} (hn:h.now=j) (hj:j<h.calls.length) (h6:h.calls[j].stack.length<6) {v:Int × Int} (hv:valOk h.calls.length v.1 v.2=true) (hd:h.calls[j].dead=false):Good ms (pushH h v):=by
  unfold pushH
  rw[cur_at hn hj]
  have c:=g.cl j hj
  exact g.cur hn hj ⟨c.m,c.pc,c.t,by simp;omega,c.sd,c.vt,vals_append c.vs (vals_one hv),fun q=>by rw[hd] at q;cases q⟩ rfl rfl
theorem Good.code {ms:Ms} {h:Hp} (g:Good ms h) (hn:0≤h.now) {k:Int} (hk:k=2∨k=3):Good ms (codeH h k) :=
  ⟨⟨g.head.p,g.head.now,g.head.born,g.head.few,by unfold codeH;simp only[];omega,g.head.said,⟨fun e=>by unfold codeH at e;simp only[] at e;omega,fun e=>by unfold codeH at e;simp only[] at e;omega⟩⟩,g.cl,g.w⟩
theorem Good.die {ms:Ms} {h:Hp} (g:Good ms h) {j:Nat} (hj:j<h.calls.length):ClP ms h.calls.length (dieC h.calls[j]):=by
  have c:=g.cl j hj
  exact⟨c.m,c.pc,c.t,by simp[dieC],by simp[dieC];omega,c.vt,rfl,fun _=>⟨rfl,rfl⟩⟩
theorem Good.leave {ms:Ms} {h:Hp} (g:Good ms h) {j:Nat} (hn:h.now=j) (hj:j<h.calls.length) (hs:0≤h.calls[j].sender) (hc:h.code=0):Good ms (leaveH h):=by
  obtain⟨l,hw⟩:=g.w
  rw[hn] at hw
  obtain⟨t,_,hw',_⟩:=hw.leave hj (dieC h.calls[j]) rfl
  have e:h.now.toNat=j:=by omega
  have hl:(h.calls.set j (dieC h.calls[j])).length=h.calls.length:=by simp
  have c:=g.cl j hj
  unfold leaveH setH
  rw[cur_at hn hj,e]
  refine⟨⟨g.head.p,?_,g.head.born,by simp only[hl];exact g.head.few,g.head.code,g.head.said,⟨fun e=>by simp only[] at e;omega,fun e=>by simp only[] at e;omega⟩⟩,fun i hi=>?_,t,hw'⟩
  · simp only[hl];have:=c.sd;omega
  · simp only[hl] at hi ⊢
    by_cases e:j=i
    · subst e;simp only[List.getElem_set_self];exact g.die hj
    · rw[List.getElem_set_ne e];exact g.cl i hi
theorem vals_say {ms:Ms} {h:Hp} (g:Good ms h) {v:Int × Int} (hv:valOk h.calls.length v.1 v.2=true):valOk ms.length (sayV h v).1 (sayV h v).2=true:=by
  unfold sayV
  by_cases e:v.1=2
  · rw[if_pos e]
    rw[e] at hv
    have hr:=valOk_ref' hv
    have hlt:v.2.toNat<h.calls.length:=by omega
    rw[show h.calls.getD v.2.toNat Cl.none=h.calls[v.2.toNat] by simp[hlt]]
    have:=(g.cl _ hlt).m
    exact valOk_ref this.1 this.2
  · rw[if_neg e]
    exact valOk_else e hv
theorem Good.fin {ms:Ms} {h:Hp} (g:Good ms h) {j:Nat} (hn:h.now=j) (hj:j<h.calls.length) (hs:h.calls[j].sender<0) {v:Int × Int} (hv:valOk h.calls.length v.1 v.2=true):Good ms (codeH (sayH (leaveH h) v) 1):=by
  obtain⟨l,hw⟩:=g.w
  rw[hn] at hw
  obtain⟨t,_,hw',_⟩:=hw.leave hj (dieC h.calls[j]) rfl
  have e:h.now.toNat=j:=by omega
  have hl:(h.calls.set j (dieC h.calls[j])).length=h.calls.length:=by simp
  have c:=g.cl j hj
  have hsay:sayV (leaveH h) v=sayV h v:=by
    unfold sayV
    by_cases e2:v.1=2
    · rw[if_pos e2,if_pos e2]
      congr 1
      unfold leaveH setH
      rw[cur_at hn hj,e]
      by_cases e3:j=v.2.toNat
      · rw[←e3];simp[hj,dieC]
      · simp[List.getElem?_set_ne e3]
    · rw[if_neg e2,if_neg e2]
  unfold codeH sayH
  rw[hsay]
  unfold leaveH setH
  rw[cur_at hn hj,e]
  refine⟨⟨g.head.p,?_,g.head.born,by simp only[hl];exact g.head.few,by simp,vals_append g.head.said (vals_one (vals_say g hv)),⟨fun _=>hs,fun _=>rfl⟩⟩,fun i hi=>?_,t,hw'⟩
  · simp only[hl];have:=c.sd;omega
  · simp only[hl] at hi ⊢
    by_cases e:j=i
    · subst e;simp only[List.getElem_set_self];exact g.die hj
    · rw[List.getElem_set_ne e];exact g.cl i hi
theorem leave_at {h:Hp} {j:Nat} (hn:h.now=j) (hj:j<h.calls.length):(leaveH h).calls=h.calls.set j (dieC h.calls[j])∧(leaveH h).now=h.calls[j].sender∧(leaveH h).code=h.code:=by
  have e:h.now.toNat=j:=by omega
  unfold leaveH setH
  rw[cur_at hn hj,e]
  exact⟨rfl,rfl,rfl⟩
theorem backTo_here {f:Nat} {h:Hp} {b:Nat} (e:h.now=b):backTo (f+1) h b=h:=by
  unfold backTo
  rw[if_pos e]
theorem backTo_on {f:Nat} {h:Hp} {b:Nat} (e:¬h.now=b):backTo (f+1) h b=backTo f (leaveH h) b:=by
  conv=>lhs;unfold backTo
  rw[if_neg e]
theorem Good.back {ms:Ms}:∀(f:Nat) (h:Hp) (b:Nat) (l:List Nat),Good ms h→h.code=0→Waits h.calls h.now l→b∈l→l.length≤f→(∀hb:b<h.calls.length,h.calls[b].stack.length<6) →
    Good ms (backTo f h b)∧(backTo f h b).code=0∧(backTo f h b).now=b∧(backTo f h b).calls.length=h.calls.length∧(∀hb:b<(backTo f h b).calls.length,(backTo f h b).calls[b].stack.length<6∧(backTo f h b).calls[b].dead=false)
  | 0,h,b,l,g,hc,hw,hb,hl,h6=>by
    cases l with
    | nil=>cases hb
    | cons=>simp at hl
  | f+1,h,b,l,g,hc,hw,hb,hl,h6=>by
    by_cases e:h.now=b
    · rw[backTo_here e]
      exact⟨g,hc,e,rfl,fun hb'=>⟨h6 hb',(hw.mem hb).2⟩⟩
    · rw[backTo_on e]
      have hn0:0≤h.now:=by
        by_cases q:h.now<0
        · obtain⟨f',hf'⟩:=hw.ch
          rw[walkC_neg q] at hf'
          cases hf'
          cases hb
        · omega
      obtain⟨j,hn⟩:∃j:Nat,h.now=j:=⟨h.now.toNat,by omega⟩
      rw[hn] at hw
      have hj:j<h.calls.length:=hw.head.1
      obtain⟨t,rfl,hw',hr⟩:=hw.leave hj (dieC h.calls[j]) rfl
      have hbt:b∈t:=by
        rcases List.mem_cons.1 hb with q | q
        · exact absurd (by rw[hn,q]) e
        · exact q
      have hs0:0≤h.calls[j].sender:=by
        by_cases q:h.calls[j].sender<0
        · obtain⟨f',hf'⟩:=hw'.ch
          rw[walkC_neg q] at hf'
          cases hf'
          cases hbt
        · omega
      obtain⟨a1,a2,a3⟩:=leave_at hn hj
      have hlen:(leaveH h).calls.length=h.calls.length:=by rw[a1];simp
      have hbj:j≠b:=fun q=>e (by rw[hn,q])
      have hh6:∀hb:b<(leaveH h).calls.length,(leaveH h).calls[b].stack.length<6:=fun hb'=>by
        simp only[a1]
        rw[List.getElem_set_ne hbj]
        exact h6 (by omega)
      have hw2:Waits (leaveH h).calls (leaveH h).now t:=by rw[a1,a2];exact hw'
      obtain⟨r1,r2,r3,r4,r5⟩:=Good.back f (leaveH h) b t (g.leave hn hj hs0 hc) (by rw[a3];exact hc) hw2 hbt (by simpa using hl) hh6
      exact⟨r1,r2,r3,by rw[r4];exact hlen,r5⟩
end Go.Proofs.YtjbgpcileapogaaGreat

/-
  Plain facts of the machine that a heap is moved to: it is ok, all that it tells of is there, and its calls as things of their own are the heap's, by other numbers. Nothing of the translation is used here.
-/
import Derived.Test.YtjbgpcileapogaaGreatMIn2
import Derived.Test.YtjbgpcileapogaaGreatMOk6
import Derived.Test.YtjbgpcileapogaaGreatTrimPlain
import Derived.Test.YtjbgpcileapogaaGreatRunPlain
import Derived.Test.YtjbgpcileapogaaGreatMThing6
namespace Go.Proofs.YtjbgpcileapogaaGreat
open Go.RowKit
theorem deepC_up {cs cs':List Cl} {φ:Nat→Nat} (hlt:∀i,i<cs.length→φ i<cs'.length) (hcl:∀i,(hi:i<cs.length)→cs'.getD (φ i) Cl.none=upC φ cs[i]) (hs:∀i,(hi:i<cs.length)→-1≤cs[i].sender∧cs[i].sender<(cs.length:Int)) :
    ∀(f f':Nat) (a:Int) (n:Nat),f≤f'→-1≤a→a<(cs.length:Int)→deepC cs f a=some n→deepC cs' f' (up φ a)=some n
  | f,f',a,n,hff,h0,h1,h=>by
    by_cases hn:a<0
    · rw[deepC_out (by omega)] at h
      rw[up_neg φ hn,deepC_out (by omega)]
      exact h
    obtain⟨k,rfl⟩:=Int.eq_ofNat_of_zero_le (show 0≤a by omega)
    have hk:k<cs.length:=by omega
    have hk':=hlt k hk
    have hc:cs'[φ k]=upC φ cs[k]:=by rw[←hcl k hk];simp[hk']
    rw[up_nat]
    cases f with
    | zero =>
      exfalso
      unfold deepC at h
      rw[if_pos ⟨by omega,by simpa using hk⟩] at h
      cases h
    | succ f =>
      obtain⟨g,rfl⟩:∃g,f'=g+1:=⟨f' - 1,by omega⟩
      unfold deepC at h ⊢
      rw[dif_pos ⟨by omega,by simpa using hk⟩] at h
      rw[dif_pos ⟨by omega,by simpa using hk'⟩]
      simp only[Int.toNat_natCast] at h ⊢
      rw[hc]
      show(if cs[k].dead=true then none else(deepC cs' g (up φ cs[k].sender)).map (·+1))=some n
      cases hd:cs[k].dead with
      | true=>rw[hd] at h;cases h
      | false =>
        rw[hd] at h
        simp only[Bool.false_eq_true,if_false] at h ⊢
        obtain⟨n',e1,e2⟩:=Option.map_eq_some_iff.1 h
        rw[deepC_up hlt hcl hs f g _ n' (by omega) (hs k hk).1 (hs k hk).2 e1]
        exact congrArg some e2
theorem liveN_cons (c:Cl) (l:List Cl):liveN (c :: l)=(if c.dead then 0 else 1)+liveN l:=by
  unfold liveN
  cases hd:c.dead <;> simp[hd]
  omega
theorem liveN_gone:∀(l:List Cl) (j:Nat) (d:Cl),(hj:j<l.length)→l[j].dead=false→d.dead=true→liveN (l.set j d)+1=liveN l
  | [],_,_,h,_,_=>absurd h (Nat.not_lt_zero _)
  | c :: l,0,d,_,h1,h2=>by
    have h1':c.dead=false:=h1
    rw[List.set_cons_zero,liveN_cons,liveN_cons,h1',h2]
    simp
    omega
  | c :: l,j+1,d,h,h1,h2=>by
    rw[List.set_cons_succ,liveN_cons,liveN_cons]
    have:=liveN_gone l j d (by simpa using h) h1 h2
    omega
theorem liveN_up (φ:Nat→Nat):∀l:List Cl,liveN (l.map (upC φ))=liveN l
  | []=>rfl
  | c :: l=>by
    rw[List.map_cons,liveN_cons,liveN_cons,liveN_up φ l]
    rfl
def mvPl (j:Nat) (i:Nat):Nat:=if i=j then 0 else i+1
def clGone:Cl:=⟨0,0,[],[],-1,true⟩
def mvThings (cs:List Cl) (j:Nat):List Cl:=upC (mvPl j) (cs.getD j Cl.none) :: (cs.map (upC (mvPl j))).set j clGone
theorem mvThings_len (cs:List Cl) (j:Nat):(mvThings cs j).length=cs.length+1:=by simp[mvThings]
theorem mvThings_succ {cs:List Cl} {j k:Nat} (hk:k<cs.length):(mvThings cs j)[k+1]?=some (if k=j then clGone else upC (mvPl j) cs[k]):=by
  unfold mvThings
  rw[List.getElem?_cons_succ]
  by_cases e:k=j
  · subst e
    rw[if_pos rfl,List.getElem?_set_self (by simpa using hk)]
  · rw[if_neg e,List.getElem?_set_ne (Ne.symm e),List.getElem?_map,List.getElem?_eq_getElem hk]
    rfl
theorem mvThings_at {cs:List Cl} {j:Nat} {i:Nat} (hi:i<cs.length):(mvThings cs j).getD (mvPl j i) Cl.none=upC (mvPl j) cs[i]:=by
  by_cases e:i=j
  · have h1:mvPl j i=0:=if_pos e
    rw[h1]
    subst e
    show upC (mvPl i) (cs.getD i Cl.none)=_
    rw[show cs.getD i Cl.none=cs[i] by simp[hi]]
  · have h1:mvPl j i=i+1:=if_neg e
    rw[h1,List.getD_eq_getElem?_getD,mvThings_succ hi,if_neg e]
    rfl
theorem mvThings_wait {ms:Ms} {h:Hp} {j:Nat} (g:Good ms h) (hj:j<h.calls.length) (hn:h.now=(j:Int)) (hd:h.calls[j].dead=false):waitP (mvThings h.calls j) 0=true:=by
  have hw:waitP h.calls h.now=true:=by
    have ok:=good_iff.2 g
    rw[wait_end (fun i hi=>clOk_iff.2 (g.cl i hi)) g.head.now.1 g.head.now.2]
    unfold heapOk at ok
    simp only[Bool.and_eq_true] at ok
    exact ok.2
  have hf:freeP h.calls h.now:=by
    have:=hw
    unfold waitP at this
    simp only[Bool.and_eq_true,decide_eq_true_iff] at this
    exact this.1
  rw[waitP_yes hf] at hw
  simp only[Bool.and_eq_true,beq_iff_eq] at hw
  have hlt:∀i,i<h.calls.length→mvPl j i<(mvThings h.calls j).length:=fun i hi=>by
    rw[mvThings_len]
    unfold mvPl
    split <;> omega
  have hf':freeP (mvThings h.calls j) 0:=fun i hi hne=>by
    rw[mvThings_len] at hi
    obtain⟨k,rfl⟩:∃k,i=k+1:=⟨i - 1,by omega⟩
    have hk:k<h.calls.length:=by omega
    obtain⟨_,hq⟩:=List.getElem?_eq_some_iff.1 (mvThings_succ (j:=j) hk)
    rw[hq]
    by_cases e:k=j
    · rw[if_pos e]
      decide
    · rw[if_neg e]
      show(h.calls[k].stack.map (upV (mvPl j))).length<6
      rw[List.length_map]
      exact hf k hk (by omega)
  have hdp:deepOf (mvThings h.calls j) 0=deepOf h.calls h.now:=by
    have hz:up (mvPl j) h.now=0:=by rw[hn,up_nat];simp[mvPl]
    unfold deepOf
    cases e:deepC h.calls h.calls.length h.now with
    | none =>
      exfalso
      have h2:=hw.2
      unfold deepOf at h2
      rw[e,hn] at h2
      have h3:((j:Int) == -1)=true:=by rw[←h2];rfl
      simp only[beq_iff_eq] at h3
      omega
    | some n =>
      have:=deepC_up hlt (fun i hi=>mvThings_at hi) (fun i hi=>(g.cl i hi).sd) h.calls.length (mvThings h.calls j).length h.now n (by rw[mvThings_len];omega) g.head.now.1 g.head.now.2 e
      rw[hz] at this
      rw[this]
  have hlv:liveN (mvThings h.calls j)=liveN h.calls:=by
    unfold mvThings
    rw[liveN_cons]
    have hm:((h.calls.map (upC (mvPl j)))[j]'(by simpa using hj)).dead=false:=by
      rw[List.getElem_map]
      exact hd
    have h1:=liveN_gone (h.calls.map (upC (mvPl j))) j clGone (by simpa using hj) hm rfl
    rw[liveN_up] at h1
    have h2:(upC (mvPl j) (h.calls.getD j Cl.none)).dead=false:=by
      have:h.calls.getD j Cl.none=h.calls[j]:=by simp[hj]
      rw[this]
      exact hd
    rw[h2]
    simp only[Bool.false_eq_true,if_false]
    omega
  rw[waitP_yes hf',hdp,hlv]
  simp only[Bool.and_eq_true,beq_iff_eq]
  refine⟨hw.1,?_⟩
  have h2:=hw.2
  rw[h2,hn]
  have:¬((j:Int)=-1):=by omega
  simp[this]
theorem filter_gone {α:Type} {p:α→Bool}:∀(l:List α) (j:Nat) (d:α),(hj:j<l.length)→p l[j]=true→p d=false→((l.set j d).filter p).length+1=(l.filter p).length
  | [],_,_,h,_,_=>absurd h (Nat.not_lt_zero _)
  | c :: l,0,d,_,h1,h2=>by
    have h1':p c=true:=h1
    simp[h1',h2]
  | c :: l,j+1,d,h,h1,h2=>by
    have:=filter_gone l j d (by simpa using h) h1 h2
    rw[List.set_cons_succ]
    cases hc:p c <;> simp[hc] <;> omega
def mvRun (h:Hp) (n:Nat) (c:Int) (j:Nat) (x:Cl):Mc :=
  ⟨c,⟨x.sender,[⟨x.m,x.pc,(j:Int),x.temps,x.stack⟩]⟩ :: List.replicate n pgE,ordTo (n+1) (n+1),0,(h.calls.map twC).set j twGone,h.born,h.said,h.code⟩
def mvEnd (h:Hp) (n:Nat) (c:Int):Mc:=⟨c,List.replicate n pgE,ordTo n n,-1,h.calls.map twC,h.born,h.said,h.code⟩
theorem mvIn_run {h:Hp} {n:Nat} {c:Int} {j:Nat} (hj:j<h.calls.length) (hn:h.now=(j:Int)):mvIn h (n+1) c=mvRun h n c j h.calls[j]:=by
  have e:h.calls.getD j Cl.none=h.calls[j]:=by simp[hj]
  unfold mvIn
  rw[if_neg (by rw[hn];omega),hn,Int.toNat_natCast,e,List.replicate_succ,List.set_cons_zero]
  rfl
theorem mvIn_end {h:Hp} {n:Nat} {c:Int} (hn:h.now=-1):mvIn h n c=mvEnd h n c:=by
  unfold mvIn
  rw[if_pos hn]
  rfl
theorem framesTo_rep (n:Nat) (k:Nat):framesTo (List.replicate n pgE) k=0:=by
  unfold framesTo
  rw[List.take_replicate,List.map_replicate]
  exact List.sum_replicate_nat.trans (Nat.mul_zero _)
theorem framesTo_one (p:Pg) (n:Nat) (k:Nat):framesTo (p :: List.replicate n pgE) (k+1)=p.frames.length:=by
  have:=framesTo_rep n k
  unfold framesTo at this ⊢
  rw[List.take_succ_cons,List.map_cons,List.sum_cons,this]
  rfl
section
variable {ms:Ms} {h:Hp} {n:Nat} {c:Int} {j:Nat}
theorem run_twins (hj:j<h.calls.length) {i:Nat} (hi:i<h.calls.length):((h.calls.map twC).set j twGone)[i]?=some (if i=j then twGone else twC h.calls[i]):=by
  by_cases e:i=j
  · subst e
    rw[if_pos rfl,List.getElem?_set_self (by simpa using hi)]
  · rw[if_neg e,List.getElem?_set_ne (Ne.symm e),List.getElem?_map,List.getElem?_eq_getElem hi]
    rfl
theorem run_tw (hj:j<h.calls.length) (x:Cl) {i:Nat} (hi:i<h.calls.length):twAt (mvRun h n c j x) (i:Int)=if i=j then twGone else twC h.calls[i]:=by
  unfold twAt mvRun
  rw[Int.toNat_natCast,List.getD_eq_getElem?_getD,run_twins hj hi]
  rfl
theorem run_framesN (x:Cl):framesN (mvRun h n c j x).pages=1:=by
  unfold framesN mvRun
  rw[List.length_cons,framesTo_one]
  rfl
theorem run_pl (hj:j<h.calls.length) (x:Cl) {i:Nat} (hi:i<h.calls.length):plTw (mvRun h n c j x) (i:Int)=(mvPl j i:Int):=by
  unfold plTw
  rw[run_tw hj x hi,run_framesN]
  by_cases e:i=j
  · rw[if_pos e]
    unfold mvPl
    rw[if_pos e,if_neg (show ¬(twGone.page=-1) by decide)]
    rfl
  · rw[if_neg e]
    unfold mvPl
    rw[if_neg e,if_pos (show(twC h.calls[i]).page=-1 from rfl)]
    omega
theorem run_ca (hj:j<h.calls.length) (x:Cl) {s:Int} (h0:-1≤s) (h1:s<(h.calls.length:Int)):plCa (mvRun h n c j x) s=up (mvPl j) s:=by
  unfold plCa
  by_cases e:s=-1
  · rw[if_pos e,e,up_neg _ (by omega)]
  · rw[if_neg e]
    obtain⟨i,rfl⟩:=Int.eq_ofNat_of_zero_le (show 0≤s by omega)
    rw[run_pl hj x (by omega),up_nat]
theorem ren_up {k:Nat} {f:Int→Int} {φ:Nat→Nat} (hf:∀i:Nat,i<k→f (i:Int)=(φ i:Int)) {l:List (Int × Int)} (hl:valsOk (k:Int) l=true):l.map (renW f)=l.map (upV φ):=by
  refine List.map_congr_left fun v hv=>?_
  have h1:=valsOk_iff.1 hl v hv
  unfold renW upV
  by_cases e:v.1=2
  · rw[if_pos e,if_pos e]
    have h2:inR v.2 0 ((k:Int) - 1)=true:=by
      unfold valOk at h1
      rw[if_neg (by omega),if_neg (by omega),if_pos e] at h1
      exact h1
    have h3:=inR_true.1 h2
    obtain⟨i,hi⟩:=Int.eq_ofNat_of_zero_le h3.1
    have h4:f v.2=up φ v.2:=by
      rw[hi,hf i (by omega),up_nat]
    rw[h4,e]
  · rw[if_neg e,if_neg e]
theorem run_things (g:Good ms h) (hj:j<h.calls.length) (hd:h.calls[j].dead=false):thingsM (mvRun h n c j h.calls[j])=⟨mvThings h.calls j,0,0,[],0⟩:=by
  have hgd:h.calls.getD j Cl.none=h.calls[j]:=by simp[hj]
  have hpl:∀i:Nat,i<h.calls.length→plTw (mvRun h n c j h.calls[j]) (i:Int)=(mvPl j i:Int):=fun i hi=>run_pl hj _ hi
  have hca:∀i:Nat,i<h.calls.length→plCa (mvRun h n c j h.calls[j]) (i:Int)=(mvPl j i:Int):=fun i hi=>by
    rw[run_ca hj _ (by omega) (by omega),up_nat]
  have hfr:∀k,frThings (mvRun h n c j h.calls[j]) (k+1)=[upC (mvPl j) h.calls[j]]∨n<k:=fun k=>by
    induction k with
    | zero =>
      left
      have hp:pgAt (mvRun h n c j h.calls[j]) ((0:Nat):Int)=⟨h.calls[j].sender,[⟨h.calls[j].m,h.calls[j].pc,(j:Int),h.calls[j].temps,h.calls[j].stack⟩]⟩:=rfl
      have hf0:frAt (mvRun h n c j h.calls[j]) ((0:Nat):Int) ((0:Nat):Int)=⟨h.calls[j].m,h.calls[j].pc,(j:Int),h.calls[j].temps,h.calls[j].stack⟩:=rfl
      rw[frThings_succ,hp]
      show [] ++ pgThings _ 0 1=_
      unfold pgThings
      rw[List.range_one,List.map_singleton,hf0]
      unfold thingFr sndF
      rw[if_neg (Nat.lt_irrefl 0),hp]
      show [] ++ [(⟨h.calls[j].m,h.calls[j].pc,h.calls[j].temps.map (renW (plTw (mvRun h n c j h.calls[j]))),h.calls[j].stack.map (renW (plTw (mvRun h n c j h.calls[j]))),plCa (mvRun h n c j h.calls[j]) h.calls[j].sender,false⟩:Cl)]=_
      rw[ren_up hpl (g.cl j hj).vt,ren_up hpl (g.cl j hj).vs,run_ca hj _ (g.cl j hj).sd.1 (g.cl j hj).sd.2]
      unfold upC
      rw[hd]
      rfl
    | succ k ih =>
      by_cases hk:n<k+1
      · exact .inr hk
      left
      rcases ih with ih | ih
      · rw[frThings_succ,ih]
        have hp:pgAt (mvRun h n c j h.calls[j]) ((k+1:Nat):Int)=pgE:=by
          unfold pgAt
          rw[Int.toNat_natCast]
          show((⟨h.calls[j].sender,[⟨h.calls[j].m,h.calls[j].pc,(j:Int),h.calls[j].temps,h.calls[j].stack⟩]⟩:Pg) :: List.replicate n pgE).getD (k+1) Pg.none=pgE
          rw[List.getD_cons_succ,List.getD_eq_getElem?_getD,List.getElem?_replicate]
          split <;> rfl
        rw[hp]
        rfl
      · omega
  have hfr':frThings (mvRun h n c j h.calls[j]) (n+1)=[upC (mvPl j) h.calls[j]]:=by
    rcases hfr n with e | e
    · exact e
    · omega
  have htl:(mvRun h n c j h.calls[j]).twins.length=h.calls.length:=by simp[mvRun]
  have htw:twThings (mvRun h n c j h.calls[j]) h.calls.length=(h.calls.map (upC (mvPl j))).set j clGone:=by
    refine List.ext_getElem (by simp[twThings]) fun i h1 h2=>?_
    have hi:i<h.calls.length:=by simpa using h2
    have e1:(twThings (mvRun h n c j h.calls[j]) h.calls.length)[i]=thingTw (mvRun h n c j h.calls[j]) (twAt (mvRun h n c j h.calls[j]) (i:Int)):=by simp[twThings]
    rw[e1,run_tw hj _ hi]
    by_cases e:i=j
    · subst e
      rw[if_pos rfl,List.getElem_set_self]
      rfl
    · rw[if_neg e,List.getElem_set_ne (Ne.symm e),List.getElem_map]
      show leftC _ h.calls[i]=_
      unfold leftC upC
      rw[ren_up hca (g.cl i hi).vt,ren_up hca (g.cl i hi).vs,run_ca hj _ (g.cl i hi).sd.1 (g.cl i hi).sd.2]
  have hpn:(mvRun h n c j h.calls[j]).pages.length=n+1:=by simp[mvRun]
  have hnow:plNow (mvRun h n c j h.calls[j])=0:=by
    unfold plNow
    rw[hpn,if_pos]
    · rfl
    · exact⟨inR_true.2 ⟨by show(0:Int)≤0;omega,by show(0:Int)≤((n+1:Nat):Int) - 1;omega⟩,by show(1:Nat)≠0;omega⟩
  unfold thingsM
  rw[hpn,htl,hfr',htw,hnow]
  unfold mvThings
  rw[hgd]
  rfl
end
theorem order_ok {m:Mc} {n:Nat} (hp:m.pages.length=n) (ho:m.order=ordTo n n):orderB m=true:=by
  unfold orderB
  rw[hp,ho]
  simp only[Bool.and_eq_true,List.all_eq_true,List.mem_range,decide_eq_true_iff]
  exact⟨ordTo_length n n,fun k hk=>ordTo_mem hk⟩
theorem head_of {ms:Ms} {m:Mc} (h1:progOk ms=true) (h2:roomsB m.pages.length m.cells=true) (h3:orderB m=true) (h4:nowB m=true) (h5:inR m.born 1 30=true) (h6:(callsN m:Int)≤m.born) (h7:valsOk ms.length m.said=true) (h8:inR m.code 0 3=true) (h9:m.code=1 ↔ m.now=-1):headM ms m=true:=by
  unfold headM
  rw[h1,h2,h3,h4,h5,h7,h8]
  have h10:((m.code == 1) == (m.now == -1))=true:=by
    by_cases e:m.code=1
    · rw[h9.1 e,e];rfl
    · have e2:¬m.now=-1:=fun x=>e (h9.2 x)
      have a:(m.code == 1)=false:=by simpa using e
      have b:(m.now == -1)=false:=by simpa using e2
      rw[a,b]
      rfl
  rw[h10]
  simp[h6]
section
variable {ms:Ms} {h:Hp} {n:Nat} {c:Int} {j:Nat}
theorem offTo_things (cs:List Cl) (k:Nat):offTo (cs.map twC) (cs.map twC).length=cs.length∧k=k:=by
  refine⟨?_,rfl⟩
  unfold offTo
  rw[List.take_length,List.filter_eq_self.2 fun t ht=>by
    obtain⟨x,_,rfl⟩:=List.mem_map.1 ht
    rfl,List.length_map]
theorem run_calls (hj:j<h.calls.length) (x:Cl):callsN (mvRun h n c j x)=h.calls.length:=by
  unfold callsN
  rw[run_framesN]
  show 1+offTo ((h.calls.map twC).set j twGone) ((h.calls.map twC).set j twGone).length=_
  have h1:=filter_gone (p:=fun t:Tw=>t.page == -1) (h.calls.map twC) j twGone (by simpa using hj) (by rw[List.getElem_map];rfl) rfl
  have h2:=(offTo_things h.calls 0).1
  unfold offTo at h2 ⊢
  rw[List.take_length] at h2 ⊢
  omega
theorem run_head (g:Good ms h) (hj:j<h.calls.length) (hn:h.now=(j:Int)) (hr:roomsB ((n+1:Nat):Int) c=true) (x:Cl):headM ms (mvRun h n c j x)=true:=by
  have hp:(mvRun h n c j x).pages.length=n+1:=by simp[mvRun]
  have hh:=g.head
  refine head_of hh.p (by rw[hp];exact hr) (order_ok hp rfl) ?_ (inR_true.2 hh.born) (by rw[run_calls hj];exact hh.few) hh.said (inR_true.2 hh.code) ⟨fun e=>?_,fun e=>absurd e (by show ¬(0:Int)=-1;omega)⟩
  · unfold nowB
    have hl:=ordTo_lastv (n+1) (by omega) (by rw[ordTo_length];omega)
    have:(ordTo (n+1) (n+1)).getD ((ordTo (n+1) (n+1)).length - 1) 0=0:=by
      rw[ordTo_length,List.getD_eq_getElem?_getD,List.getElem?_eq_getElem (by rw[ordTo_length];omega)]
      exact hl
    show((0:Int) == -1 || ((0:Int) == (ordTo (n+1) (n+1)).getD ((ordTo (n+1) (n+1)).length - 1) 0 && decide (0<1)))=true
    rw[this]
    rfl
  · have:=hh.fin.1 e
    rw[hn] at this
    omega
theorem cl_of {k:Nat} {x y:Cl} (hc:ClP ms k x) (hm:y.m=x.m) (hpc:y.pc=x.pc) (ht:y.temps=x.temps) (hs:y.stack=x.stack) (hsd:y.sender=-1) (hd:y.dead=false):clOk ms k y=true :=
  clOk_iff.2 ⟨by rw[hm];exact hc.m,by rw[hpc,hm];exact hc.pc,by rw[ht,hm];exact hc.t,by rw[hs];exact hc.s,by rw[hsd];omega,by rw[ht];exact hc.vt,by rw[hs];exact hc.vs,by rw[hd];intro e;cases e⟩
theorem empty_page {m:Mc} {i:Nat} (hc:0≤m.cells):pageB ms m i pgE=true:=by
  unfold pageB baseB pgE
  have:decide ((cellsTo [] ([]:List Fr).length:Int)≤m.cells)=true:=decide_eq_true (by show(0:Int)≤m.cells;exact hc)
  show(true && (decide ((cellsTo [] ([]:List Fr).length:Int)≤m.cells) && true))=true
  rw[this]
  rfl
theorem run_pages (g:Good ms h) (hj:j<h.calls.length) (hr:roomsB ((n+1:Nat):Int) c=true) (k:Nat) (hk:k<(mvRun h n c j h.calls[j]).pages.length):pageB ms (mvRun h n c j h.calls[j]) k (mvRun h n c j h.calls[j]).pages[k]=true:=by
  have hc:=(roomsB_true hr)
  have htl:(mvRun h n c j h.calls[j]).twins.length=h.calls.length:=by simp[mvRun]
  cases k with
  | succ k =>
    have e:(mvRun h n c j h.calls[j]).pages[k+1]=pgE:=by
      have h1:(mvRun h n c j h.calls[j]).pages[k+1]?=some pgE:=by
        show(_ :: List.replicate n pgE)[k+1]?=_
        rw[List.getElem?_cons_succ,List.getElem?_replicate,if_pos (by simp[mvRun] at hk;omega)]
      exact(List.getElem?_eq_some_iff.1 h1).2
    rw[e]
    exact empty_page (by show 0≤c;omega)
  | zero =>
    have hcl:=g.cl j hj
    show pageB ms (mvRun h n c j h.calls[j]) 0 ⟨h.calls[j].sender,[⟨h.calls[j].m,h.calls[j].pc,(j:Int),h.calls[j].temps,h.calls[j].stack⟩]⟩=true
    have hf:frameB ms (mvRun h n c j h.calls[j]) 0 0 ⟨h.calls[j].m,h.calls[j].pc,(j:Int),h.calls[j].temps,h.calls[j].stack⟩=true:=by
      unfold frameB
      rw[htl,cl_of (y:=frCl ⟨h.calls[j].m,h.calls[j].pc,(j:Int),h.calls[j].temps,h.calls[j].stack⟩) hcl rfl rfl rfl rfl rfl rfl]
      show(true && ((j:Int) == -1 || (inR (j:Int) 0 ((h.calls.length:Int) - 1) && ((twAt (mvRun h n c j h.calls[j]) (j:Int)).page == ((0:Nat):Int) && (twAt (mvRun h n c j h.calls[j]) (j:Int)).place == ((0:Nat):Int)))))=true
      rw[run_tw hj _ hj,if_pos rfl,inR_true.2 ⟨by omega,by omega⟩]
      simp[twGone]
    have hct:(cellsTo [(⟨h.calls[j].m,h.calls[j].pc,(j:Int),h.calls[j].temps,h.calls[j].stack⟩:Fr)] 1:Int)≤c:=by
      have h4:=(ok_parts (good_iff.2 g)).small j hj
      simp[cellsTo]
      omega
    have hb:baseB (mvRun h n c j h.calls[j]) ⟨h.calls[j].sender,[⟨h.calls[j].m,h.calls[j].pc,(j:Int),h.calls[j].temps,h.calls[j].stack⟩]⟩=true:=by
      unfold baseB
      by_cases e:h.calls[j].sender=-1
      · simp[e]
      · obtain⟨i,hi⟩:=Int.eq_ofNat_of_zero_le (show 0≤h.calls[j].sender by have:=hcl.sd;omega)
        have hil:i<h.calls.length:=by have:=hcl.sd;omega
        show(h.calls[j].sender == -1 || (decide (1≠0) && inR h.calls[j].sender 0 (((mvRun h n c j h.calls[j]).twins.length:Int) - 1) && ((twAt (mvRun h n c j h.calls[j]) h.calls[j].sender).page == -1 || (inR (twAt (mvRun h n c j h.calls[j]) h.calls[j].sender).page 0 (((mvRun h n c j h.calls[j]).pages.length:Int) - 1) && (twAt (mvRun h n c j h.calls[j]) h.calls[j].sender).place == ((pgAt (mvRun h n c j h.calls[j]) (twAt (mvRun h n c j h.calls[j]) h.calls[j].sender).page).frames.length:Int) - 1))))=true
        rw[htl,hi,run_tw hj _ hil,inR_true.2 ⟨by omega,by omega⟩]
        by_cases e2:i=j
        · rw[if_pos e2]
          have hpn:(mvRun h n c j h.calls[j]).pages.length=n+1:=by simp[mvRun]
          rw[hpn]
          have h1:inR twGone.page 0 (((n+1:Nat):Int) - 1)=true:=inR_true.2 ⟨by show(0:Int)≤0;omega,by show(0:Int)≤_;omega⟩
          rw[h1]
          have h2:(twGone.place == ((pgAt (mvRun h n c j h.calls[j]) twGone.page).frames.length:Int) - 1)=true:=rfl
          rw[h2]
          simp
        · rw[if_neg e2]
          have:((twC h.calls[i]).page == -1)=true:=rfl
          rw[this]
          simp
    unfold pageB
    rw[hb]
    simp only[List.length_cons,List.length_nil,Nat.zero_add,List.range_one,List.all_cons,List.all_nil,List.getD_cons_zero,hf,Bool.and_true,Bool.true_and]
    exact decide_eq_true hct
theorem thing_twin {m:Mc} {i k:Nat} {x:Cl} (hl:m.twins.length=k) (hc:ClP ms k x):twinB ms m i (twC x)=true:=by
  unfold twinB twC
  rw[if_pos rfl,hl,clOk_iff.2 hc]
  rfl
theorem run_twinsB (g:Good ms h) (hj:j<h.calls.length) (k:Nat) (hk:k<(mvRun h n c j h.calls[j]).twins.length):twinB ms (mvRun h n c j h.calls[j]) k (mvRun h n c j h.calls[j]).twins[k]=true:=by
  have htl:(mvRun h n c j h.calls[j]).twins.length=h.calls.length:=by simp[mvRun]
  have hk':k<h.calls.length:=by omega
  have e:(mvRun h n c j h.calls[j]).twins[k]=if k=j then twGone else twC h.calls[k]:=(List.getElem?_eq_some_iff.1 (run_twins hj hk')).2
  rw[e]
  by_cases e2:k=j
  · rw[if_pos e2,e2]
    have hf:frB (mvRun h n c j h.calls[j]) 0 0=true:=by
      unfold frB
      have hpn:(mvRun h n c j h.calls[j]).pages.length=n+1:=by simp[mvRun]
      rw[hpn,inR_true.2 ⟨by omega,by omega⟩]
      rfl
    unfold twinB
    rw[if_neg (show ¬(twGone.page=-1) by decide)]
    show(frB (mvRun h n c j h.calls[j]) 0 0 && ((j:Int) == (j:Int) && emptyB twGone.left))=true
    rw[hf]
    simp[emptyB,twGone]
  · rw[if_neg e2]
    exact thing_twin htl (g.cl k hk')
theorem run_ok (g:Good ms h) (hj:j<h.calls.length) (hn:h.now=(j:Int)) (hd:h.calls[j].dead=false) (hr:roomsB ((n+1:Nat):Int) c=true):machB ms (mvRun h n c j h.calls[j])=true:=by
  rw[machB_end (run_head g hj hn hr _) (fun k hk=>run_pages g hj hr k hk) fun k hk=>run_twinsB g hj k hk,run_things g hj hd]
  exact mvThings_wait g hj hn hd
theorem end_tw {i:Nat} (hi:i<h.calls.length):twAt (mvEnd h n c) (i:Int)=twC h.calls[i]:=by
  rw[twAt_at (by simpa [mvEnd] using hi)]
  simp[mvEnd]
theorem end_framesN:framesN (mvEnd h n c).pages=0:=framesTo_rep n _
theorem end_pg (i:Nat):pgAt (mvEnd h n c) (i:Int)=pgE:=by
  unfold pgAt
  rw[Int.toNat_natCast]
  show(List.replicate n pgE).getD i Pg.none=pgE
  rw[List.getD_eq_getElem?_getD,List.getElem?_replicate]
  split <;> rfl
theorem upC_id {x:Cl} {k:Nat} (_hc:ClP ms k x):upC (fun i=>i) x=x:=by
  have hv:∀l:List (Int × Int),l.map (upV fun i=>i)=l:=fun l=>by
    refine(List.map_congr_left fun v _=>?_).trans (List.map_id l)
    unfold upV
    split
    · rename_i e
      unfold up
      split
      · rename_i e2
        show((2:Int),((v.2.toNat:Nat):Int))=v
        rw[Int.toNat_of_nonneg e2,←e]
      · show((2:Int),v.2)=v
        rw[←e]
    · rfl
  have hs:up (fun i=>i) x.sender=x.sender:=by
    unfold up
    split
    · rename_i e2
      exact Int.toNat_of_nonneg e2
    · rfl
  unfold upC
  rw[hv,hv,hs]
theorem end_things (g:Good ms h):thingsM (mvEnd h n c)=⟨h.calls,-1,0,[],0⟩:=by
  have hfr:∀k,frThings (mvEnd h n c) k=[]:=fun k=>by
    induction k with
    | zero=>rfl
    | succ k ih=>rw[frThings_succ,ih,end_pg];rfl
  have hca:∀i:Nat,i<h.calls.length→plCa (mvEnd h n c) (i:Int)=(i:Int):=fun i hi=>by
    unfold plCa plTw
    rw[if_neg (by omega),end_tw hi,end_framesN,if_pos (show(twC h.calls[i]).page=-1 from rfl)]
    omega
  have htl:(mvEnd h n c).twins.length=h.calls.length:=by simp[mvEnd]
  have htw:twThings (mvEnd h n c) h.calls.length=h.calls:=by
    refine List.ext_getElem (by simp[twThings]) fun i h1 h2=>?_
    have e1:(twThings (mvEnd h n c) h.calls.length)[i]=thingTw (mvEnd h n c) (twAt (mvEnd h n c) (i:Int)):=by simp[twThings]
    have hsd:plCa (mvEnd h n c) h.calls[i].sender=up (fun i=>i) h.calls[i].sender:=by
      by_cases e:h.calls[i].sender=-1
      · rw[e,up_neg _ (by omega)]
        rfl
      · obtain⟨q,hq⟩:=Int.eq_ofNat_of_zero_le (show 0≤h.calls[i].sender by have:=(g.cl i h2).sd;omega)
        rw[hq,hca q (by have:=(g.cl i h2).sd;omega),up_nat]
    rw[e1,end_tw h2]
    show leftC _ h.calls[i]=_
    unfold leftC
    rw[ren_up (φ:=fun i=>i) hca (g.cl i h2).vt,ren_up (φ:=fun i=>i) hca (g.cl i h2).vs,hsd]
    exact upC_id (g.cl i h2)
  unfold thingsM
  rw[hfr,htl,htw]
  rfl
theorem end_head (g:Good ms h) (hn:h.now=-1) (hr:roomsB (n:Int) c=true):headM ms (mvEnd h n c)=true:=by
  have hp:(mvEnd h n c).pages.length=n:=by simp[mvEnd]
  have hh:=g.head
  have hcl:callsN (mvEnd h n c)=h.calls.length:=by
    unfold callsN
    rw[end_framesN]
    have:=(offTo_things h.calls 0).1
    show 0+offTo (h.calls.map twC) (h.calls.map twC).length=_
    omega
  exact head_of hh.p (by rw[hp];exact hr) (order_ok hp rfl) rfl (inR_true.2 hh.born) (by rw[hcl];exact hh.few) hh.said (inR_true.2 hh.code) ⟨fun _=>rfl,fun _=>hh.fin.2 (by rw[hn];omega)⟩
theorem end_pages (hr:roomsB (n:Int) c=true) (k:Nat) (hk:k<(mvEnd h n c).pages.length):pageB ms (mvEnd h n c) k (mvEnd h n c).pages[k]=true:=by
  have e:(mvEnd h n c).pages[k]=pgE:=by simp[mvEnd]
  rw[e]
  exact empty_page (by have:=roomsB_true hr;show 0≤c;omega)
theorem end_twins (g:Good ms h) (k:Nat) (hk:k<(mvEnd h n c).twins.length):twinB ms (mvEnd h n c) k (mvEnd h n c).twins[k]=true:=by
  have htl:(mvEnd h n c).twins.length=h.calls.length:=by simp[mvEnd]
  have e:(mvEnd h n c).twins[k]=twC (h.calls[k]'(by omega)):=by simp[mvEnd]
  rw[e]
  exact thing_twin htl (g.cl k (by omega))
theorem end_ok (g:Good ms h) (hn:h.now=-1) (hr:roomsB (n:Int) c=true):machB ms (mvEnd h n c)=true:=by
  rw[machB_end (end_head g hn hr) (fun k hk=>end_pages hr k hk) fun k hk=>end_twins g k hk,end_things g]
  have ok:=good_iff.2 g
  have:=wait_end (fun i hi=>clOk_iff.2 (g.cl i hi)) g.head.now.1 g.head.now.2
  rw[hn] at this
  show waitP h.calls (-1)=true
  rw[this]
  unfold heapOk at ok
  simp only[Bool.and_eq_true] at ok
  exact ok.2
theorem good_now {ms:Ms} {h:Hp} (g:Good ms h):h.now=-1∨∃j:Nat,h.now=(j:Int)∧∃hj:j<h.calls.length,h.calls[j].dead=false:=by
  by_cases e:h.now=-1
  · exact .inl e
  · right
    have:=g.head.now
    obtain⟨j,hj⟩:=Int.eq_ofNat_of_zero_le (show 0≤h.now by omega)
    obtain⟨l,hw⟩:=g.w
    rw[hj] at hw
    obtain⟨hl,_,_,hd,_⟩:=hw.head
    exact⟨j,hj,hl,hd⟩
theorem mvIn_ok {c:Int} (g:Good ms h) (hr:roomsB (n:Int) c=true):machB ms (mvIn h n c)=true:=by
  have h1:=(roomsB_true hr).1
  rcases good_now g with e | ⟨j,e,hj,hd⟩
  · rw[mvIn_end e]
    exact end_ok g e hr
  · obtain⟨k,rfl⟩:∃k,n=k+1:=⟨n - 1,by omega⟩
    rw[mvIn_run hj e]
    exact run_ok g hj e hd hr
theorem mvIn_told {c:Int} (g:Good ms h) (hr:roomsB (n:Int) c=true):Told (mvIn h n c):=by
  have h1:=(roomsB_true hr).1
  rcases good_now g with e | ⟨j,e,hj,hd⟩
  · rw[mvIn_end e]
    exact told_of g.head.p (fun k hk=>end_pages hr k hk) fun k hk=>end_twins g k hk
  · obtain⟨k,rfl⟩:∃k,n=k+1:=⟨n - 1,by omega⟩
    rw[mvIn_run hj e]
    exact told_of g.head.p (fun k hk=>run_pages g hj hr k hk) fun k hk=>run_twinsB g hj k hk
theorem mvIn_small {c:Int} (g:Good ms h) (hr:roomsB (n:Int) c=true) (hs:h.said.length≤1048576):(mvIn h n c).small:=by
  have hrr:=roomsB_true hr
  have P:=ok_parts (good_iff.2 g)
  have h30:=P.n30
  have hcl:∀k,(hk:k<h.calls.length)→h.calls[k].small:=fun k hk=>by
    have:=P.small k hk
    unfold Cl.small
    omega
  rcases good_now g with e | ⟨j,e,hj,hd⟩
  · rw[mvIn_end e]
    refine⟨by simp[mvEnd];omega,fun i hi=>by simp[mvEnd,pgE],by simp[mvEnd];omega,by show(ordTo n n).length≤_;rw[ordTo_length];omega,hs,fun i hi k hk=>by simp[mvEnd,pgE] at hk,fun i hi=>?_⟩
    have hi':i<h.calls.length:=by simpa [mvEnd] using hi
    have e2:(mvEnd h n c).twins[i].left=h.calls[i]:=by simp[mvEnd,twC]
    rw[e2]
    exact hcl i hi'
  · obtain⟨k,rfl⟩:∃k,n=k+1:=⟨n - 1,by omega⟩
    rw[mvIn_run hj e]
    have hpg:∀i,(hi:i<(mvRun h k c j h.calls[j]).pages.length)→(mvRun h k c j h.calls[j]).pages[i]=if i=0 then⟨h.calls[j].sender,[⟨h.calls[j].m,h.calls[j].pc,(j:Int),h.calls[j].temps,h.calls[j].stack⟩]⟩ else pgE:=fun i hi=>by
      cases i with
      | zero=>rfl
      | succ i =>
        have h1:(mvRun h k c j h.calls[j]).pages[i+1]?=some pgE:=by
          show(_ :: List.replicate k pgE)[i+1]?=_
          rw[List.getElem?_cons_succ,List.getElem?_replicate,if_pos (by simp[mvRun] at hi;omega)]
        exact(List.getElem?_eq_some_iff.1 h1).2
    have hP:=P.small j hj
    refine⟨by simp[mvRun];omega,fun i hi=>?_,by simp[mvRun];omega,by show(ordTo (k+1) (k+1)).length≤_;rw[ordTo_length];omega,hs,fun i hi q hq=>?_,fun i hi=>?_⟩
    · rw[hpg i hi]
      split
      · show 1≤1048576;omega
      · show 0≤1048576;omega
    · have e3:=hpg i hi
      generalize (mvRun h k c j h.calls[j]).pages[i]=X at e3 hq ⊢
      subst e3
      by_cases e4:i=0
      · simp only[if_pos e4] at hq ⊢
        have:q=0:=by simpa using hq
        subst this
        show h.calls[j].temps.length≤1048576∧h.calls[j].stack.length≤1048576
        omega
      · simp only[if_neg e4] at hq
        exact absurd hq (Nat.not_lt_zero _)
    · have hi':i<h.calls.length:=by simpa [mvRun] using hi
      have e2:(mvRun h k c j h.calls[j]).twins[i]=if i=j then twGone else twC h.calls[i]:=(List.getElem?_eq_some_iff.1 (run_twins hj hi')).2
      rw[e2]
      split
      · unfold Cl.small
        show 0≤_∧0≤_
        omega
      · exact hcl i hi'
end
theorem walkC_up {cs cs':List Cl} {φ:Nat→Nat} (hlt:∀i,i<cs.length→φ i<cs'.length) (hcl:∀i,(hi:i<cs.length)→cs'.getD (φ i) Cl.none=upC φ cs[i]) :
    ∀(f f':Nat) (a:Int) (l:List Nat),f≤f'→walkC cs f a=some l→walkC cs' f' (up φ a)=some (l.map φ)∧∀k∈l,k<cs.length
  | f,f',a,l,hff,h=>by
    by_cases hn:a<0
    · rw[walkC_neg hn] at h
      cases h
      rw[up_neg φ hn,walkC_neg hn]
      exact⟨rfl,fun k hk=>by cases hk⟩
    obtain⟨k,rfl⟩:=Int.eq_ofNat_of_zero_le (show 0≤a by omega)
    by_cases hk:k<cs.length
    · have hk':=hlt k hk
      have hc:cs'[φ k]=upC φ cs[k]:=by rw[←hcl k hk];simp[hk']
      rw[up_nat]
      cases f with
      | zero=>rw[walkC_zero (by omega)] at h;cases h
      | succ f =>
        obtain⟨g,rfl⟩:∃g,f'=g+1:=⟨f' - 1,by omega⟩
        unfold walkC at h ⊢
        rw[if_neg hn,dif_pos (by simpa using hk)] at h
        rw[if_neg (by omega),dif_pos (by simpa using hk')]
        simp only[Int.toNat_natCast] at h ⊢
        rw[hc]
        show(if cs[k].dead=true then none else(walkC cs' g (up φ cs[k].sender)).map (φ k :: ·))=some (l.map φ)∧_
        cases hd:cs[k].dead with
        | true=>rw[hd] at h;cases h
        | false =>
          rw[hd] at h
          simp only[Bool.false_eq_true,if_false] at h ⊢
          obtain⟨t,e1,e2⟩:=Option.map_eq_some_iff.1 h
          obtain⟨q1,q2⟩:=walkC_up hlt hcl f g _ t (by omega) e1
          rw[q1,←e2]
          exact⟨rfl,fun x hx=>by
            rcases List.mem_cons.1 hx with rfl | hx
            · exact hk
            · exact q2 x hx⟩
    · rw[walkC_past hk] at h
      cases h
theorem chain_at {ms:Ms} {h:Hp} (g:Good ms h):walkC h.calls h.calls.length h.now=some (chainOf h.calls h.now):=by
  have h1:(walkC h.calls h.calls.length h.now).isSome=true:=by
    cases e:walkC h.calls h.calls.length h.now with
    | some l=>rfl
    | none =>
      exfalso
      have h2:chainOf h.calls h.now=[]:=by unfold chainOf;rw[e];rfl
      obtain⟨⟨f,hf⟩,_⟩:=good_walk g
      rw[h2] at hf
      by_cases hn:h.now<0
      · rw[walkC_neg hn] at e;cases e
      · obtain⟨k,_,t,_,_,hl,_⟩:=walk_next hf (by omega)
        cases hl
  obtain⟨l,hl⟩:=Option.isSome_iff_exists.1 h1
  unfold chainOf
  rw[hl]
  rfl
theorem mvThings_chain {ms:Ms} {h:Hp} {j:Nat} (g:Good ms h) (hj:j<h.calls.length) (hn:h.now=(j:Int)) :
    walkC (mvThings h.calls j) (mvThings h.calls j).length 0=some (chainOf (mvThings h.calls j) 0)∧(chainOf (mvThings h.calls j) 0).length≤30∧(chainOf (mvThings h.calls j) 0).map (mOf (mvThings h.calls j))=methL h:=by
  have hlt:∀i,i<h.calls.length→mvPl j i<(mvThings h.calls j).length:=fun i hi=>by
    rw[mvThings_len]
    unfold mvPl
    split <;> omega
  have hz:up (mvPl j) h.now=0:=by rw[hn,up_nat];simp[mvPl]
  obtain⟨h1,h2⟩:=walkC_up hlt (fun i hi=>mvThings_at (j:=j) hi) h.calls.length (mvThings h.calls j).length h.now _ (by rw[mvThings_len];omega) (chain_at g)
  rw[hz] at h1
  have hc:chainOf (mvThings h.calls j) 0=(chainOf h.calls h.now).map (mvPl j):=by
    unfold chainOf at h1 ⊢
    rw[h1]
    rfl
  have _:=hj
  refine⟨by rw[hc];exact h1,by rw[hc,List.length_map];exact(good_walk g).2,?_⟩
  rw[hc,List.map_map]
  unfold methL
  refine List.map_congr_left fun k hk=>?_
  have hk':=h2 k hk
  show((mvThings h.calls j).getD (mvPl j k) Cl.none).m=(h.calls.getD k Cl.none).m
  rw[mvThings_at hk']
  simp[hk',upC]
theorem mvThings_snd {ms:Ms} {h:Hp} {j:Nat} (g:Good ms h) (hj:j<h.calls.length) (k:Nat) (hk:k<(mvThings h.calls j).length):-1≤(mvThings h.calls j)[k].sender:=by
  have hup:∀i,(hi:i<h.calls.length)→-1≤(upC (mvPl j) h.calls[i]).sender:=fun i hi=>by
    have:=(g.cl i hi).sd
    show -1≤up (mvPl j) h.calls[i].sender
    by_cases hn:h.calls[i].sender<0
    · rw[up_neg _ hn];omega
    · have:=(up_sign (mvPl j) h.calls[i].sender).2 (by omega);omega
  cases k with
  | zero =>
    show -1≤(upC (mvPl j) (h.calls.getD j Cl.none)).sender
    rw[show h.calls.getD j Cl.none=h.calls[j] by simp[hj]]
    exact hup j hj
  | succ k =>
    rw[mvThings_len] at hk
    obtain⟨_,hq⟩:=List.getElem?_eq_some_iff.1 (mvThings_succ (j:=j) (show k<h.calls.length by omega))
    rw[hq]
    split
    · decide
    · exact hup k _
set_option maxRecDepth 100000 in
set_option maxHeartbeats 2000000 in
theorem mvMethods {ms:Ms} {h:Hp} (n:Nat) (c:Int) (vq vp vo vt vs:Value) (w:World) (hq:MethsAt w vq ms) (hM:MachAt w vp vo vt vs (mvIn h n c)) (g:Good ms h) (hr:roomsB (n:Int) c=true) (hs:h.said.length≤1048576) :
    Calls Tryz.prog 19 #[.agg #[vq],.agg (mcCells vp vo vt vs (mvIn h n c)).toArray] w fun e w'=>∃v,e=.returned v∧IntRow w.heap.size w' v (methL h)∧Below w.heap.size w w':=by
  have hok:=mvIn_ok g hr
  have hsm:=mvIn_small g hr hs
  have htd:=mvIn_told g hr
  have h30:=(ok_parts (good_iff.2 g)).n30
  have hrr:=roomsB_true hr
  have hth:∃T:Hp,thingsM (mvIn h n c)=T∧T.born=0∧T.said=[]∧T.code=0∧(∃f,walkC T.calls f T.now=some (chainOf T.calls T.now))∧(chainOf T.calls T.now).length≤30∧(∀k,(hk:k<T.calls.length)→-1≤T.calls[k].sender)∧-1≤T.now∧methL T=methL h:=by
    rcases good_now g with e | ⟨j,e,hj,hd⟩
    · rw[mvIn_end e,end_things g]
      refine⟨_,rfl,rfl,rfl,rfl,?_,?_,fun k hk=>(g.cl k hk).sd.1,Int.le_refl _,?_⟩
      · have:=(good_walk g).1
        rw[e] at this
        exact this
      · have:=(good_walk g).2
        rw[e] at this
        exact this
      · show(chainOf h.calls (-1)).map (mOf h.calls)=(chainOf h.calls h.now).map (mOf h.calls)
        rw[e]
    · obtain⟨k,rfl⟩:∃k,n=k+1:=⟨n - 1,by omega⟩
      rw[mvIn_run hj e,run_things g hj hd]
      obtain⟨h1,h2,h3⟩:=mvThings_chain g hj e
      exact⟨_,rfl,rfl,rfl,rfl,⟨_,h1⟩,h2,fun k hk=>mvThings_snd g hj k hk,(by show(-1:Int)≤0;omega),h3⟩
  obtain⟨T,eT,eb,es,ec,hwk,hln,hsn,hnw,hmt⟩:=hth
  have htl:(mvIn h n c).twins.length=h.calls.length:=by
    unfold mvIn
    split
    · simp
    · simp
  have hpl:(mvIn h n c).pages.length=n:=by
    unfold mvIn
    split
    · simp
    · simp
  have hfN:framesN (mvIn h n c).pages+(mvIn h n c).twins.length≤900000:=by
    rw[htl]
    rcases good_now g with e | ⟨j,e,hj,hd⟩
    · rw[mvIn_end e,end_framesN]
      omega
    · obtain⟨k,rfl⟩:∃k,n=k+1:=⟨n - 1,by omega⟩
      rw[mvIn_run hj e,run_framesN]
      omega
  have HMK:=fun W (hb:Below w.heap.size w W)=>implMachOk_any vq ms vp vo vt vs _ W (hq.below hb) (hM.below hb) hsm (by omega)
  rw[hok] at HMK
  have HTO:=fun W (hb:Below w.heap.size w W)=>thingsOf_any vp vo vt vs _ W (hM.below hb) htd (by omega) hfN
  obtain⟨pn,hpn⟩:∃q,plNow (mvIn h n c)=q:=⟨_,rfl⟩
  have hpT:pn=T.now:=by rw[←hpn,←eT];rfl
  rw[hpn,eT] at HTO
  rw[hpT] at HTO
  have HME:Hid (∀(vc:Value) (W:World),CallsAt W vc T.calls→Calls Tryz.prog 54 #[.agg #[vc,.int .i64 T.now,.int .i64 0,.slice none 0 0,.int .i64 0]] W fun e w'=>∃v,e=.returned v∧IntRow W.heap.size w' v (methL h)∧Below W.heap.size W w'):=fun vc W hc=>by
    have q:=methodsOf_walk vc (.slice none 0 0) T W ⟨hc,by rw[es];exact⟨none,0,rfl,Nat.zero_le _,fun _ h=>absurd h (Nat.not_lt_zero _)⟩⟩ hwk hln hsn hnw
    unfold hpCells at q
    rw[eb,ec,hmt] at q
    exact q
  clear hwk hln hsn hmt eT hpT hpn eb es ec hok hsm htd htl hpl hfN
  obtain⟨tn,htn⟩:∃q,T.now=q:=⟨_,rfl⟩
  rw[htn] at HTO HME
  obtain⟨cp,hcp⟩:∃q,T.calls=q:=⟨_,rfl⟩
  rw[hcp] at HTO HME
  clear hnw htn hcp
  generalize mvIn h n c=M at *
  obtain⟨aq,cq,hvq,_⟩:=id hq
  obtain⟨s1,l1,hs1⟩:=hM.p.shape
  obtain⟨s2,l2,hs2⟩:=hM.o.shape
  obtain⟨s3,l3,hs3⟩:=hM.t.shape
  obtain⟨s4,l4,hs4⟩:=hM.s.shape
  subst hvq hs1 hs2 hs3 hs4
  unfold mcCells at HMK HTO ⊢
  clear hq hM
  go_enter Tryz.func19,Tryz.ntmps19
  go_upto_region 1 with fail
  refine wp_gen (fun W=>Below w.heap.size w W∧Bx W w.heap.size 25 [.slice aq ms.length cq]∧Bx W (w.heap.size+1) 42 [.int .i64 M.cells,.slice s1 M.pages.length l1,.slice s2 M.order.length l2,.int .i64 M.now,.slice s3 M.twins.length l3,.int .i64 M.born,.slice s4 M.said.length l4,.int .i64 M.code]) ⟨((Below.refl _ _).alloc (Nat.le_refl _) _).alloc (by simp) _,(Bx.new w _ _).alloc _,Bx.newAt _ _ _ (World.size_alloc ..)⟩ ?_
  rintro W0 ⟨B0,x0,y0⟩
  have q0:=x0.cell 0 rfl
  obtain⟨⟨r0,r1,r2,r3,r4,r5,r6,r7⟩,_⟩:=bx8 y0
  have z0:=B0.size
  go_wp2_with fail
  refine(HMK _ B0).mono ?_
  rintro e W1 ⟨rfl,t1⟩
  have y1:=y0.below t1
  have B1:=B0.trans (t1.mono z0)
  have z1:=B1.size
  clear HMK t1 x0 y0 B0 z0 q0 r0 r1 r2 r3 r4 r5 r6 r7
  obtain⟨⟨r0,r1,r2,r3,r4,r5,r6,r7⟩,_⟩:=bx8 y1
  go_wp2_with fail
  refine(HTO _ B1).mono ?_
  rintro e W2 ⟨vc,rfl,hca,t2⟩
  have B2:=B1.trans (t2.mono z1)
  have z2:=B2.size
  clear HTO
  go_wp2_with fail
  refine(HME.out vc _ hca).mono ?_
  rintro e W3 ⟨v,rfl,hv,t3⟩
  go_wp2
  go_ret
  exact⟨_,rfl,hv.mono z2,B2.trans (t3.mono z2)⟩
end Go.Proofs.YtjbgpcileapogaaGreat

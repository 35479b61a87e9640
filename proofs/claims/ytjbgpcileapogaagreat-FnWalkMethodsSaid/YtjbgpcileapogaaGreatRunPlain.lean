/-
  What is seen of a heap, in plain words: the calls that can be come to, as they are come to, with the numbers that they have in this order. Nothing of the translation is used here.
-/
import Derived.Test.YtjbgpcileapogaaGreatHImpl5
import Derived.Test.YtjbgpcileapogaaGreatStepS
import Derived.Test.YtjbgpcileapogaaGreatHHeapOk
import Derived.Deep.RegionHeld3
namespace Go.Proofs.YtjbgpcileapogaaGreat
open Go.RowKit
def numOf (ps:List Nat) (p:Int):Int:=match ps.findIdx? (fun(q:Nat)=>(q:Int) == p) with
  | some i=>(i:Int)
  | none=>-1
structure PsOk (n:Nat) (ps:List Nat):Prop where
  nd:ps.Nodup
  lt:∀p∈ps,p<n
def comeP (n:Nat) (ps:List Nat) (p:Int):List Nat:=if 0≤p∧p<(n:Int)∧numOf ps p=-1 then ps ++ [p.toNat] else ps
def comeV (n:Nat) (ps:List Nat) (vs:List (Int × Int)):List Nat:=vs.foldl (fun ps v=>if v.1=2 then comeP n ps v.2 else ps) ps
def comeC (n:Nat) (ps:List Nat) (c:Cl):List Nat:=comeV n (comeV n (comeP n ps c.sender) c.temps) c.stack
def foundF (cs:List Cl):Nat→Nat→List Nat→List Nat
  | 0,_,ps=>ps
  | f+1,j,ps=>if h:j<ps.length then foundF cs f (j+1) (comeC cs.length ps (cs.getD ps[j] Cl.none)) else ps
def found (h:Hp):List Nat:=foundF h.calls h.calls.length 0 (comeP h.calls.length [] h.now)
end Go.Proofs.YtjbgpcileapogaaGreat
namespace Go.Proofs.YtjbgpcileapogaaGreat
theorem said_push (h:Hp) (v:Int × Int):(pushH h v).said=h.said:=rfl
theorem said_leave (h:Hp):(leaveH h).said=h.said:=rfl
theorem said_backTo:∀(f:Nat) (h:Hp) (b:Nat),(backTo f h b).said=h.said
  | 0,_,_=>rfl
  | f+1,h,b=>by
    unfold backTo
    split
    · rfl
    · rw[said_backTo f,said_leave]
theorem said_say (h:Hp) (v:Int × Int):(sayH h v).said.length=h.said.length+1:=by simp[sayH]
theorem said_ite {c:Prop} [Decidable c] {a b:Hp} {n:Nat} (h1:a.said.length≤n) (h2:b.said.length≤n):(if c then a else b).said.length≤n:=by
  by_cases e:c
  · rw[if_pos e];exact h1
  · rw[if_neg e];exact h2
theorem said_call (ms:Ms) (h:Hp) (m:Int) (args:List (Int × Int)):(callH ms h m args).said.length≤h.said.length+1 :=
  said_ite (Nat.le_succ _) (Nat.le_succ _)
theorem said_ret (h:Hp) (v:Int × Int):(retH h v).said.length≤h.said.length+1 :=
  said_ite (Nat.le_of_eq ((said_say (leaveH h) v).trans (by rw[said_leave]))) (by rw[said_push,said_leave];exact Nat.le_succ _)
theorem said_back (h:Hp) (b:Nat) (v:Int × Int):(backH h b v).said.length≤h.said.length+1 :=
  said_ite (Nat.le_succ _) (by rw[said_push,said_backTo];exact Nat.le_succ _)
theorem said_do (ms:Ms) (h:Hp) (k a:Int) (args:List (Int × Int)):(doH ms h k a args).said.length≤h.said.length+1:=by
  have h0:h.said.length≤h.said.length+1:=Nat.le_succ _
  exact said_ite h0 (said_ite h0 (said_ite h0 (said_ite h0 (said_ite h0 (said_ite h0 (said_ite (said_ite h0 h0) (said_ite (said_call ms h a args) (said_ite (said_ret h _) (said_ite h0 (said_ite h0 (said_ite h0 (said_ite (said_back h _ _) (said_ite (Nat.le_of_eq (said_say h _)) h0)))))))))))))
theorem said_step (ms:Ms) (h:Hp):(stepH ms h).said.length≤h.said.length+1 :=
  said_ite (Nat.le_succ _) (said_ite (Nat.le_succ _) (said_ite (Nat.le_succ _) (said_do ms _ _ _ _)))
theorem said_run (ms:Ms):∀(n:Nat) (h:Hp),(runH ms n h).said.length≤h.said.length+n
  | 0,_=>Nat.le_refl _
  | n+1,h=>by
    unfold runH
    split
    · have:=said_run ms n (stepH ms h)
      have:=said_step ms h
      omega
    · omega
theorem run_snoc (ms:Ms):∀(n:Nat) (h:Hp),(runH ms n h).code=0→runH ms (n+1) h=stepH ms (runH ms n h)
  | 0,h,hc=>by
    have hc':h.code=0:=hc
    show(if h.code=0 then runH ms 0 (stepH ms h) else h)=_
    rw[if_pos hc']
    rfl
  | n+1,h,hc=>by
    by_cases h0:h.code=0
    · have e:runH ms (n+1) h=runH ms n (stepH ms h):=by
        show(if h.code=0 then runH ms n (stepH ms h) else h)=_
        rw[if_pos h0]
      have e2:runH ms (n+1+1) h=runH ms (n+1) (stepH ms h):=by
        show(if h.code=0 then runH ms (n+1) (stepH ms h) else h)=_
        rw[if_pos h0]
      rw[e] at hc
      rw[e2,e]
      exact run_snoc ms n _ hc
    · have e:runH ms (n+1) h=h:=by
        show(if h.code=0 then runH ms n (stepH ms h) else h)=_
        rw[if_neg h0]
      rw[e] at hc
      exact absurd hc h0
theorem run_stay (ms:Ms):∀(m n:Nat) (h:Hp),n≤m→(runH ms n h).code≠0→runH ms m h=runH ms n h
  | 0,n,h,hl,_=>by
    obtain rfl:n=0:=by omega
    rfl
  | m+1,0,h,_,hc=>by
    have hc':h.code≠0:=hc
    show(if h.code=0 then runH ms m (stepH ms h) else h)=_
    rw[if_neg hc']
    rfl
  | m+1,n+1,h,hl,hc=>by
    by_cases h0:h.code=0
    · have e:runH ms (n+1) h=runH ms n (stepH ms h):=by
        show(if h.code=0 then runH ms n (stepH ms h) else h)=_
        rw[if_pos h0]
      have e2:runH ms (m+1) h=runH ms m (stepH ms h):=by
        show(if h.code=0 then runH ms m (stepH ms h) else h)=_
        rw[if_pos h0]
      rw[e] at hc
      rw[e2,e]
      exact run_stay ms m n _ (by omega) hc
    · show(if h.code=0 then runH ms m (stepH ms h) else h)=(if h.code=0 then runH ms n (stepH ms h) else h)
      rw[if_neg h0,if_neg h0]
theorem Good.lens {ms:Ms} {h:Hp} (g:Good ms h):h.calls.length≤30∧∀i,(hi:i<h.calls.length)→h.calls[i].temps.length≤4∧h.calls[i].stack.length≤6:=by
  refine⟨by have:=g.head.few;have:=g.head.born;omega,fun i hi=>⟨?_,(g.cl i hi).s⟩⟩
  have c:=g.cl i hi
  have hp:=g.head.p
  unfold progOk at hp
  simp only[Bool.and_eq_true] at hp
  have hm:=c.m
  have hl:h.calls[i].m.toNat<ms.length:=by omega
  have ha:=List.all_eq_true.1 hp.2 _ (List.getElem_mem hl)
  unfold methOk at ha
  simp only[Bool.and_eq_true] at ha
  have a2:=inR_true.1 ha.1.1.2
  have ht:=c.t
  have e:ms.getD h.calls[i].m.toNat (0,0,[])=ms[h.calls[i].m.toNat]:=by simp[hl]
  rw[e] at ht
  omega
theorem len_ite {c:Prop} [Decidable c] {a b:Hp} {n:Nat} (h1:n≤a.calls.length) (h2:n≤b.calls.length):n≤(if c then a else b).calls.length:=by
  by_cases e:c
  · rw[if_pos e];exact h1
  · rw[if_neg e];exact h2
theorem len_set (h:Hp) (c:Cl):(setH h c).calls.length=h.calls.length:=by simp[setH]
theorem len_push (h:Hp) (v:Int × Int):(pushH h v).calls.length=h.calls.length:=len_set _ _
theorem len_leave (h:Hp):(leaveH h).calls.length=h.calls.length:=len_set _ _
theorem len_backTo:∀(f:Nat) (h:Hp) (b:Nat),(backTo f h b).calls.length=h.calls.length
  | 0,_,_=>rfl
  | f+1,h,b=>by
    unfold backTo
    by_cases e:h.now=b
    · rw[if_pos e]
    · rw[if_neg e,len_backTo f,len_leave]
theorem len_do (ms:Ms) (h:Hp) (k a:Int) (args:List (Int × Int)):h.calls.length≤(doH ms h k a args).calls.length:=by
  have h0:h.calls.length≤h.calls.length:=Nat.le_refl _
  have p0:∀v,h.calls.length≤(pushH h v).calls.length:=fun v=>Nat.le_of_eq (len_push h v).symm
  have s0:∀c,h.calls.length≤(setH h c).calls.length:=fun c=>Nat.le_of_eq (len_set h c).symm
  have c0:h.calls.length≤(callH ms h a args).calls.length:=len_ite h0 (by simp)
  have r0:∀v,h.calls.length≤(retH h v).calls.length:=fun v=>len_ite (Nat.le_of_eq (len_leave h).symm) (Nat.le_of_eq ((len_push _ v).trans (len_leave h)).symm)
  have k0:∀b v,h.calls.length≤(backH h b v).calls.length:=fun b v=>len_ite h0 (Nat.le_of_eq ((len_push _ v).trans (len_backTo _ h b)).symm)
  have o0:∀b v,h.calls.length≤(pokeH h b a v).calls.length:=fun b v=>by simp[pokeH]
  exact len_ite (p0 _) (len_ite (p0 _) (len_ite (p0 _) (len_ite (p0 _) (len_ite (s0 _) (len_ite (s0 _) (len_ite (len_ite (s0 _) h0) (len_ite c0 (len_ite (r0 _) (len_ite (p0 _) (len_ite (p0 _) (len_ite (o0 _ _) (len_ite (k0 _ _) (len_ite h0 h0)))))))))))))
theorem len_step (ms:Ms) (h:Hp):h.calls.length≤(stepH ms h).calls.length :=
  len_ite (Nat.le_refl _) (len_ite (Nat.le_refl _) (len_ite (Nat.le_refl _) (Nat.le_trans (Nat.le_of_eq (len_set h _).symm) (len_do ms _ _ _ _))))
theorem len_run (ms:Ms):∀(n:Nat) (h:Hp),h.calls.length≤(runH ms n h).calls.length
  | 0,_=>Nat.le_refl _
  | n+1,h=>len_ite (Nat.le_trans (len_step ms h) (len_run ms n _)) (Nat.le_refl _)
def hRun (ms:Ms) (h:Hp) (n:Int):Hp:=if(heapOk ms h && inR n 0 400)=true then runH ms n.toNat h else⟨[],0,0,[],0⟩
end Go.Proofs.YtjbgpcileapogaaGreat
namespace Go.Proofs.YtjbgpcileapogaaGreat
def Dn (h:Hp):Prop:=∀i,(hi:i<h.calls.length)→h.calls[i].sender<(i:Int)
theorem Dn.put {h:Hp} (d:Dn h) (j:Nat) (c:Cl) (hc:j<h.calls.length→c.sender<(j:Int)):Dn {h with calls:=h.calls.set j c}:=fun i hi=>by
  have hi':i<h.calls.length:=by simpa using hi
  by_cases e:j=i
  · subst e;simp only[List.getElem_set_self];exact hc hi'
  · simp only[List.getElem_set_ne e];exact d i hi'
theorem Dn.setCur {h:Hp} (d:Dn h) (c:Cl) (hc:c.sender=(curC h).sender∨c.sender<0):Dn (setH h c):=d.put _ _ fun hj=>by
  rcases hc with hc | hc
  · rw[hc,curC,getD_at hj];exact d _ hj
  · omega
theorem Dn.same {h h':Hp} (d:Dn h) (e:h'.calls=h.calls):Dn h':=fun i hi=>by
  have h2:=d i (by rw[←e];exact hi)
  simpa [e] using h2
theorem Dn.ite {c:Prop} [Decidable c] {a b:Hp} (h1:Dn a) (h2:Dn b):Dn (if c then a else b):=by
  by_cases h:c
  · rw[if_pos h];exact h1
  · rw[if_neg h];exact h2
theorem Dn.push {h:Hp} (d:Dn h) (v:Int × Int):Dn (pushH h v):=d.setCur _ (.inl rfl)
theorem Dn.leave {h:Hp} (d:Dn h):Dn (leaveH h):=(d.setCur (dieC (curC h)) (.inr (show(-1:Int)<0 by decide))).same rfl
theorem Dn.backTo:∀(f:Nat) (h:Hp) (b:Nat),Dn h→Dn (backTo f h b)
  | 0,_,_,d=>d
  | f+1,h,b,d=>by
    unfold Go.Proofs.YtjbgpcileapogaaGreat.backTo
    exact Dn.ite d (Dn.backTo f _ b d.leave)
theorem Dn.born {h:Hp} (d:Dn h) (hn:h.now<(h.calls.length:Int)) (c:Cl) (hc:c.sender=h.now) (n b:Int):Dn {h with calls:=h.calls ++ [c],now:=n,born:=b}:=fun i hi=>by
  by_cases e:i<h.calls.length
  · simp only[List.getElem_append_left e];exact d i e
  · have e2:i=h.calls.length:=by simp at hi;omega
    subst e2
    simp only[List.getElem_append_right (Nat.le_refl _),Nat.sub_self,List.getElem_singleton]
    rw[hc]
    exact hn
theorem Dn.do {h:Hp} (d:Dn h) (hn:h.now<(h.calls.length:Int)) (ms:Ms) (k a:Int) (args:List (Int × Int)):Dn (doH ms h k a args):=by
  unfold doH
  simp only[]
  repeat' apply Dn.ite
  all_goals first
    | exact d.push _
    | exact d.setCur _ (.inl rfl)
    | exact d.born hn _ rfl _ _
    | exact d.leave.same rfl
    | exact d.leave.push _
    | exact(Dn.backTo _ _ _ d).push _
    | exact d.same rfl
    | exact d.put _ _ fun hj=>by rw[getD_at hj];exact d _ hj
theorem Dn.step {ms:Ms} {h:Hp} (d:Dn h) (hn:h.now<(h.calls.length:Int)):Dn (stepH ms h):=by
  unfold stepH
  simp only[]
  refine Dn.ite (d.same rfl) (Dn.ite (d.same rfl) (Dn.ite (d.same rfl) ?_))
  refine Dn.do ?_ ?_ _ _ _ _
  · exact d.setCur _ (.inl rfl)
  · rw[len_set];exact hn
theorem Dn.run {ms:Ms}:∀(n:Nat) (h:Hp),Good ms h→Dn h→Dn (runH ms n h)
  | 0,_,_,d=>d
  | n+1,h,g,d=>by
    unfold runH
    by_cases hc:h.code=0
    · rw[if_pos hc]
      exact Dn.run n _ (g.step hc) (d.step (by have:=g.head.now.2;omega))
    · rw[if_neg hc];exact d
theorem walk_le {cs:List Cl} (d:∀i,(hi:i<cs.length)→cs[i].sender<(i:Int)):∀(f:Nat) (a:Int) (l:List Nat),walkC cs f a=some l→∀k∈l,(k:Int)≤a
  | 0,a,l,e=>by
    intro k hk
    by_cases ha:a<0
    · rw[walkC_neg ha] at e;cases e;cases hk
    · rw[walkC_zero (by omega)] at e;cases e
  | f+1,a,l,e=>by
    intro k hk
    by_cases ha:a<0
    · rw[walkC_neg ha] at e;cases e;cases hk
    obtain⟨n,rfl⟩:=Int.eq_ofNat_of_zero_le (show 0≤a by omega)
    by_cases hn:n<cs.length
    · cases hd:cs[n].dead
      · rw[walkC_step hn hd] at e
        cases ht:walkC cs f cs[n].sender with
        | none=>rw[ht] at e;cases e
        | some t =>
          rw[ht] at e
          cases e
          rcases List.mem_cons.1 hk with rfl | hk
          · exact Int.le_refl _
          · have h1:=walk_le d f _ _ ht k hk
            have h2:=d n hn
            omega
      · rw[walkC_dead hn hd] at e;cases e
    · rw[walkC_past hn] at e;cases e
theorem Good.behind {ms:Ms} {h:Hp} (g:Good ms h) (d:Dn h) {i:Nat} (hi:i<h.calls.length) (h1:h.now<(i:Int)):h.calls[i].dead=true:=by
  cases hd:h.calls[i].dead
  · obtain⟨l,hw⟩:=g.w
    obtain⟨f,hf⟩:=hw.ch
    have:=walk_le d f _ _ hf i (hw.all i hi hd)
    omega
  · rfl
structure HpFine (h:Hp):Prop where
  l30:h.calls.length≤30
  sd:h.said.length≤100
  ts:∀c∈h.calls,c.temps.length≤6∧c.stack.length≤6∧-1≤c.sender
  deep:deepOf h.calls h.now=(chainOf h.calls h.now).length
  few:∀v∈h.said,Few v
theorem Good.few {ms:Ms} {h:Hp} (g:Good ms h):∀v∈h.said,Few v:=by
  intro v hv
  have hp:=g.head.p
  have h1:=List.all_eq_true.1 g.head.said v hv
  unfold progOk at hp
  simp only[Bool.and_eq_true,inR_true] at hp
  have hm:=hp.1.1
  unfold valOk at h1
  unfold Few
  split at h1
  · have:=beq_iff_eq.1 h1
    omega
  · split at h1
    · rw[inR_true] at h1;omega
    · split at h1
      · rw[inR_true] at h1;omega
      · cases h1
theorem few_snoc {l:List (Int × Int)} (h:∀v∈l,Few v) {u:Int × Int} (hu:Few u):∀v∈l ++ [u],Few v:=by
  intro v hv
  rcases List.mem_append.1 hv with hv | hv
  · exact h v hv
  · rw[List.mem_singleton] at hv;rw[hv];exact hu
theorem fine_of {h:Hp} (n:Nat) (hn:h.calls.length=n) (h30:n≤30) (hsd:h.said.length≤100) (ht:∀c∈h.calls,c.temps.length≤6∧c.stack.length≤6∧-1≤c.sender∧c.sender<(n:Int)) (n0:-1≤h.now) (n1:h.now≤(n:Int)) (hfw:∀v∈h.said,Few v):HpFine h:=by
  refine⟨by omega,hsd,fun c hc=>⟨(ht c hc).1,(ht c hc).2.1,(ht c hc).2.2.1⟩,?_,hfw⟩
  by_cases e:h.now=(n:Int)
  · unfold deepOf chainOf
    rw[deepC_out (by omega),e,walkC_past (by omega)]
    rfl
  · exact deepOf_chain (fun i hi=>by have:=ht _ (List.getElem_mem hi);omega) n0 (by omega)
theorem fine_tail {ms:Ms} {h:Hp} (g:Good ms h) (d:Dn h) (hsd:h.said.length≤100) (ht:∀c∈h.calls,c.temps.length≤6∧c.stack.length≤6∧-1≤c.sender∧c.sender<(h.calls.length:Int)):HpFine {h with calls:=h.calls.drop 1}:=by
  have h30:=g.lens.1
  refine⟨by simp;omega,hsd,fun c hc=>by have:=ht c (List.mem_of_mem_drop hc);exact⟨this.1,this.2.1,this.2.2.1⟩,?_,g.few⟩
  show deepOf (h.calls.drop 1) h.now=(chainOf (h.calls.drop 1) h.now).length
  unfold deepOf chainOf
  by_cases ha:h.now<0
  · rw[deepC_out (by omega),walkC_neg ha];rfl
  obtain⟨n,hn⟩:=Int.eq_ofNat_of_zero_le (show 0≤h.now by omega)
  rw[hn]
  by_cases hl:n<(h.calls.drop 1).length
  · have hl':1+n<h.calls.length:=by simp at hl;omega
    have hd:(h.calls.drop 1)[n].dead=true:=by
      rw[List.getElem_drop]
      exact g.behind d hl' (by omega)
    rw[deepC_dead hl hd,walkC_dead hl hd];rfl
  · rw[deepC_out (by omega),walkC_past hl];rfl
end Go.Proofs.YtjbgpcileapogaaGreat
namespace Go.Proofs.YtjbgpcileapogaaGreat
end Go.Proofs.YtjbgpcileapogaaGreat
namespace Go.Proofs.YtjbgpcileapogaaGreat
end Go.Proofs.YtjbgpcileapogaaGreat
namespace Go.Proofs.YtjbgpcileapogaaGreat
open Go.RowKit
theorem held_valM {P:Program} {o:Oper} {y:Nat→Option Bool} {a:Act} {w w':World} {v:Value} {K:Act→World→Prop} {Q:Exit→Act→World→Prop} {E:Prop} (hg:Region.wanted o y=true) (hr:(execOp a.eval o).run P w=.ok (.value v) w') (hK:K (a.put o.dst v) w') :
    if Region.wanted o y=true then Oper.wp P o a w K Q else E:=by
  rw[if_pos hg]
  unfold Oper.wp
  rw[hr]
  exact hK
theorem append_runT {P:Program} {t:TypeId} {o:Oper} {act:Act} {w w':World} {s x:Operand} {v xv v':Value} (ho:o.op=.call {callee:=.builtin .append,args:=#[s,x],argTypes:=#[t,t]}) (hs:act.eval s=v) (hx:act.eval x=xv)
    (hr:(Builtin.append_ #[t,t] o.type #[v,xv]).run P w=.ok v' w'):(execOp act.eval o).run P w=.ok (.value v') w':=by
  unfold execOp
  simp only[ho,resolve,invoke,builtin,Sem.run_bind,Sem.run_pure,Result.andThen_ok,List.map_toArray,List.map_cons,List.map_nil,hs,hx,hr]
theorem one_box (w:World) (t:TypeId) (x:Value):(w.alloc (.cells #[x] t)).rowIs w.heap.size t 1 (fun _=>x) :=
  ⟨_,Go.Deep.blk_alloc_new _ _,rfl,fun i hi=>by match i,hi with | 0,_=>rfl⟩
def mOf (cs:List Cl) (k:Nat):Int:=(cs.getD k Cl.none).m
def methL (h:Hp):List Int:=(chainOf h.calls h.now).map (mOf h.calls)
def methodsL (ms:Ms) (h:Hp):List Int:=if heapOk ms h=true then methL h else []
theorem mOf_at {cs:List Cl} {k:Nat} (hk:k<cs.length):mOf cs k=cs[k].m:=by simp[mOf,hk]
theorem walk_next {cs:List Cl} {f:Nat} {a:Int} {l:List Nat} (h:walkC cs f a=some l) (ha:0≤a):∃(k:Nat) (hk:k<cs.length) (t:List Nat) (f':Nat),a=(k:Int)∧l=k :: t∧walkC cs f' cs[k].sender=some t:=by
  obtain⟨k,rfl⟩:=Int.eq_ofNat_of_zero_le ha
  cases f with
  | zero=>rw[walkC_zero ha] at h;cases h
  | succ f =>
    by_cases hk:k<cs.length
    · cases hd:cs[k].dead
      · rw[walkC_step hk hd] at h
        cases ht:walkC cs f cs[k].sender with
        | none=>rw[ht] at h;cases h
        | some t =>
          rw[ht] at h
          simp at h
          exact⟨k,hk,t,f,rfl,h.symm,ht⟩
      · rw[walkC_dead hk hd] at h;cases h
    · rw[walkC_past hk] at h;cases h
theorem walk_end {cs:List Cl} {f:Nat} {a:Int} {l:List Nat} (h:walkC cs f a=some l) (ha:a<0):l=[]:=by rw[walkC_neg ha] at h;simpa using h.symm
theorem good_walk {ms:Ms} {h:Hp} (g:Good ms h):(∃f,walkC h.calls f h.now=some (chainOf h.calls h.now))∧(chainOf h.calls h.now).length≤30:=by
  obtain⟨l,hw⟩:=g.w
  have e:=hw.chain
  have hl:=hw.len
  have h1:=g.head.few
  have h2:=g.head.born
  rw[e]
  exact⟨hw.ch,by omega⟩
set_option maxRecDepth 100000 in
set_option maxHeartbeats 4000000 in
theorem methodsOf_walk (vc vs:Value) (h:Hp) (w:World) (hh:HeapAt w vc vs h) (hwk:∃f,walkC h.calls f h.now=some (chainOf h.calls h.now)) (hlen:(chainOf h.calls h.now).length≤30) (hsnd:∀k,(hk:k<h.calls.length)→-1≤h.calls[k].sender) (hnow:-1≤h.now) :
    Calls Tryz.prog 54 #[.agg (hpCells vc vs h)] w fun e w'=>∃v,e=.returned v∧IntRow w.heap.size w' v (methL h)∧Below w.heap.size w w':=by
  obtain⟨f0,hf0⟩:=hwk
  have hfl:(methL h).length≤30:=by unfold methL;rw[List.length_map];exact hlen
  have HSD:Hid (∀k,(hk:k<h.calls.length)→-1≤h.calls[k].sender):=hsnd
  clear hsnd
  unfold hpCells
  obtain⟨aD,kD,hvs⟩:=hh.s.shape
  obtain⟨ac,kc,hvc,_,hcl⟩:=id hh.c
  subst hvs hvc
  obtain⟨i0,hi,hz0,hz1,hz2⟩:=info_parts Tryz.infoInt2
  have hA:=(Below.refl w.heap.size w).alloc (Nat.le_refl _) (.cells #[.slice ac h.calls.length kc,.int .i64 h.now,.int .i64 h.born,.slice aD h.said.length kD,.int .i64 h.code] 29)
  have bh:=five_new w 29 (.slice ac h.calls.length kc) (.int .i64 h.now) (.int .i64 h.born) (.slice aD h.said.length kD) (.int .i64 h.code)
  obtain⟨⟨b0,b1,_,_,_⟩,_⟩:=five_cells bh
  have HSTART:Hid (methL h=[] ++ (chainOf h.calls h.now).map (mOf h.calls)):=rfl
  obtain⟨full,hfull⟩:∃full,methL h=full:=⟨_,rfl⟩
  have HFU:Hid (methL h=full):=hfull
  rw[hfull] at hfl HSTART ⊢
  obtain⟨ch,hch⟩:∃ch,chainOf h.calls h.now=ch:=⟨_,rfl⟩
  rw[hch] at hf0 HSTART
  have HF0:Hid (walkC h.calls f0 h.now=some ch):=hf0
  clear hfull hch hf0 HFU bh
  go_enter Tryz.func54,Tryz.ntmps54
  go_upto_region 1 with fail
  generalize w.alloc (.cells #[.slice ac h.calls.length kc,.int .i64 h.now,.int .i64 h.born,.slice aD h.said.length kD,.int .i64 h.code] 29)=W0 at *
  have z0:w.heap.size<W0.heap.size:=World.block_lt_of_cell? _ _ b0
  go_wp2_with fail
  go_loopg [3,4] (ch.length * 1) (fun d v at_ wr=>∃(rest:List Nat) (L:List Int) (f:Nat) (a:Int),walkC h.calls f a=some rest∧d=rest.length * 1∧at_=.int .i64 a∧-1≤a∧IntRow W0.heap.size wr v L∧full=L ++ rest.map (mOf h.calls)∧wr.cell? ⟨w.heap.size,0,none⟩=some (.slice ac h.calls.length kc)∧Below w.heap.size w wr∧W0.heap.size≤wr.heap.size)
  case atStart=>exact⟨ch,[],f0,h.now,HF0.out,rfl,rfl,hnow,IntRow.nil _ _,HSTART.out,b0,hA,Nat.le_refl _⟩
  case round =>
    clear b0 b1 hA HSTART HF0 hnow
    obtain⟨rest,L,f,a,hw,rfl,rfl,ha,hrow,hL,br,hb,hzr⟩:=hrel
    have HW:Hid (walkC h.calls f a=some rest):=hw
    have HL:Hid (full=L ++ rest.map (mOf h.calls)):=hL
    obtain⟨aL,cL,hvL,_⟩:=hrow.slice
    subst hvL
    clear hw hL
    have hsz:=hb.size
    by_cases han:a<0
    · obtain rfl:a=-1:=by omega
      have HE:Hid (L=full):=by
        have e:=HL.out
        rw[walk_end HW.out han] at e
        have e2:full=L:=by simpa using e
        exact e2.symm
      go_wp2
      go_ret
      exact⟨_,rfl,by rw[←HE.out];exact hrow.mono (by omega),hb⟩
    obtain⟨k,hk,t,f',rfl,hr,hw'⟩:=walk_next HW.out (by omega)
    have HW':Hid (walkC h.calls f' h.calls[k].sender=some t):=hw'
    have HR:Hid (rest=k :: t):=hr
    clear hr hw' HW
    have hkz:(k:Int)<(h.calls.length:Int):=by omega
    have hkn:¬((k:Int)=-1):=by omega
    obtain⟨b,o,vt,vs',rfl,hc⟩:=hcl k hk
    have d0:=cell_below hb hc.c0
    have d4:=cell_below hb hc.c4
    have hbl:b<w.heap.size:=World.block_lt_of_cell? _ _ hc.c0
    have hll:L.length≤900000:=by have:=hfl;rw[HL.out] at this;simp at this;omega
    have HN:Hid (-1≤h.calls[k].sender):=HSD.out k hk
    have HM:Hid (mOf h.calls k=h.calls[k].m):=mOf_at hk
    clear hc hcl han ha
    go_wp2_with (at_builtin;refine append_int Tryz.underlying39 hi hz0 hz1 hz2 _ (by rfl) _ _ (by rfl) _ L (by rfl) hrow _ _ _ rfl (by rfl) hll hzr ?_;intro g2 off2 cp2 w2 hrow2 hg2 hor2 hlt2;have br2:=hg2.cell br (fun e=>by have h9:W0.heap.size≤w.heap.size:=(hrow.lt _ e.symm).1;omega);have e4:=hg2.cell d4 (fun e=>by have h9:W0.heap.size≤b:=(hrow.lt _ e.symm).1;omega))
    have hb2:Below w.heap.size w w2:=hb.grown hg2 (by omega) (fun q e=>by have h9:W0.heap.size≤q:=(hrow.lt _ e).1;omega)
    go_roundg (t.length * 1)
    case measure=>rw[HR.out];simp
    case rel=>exact⟨t,L ++ [h.calls[k].m],f',h.calls[k].sender,HW'.out,rfl,rfl,HN.out,hrow2,by rw[HL.out,HR.out,List.map_cons,HM.out];simp,br2,hb2,by have:=hg2.size;omega⟩
theorem methodsOf_any (vc vs:Value) (ms:Ms) (h:Hp) (w:World) (hh:HeapAt w vc vs h) (hg:Good ms h) :
    Calls Tryz.prog 54 #[.agg (hpCells vc vs h)] w fun e w'=>∃v,e=.returned v∧IntRow w.heap.size w' v (methL h)∧Below w.heap.size w w' :=
  methodsOf_walk vc vs h w hh (good_walk hg).1 (good_walk hg).2 (fun k hk=>(hg.cl k hk).sd.1) hg.head.now.1
set_option maxRecDepth 100000 in
set_option maxHeartbeats 4000000 in
theorem implHeapMethods_any (vp vc vs:Value) (ms:Ms) (h:Hp) (w:World) (hp:MethsAt w vp ms) (hh:HeapAt w vc vs h) (hn:h.calls.length≤1048576) :
    Calls Tryz.prog 14 #[.agg #[vp],.agg (hpCells vc vs h)] w fun e w'=>∃v,e=.returned v∧IntRow w.heap.size w' v (methodsL ms h)∧Below w.heap.size w w':=by
  obtain⟨aD,kD,hvs⟩:=hh.s.shape
  obtain⟨ac,kc,hvc,_,hcl⟩:=id hh.c
  obtain⟨ap,cp,hvp,hlp,_⟩:=id hp
  subst hvc hvs hvp
  unfold hpCells
  obtain⟨fb,hfb⟩:∃fb,heapOk ms h=fb:=⟨_,rfl⟩
  have HFB:Hid (heapOk ms h=fb):=hfb
  have hA:Below w.heap.size w ((w.alloc (.cells #[.slice ap ms.length cp] 25)).alloc (.cells #[.slice ac h.calls.length kc,.int .i64 h.now,.int .i64 h.born,.slice aD h.said.length kD,.int .i64 h.code] 29)):=((Below.refl _ _).alloc (Nat.le_refl _) _).alloc (by simp) _
  have bp:((w.alloc (.cells #[.slice ap ms.length cp] 25)).alloc (.cells #[.slice ac h.calls.length kc,.int .i64 h.now,.int .i64 h.born,.slice aD h.said.length kD,.int .i64 h.code] 29)).rowIs w.heap.size 25 1 (fun _=>.slice ap ms.length cp):=(one_box w 25 (.slice ap ms.length cp)).alloc _
  have bh:=five_new (w.alloc (.cells #[.slice ap ms.length cp] 25)) 29 (.slice ac h.calls.length kc) (.int .i64 h.now) (.int .i64 h.born) (.slice aD h.said.length kD) (.int .i64 h.code)
  simp only[World.size_alloc] at bh
  go_enter Tryz.func14,Tryz.ntmps14
  go_upto_region 1 with fail
  generalize (w.alloc (.cells #[.slice ap ms.length cp] 25)).alloc (.cells #[.slice ac h.calls.length kc,.int .i64 h.now,.int .i64 h.born,.slice aD h.said.length kD,.int .i64 h.code] 29)=W0 at *
  have z0:=hA.size
  have HOK:=implHeapOk_any _ _ _ ms h W0 (hp.below hA) (hh.below hA) hn
  rw[hfb] at HOK
  unfold hpCells at HOK
  have v0:=bp.cell (i:=0) (by decide)
  obtain⟨⟨x0,x1,x2,x3,x4⟩,_⟩:=five_cells bh
  clear hfb
  go_wp2_with fail
  refine HOK.mono ?_
  rintro e w1 ⟨rfl,hb1⟩
  have B1:=hA.trans (hb1.mono z0)
  have bh1:=row_below hb1 bh
  have z1:=B1.size
  clear HOK x0 x1 x2 x3 x4 v0 bp bh hb1 hA
  cases fb
  · have HE:Hid (methodsL ms h=[]):=by show _=_;unfold methodsL;rw[HFB.out];rfl
    go_wp2
    go_ret
    exact⟨_,rfl,by rw[HE.out];exact IntRow.nil _ _,B1⟩
  have HE:Hid (methodsL ms h=methL h):=by show _=_;unfold methodsL;rw[HFB.out];rfl
  have HC:=methodsOf_any _ _ ms h w1 (hh.below B1) (good_iff.1 HFB.out)
  unfold hpCells at HC
  obtain⟨⟨x0,x1,x2,x3,x4⟩,_⟩:=five_cells bh1
  go_wp2_with fail
  refine HC.mono ?_
  rintro e w2 ⟨v2,rfl,hr2,hb2⟩
  obtain⟨a2,c2,hv2,_⟩:=hr2.slice
  subst hv2
  go_wp2
  go_ret
  exact⟨_,rfl,by rw[HE.out];exact hr2.mono z1,B1.trans (hb2.mono z1)⟩
set_option maxRecDepth 100000 in
set_option maxHeartbeats 4000000 in
theorem specHeapMethods_any (vp vc vs:Value) (ms:Ms) (h:Hp) (w:World) (hp:MethsAt w vp ms) (hh:HeapAt w vc vs h) (hn:h.calls.length≤1048576) :
    Calls Tryz.prog 16 #[.agg #[vp],.agg (hpCells vc vs h)] w fun e w'=>∃v,e=.returned v∧IntRow w.heap.size w' v (methodsL ms h)∧Below w.heap.size w w':=by
  obtain⟨aD,kD,hvs⟩:=hh.s.shape
  obtain⟨ac,kc,hvc,_,hcl⟩:=id hh.c
  obtain⟨ap,cp,hvp,hlp,_⟩:=id hp
  subst hvc hvs hvp
  unfold hpCells
  obtain⟨fb,hfb⟩:∃fb,heapOk ms h=fb:=⟨_,rfl⟩
  have HFB:Hid (heapOk ms h=fb):=hfb
  have hA:Below w.heap.size w ((w.alloc (.cells #[.slice ap ms.length cp] 25)).alloc (.cells #[.slice ac h.calls.length kc,.int .i64 h.now,.int .i64 h.born,.slice aD h.said.length kD,.int .i64 h.code] 29)):=((Below.refl _ _).alloc (Nat.le_refl _) _).alloc (by simp) _
  have bp:((w.alloc (.cells #[.slice ap ms.length cp] 25)).alloc (.cells #[.slice ac h.calls.length kc,.int .i64 h.now,.int .i64 h.born,.slice aD h.said.length kD,.int .i64 h.code] 29)).rowIs w.heap.size 25 1 (fun _=>.slice ap ms.length cp):=(one_box w 25 (.slice ap ms.length cp)).alloc _
  have bh:=five_new (w.alloc (.cells #[.slice ap ms.length cp] 25)) 29 (.slice ac h.calls.length kc) (.int .i64 h.now) (.int .i64 h.born) (.slice aD h.said.length kD) (.int .i64 h.code)
  simp only[World.size_alloc] at bh
  obtain⟨i0,hi,hz0,hz1,hz2⟩:=info_parts Tryz.infoInt2
  go_enter Tryz.func16,Tryz.ntmps16
  go_upto_region 1 with fail
  generalize (w.alloc (.cells #[.slice ap ms.length cp] 25)).alloc (.cells #[.slice ac h.calls.length kc,.int .i64 h.now,.int .i64 h.born,.slice aD h.said.length kD,.int .i64 h.code] 29)=W0 at *
  have z0:=hA.size
  have hbl1:=bh.lt
  go_upto_region 2 with fail
  have mk0:=int_made W0
  have hW01:=(mk0.lt W0.heap.size rfl).2
  have NE:=(Below.refl W0.heap.size W0).alloc (Nat.le_refl _) (.cells #[] 3)
  have hA':=hA.trans (NE.mono z0)
  have bp':=row_below NE bp
  have bh':=row_below NE bh
  have hz':=NE.size
  clear hA bp bh
  generalize W0.alloc (.cells #[] 3)=W1 at *
  have z1:=hA'.size
  have HOK:=specHeapOk_any _ _ _ ms h W1 (hp.below hA') (hh.below hA') hn
  rw[hfb] at HOK
  unfold hpCells at HOK
  have v0:=bp'.cell (i:=0) (by decide)
  obtain⟨⟨x0,x1,x2,x3,x4⟩,_⟩:=five_cells bh'
  clear hfb
  go_wp2_with fail
  refine HOK.mono ?_
  rintro e w1 ⟨rfl,hb1⟩
  have B1:=hA'.trans (hb1.mono z1)
  have bh1:=row_below hb1 bh'
  have mk1:=mk0.below hb1
  have zz1:=hb1.size
  clear HOK x0 x1 x2 x3 x4 v0 bp' bh' hb1 hA' mk0
  cases fb
  · have HE:Hid (methodsL ms h=[]):=by show _=_;unfold methodsL;rw[HFB.out];rfl
    go_wp2
    go_ret
    exact⟨_,rfl,by rw[HE.out];exact mk1.mono (by omega),B1⟩
  have hgd:=good_iff.1 HFB.out
  obtain⟨_,hlen⟩:=good_walk hgd
  have hcn:h.calls.length≤900000:=by have:=hgd.head.few;have:=hgd.head.born;omega
  have HE:Hid (methodsL ms h=methL h):=by show _=_;unfold methodsL;rw[HFB.out];rfl
  have HC:=l11Chain_any _ _ h w1 (hh.below B1) hcn
  have HIN:Hid (∀k∈chainOf h.calls h.now,k<h.calls.length):=fun k hk=>(chain_in hk).1
  unfold hpCells at HC
  obtain⟨⟨x0,x1,x2,x3,x4⟩,_⟩:=five_cells bh1
  go_wp2_with fail
  refine HC.mono ?_
  rintro e w2 ⟨v2,rfl,hr2,hb2⟩
  have HM0:Hid (methL h=(chainOf h.calls h.now).map (mOf h.calls)):=rfl
  obtain⟨ch,hch⟩:∃ch,chainOf h.calls h.now=ch:=⟨_,rfl⟩
  rw[hch] at hr2 HIN hlen HM0
  obtain⟨a2,c2,hv2,_⟩:=hr2.slice
  subst hv2
  have B2:=B1.trans (hb2.mono (by have:=B1.size;omega))
  have bx2:=cell_below hb2 x0
  have mk2:=mk1.below hb2
  have zz2:=hb2.size
  have hmb:∀q,(Value.slice a2 (nums ch).length c2).ownBlock=some q→w1.heap.size≤q∧q<w2.heap.size:=fun q e=>hr2.lt q e
  have hW0l:W0.heap.size<w1.heap.size:=by omega
  have HR2:Hid (IntRow w1.heap.size w2 (.slice a2 (nums ch).length c2) (nums ch)):=hr2
  have hnl:(nums ch).length=ch.length:=nums_len ch
  clear HC x0 x1 x2 x3 x4 bh1 hb2 mk1 hch hr2
  go_wp2_with fail
  go_loopg [5,7] ch.length (fun d v i wr=>∃k:Nat,k≤ch.length∧d=ch.length - k∧i=.int .i64 (k:Int)∧IntRow W0.heap.size wr v ((ch.take k).map (mOf h.calls))∧IntRow w1.heap.size wr (.slice a2 (nums ch).length c2) (nums ch)∧(∀q,v.ownBlock=some q→(Value.slice a2 (nums ch).length c2).ownBlock≠some q)∧wr.cell? ⟨w.heap.size+1,0,none⟩=some (.slice ac h.calls.length kc)∧Below w.heap.size w wr∧w2.heap.size≤wr.heap.size)
  case atStart=>exact⟨0,Nat.zero_le _,rfl,rfl,by simpa using mk2,HR2.out,fun q e1 e2=>by have:=(hmb q e2).1;have h9:q=W0.heap.size:=by {injection e1 with e1;exact e1.symm};omega,bx2,B2,Nat.le_refl _⟩
  case round =>
    clear mk2 HR2 bx2 B2
    obtain⟨k,hk,rfl,rfl,hrow,hrc,hap,br,hb,hzr⟩:=hrel
    obtain⟨L,hL⟩:∃L,(ch.take k).map (mOf h.calls)=L:=⟨_,rfl⟩
    have HL:Hid ((ch.take k).map (mOf h.calls)=L):=hL
    rw[hL] at hrow
    clear hL
    obtain⟨aL,cL,hvL,_⟩:=hrow.slice
    subst hvL
    have HLl:Hid (L.length=k):=by
      show _=_
      rw[←HL.out]
      simp
      omega
    by_cases hlt:k<ch.length
    case neg =>
      obtain rfl:k=ch.length:=by omega
      have HF:Hid (L=methL h):=by show _=_;rw[←HL.out,HM0.out,List.take_length]
      have hkz:¬((ch.length:Int)<((nums ch).length:Int)):=by omega
      go_wp2
      go_ret
      exact⟨.slice aL L.length cL,rfl,by rw[HE.out,←HF.out];exact hrow.mono (by omega),hb⟩
    have hkz:(k:Int)<((nums ch).length:Int):=by omega
    obtain⟨p,hp'⟩:∃p,ch[k]=p:=⟨_,rfl⟩
    have hpl:p<h.calls.length:=by rw[←hp'];exact HIN.out _ (List.getElem_mem hlt)
    have hpz:(p:Int)<(h.calls.length:Int):=by omega
    obtain⟨gc,oc,cc,hvc,hgc1,hgc2⟩:=hrc.form (by omega)
    injection hvc with hvc1 _ hvc2
    subst hvc1 hvc2
    have ck:wr.cell? ⟨gc,oc+k,none⟩=some (.int .i64 (p:Int)):=by
      have q:=hrc.cell (i:=k) (by omega)
      have e:(nums ch)[k]'(by omega)=(p:Int):=by simp[nums,hp']
      rw[e] at q
      exact q.1
    obtain⟨b,o,vt,vs',hac,hc⟩:=hcl p hpl
    subst hac
    have d0:=cell_below hb hc.c0
    have hbl:b<w.heap.size:=World.block_lt_of_cell? _ _ hc.c0
    have HTK:Hid ((ch.take (k+1)).map (mOf h.calls)=L ++ [h.calls[p].m]):=by
      show _=_
      rw[←List.take_append_getElem hlt,List.map_append,HL.out,hp',List.map_cons,List.map_nil,mOf_at hpl]
    obtain⟨m,hm⟩:∃m,h.calls[p].m=m:=⟨_,rfl⟩
    rw[hm] at d0 HTK
    clear hc hcl hp' hm
    have hzw:w.heap.size≤wr.heap.size:=hb.size
    have N1:Below wr.heap.size wr (wr.alloc (.cells #[.int .i64 m] 3)).drew:=((Below.refl _ _).alloc (Nat.le_refl _) _).drew
    have hnew:∀j,(hj:j < [m].length)→(wr.alloc (.cells #[.int .i64 m] 3)).drew.cell? ((⟨wr.heap.size,0,none⟩:Addr).add j)=some (.int .i64 [m][j]):=fun j hj=>by
      obtain rfl:j=0:=by simpa using hj
      simp[go_sem,Addr.add]
    have hll:L.length+1≤1000000:=by have:=HLl.out;omega
    obtain⟨g3,o3,c3,w3,hrun3,hrow3,hg3,hor3⟩:=run_append_ints (P:=Tryz.prog) (ty:=39) Tryz.underlying39 hi hz0 hz1 hz2 (hrow.below N1) ⟨wr.heap.size,0,none⟩ 1 1 [m] rfl hnew (.inl (by omega)) hll (Nat.le_trans (by omega) N1.size)
    have hno:∀q,(Value.slice aL L.length cL).ownBlock=some q→W0.heap.size≤q:=fun q e=>(hrow.lt q e).1
    have hnc:(Value.slice aL L.length cL).ownBlock≠some gc:=fun e=>hap gc e rfl
    have SS:w3.cell? ⟨w.heap.size+1,0,none⟩=some (.slice (some ⟨b,o,none⟩) h.calls.length kc)∧w3.cell? ⟨gc,oc+k,none⟩=some (.int .i64 (p:Int))∧w3.cell? ⟨b,o+p * 6,none⟩=some (.int .i64 m):=⟨hg3.cell (cell_below N1 br) (fun e=>by have h9:W0.heap.size≤w.heap.size+1:=hno _ e.symm;omega),hg3.cell (cell_below N1 ck) (fun e=>hnc e.symm),hg3.cell (cell_below N1 d0) (fun e=>by have h9:W0.heap.size≤b:=hno _ e.symm;omega)⟩
    have hrc3:IntRow w1.heap.size w3 (.slice (some ⟨gc,oc,none⟩) (nums ch).length c2) (nums ch):=(hrc.below N1).kept hg3.size (fun q e=>hg3.block q (by have:=(hrc.lt q e).2;have:=N1.size;omega) (fun e2=>hap q e2.symm e))
    have hap3:∀q,(Value.slice (some ⟨g3,o3,none⟩) (L.length+1) c3).ownBlock=some q→(Value.slice (some ⟨gc,oc,none⟩) (nums ch).length c2).ownBlock≠some q:=fun q e=>by
      have hq:g3=q:=by injection e
      subst hq
      rcases hor3 with e3 | e3
      · exact hap g3 e3
      · intro e4
        have:=(hrc.lt g3 e4).2
        have:=N1.size
        omega
    have hb3:Below w.heap.size w w3:=(hb.trans (N1.mono hzw)).grown hg3 (by have:=N1.size;omega) (fun q e=>by have h9:W0.heap.size≤q:=hno q e;omega)
    have hz3:w2.heap.size≤w3.heap.size:=by have:=N1.size;have:=hg3.size;omega
    clear hrow hrc hap hb hnew hnc
    go_wp2_with fail
    go_region_held3 (fun w'=>w'.cell? ⟨w.heap.size+1,0,none⟩=some (.slice (some ⟨b,o,none⟩) h.calls.length kc)∧w'.cell? ⟨gc,oc+k,none⟩=some (.int .i64 (p:Int))∧w'.cell? ⟨b,o+p * 6,none⟩=some (.int .i64 m))
      (first | with_reducible exact SS | go_keep)
      ((refine held_valM (v:=.slice (some ⟨g3,o3,none⟩) (L.length+1) c3) (w':=w3) rfl (append_runT rfl (by go_simp) (by go_simp) hrun3) ?_))
    go_wp2
    go_roundg (ch.length - (k+1))
    case measure=>omega
    case rel=>exact⟨k+1,by omega,rfl,by go_num,by rw[HTK.out];exact hrow3,hrc3,hap3,SS.1,hb3,hz3⟩
end Go.Proofs.YtjbgpcileapogaaGreat

/-
  When a program is ok, in plain words: the one function that both the document's model and the program are held against. Nothing of the translation is used here.
-/
import Derived.Test.YtjbgpcileapogaaGreatRF
namespace Go.Proofs.YtjbgpcileapogaaGreat
def inR (n lo hi:Int):Bool:=decide (lo≤n) && decide (n≤hi)
theorem inR_true {n lo hi:Int}:inR n lo hi=true ↔ lo≤n∧n≤hi:=by simp[inR]
theorem inR_false {n lo hi:Int}:inR n lo hi=false ↔ ¬(lo≤n∧n≤hi):=by
  rw[←inR_true];simp
def opOk (nm no:Nat) (t k a:Int):Bool :=
  if k=1 then inR a 0 99
  else if k=2∨k=3 then inR a 0 (t - 1)
  else if k=7∨k=8 then inR a 0 ((no:Int) - 1)
  else if k=9 then inR a 0 ((nm:Int) - 1)
  else if k=13∨k=14 then inR a 0 3
  else inR k 1 18 && (a == 0)
def opsOk (nm:Nat) (t:Int) (ops:List (Int × Int)):Bool:=ops.all fun op=>opOk nm ops.length t op.1 op.2
def methOk (nm:Nat) (m:Int × Int × List (Int × Int)):Bool :=
  inR m.1 0 2 && inR m.2.1 m.1 4 && decide (m.2.2.length≤14) && opsOk nm m.2.1 m.2.2
def progOk (ms:List (Int × Int × List (Int × Int))):Bool :=
  inR ms.length 1 4 && ((ms.getD 0 (0,0,[])).1 == 0) && ms.all (methOk ms.length)
theorem all_of {α:Type} {l:List α} {p:α→Bool} (h:∀i,(hi:i<l.length)→p l[i]=true):l.all p=true:=by
  rw[List.all_eq_true]
  intro x hx
  obtain⟨i,hi,rfl⟩:=List.getElem_of_mem hx
  exact h i hi
theorem all_not {α:Type} {l:List α} {p:α→Bool} {i:Nat} (hi:i<l.length) (h:p l[i]=false):l.all p=false:=by
  rw[List.all_eq_false]
  exact⟨_,List.getElem_mem hi,by simp[h]⟩
theorem opsOk_yes {nm:Nat} {t:Int} {ops:List (Int × Int)} (h:∀i,(hi:i<ops.length)→opOk nm ops.length t ops[i].1 ops[i].2=true):opsOk nm t ops=true:=all_of h
theorem opsOk_no {nm:Nat} {t:Int} {ops:List (Int × Int)} {i:Nat} (hi:i<ops.length) (h:opOk nm ops.length t ops[i].1 ops[i].2=false):opsOk nm t ops=false:=all_not hi h
theorem methOk_of {nm:Nat} {x t:Int} {ops:List (Int × Int)} (h1:inR x 0 2=true) (h2:inR t x 4=true) (h3:ops.length≤14) {b:Bool} (h4:opsOk nm t ops=b):methOk nm (x,t,ops)=b:=by
  simp[methOk,h1,h2,h3,h4]
theorem methOk_no1 {nm:Nat} {x t:Int} {ops:List (Int × Int)} (h:inR x 0 2=false):methOk nm (x,t,ops)=false:=by simp[methOk,h]
theorem methOk_no2 {nm:Nat} {x t:Int} {ops:List (Int × Int)} (h:inR t x 4=false):methOk nm (x,t,ops)=false:=by simp[methOk,h]
theorem methOk_no3 {nm:Nat} {x t:Int} {ops:List (Int × Int)} (h:¬ops.length≤14):methOk nm (x,t,ops)=false:=by simp[methOk,h]
theorem opOk_1 (nm no:Nat) (t a:Int):opOk nm no t 1 a=inR a 0 99:=rfl
theorem opOk_2 (nm no:Nat) (t a:Int):opOk nm no t 2 a=inR a 0 (t - 1):=rfl
theorem opOk_3 (nm no:Nat) (t a:Int):opOk nm no t 3 a=inR a 0 (t - 1):=rfl
theorem opOk_8 (nm no:Nat) (t a:Int):opOk nm no t 8 a=inR a 0 ((no:Int) - 1):=rfl
theorem opOk_9 (nm no:Nat) (t a:Int):opOk nm no t 9 a=inR a 0 ((nm:Int) - 1):=rfl
theorem opOk_13 (nm no:Nat) (t a:Int):opOk nm no t 13 a=inR a 0 3:=rfl
theorem opOk_14 (nm no:Nat) (t a:Int):opOk nm no t 14 a=inR a 0 3:=rfl
theorem opOk_else (nm no:Nat) (t k a:Int) (h1:¬k=1) (h2:¬k=2) (h3:¬k=3) (h7:¬k=7) (h8:¬k=8) (h9:¬k=9) (h13:¬k=13) (h14:¬k=14):opOk nm no t k a=(inR k 1 18 && (a == 0)):=by
  simp[opOk,h1,h2,h3,h7,h8,h9,h13,h14]
theorem opOk_noKind {nm no:Nat} {t k a:Int} (h:inR k 1 18=false):opOk nm no t k a=false:=by
  rw[inR_false] at h
  rw[opOk_else nm no t k a (by omega) (by omega) (by omega) (by omega) (by omega) (by omega) (by omega) (by omega),inR_false.2 h]
  rfl
theorem ret_bool {a b:Bool} (h:a=b):Ending.returned (.bool a)=.returned (.bool b):=by rw[h]
def Few (v:Int × Int):Prop:=0≤v.1∧v.1≤2∧0≤v.2∧v.2<1000
end Go.Proofs.YtjbgpcileapogaaGreat
namespace Go.Proofs.YtjbgpcileapogaaGreat
def valOk (n:Int) (k a:Int):Bool:=if k=0 then a == 0 else if k=1 then inR a 0 999 else if k=2 then inR a 0 (n - 1) else false
def valsOk (n:Int) (l:List (Int × Int)):Bool:=l.all fun v=>valOk n v.1 v.2
theorem valsOk_yes {n:Int} {l:List (Int × Int)} (h:∀i,(hi:i<l.length)→valOk n l[i].1 l[i].2=true):valsOk n l=true:=all_of h
theorem valsOk_no {n:Int} {l:List (Int × Int)} {i:Nat} (hi:i<l.length) (h:valOk n l[i].1 l[i].2=false):valsOk n l=false:=all_not hi h
def clOk (ms:List (Int × Int × List (Int × Int))) (n:Nat) (c:Cl):Bool :=
  inR c.m 0 ((ms.length:Int) - 1) && inR c.pc 0 ((ms.getD c.m.toNat (0,0,[])).2.2.length:Int) && decide ((c.temps.length:Int)=(ms.getD c.m.toNat (0,0,[])).2.1) && decide (c.stack.length≤6) &&
  (inR c.sender (-1) ((n:Int) - 1) && valsOk n c.temps && valsOk n c.stack && (!c.dead || (c.sender == -1 && c.stack.length == 0)))
end Go.Proofs.YtjbgpcileapogaaGreat
namespace Go.Proofs.YtjbgpcileapogaaGreat
open Go.RowKit
theorem wpAny_last {P:Program} {ops:Array Oper} {Q:QT} {W:World} {a0:Act} {L:Nat} (p:Plan) (F:Nat→Fact) (hL:ops.size=L+1) (hp:p.ok ops a0.tmps.size=true) (hall:(List.range L).all (fun j=>(p.anc.getD L []).contains j)=true)
    (hstab:∀i,i<ops.size→∀l own own' w w',Keep W W.heap.size (p.dep.getD i []) own own' w w'→F i l own w→F i l own' w')
    (hstep:∀i,i<L→StepOk P Q W a0 p ops F i)
    (hend:∀a w val own,Below W.heap.size W w→FrameOk ops a0 a→(∀r,r<W.heap.size→own r=1000)→(∀i,i<L→Known ops p F val own a w i)→wpOp P ops Q L (Q .normal) a w) :
    ∀(fuel:Nat) (listed:Array Bool) (a:Act) (w:World),leftN listed ops.size≤fuel→listed.getD L true=false→RInv W W.heap.size (fun _=>1000) [] a0 p ops F listed a w→wpAny P .any ops Q fuel listed a w:=by
  have hLl:L<ops.size:=by omega
  have hoL:ops[L]?=some ops[L]:=Array.getElem?_eq_getElem hLl
  have hnil:∀(listed:Array Bool) (a:Act) (w:World),listed.getD L true=false→RInv W W.heap.size (fun _=>1000) [] a0 p ops F listed a w→Region.ready .any ops listed≠[]:=by
    intro listed a w hlL hI hr
    have hls:∀i,i<L→listed.getD i false=true:=by
      intro i
      induction i using Nat.strongRecOn with
      | ind i ih =>
        intro hi
        have ho:ops[i]?=some ops[i]:=Array.getElem?_eq_getElem (by omega)
        have h1:=p.ok_at hp ho
        simp only[Plan.ok1,Bool.and_eq_true] at h1
        cases hl:listed.getD i true with
        | true =>
          have:=hI.size
          have h':i<listed.size:=by omega
          simpa [h'] using hl
        | false =>
          have:i∈Region.ready .any ops listed:=mem_ready.2 ⟨hl,_,ho,fun e he hb=>by
            have hlt:=Array.all_eq_true'.1 h1.1.1.2 e he
            rw[hb] at hlt
            have hlt':e.on<i:=by simpa using hlt
            exact ih e.on hlt' (by omega)⟩
          rw[hr] at this
          cases this
    have h1:=p.ok_at hp hoL
    simp only[Plan.ok1,Bool.and_eq_true] at h1
    have:L∈Region.ready .any ops listed:=mem_ready.2 ⟨hlL,_,hoL,fun e he hb=>by
      have hlt:=Array.all_eq_true'.1 h1.1.1.2 e he
      rw[hb] at hlt
      exact hls e.on (by simpa using hlt)⟩
    rw[hr] at this
    cases this
  intro fuel
  induction fuel with
  | zero =>
    intro listed a w hz hlL hI
    have:=left_less hLl hI.size hlL
    omega
  | succ fuel ih =>
    intro listed a w hz hlL hI
    refine⟨fun hr=>absurd hr (hnil listed a w hlL hI),fun i hi=>?_⟩
    obtain⟨hu,o,ho,hall2⟩:=mem_ready.1 hi
    have hlt:i<ops.size:=(Array.getElem?_eq_some_iff.1 ho).1
    have hanc:=Plan.anc_listed hp hI i o ho hall2
    obtain⟨val,own,hown,hk,_⟩:=hI.facts
    by_cases hiL:i=L
    · subst hiL
      have hls:∀j,j<i→listed.getD j false=true:=fun j hj=>hanc j (by simpa using List.all_eq_true.1 hall j (List.mem_range.2 hj))
      refine wpOp_mono ?_ (hend a w val own hI.base hI.frame hown fun j hj=>hk j (by omega) (hls j hj))
      intro a' w' hQ
      have hrn:Region.ready .any ops (listed.setIfInBounds i true)=[]:=by
        cases hr:Region.ready .any ops (listed.setIfInBounds i true) with
        | nil=>rfl
        | cons x t =>
          have hx:x∈Region.ready .any ops (listed.setIfInBounds i true):=by rw[hr];simp
          obtain⟨hxu,ox,hox,_⟩:=mem_ready.1 hx
          have hxl:x<ops.size:=(Array.getElem?_eq_some_iff.1 hox).1
          have:(listed.setIfInBounds i true).getD x false=true:=by
            by_cases e:x=i
            · subst e
              exact getD_set_self' (by have:=hI.size;omega)
            · exact getD_set_mono (hls x (by omega))
          have hs:=hI.size
          have h':x<(listed.setIfInBounds i true).size:=by simp;omega
          simp only[Array.getD_eq_getD_getElem?,Array.getElem?_eq_getElem h',Option.getD_some] at hxu this
          rw[hxu] at this
          cases this
      cases fuel with
      | zero=>exact⟨hrn,hQ⟩
      | succ fuel=>exact⟨fun _=>hQ,fun k hk=>by rw[hrn] at hk;cases hk⟩
    · have hancs:∀j∈p.anc.getD i [],j<ops.size:=fun j hj=>by
        have:=hanc j hj
        have hs:=hI.size
        rcases Nat.lt_or_ge j listed.size with h' | h'
        · omega
        · simp[Array.getElem?_eq_none h'] at this
      refine wpOp_mono ?_ (hstep i (by omega) a w val own hI.base hI.frame hown fun j hj=>hk j (hancs j hj) (hanc j hj))
      rintro a' w' ⟨v,rfl,hdo,hF⟩
      refine ih _ _ _ (by have:=left_less hlt hI.size hu;omega) (by rw[getD_set_ne true hiL];exact hlL) ⟨by simp[hI.size],?_,hdo.base,frame_put hI.frame,upd val i v,ownBy own w i,?_,?_,fun f hf=>by cases hf⟩
      · intro k ok hok hkl e he hb
        rcases getD_set_or hkl with rfl | hkl
        · rw[ho] at hok
          cases hok
          exact getD_set_mono (hall2 e he hb)
        · exact getD_set_mono (hI.down k ok hok hkl e he hb)
      · intro r hr
        unfold ownBy
        rw[if_pos (Nat.lt_of_lt_of_le hr hI.base.size)]
        exact hown r hr
      · intro k hkl hkt
        rcases getD_set_or hkt with rfl | hkt
        · refine⟨fun d hd=>?_,hF⟩
          have h1:=p.ok_at hp ho
          simp only[Plan.ok1,Bool.and_eq_true] at h1
          have hod:o.dst=some d:=by simpa [dstOf,ho] using hd
          have hdl:=h1.1.2
          rw[hod] at hdl
          have hdl':d<a0.tmps.size:=by simpa using hdl
          rw[hd]
          simp only[Act.put,upd,if_true]
          have hda:d<a.tmps.size:=by rw[hI.frame.size];exact hdl'
          simp[hda]
        · have hok:ops[k]?=some ops[k]:=Array.getElem?_eq_getElem hkl
          have hne:i≠k:=by
            rintro rfl
            have hs:=hI.size
            have h':i<listed.size:=by omega
            simp[h'] at hu hkt
            rw[hu] at hkt
            cases hkt
          refine known_step hp hstab hok hlt hne ?_ hdo (hk k hkl hkt)
          intro hm
          have:=Plan.anc_listed hp hI k ops[k] hok (fun e he hb=>hI.down k _ hok hkt e he hb) i hm
          have hs:=hI.size
          have h':i<listed.size:=by omega
          simp[h'] at hu this
          rw[hu] at this
          cases this
theorem wp_region_fl {P:Program} {id:Nat} {ops:Array Oper} {Q:QT} {a0:Act} {w0:World} (anc see wr:List (List Nat)) (fs:List (OpF w0 w0.heap.size)) (n:Nat) (hn:ops.size=n+1) (hm:P.follows .mixedOrders=true) (hp:(planOf anc see wr fs).ok ops a0.tmps.size=true) (hall:(List.range n).all (fun j=>((planOf anc see wr fs).anc.getD n []).contains j)=true)
    (hstep:∀i,i<n→StepOk P Q w0 a0 (planOf anc see wr fs) ops (factOf fs) i)
    (hend:∀a w val own,Below w0.heap.size w0 w→FrameOk ops a0 a→(∀r,r<w0.heap.size→own r=1000)→(∀i,i<n→Known ops (planOf anc see wr fs) (factOf fs) val own a w i)→wpOp P ops Q n (Q .normal) a w) :
    (Code.region id ops true).wp P Q a0 w0:=by
  refine wp_region_any hm (wpAny_last (planOf anc see wr fs) (factOf fs) hn hp hall ?_ hstep hend ops.size _ a0 _ ?_ ?_ ?_)
  · exact fs_stab anc see wr fs _
  · unfold leftN
    exact Nat.le_trans (List.length_filter_le _ _) (by simp)
  · simp[show n<ops.size by omega]
  · refine⟨by simp,?_,(Below.refl _ w0).drew,⟨rfl,rfl,fun _ _=>rfl⟩,fun _=>undef,fun _=>1000,fun _ _=>rfl,?_,fun f hf=>by cases hf⟩
    · intro i o ho hl
      have hi:i<ops.size:=(Array.getElem?_eq_some_iff.1 ho).1
      simp[hi] at hl
    · intro i hi hl
      simp[hi] at hl
theorem sets_any {x:Array Value}:∀(ds:List Nat) (t:Array Value),t.size=x.size→(∀d,d∉ds→t[d]?=x[d]?)→x=ds.foldl (fun t d=>t.setIfInBounds d (x[d]?.getD undef)) t
  | [],t,_,h=>Array.ext_getElem? fun d=>(h d (by simp)).symm
  | e :: ds,t,hs,h=>by
    refine sets_any ds _ (by simpa using hs) fun d hd=>?_
    rw[Array.getElem?_setIfInBounds]
    by_cases hed:e=d
    · subst hed
      rw[if_pos rfl,hs]
      by_cases hl:e<x.size
      · simp[hl]
      · simp[hl]
    · rw[if_neg hed]
      exact h d (by simp;exact⟨fun q=>hed q.symm,hd⟩)
theorem frame_sets {ops:Array Oper} {a0 a:Act} (hf:FrameOk ops a0 a) (ds:List Nat) (hds:(List.range ops.size).all (fun i=>match dstOf ops i with | some d=>ds.contains d | none=>true)=true):a.tmps=ds.foldl (fun t d=>t.setIfInBounds d (a.tmps[d]?.getD undef)) a0.tmps:=by
  refine sets_any ds _ hf.size.symm fun d hd=>(hf.slot d fun i hi=>?_).symm
  rcases Nat.lt_or_ge i ops.size with h | h
  · have:=List.all_eq_true.1 hds i (List.mem_range.2 h)
    rw[hi] at this
    exact hd (by simpa using this)
  · rw[dstOf,Array.getElem?_eq_none h] at hi
    cases hi
def chainB (ops:Array Oper) (L:Nat):Bool:=(List.range ops.size).all fun k=>decide (k≤L) || match ops[k]? with | some o=>o.after.any (fun e=>Region.binds .any e && e.on+1 == k) | none=>false
theorem chainB_at {ops:Array Oper} {L k:Nat} (h:chainB ops L=true) (hk:L<k) (hs:k<ops.size):∃o,ops[k]?=some o∧∃e∈o.after,Region.binds .any e=true∧e.on+1=k:=by
  have h1:=List.all_eq_true.1 h k (List.mem_range.2 hs)
  have ho:ops[k]?=some ops[k]:=Array.getElem?_eq_getElem hs
  rw[ho,show decide (k≤L)=false by simpa using hk,Bool.false_or] at h1
  obtain⟨e,he,h2⟩:=Array.any_eq_true'.1 h1
  simp only[Bool.and_eq_true,beq_iff_eq] at h2
  exact⟨_,ho,e,he,h2.1,h2.2⟩
def tailWp (P:Program) (ops:Array Oper) (Q:QT):Nat→Nat→Act→World→Prop
  | 0,_,a,w=>Q .normal a w
  | m+1,j,a,w=>wpOp P ops Q j (tailWp P ops Q m (j+1)) a w
theorem tail_fuel {l:Array Bool} {n L f:Nat} (hs:l.size=n) (hL:L≤n) (h:∀k,L≤k→k<n→l.getD k true=false) (hf:leftN l n≤f):n - L≤f:=by
  refine Nat.le_trans ?_ hf
  unfold leftN
  obtain⟨m,rfl⟩:=Nat.exists_eq_add_of_le hL
  rw[List.range_add,List.filter_append,List.length_append]
  have:((List.range m).map fun x=>L+x).filter (fun i=>!l.getD i true)=(List.range m).map fun x=>L+x:=List.filter_eq_self.2 fun x hx=>by
    obtain⟨y,hy,rfl⟩:=List.mem_map.1 hx
    rw[h _ (by omega) (by have:=List.mem_range.1 hy;omega)]
    rfl
  rw[this,List.length_map,List.length_range]
  omega
theorem wpAny_tail {P:Program} {ops:Array Oper} {Q:QT} {L:Nat} (hdown:∀i o,ops[i]?=some o→∀e∈o.after,Region.binds .any e=true→e.on<i) (hch:chainB ops L=true) :
    ∀(m j fuel:Nat) (listed:Array Bool) (a:Act) (w:World),j+m=ops.size→m≤fuel→L≤j→listed.size=ops.size→(∀i,i<j→listed.getD i false=true)→(∀i,j≤i→i<ops.size→listed.getD i true=false)→tailWp P ops Q m j a w→wpAny P .any ops Q fuel listed a w:=by
  intro m
  induction m with
  | zero =>
    intro j fuel listed a w hj _ _ hs hd _ hT
    have hrn:Region.ready .any ops listed=[]:=by
      cases hr:Region.ready .any ops listed with
      | nil=>rfl
      | cons x t =>
        have hx:x∈Region.ready .any ops listed:=by rw[hr];simp
        obtain⟨hxu,ox,hox,_⟩:=mem_ready.1 hx
        have hxl:x<ops.size:=(Array.getElem?_eq_some_iff.1 hox).1
        have h1:=hd x (by omega)
        have h':x<listed.size:=by omega
        simp only[Array.getD_eq_getD_getElem?,Array.getElem?_eq_getElem h',Option.getD_some] at h1 hxu
        rw[h1] at hxu
        cases hxu
    cases fuel with
    | zero=>exact⟨hrn,hT⟩
    | succ fuel=>exact⟨fun _=>hT,fun k hk=>by rw[hrn] at hk;cases hk⟩
  | succ m ih =>
    intro j fuel listed a w hj hf hL hs hd hu hT
    cases fuel with
    | zero=>omega
    | succ fuel =>
      have hjl:j<ops.size:=by omega
      have hoj:ops[j]?=some ops[j]:=Array.getElem?_eq_getElem hjl
      have hjr:j∈Region.ready .any ops listed:=mem_ready.2 ⟨hu j (Nat.le_refl _) hjl,_,hoj,fun e he hb=>hd e.on (hdown j _ hoj e he hb)⟩
      refine⟨fun hr=>absurd (hr ▸ hjr) (by simp),fun i hi=>?_⟩
      obtain⟨hiu,o,ho,hall⟩:=mem_ready.1 hi
      have hil:i<ops.size:=(Array.getElem?_eq_some_iff.1 ho).1
      have hij:i=j:=by
        rcases Nat.lt_trichotomy i j with h | h | h
        · have h1:=hd i h
          have h':i<listed.size:=by omega
          simp only[Array.getD_eq_getD_getElem?,Array.getElem?_eq_getElem h',Option.getD_some] at h1 hiu
          rw[h1] at hiu
          cases hiu
        · exact h
        · obtain⟨o',ho',e,he,hb,hon⟩:=chainB_at hch (show L<i by omega) hil
          rw[ho] at ho'
          cases ho'
          have h1:=hall e he hb
          have h2:=hu e.on (by omega) (by omega)
          have h':e.on<listed.size:=by omega
          simp only[Array.getD_eq_getD_getElem?,Array.getElem?_eq_getElem h',Option.getD_some] at h1 h2
          rw[h1] at h2
          cases h2
      subst hij
      refine wpOp_mono ?_ hT
      intro a' w' hT'
      refine ih (i+1) fuel _ a' w' (by omega) (by omega) (by omega) (by simp[hs]) (fun k hk=>?_) (fun k hk1 hk2=>?_) hT'
      · by_cases e:k=i
        · subst e
          exact getD_set_self' (by omega)
        · exact getD_set_mono (hd k (by omega))
      · rw[getD_set_ne true (by omega)]
        exact hu k (by omega) hk2
theorem wpAny_lastT {P:Program} {ops:Array Oper} {Q:QT} {W:World} {a0:Act} {L:Nat} (p:Plan) (F:Nat→Fact) (hL:L<ops.size) (hch:chainB ops L=true) (hp:p.ok ops a0.tmps.size=true) (hall:(List.range L).all (fun j=>(p.anc.getD L []).contains j)=true)
    (hstab:∀i,i<ops.size→∀l own own' w w',Keep W W.heap.size (p.dep.getD i []) own own' w w'→F i l own w→F i l own' w')
    (hstep:∀i,i<L→StepOk P Q W a0 p ops F i)
    (hend:∀a w val own,Below W.heap.size W w→FrameOk ops a0 a→(∀r,r<W.heap.size→own r=1000)→(∀i,i<L→Known ops p F val own a w i)→tailWp P ops Q (ops.size - L) L a w) :
    ∀(fuel:Nat) (listed:Array Bool) (a:Act) (w:World),leftN listed ops.size≤fuel→(∀k,L≤k→k<ops.size→listed.getD k true=false)→RInv W W.heap.size (fun _=>1000) [] a0 p ops F listed a w→wpAny P .any ops Q fuel listed a w:=by
  have hLl:L<ops.size:=hL
  have hoL:ops[L]?=some ops[L]:=Array.getElem?_eq_getElem hLl
  have hnil:∀(listed:Array Bool) (a:Act) (w:World),listed.getD L true=false→RInv W W.heap.size (fun _=>1000) [] a0 p ops F listed a w→Region.ready .any ops listed≠[]:=by
    intro listed a w hlL hI hr
    have hls:∀i,i<L→listed.getD i false=true:=by
      intro i
      induction i using Nat.strongRecOn with
      | ind i ih =>
        intro hi
        have ho:ops[i]?=some ops[i]:=Array.getElem?_eq_getElem (by omega)
        have h1:=p.ok_at hp ho
        simp only[Plan.ok1,Bool.and_eq_true] at h1
        cases hl:listed.getD i true with
        | true =>
          have:=hI.size
          have h':i<listed.size:=by omega
          simpa [h'] using hl
        | false =>
          have:i∈Region.ready .any ops listed:=mem_ready.2 ⟨hl,_,ho,fun e he hb=>by
            have hlt:=Array.all_eq_true'.1 h1.1.1.2 e he
            rw[hb] at hlt
            have hlt':e.on<i:=by simpa using hlt
            exact ih e.on hlt' (by omega)⟩
          rw[hr] at this
          cases this
    have h1:=p.ok_at hp hoL
    simp only[Plan.ok1,Bool.and_eq_true] at h1
    have:L∈Region.ready .any ops listed:=mem_ready.2 ⟨hlL,_,hoL,fun e he hb=>by
      have hlt:=Array.all_eq_true'.1 h1.1.1.2 e he
      rw[hb] at hlt
      exact hls e.on (by simpa using hlt)⟩
    rw[hr] at this
    cases this
  intro fuel
  induction fuel with
  | zero =>
    intro listed a w hz hlL hI
    have:=left_less hLl hI.size (hlL L (Nat.le_refl _) hLl)
    omega
  | succ fuel ih =>
    intro listed a w hz hlL hI
    refine⟨fun hr=>absurd hr (hnil listed a w (hlL L (Nat.le_refl _) hLl) hI),fun i hi=>?_⟩
    obtain⟨hu,o,ho,hall2⟩:=mem_ready.1 hi
    have hlt:i<ops.size:=(Array.getElem?_eq_some_iff.1 ho).1
    have hanc:=Plan.anc_listed hp hI i o ho hall2
    obtain⟨val,own,hown,hk,_⟩:=hI.facts
    by_cases hiL:L≤i
    · have hls:∀j,j<L→listed.getD j false=true:=fun j hj=>by
        have hiL':i=L:=by
          rcases Nat.lt_or_ge L i with h | h
          · exfalso
            obtain⟨o',ho',e,he,hb,hon⟩:=chainB_at hch h hlt
            rw[ho] at ho'
            cases ho'
            have h1:=hall2 e he hb
            have h2:=hlL e.on (by omega) (by omega)
            have hs:=hI.size
            have h':e.on<listed.size:=by omega
            simp only[Array.getD_eq_getD_getElem?,Array.getElem?_eq_getElem h',Option.getD_some] at h1 h2
            rw[h1] at h2
            cases h2
          · omega
        subst hiL'
        exact hanc j (by simpa using List.all_eq_true.1 hall j (List.mem_range.2 hj))
      have HT:=hend a w val own hI.base hI.frame hown fun j hj=>hk j (by omega) (hls j hj)
      have HA:=wpAny_tail (P:=P) (Q:=Q) (fun i o ho e he hb=>by
        have h1:=p.ok_at hp ho
        simp only[Plan.ok1,Bool.and_eq_true] at h1
        have hlt:=Array.all_eq_true'.1 h1.1.1.2 e he
        rw[hb] at hlt
        simpa using hlt) hch (ops.size - L) L (fuel+1) listed a w (by omega) (tail_fuel hI.size (Nat.le_of_lt hLl) hlL hz) (Nat.le_refl _) hI.size hls hlL HT
      exact HA.2 i hi
    · have hancs:∀j∈p.anc.getD i [],j<ops.size:=fun j hj=>by
        have:=hanc j hj
        have hs:=hI.size
        rcases Nat.lt_or_ge j listed.size with h' | h'
        · omega
        · simp[Array.getElem?_eq_none h'] at this
      refine wpOp_mono ?_ (hstep i (by omega) a w val own hI.base hI.frame hown fun j hj=>hk j (hancs j hj) (hanc j hj))
      rintro a' w' ⟨v,rfl,hdo,hF⟩
      refine ih _ _ _ (by have:=left_less hlt hI.size hu;omega) (fun k hk1 hk2=>by rw[getD_set_ne true (by omega)];exact hlL k hk1 hk2) ⟨by simp[hI.size],?_,hdo.base,frame_put hI.frame,upd val i v,ownBy own w i,?_,?_,fun f hf=>by cases hf⟩
      · intro k ok hok hkl e he hb
        rcases getD_set_or hkl with rfl | hkl
        · rw[ho] at hok
          cases hok
          exact getD_set_mono (hall2 e he hb)
        · exact getD_set_mono (hI.down k ok hok hkl e he hb)
      · intro r hr
        unfold ownBy
        rw[if_pos (Nat.lt_of_lt_of_le hr hI.base.size)]
        exact hown r hr
      · intro k hkl hkt
        rcases getD_set_or hkt with rfl | hkt
        · refine⟨fun d hd=>?_,hF⟩
          have h1:=p.ok_at hp ho
          simp only[Plan.ok1,Bool.and_eq_true] at h1
          have hod:o.dst=some d:=by simpa [dstOf,ho] using hd
          have hdl:=h1.1.2
          rw[hod] at hdl
          have hdl':d<a0.tmps.size:=by simpa using hdl
          rw[hd]
          simp only[Act.put,upd,if_true]
          have hda:d<a.tmps.size:=by rw[hI.frame.size];exact hdl'
          simp[hda]
        · have hok:ops[k]?=some ops[k]:=Array.getElem?_eq_getElem hkl
          have hne:i≠k:=by
            rintro rfl
            have hs:=hI.size
            have h':i<listed.size:=by omega
            simp[h'] at hu hkt
            rw[hu] at hkt
            cases hkt
          refine known_step hp hstab hok hlt hne ?_ hdo (hk k hkl hkt)
          intro hm
          have:=Plan.anc_listed hp hI k ops[k] hok (fun e he hb=>hI.down k _ hok hkt e he hb) i hm
          have hs:=hI.size
          have h':i<listed.size:=by omega
          simp[h'] at hu this
          rw[hu] at this
          cases this
theorem wp_region_ft {P:Program} {id:Nat} {ops:Array Oper} {Q:QT} {a0:Act} {w0:World} (anc see wr:List (List Nat)) (fs:List (OpF w0 w0.heap.size)) (n:Nat) (m:Nat) (hn:ops.size=n+(m+1)) (hch:chainB ops n=true) (hm:P.follows .mixedOrders=true) (hp:(planOf anc see wr fs).ok ops a0.tmps.size=true) (hall:(List.range n).all (fun j=>((planOf anc see wr fs).anc.getD n []).contains j)=true)
    (hstep:∀i,i<n→StepOk P Q w0 a0 (planOf anc see wr fs) ops (factOf fs) i)
    (hend:∀a w val own,Below w0.heap.size w0 w→FrameOk ops a0 a→(∀r,r<w0.heap.size→own r=1000)→(∀i,i<n→Known ops (planOf anc see wr fs) (factOf fs) val own a w i)→tailWp P ops Q (m+1) n a w) :
    (Code.region id ops true).wp P Q a0 w0:=by
  refine wp_region_any hm (wpAny_lastT (planOf anc see wr fs) (factOf fs) (by omega) hch hp hall ?_ hstep (by rw[show ops.size - n=m+1 by omega];exact hend) ops.size _ a0 _ ?_ ?_ ?_)
  · exact fs_stab anc see wr fs _
  · unfold leftN
    exact Nat.le_trans (List.length_filter_le _ _) (by simp)
  · intro k _ hk
    simp[hk]
  · refine⟨by simp,?_,(Below.refl _ w0).drew,⟨rfl,rfl,fun _ _=>rfl⟩,fun _=>undef,fun _=>1000,fun _ _=>rfl,?_,fun f hf=>by cases hf⟩
    · intro i o ho hl
      have hi:i<ops.size:=(Array.getElem?_eq_some_iff.1 ho).1
      simp[hi] at hl
    · intro i hi hl
      simp[hi] at hl
def StepOkU (P:Program) (Q:QT) (W:World) (a0:Act) (p:Plan) (ops fo:Array Oper) (F:Nat→Fact) (i:Nat):Prop :=
  ∀(a:Act) (w:World) (val:Nat→Value) (own:Nat→Nat),Below W.heap.size W w→FrameOk fo a0 a→(∀r,r<W.heap.size→own r=1000)→(∀j∈p.anc.getD i [],Known ops p F val own a w j) →
    wpOp P ops Q i (fun a' w'=>∃v,a'=a.put (dstOf ops i) v∧Does W W.heap.size (p.wr.getD i []) own w w'∧F i ((p.see.getD i []).map (upd val i v)) (ownBy own w i) w') a w
theorem wpAny_lastU {P:Program} {ops:Array Oper} {Q:QT} {W:World} {a0:Act} {L:Nat} (p:Plan) (F:Nat→Fact) (hL:L<ops.size) (hch:chainB ops L=true) (hp:p.ok ops a0.tmps.size=true) (hall:(List.range L).all (fun j=>(p.anc.getD L []).contains j)=true)
    (hstab:∀i,i<ops.size→∀l own own' w w',Keep W W.heap.size (p.dep.getD i []) own own' w w'→F i l own w→F i l own' w')
    (hstep:∀i,i<L→StepOkU P Q W a0 p ops (ops.extract 0 L) F i)
    (hend:∀a w val own,Below W.heap.size W w→FrameOk (ops.extract 0 L) a0 a→(∀r,r<W.heap.size→own r=1000)→(∀i,i<L→Known ops p F val own a w i)→tailWp P ops Q (ops.size - L) L a w) :
    ∀(fuel:Nat) (listed:Array Bool) (a:Act) (w:World),leftN listed ops.size≤fuel→(∀k,L≤k→k<ops.size→listed.getD k true=false)→RInv W W.heap.size (fun _=>1000) [] a0 p ops F listed a w→FrameOk (ops.extract 0 L) a0 a→wpAny P .any ops Q fuel listed a w:=by
  have hLl:L<ops.size:=hL
  have hoL:ops[L]?=some ops[L]:=Array.getElem?_eq_getElem hLl
  have hnil:∀(listed:Array Bool) (a:Act) (w:World),listed.getD L true=false→RInv W W.heap.size (fun _=>1000) [] a0 p ops F listed a w→Region.ready .any ops listed≠[]:=by
    intro listed a w hlL hI hr
    have hls:∀i,i<L→listed.getD i false=true:=by
      intro i
      induction i using Nat.strongRecOn with
      | ind i ih =>
        intro hi
        have ho:ops[i]?=some ops[i]:=Array.getElem?_eq_getElem (by omega)
        have h1:=p.ok_at hp ho
        simp only[Plan.ok1,Bool.and_eq_true] at h1
        cases hl:listed.getD i true with
        | true =>
          have:=hI.size
          have h':i<listed.size:=by omega
          simpa [h'] using hl
        | false =>
          have:i∈Region.ready .any ops listed:=mem_ready.2 ⟨hl,_,ho,fun e he hb=>by
            have hlt:=Array.all_eq_true'.1 h1.1.1.2 e he
            rw[hb] at hlt
            have hlt':e.on<i:=by simpa using hlt
            exact ih e.on hlt' (by omega)⟩
          rw[hr] at this
          cases this
    have h1:=p.ok_at hp hoL
    simp only[Plan.ok1,Bool.and_eq_true] at h1
    have:L∈Region.ready .any ops listed:=mem_ready.2 ⟨hlL,_,hoL,fun e he hb=>by
      have hlt:=Array.all_eq_true'.1 h1.1.1.2 e he
      rw[hb] at hlt
      exact hls e.on (by simpa using hlt)⟩
    rw[hr] at this
    cases this
  intro fuel
  induction fuel with
  | zero =>
    intro listed a w hz hlL hI hFO
    have:=left_less hLl hI.size (hlL L (Nat.le_refl _) hLl)
    omega
  | succ fuel ih =>
    intro listed a w hz hlL hI hFO
    refine⟨fun hr=>absurd hr (hnil listed a w (hlL L (Nat.le_refl _) hLl) hI),fun i hi=>?_⟩
    obtain⟨hu,o,ho,hall2⟩:=mem_ready.1 hi
    have hlt:i<ops.size:=(Array.getElem?_eq_some_iff.1 ho).1
    have hanc:=Plan.anc_listed hp hI i o ho hall2
    obtain⟨val,own,hown,hk,_⟩:=hI.facts
    by_cases hiL:L≤i
    · have hls:∀j,j<L→listed.getD j false=true:=fun j hj=>by
        have hiL':i=L:=by
          rcases Nat.lt_or_ge L i with h | h
          · exfalso
            obtain⟨o',ho',e,he,hb,hon⟩:=chainB_at hch h hlt
            rw[ho] at ho'
            cases ho'
            have h1:=hall2 e he hb
            have h2:=hlL e.on (by omega) (by omega)
            have hs:=hI.size
            have h':e.on<listed.size:=by omega
            simp only[Array.getD_eq_getD_getElem?,Array.getElem?_eq_getElem h',Option.getD_some] at h1 h2
            rw[h1] at h2
            cases h2
          · omega
        subst hiL'
        exact hanc j (by simpa using List.all_eq_true.1 hall j (List.mem_range.2 hj))
      have HT:=hend a w val own hI.base hFO hown fun j hj=>hk j (by omega) (hls j hj)
      have HA:=wpAny_tail (P:=P) (Q:=Q) (fun i o ho e he hb=>by
        have h1:=p.ok_at hp ho
        simp only[Plan.ok1,Bool.and_eq_true] at h1
        have hlt:=Array.all_eq_true'.1 h1.1.1.2 e he
        rw[hb] at hlt
        simpa using hlt) hch (ops.size - L) L (fuel+1) listed a w (by omega) (tail_fuel hI.size (Nat.le_of_lt hLl) hlL hz) (Nat.le_refl _) hI.size hls hlL HT
      exact HA.2 i hi
    · have hancs:∀j∈p.anc.getD i [],j<ops.size:=fun j hj=>by
        have:=hanc j hj
        have hs:=hI.size
        rcases Nat.lt_or_ge j listed.size with h' | h'
        · omega
        · simp[Array.getElem?_eq_none h'] at this
      refine wpOp_mono ?_ (hstep i (by omega) a w val own hI.base hFO hown fun j hj=>hk j (hancs j hj) (hanc j hj))
      rintro a' w' ⟨v,rfl,hdo,hF⟩
      refine ih _ _ _ (by have:=left_less hlt hI.size hu;omega) (fun k hk1 hk2=>by rw[getD_set_ne true (by omega)];exact hlL k hk1 hk2) ⟨by simp[hI.size],?_,hdo.base,frame_put hI.frame,upd val i v,ownBy own w i,?_,?_,fun f hf=>by cases hf⟩ (by
        have he:dstOf (ops.extract 0 L) i=dstOf ops i:=by unfold dstOf;rw[Array.getElem?_extract,if_pos (by omega),Nat.zero_add]
        rw[←he]
        exact frame_put hFO)
      · intro k ok hok hkl e he hb
        rcases getD_set_or hkl with rfl | hkl
        · rw[ho] at hok
          cases hok
          exact getD_set_mono (hall2 e he hb)
        · exact getD_set_mono (hI.down k ok hok hkl e he hb)
      · intro r hr
        unfold ownBy
        rw[if_pos (Nat.lt_of_lt_of_le hr hI.base.size)]
        exact hown r hr
      · intro k hkl hkt
        rcases getD_set_or hkt with rfl | hkt
        · refine⟨fun d hd=>?_,hF⟩
          have h1:=p.ok_at hp ho
          simp only[Plan.ok1,Bool.and_eq_true] at h1
          have hod:o.dst=some d:=by simpa [dstOf,ho] using hd
          have hdl:=h1.1.2
          rw[hod] at hdl
          have hdl':d<a0.tmps.size:=by simpa using hdl
          rw[hd]
          simp only[Act.put,upd,if_true]
          have hda:d<a.tmps.size:=by rw[hI.frame.size];exact hdl'
          simp[hda]
        · have hok:ops[k]?=some ops[k]:=Array.getElem?_eq_getElem hkl
          have hne:i≠k:=by
            rintro rfl
            have hs:=hI.size
            have h':i<listed.size:=by omega
            simp[h'] at hu hkt
            rw[hu] at hkt
            cases hkt
          refine known_step hp hstab hok hlt hne ?_ hdo (hk k hkl hkt)
          intro hm
          have:=Plan.anc_listed hp hI k ops[k] hok (fun e he hb=>hI.down k _ hok hkt e he hb) i hm
          have hs:=hI.size
          have h':i<listed.size:=by omega
          simp[h'] at hu this
          rw[hu] at this
          cases this
theorem wp_region_fu {P:Program} {id:Nat} {ops:Array Oper} {Q:QT} {a0:Act} {w0:World} (anc see wr:List (List Nat)) (fs:List (OpF w0 w0.heap.size)) (n:Nat) (m:Nat) (hn:ops.size=n+(m+1)) (hch:chainB ops n=true) (hm:P.follows .mixedOrders=true) (hp:(planOf anc see wr fs).ok ops a0.tmps.size=true) (hall:(List.range n).all (fun j=>((planOf anc see wr fs).anc.getD n []).contains j)=true)
    (hstep:∀i,i<n→StepOkU P Q w0 a0 (planOf anc see wr fs) ops (ops.extract 0 n) (factOf fs) i)
    (hend:∀a w val own,Below w0.heap.size w0 w→FrameOk (ops.extract 0 n) a0 a→(∀r,r<w0.heap.size→own r=1000)→(∀i,i<n→Known ops (planOf anc see wr fs) (factOf fs) val own a w i)→tailWp P ops Q (m+1) n a w) :
    (Code.region id ops true).wp P Q a0 w0:=by
  refine wp_region_any hm (wpAny_lastU (planOf anc see wr fs) (factOf fs) (by omega) hch hp hall ?_ hstep (by rw[show ops.size - n=m+1 by omega];exact hend) ops.size _ a0 _ ?_ ?_ ?_ ⟨rfl,rfl,fun _ _=>rfl⟩)
  · exact fs_stab anc see wr fs _
  · unfold leftN
    exact Nat.le_trans (List.length_filter_le _ _) (by simp)
  · intro k _ hk
    simp[hk]
  · refine⟨by simp,?_,(Below.refl _ w0).drew,⟨rfl,rfl,fun _ _=>rfl⟩,fun _=>undef,fun _=>1000,fun _ _=>rfl,?_,fun f hf=>by cases hf⟩
    · intro i o ho hl
      have hi:i<ops.size:=(Array.getElem?_eq_some_iff.1 ho).1
      simp[hi] at hl
    · intro i hi hl
      simp[hi] at hl
theorem wpAny_lastV {P:Program} {ops:Array Oper} {Q:QT} {W:World} {a0:Act} {L z:Nat} (p:Plan) (F:Nat→Fact) (hL:L<ops.size) (hch:chainB ops L=true) (hp:p.ok ops a0.tmps.size=true) (hzL:z<L) (hall:(List.range L).all (fun j=>j == z || (p.anc.getD L []).contains j)=true)
    (hstab:∀i,i<ops.size→∀l own own' w w',Keep W W.heap.size (p.dep.getD i []) own own' w w'→F i l own w→F i l own' w')
    (hstep:∀i,i<L→StepOkU P Q W a0 p ops (ops.extract 0 L) F i)
    (hend:∀a w val own,Below W.heap.size W w→FrameOk (ops.extract 0 L) a0 a→(∀r,r<W.heap.size→own r=1000)→(∀i,i<L→Known ops p F val own a w i)→tailWp P ops Q (ops.size - L) L a w) :
    ∀(fuel:Nat) (listed:Array Bool) (a:Act) (w:World),leftN listed ops.size≤fuel→listed.getD z false=true→(∀k,L≤k→k<ops.size→listed.getD k true=false)→RInv W W.heap.size (fun _=>1000) [] a0 p ops F listed a w→FrameOk (ops.extract 0 L) a0 a→wpAny P .any ops Q fuel listed a w:=by
  have hLl:L<ops.size:=hL
  have hoL:ops[L]?=some ops[L]:=Array.getElem?_eq_getElem hLl
  have hnil:∀(listed:Array Bool) (a:Act) (w:World),listed.getD L true=false→RInv W W.heap.size (fun _=>1000) [] a0 p ops F listed a w→Region.ready .any ops listed≠[]:=by
    intro listed a w hlL hI hr
    have hls:∀i,i<L→listed.getD i false=true:=by
      intro i
      induction i using Nat.strongRecOn with
      | ind i ih =>
        intro hi
        have ho:ops[i]?=some ops[i]:=Array.getElem?_eq_getElem (by omega)
        have h1:=p.ok_at hp ho
        simp only[Plan.ok1,Bool.and_eq_true] at h1
        cases hl:listed.getD i true with
        | true =>
          have:=hI.size
          have h':i<listed.size:=by omega
          simpa [h'] using hl
        | false =>
          have:i∈Region.ready .any ops listed:=mem_ready.2 ⟨hl,_,ho,fun e he hb=>by
            have hlt:=Array.all_eq_true'.1 h1.1.1.2 e he
            rw[hb] at hlt
            have hlt':e.on<i:=by simpa using hlt
            exact ih e.on hlt' (by omega)⟩
          rw[hr] at this
          cases this
    have h1:=p.ok_at hp hoL
    simp only[Plan.ok1,Bool.and_eq_true] at h1
    have:L∈Region.ready .any ops listed:=mem_ready.2 ⟨hlL,_,hoL,fun e he hb=>by
      have hlt:=Array.all_eq_true'.1 h1.1.1.2 e he
      rw[hb] at hlt
      exact hls e.on (by simpa using hlt)⟩
    rw[hr] at this
    cases this
  intro fuel
  induction fuel with
  | zero =>
    intro listed a w hz hzl hlL hI hFO
    have:=left_less hLl hI.size (hlL L (Nat.le_refl _) hLl)
    omega
  | succ fuel ih =>
    intro listed a w hz hzl hlL hI hFO
    refine⟨fun hr=>absurd hr (hnil listed a w (hlL L (Nat.le_refl _) hLl) hI),fun i hi=>?_⟩
    obtain⟨hu,o,ho,hall2⟩:=mem_ready.1 hi
    have hlt:i<ops.size:=(Array.getElem?_eq_some_iff.1 ho).1
    have hanc:=Plan.anc_listed hp hI i o ho hall2
    obtain⟨val,own,hown,hk,_⟩:=hI.facts
    by_cases hiL:L≤i
    · have hls:∀j,j<L→listed.getD j false=true:=fun j hj=>by
        have hiL':i=L:=by
          rcases Nat.lt_or_ge L i with h | h
          · exfalso
            obtain⟨o',ho',e,he,hb,hon⟩:=chainB_at hch h hlt
            rw[ho] at ho'
            cases ho'
            have h1:=hall2 e he hb
            have h2:=hlL e.on (by omega) (by omega)
            have hs:=hI.size
            have h':e.on<listed.size:=by omega
            simp only[Array.getD_eq_getD_getElem?,Array.getElem?_eq_getElem h',Option.getD_some] at h1 h2
            rw[h1] at h2
            cases h2
          · omega
        subst hiL'
        have hj2:=List.all_eq_true.1 hall j (List.mem_range.2 hj)
        simp only[Bool.or_eq_true,beq_iff_eq] at hj2
        rcases hj2 with rfl | hj2
        · exact hzl
        · exact hanc j (by simpa using hj2)
      have HT:=hend a w val own hI.base hFO hown fun j hj=>hk j (by omega) (hls j hj)
      have HA:=wpAny_tail (P:=P) (Q:=Q) (fun i o ho e he hb=>by
        have h1:=p.ok_at hp ho
        simp only[Plan.ok1,Bool.and_eq_true] at h1
        have hlt:=Array.all_eq_true'.1 h1.1.1.2 e he
        rw[hb] at hlt
        simpa using hlt) hch (ops.size - L) L (fuel+1) listed a w (by omega) (tail_fuel hI.size (Nat.le_of_lt hLl) hlL hz) (Nat.le_refl _) hI.size hls hlL HT
      exact HA.2 i hi
    · have hancs:∀j∈p.anc.getD i [],j<ops.size:=fun j hj=>by
        have:=hanc j hj
        have hs:=hI.size
        rcases Nat.lt_or_ge j listed.size with h' | h'
        · omega
        · simp[Array.getElem?_eq_none h'] at this
      refine wpOp_mono ?_ (hstep i (by omega) a w val own hI.base hFO hown fun j hj=>hk j (hancs j hj) (hanc j hj))
      rintro a' w' ⟨v,rfl,hdo,hF⟩
      refine ih _ _ _ (by have:=left_less hlt hI.size hu;omega) (getD_set_mono hzl) (fun k hk1 hk2=>by rw[getD_set_ne true (by omega)];exact hlL k hk1 hk2) ⟨by simp[hI.size],?_,hdo.base,frame_put hI.frame,upd val i v,ownBy own w i,?_,?_,fun f hf=>by cases hf⟩ (by
        have he:dstOf (ops.extract 0 L) i=dstOf ops i:=by unfold dstOf;rw[Array.getElem?_extract,if_pos (by omega),Nat.zero_add]
        rw[←he]
        exact frame_put hFO)
      · intro k ok hok hkl e he hb
        rcases getD_set_or hkl with rfl | hkl
        · rw[ho] at hok
          cases hok
          exact getD_set_mono (hall2 e he hb)
        · exact getD_set_mono (hI.down k ok hok hkl e he hb)
      · intro r hr
        unfold ownBy
        rw[if_pos (Nat.lt_of_lt_of_le hr hI.base.size)]
        exact hown r hr
      · intro k hkl hkt
        rcases getD_set_or hkt with rfl | hkt
        · refine⟨fun d hd=>?_,hF⟩
          have h1:=p.ok_at hp ho
          simp only[Plan.ok1,Bool.and_eq_true] at h1
          have hod:o.dst=some d:=by simpa [dstOf,ho] using hd
          have hdl:=h1.1.2
          rw[hod] at hdl
          have hdl':d<a0.tmps.size:=by simpa using hdl
          rw[hd]
          simp only[Act.put,upd,if_true]
          have hda:d<a.tmps.size:=by rw[hI.frame.size];exact hdl'
          simp[hda]
        · have hok:ops[k]?=some ops[k]:=Array.getElem?_eq_getElem hkl
          have hne:i≠k:=by
            rintro rfl
            have hs:=hI.size
            have h':i<listed.size:=by omega
            simp[h'] at hu hkt
            rw[hu] at hkt
            cases hkt
          refine known_step hp hstab hok hlt hne ?_ hdo (hk k hkl hkt)
          intro hm
          have:=Plan.anc_listed hp hI k ops[k] hok (fun e he hb=>hI.down k _ hok hkt e he hb) i hm
          have hs:=hI.size
          have h':i<listed.size:=by omega
          simp[h'] at hu this
          rw[hu] at this
          cases this
theorem wp_region_fv {P:Program} {id:Nat} {ops:Array Oper} {Q:QT} {a0:Act} {w0:World} (anc see wr:List (List Nat)) (fs:List (OpF w0 w0.heap.size)) (n:Nat) (m:Nat) (z:Nat) (z0:Value) (hn:ops.size=n+(m+1)) (hch:chainB ops n=true) (hm:P.follows .mixedOrders=true) (hp:(planOf anc see wr fs).ok ops a0.tmps.size=true) (hall:(List.range n).all (fun j=>j == z || ((planOf anc see wr fs).anc.getD n []).contains j)=true)
    (hzn:z<n) (hs:Region.noSelect ops=true) (hfr:Region.free .any ops (Array.replicate ops.size false) z=true) (hrd:(Region.ready .any ops (Array.replicate ops.size false)).contains z=true) (hna:(match ops[z]? with | some o=>o.after.size == 0 | none=>false)=true)
    (hQ:∀c a w,Q (.panic c) (a.put (dstOf ops z) z0) w→Q (.panic c) a w) {o0:Oper} (ho0:ops[z]?=some o0) (hy:Yields P ops o0 z0 a0) (hF0:factOf fs z (((planOf anc see wr fs).see.getD z []).map (upd (fun _=>undef) z z0)) (fun _=>1000) w0.drew)
    (hstep:∀i,i<n→StepOkU P Q w0 a0 (planOf anc see wr fs) ops (ops.extract 0 n) (factOf fs) i)
    (hend:∀a w val own,Below w0.heap.size w0 w→FrameOk (ops.extract 0 n) a0 a→(∀r,r<w0.heap.size→own r=1000)→(∀i,i<n→Known ops (planOf anc see wr fs) (factOf fs) val own a w i)→tailWp P ops Q (m+1) n a w) :
    (Code.region id ops true).wp P Q a0 w0:=by
  have hzl:z<ops.size:=by omega
  have hzo:ops[z]?=some ops[z]:=Array.getElem?_eq_getElem hzl
  have hdz:dstOf ops z=ops[z].dst:=by unfold dstOf;rw[hzo];rfl
  have hfz:dstOf (ops.extract 0 n) z=dstOf ops z:=by unfold dstOf;rw[Array.getElem?_extract,if_pos (by omega),Nat.zero_add]
  have hsz:ops.size=(ops.size - 1)+1:=by omega
  rw[hzo] at hna
  have hna':ops[z].after.size=0:=by simpa using hna
  refine wp_region_any hm ?_
  have H:wpAny P .any ops Q ((ops.size - 1)+1) (Array.replicate ops.size false) a0 w0.drew:=by
    refine wpAny_take hzo hs hfr hrd (by rw[←hdz];exact hQ) (by rw[hzo] at ho0;cases ho0;exact hy) ?_
    rw[←hdz]
    refine wpAny_lastV (z:=z) (planOf anc see wr fs) (factOf fs) (by omega) hch hp hzn hall (fs_stab anc see wr fs _) hstep (by rw[show ops.size - n=m+1 by omega];exact hend) _ _ _ _ ?_ ?_ ?_ ?_ ?_
    · have h1:=left_less (l:=Array.replicate ops.size false) hzl (by simp) (by simp[hzl])
      have h2:leftN (Array.replicate ops.size false) ops.size≤ops.size:=by
        unfold leftN
        exact Nat.le_trans (List.length_filter_le _ _) (by simp)
      omega
    · simp[hzl]
    · intro k h1 h2
      rw[getD_set_ne true (by omega)]
      simp[h2]
    · refine⟨by simp,?_,(Below.refl _ w0).drew,frame_put ⟨rfl,rfl,fun _ _=>rfl⟩,upd (fun _=>undef) z z0,fun _=>1000,fun _ _=>rfl,?_,fun f hf=>by cases hf⟩
      · intro i o ho hl e he
        rcases getD_set_or hl with rfl | hl
        · rw[hzo] at ho
          cases ho
          rw[Array.eq_empty_of_size_eq_zero hna'] at he
          simp at he
        · have hi:i<ops.size:=(Array.getElem?_eq_some_iff.1 ho).1
          simp[hi] at hl
      · intro i hi hl
        rcases getD_set_or hl with rfl | hl
        · refine⟨fun d hd=>?_,hF0⟩
          have h1:=Plan.ok_at hp hzo
          simp only[Plan.ok1,Bool.and_eq_true] at h1
          have hod:ops[i].dst=some d:=by rw[←hdz];exact hd
          have hdl:=h1.1.2
          rw[hod] at hdl
          have hdl':d<a0.tmps.size:=by simpa using hdl
          rw[hd]
          simp[Act.put,upd,hdl']
        · simp[hi] at hl
    · rw[←hfz]
      exact frame_put ⟨rfl,rfl,fun _ _=>rfl⟩
  rw[←hsz] at H
  exact H
theorem wanted_is {ops:Array Oper} {o:Oper} {a:Act} {g:Nat} {b c:Bool} {d:Tmp} (ho:o.guard=some (g,b)) (hd:dstOf ops g=some d) (hv:a.tmps[d]?.getD undef=.bool c):Region.wanted o (yielded ops a.tmps)=(c == b):=by
  have h1:a.tmps[d]?=some (.bool c):=by
    cases e:a.tmps[d]? with
    | none=>rw[e] at hv;cases hv
    | some v=>rw[e] at hv;exact congrArg some hv
  have h2:yielded ops a.tmps g=some c:=by
    unfold yielded
    have h3:(ops[g]?).bind (·.dst)=some d:=hd
    rw[h3,Option.bind_some,h1]
  unfold Region.wanted
  rw[ho]
  show(yielded ops a.tmps g == some b)=(c == b)
  rw[h2]
  cases c <;> cases b <;> rfl
theorem wanted_of {ops:Array Oper} {o:Oper} {a:Act} {g:Nat} {b:Bool} {d:Tmp} (ho:o.guard=some (g,b)) (hd:dstOf ops g=some d) (hv:a.tmps[d]?.getD undef=.bool b):Region.wanted o (yielded ops a.tmps)=true:=by
  rw[wanted_is ho hd hv]
  cases b <;> rfl
theorem unwanted_of {ops:Array Oper} {o:Oper} {a:Act} {g:Nat} {b:Bool} {d:Tmp} (ho:o.guard=some (g,b)) (hd:dstOf ops g=some d) (hv:a.tmps[d]?.getD undef=.bool (!b)):Region.wanted o (yielded ops a.tmps)=false:=by
  rw[wanted_is ho hd hv]
  cases b <;> rfl
theorem rf_not {P:Program} {ops:Array Oper} {Q:QT} {W:World} {B:Nat} {p:Plan} {F:Nat→Fact} {a:Act} {w:World} {i:Nat} {val:Nat→Value} {own:Nat→Nat} {o:Oper} (hB:Below B W w) (ho:ops[i]?=some o) (hg:Region.wanted o (yielded ops a.tmps)=false) (hF:F i ((p.see.getD i []).map (upd val i undef)) (ownBy own w i) w) :
    wpOp P ops Q i (fun a' w'=>∃v,a'=a.put (dstOf ops i) v∧Does W B (p.wr.getD i []) own w w'∧F i ((p.see.getD i []).map (upd val i v)) (ownBy own w i) w') a w:=by
  unfold wpOp
  simp only[ho,hg,Bool.false_eq_true,if_false]
  exact⟨undef,by simp[dstOf,ho],Does.same hB _ _,hF⟩
end Go.Proofs.YtjbgpcileapogaaGreat

/-
  HeapNew of the program: the first call of a program that is ok, in memory of its own; else nothing.
-/
import Derived.Test.YtbjgjjkgfnfejaaGreatDoorSMem2
import Derived.Test.YtbjgjjkgfnfejaaGreatDoorStepT
import Derived.Test.YtbjgjjkgfnfejaaGreatDoorQB
namespace Go.Proofs.YtbjgjjkgfnfejaaGreatDoor
set_option maxHeartbeats 4000000
set_option maxRecDepth 100000
open Go.RowKit
def yr (ms:zM):Nat:=(ms.getD 0 (0,0,[])).2.1.toNat
def kh (ms:zM):Hp :=
 if yn ms=true then⟨[⟨0,0,List.replicate (yr ms) (0,0),[],-1,false⟩],0,1,[],0⟩ else⟨[],0,0,[],0⟩
theorem YD {ms:zM} (h:yn ms=true):∃hl:0<ms.length,0<=ms[0].2.1/\ms[0].2.1<=4/\(yr ms:Int)=ms[0].2.1/\yr ms<=4:=by
 unfold yn at h
 simp only[Bool.and_eq_true] at h
 have hl:=zx.1 h.1.1
 have h0:0<ms.length:=by omega
 have ha:=List.all_eq_true.1 h.2 _ (List.getElem_mem h0)
 unfold qe at ha
 simp only[Bool.and_eq_true] at ha
 have a1:=zx.1 ha.1.1.1
 have a2:=zx.1 ha.1.1.2
 have e:yr ms=(ms[0].2.1).toNat:=by simp[yr,h0]
 exact⟨h0,by omega,by omega,by rw[e];omega,by rw[e];omega⟩
theorem Vd {B:Nat} (w:World) (t:Nat) (ty:TypeId) (hB:B<=w.heap.size) (ht:t<=1000):zl B (w.alloc (.cells (madeCells #[zI 0,zI 0] (t * 2)) ty)) (zK w.heap.size 0 t t) (List.replicate t (0,0)):=by
 have h:=Uj w (t * 2) ty []
 refine .inr ⟨w.heap.size,0,t,by simp,hB,h.lt,by simp,by unfold maxLen;omega,fun i hi=>?_,fun i hi=>?_⟩
 ·rw[Nat.zero_add]
  exact⟨by rw[h.cell hi];rfl,h.frozen i⟩
 ·simp at hi
  rw[Nat.zero_add]
  have h1:=h.cell (i:=i * 2) (by omega)
  have h2:=h.cell (i:=i * 2+1) (by omega)
  simp only[List.getElem_replicate]
  rw[h1,h2,if_neg (by omega),if_neg (by omega)]
  exact⟨rfl,rfl⟩
theorem zc8 (l:List Nat) (i:Nat) (h:i<(Kg l).length):(Kg l)[i]=((l[i]'(by simpa [Kg] using h):Nat):Int):=by simp[Kg]
theorem zew {ops:Array Oper} {rest:List Oper} {o:Oper} {act:Act} {Q:Exit->Act->World->Prop} (w:World) (hgd:o.guard=none) (s x:Operand)
 (ho:o.op=.call {callee:=.builtin .append,args:=#[s,x],argTypes:=#[30,30]}) (B:Nat) (v:Value) (L:List Int) (hs:act.eval s=v) (zE:zL B w v L) (k:Int) (H c:Nat) (hH:w.heap.size=H)
 (hx:act.eval x=zK H 0 1 c) (hL:L.length<=900000) (hB:B<=H)
 (h:∀g off cap w',zL B w' (zK g off (L.length+1) cap) (L ++ [k])->w.grownBy w' v.ownBlock->(v.ownBlock=some g\/H<=g)->g<w'.heap.size ->
  wpList Tryz.prog ops Q rest (act.put o.dst (zK g off (L.length+1) cap)) w') :
 wpList Tryz.prog ops Q (o :: rest) act (w.alloc (.cells #[.int .i64 k] 3)):=by
 obtain⟨i0,hi,jM,xP,vJ⟩:=info_parts Tryz.infoInt2
 exact zbN Tryz.underlying30 hi jM xP vJ w hgd s x ho v L hs zE k H c hH hx hL hB h
theorem zaX {α β:Type} {f:α->β} {l:List α} {k:Nat} (h:k<l.length):(l.take k).map f ++ [f l[k]]=(l.take (k+1)).map f:=by
 rw[List.take_add_one,List.getElem?_eq_getElem h,List.map_append]
 rfl
theorem ur {a b:Int} (h:a=b):Ending.returned (zI a)=Ending.returned (zI b):=by rw[h]
def Uc (xs:List Int) (v:Int):Int:=match xs.findIdx? (fun x=>x == v) with | some i=>(i:Int) | none=>-1
theorem K2 {xs:List Int} {v:Int} {k:Nat} (hk:k<xs.length) (he:xs[k]=v) (hno:∀j,(hj:j<xs.length)->j<k->xs[j]≠v):Uc xs v=(k:Int):=by
 have:xs.findIdx? (fun x=>x == v)=some k:=by
  rw[List.findIdx?_eq_some_iff_getElem]
  exact⟨hk,by simp[he],fun j hj=>by simp[hno j (by omega) hj]⟩
 unfold Uc
 rw[this]
theorem UF {xs:List Int} {v:Int} (hno:∀j,(hj:j<xs.length)->xs[j]≠v):Uc xs v=-1:=by
 have:xs.findIdx? (fun x=>x == v)=none:=by
  rw[List.findIdx?_eq_none_iff]
  intro x hx
  obtain⟨j,hj,rfl⟩:=List.getElem_of_mem hx
  simp[hno j hj]
 unfold Uc
 rw[this]
theorem zfi {xs:List Int} {v:Int}:decide (0<=Uc xs v)=decide (v∈xs):=by
 by_cases h:v∈xs
 ·obtain⟨j,hj,e⟩:=List.getElem_of_mem h
  have hs:(xs.findIdx? (fun x=>x == v)).isSome=true:=by
   rw[List.findIdx?_isSome]
   exact List.any_eq_true.2 ⟨v,h,by simp⟩
  obtain⟨i,hi⟩:=Option.isSome_iff_exists.1 hs
  unfold Uc
  rw[hi]
  simp[h]
 ·have:=UF (xs:=xs) (v:=v) (fun j hj e=>h (e ▸ List.getElem_mem hj))
  rw[this]
  simp[h]
theorem Yp (v:Value) (xs:List Int) (x:Int) (w:World) (h:ug w v xs) :
 Calls Tryz.prog 120 #[v,zI x] w fun e w'=>e=.returned (zI (Uc xs x))/\w'=w:=by
 obtain⟨a,cap,rfl,hl,hc⟩:=h
 unfold maxLen at hl
 go_enter Tryz.func120,Tryz.ntmps120
 go_wp2
 go_loopg [5,8] xs.length (fun g _ i wr=>∃k:Nat,k<=xs.length/\g=xs.length - k/\i=zI k/\wr=w/\∀j,(hj:j<xs.length)->j<k->xs[j]≠x)
 case atStart=>exact⟨0,Nat.zero_le _,rfl,rfl,rfl,fun j _ h=>absurd h yB⟩
 case round =>
  obtain⟨k,hk,rfl,rfl,hw,hall⟩:=hrel
  obtain rfl:=hw.symm
  have H:Hid (∀j,(hj:j<xs.length)->j<k->xs[j]≠x):=hall
  clear hall hw
  by_cases yt:k<xs.length
  ·obtain⟨b,o,rfl,c0⟩:=hc k yt
   have v7:(k:Int)<(xs.length:Int):=by omega
   by_cases he:xs[k]=x
   ·have HE:Hid (Uc xs x=(k:Int)):=K2 yt he H.out
    rw[he] at c0
    go_wp2
    go_ret
    exact⟨ur HE.out.symm,rfl⟩
   ·have xp:(x == xs[k])=false:=by simp;exact fun e=>he e.symm
    have HN:Hid (∀j,(hj:j<xs.length)->j<k+1->xs[j]≠x):=fun j hj hjk=>by
     by_cases e:j=k
     ·subst e;exact he
     ·exact H.out j hj (by omega)
    have hne2:¬(x=xs[k]):=fun e=>he e.symm
    clear H
    go_wp2
    go_roundg (xs.length - (k+1))
    case measure=>omega
    case rel=>exact⟨k+1,by omega,rfl,by go_num,rfl,HN.out⟩
  ·obtain rfl:k=xs.length:=by omega
   have HE:Hid (Uc xs x=-1):=UF fun j hj=>H.out j hj hj
   go_wp2
   go_ret
   exact⟨ur HE.out.symm,rfl⟩
theorem Xa (v:Value) (xs:List Int) (x:Int) (w:World) (h:ug w v xs) :
 Calls Tryz.prog 104 #[v,zI x] w fun e w'=>e=.returned (.bool (decide (x∈xs)))/\w'=w:=by
 obtain⟨a,cap,hv⟩:=h.shape
 subst hv
 go_enter Tryz.func104,Tryz.ntmps104
 go_wp2_with (go_at_call 120;refine(Yp _ xs _ _ h).mono ?_;rintro e w' ⟨rfl,hw⟩;obtain rfl:=hw.symm)
 go_ret
 exact⟨zp zfi,rfl⟩
def Yj (ts:List Tw) (k:Nat):Nat:=((ts.take k).filter fun t=>t.page == -1).length
theorem zcw {ts:List Tw} {k:Nat} (h:k<ts.length):Yj ts (k+1)=Yj ts k+(if ts[k].page=-1 then 1 else 0):=by
 unfold Yj
 rw[List.take_add_one,List.getElem?_eq_getElem h,List.filter_append]
 simp only[Option.toList_some,List.length_append]
 by_cases e:ts[k].page=-1 <;> simp[e]
theorem za3 (ts:List Tw) (k:Nat):Yj ts k<=k:=by
 unfold Yj
 exact Nat.le_trans (List.length_filter_le _ _) (by simp;omega)
def Zx (m:Mc):Nat:=yc m.za+Yj m.zd m.zd.length
theorem zal (vp vo vt vs:Value) (m:Mc) (w:World) (h:yC w vp vo vt vs m) (hn:m.za.length<=1048576) (hf:yc m.za<=1099511627776) (htn:m.zd.length<=1099511627776) :
 Calls Tryz.prog 62 #[.agg (zu vp vo vt vs m).toArray] w fun e w'=>e=.returned (zI (Zx m:Int))/\zO w w':=by
 obtain⟨ap,cp,qz,hlp,hcp⟩:=id h.p
 obtain⟨ao,co,jw,hlo,hco⟩:=id h.o
 obtain⟨at',ct,jA,hlt',hct⟩:=id h.t
 obtain⟨as',cs,jG⟩:=h.s.shape
 subst qz jw jA jG
 unfold zu
 go_enter Tryz.func62,Tryz.ntmps62
 go_upto_region 1 with fail
 refine yg (fun W=>zO w W/\Bx W w.heap.size 34 [.int .i64 m.cells,.slice ap m.za.length cp,.slice ao m.order.length co,.int .i64 m.now,.slice at' m.zd.length ct,.int .i64 m.born,.slice as' m.zm.length cs,.int .i64 m.code]) ⟨zR _ _,Bx.new w _ _⟩ ?_
 rintro W ⟨hb,hm⟩
 obtain⟨⟨m0,m1,m2,m3,m4,m5,m6,m7⟩,_⟩:=jW hm
 have HF:=QY _ _ _ _ m W (h.below hb) hn hf
 unfold zu at HF
 have zb:=hb.size
 go_wp2_with fail
 refine HF.mono ?_
 rintro e W1 ⟨rfl,t1⟩
 have qk:=hb.trans (t1.mono zb)
 have V8:=hm.below t1
 have z1:=qk.size
 have HC:Hid (Zx m=yc m.za+Yj m.zd m.zd.length):=rfl
 clear HF t1 hm hb zb m0 m1 m2 m3 m4 m5 m6 m7
 obtain⟨⟨_,_,_,_,m4,_,_,_⟩,_⟩:=jW V8
 go_wp2_with fail
 go_loopg [3,5,11] m.zd.length (fun g n _ i wr=>∃k:Nat,k<=m.zd.length/\g=m.zd.length - k/\i=zI k/\n=zI ((yc m.za+Yj m.zd k:Nat):Int)/\zO w wr)
 case atStart=>exact⟨0,Nat.zero_le _,rfl,rfl,by simp[Yj],qk⟩
 case round =>
  clear m4 V8 qk z1
  obtain⟨k,hk,rfl,rfl,rfl,hb⟩:=hrel
  by_cases yt:k<m.zd.length
  ·obtain⟨b,o,vt,vs,rfl,ZT⟩:=hct k yt
   obtain⟨d0,d1,d2,d3,d4,d5,d6,d7,dt,ds⟩:=ZT.below hb
   obtain⟨a1,k1,e1⟩:=dt.shape
   obtain⟨a2,k2,e2⟩:=ds.shape
   rw[e1] at d4
   rw[e2] at d5
   have v7:(k:Int)<(m.zd.length:Int):=by omega
   have hof:=zcw yt
   have hol:=za3 m.zd k
   have zb:=hb.size
   have HB2:Hid (∀o,zO w (wr.alloc o)):=fun o=>hb.alloc zb _
   clear e1 e2 dt ds ZT hct
   obtain⟨n,hn'⟩:∃n,yc m.za+Yj m.zd k=n:=⟨_,rfl⟩
   have hnb:n<=2199023255552:=by omega
   by_cases hp:m.zd[k].page=-1
   ·rw[if_pos hp] at hof
    have HN:Hid (yc m.za+Yj m.zd (k+1)=n+1):=by show _=_;omega
    rw[hp] at d0
    rw[hn']
    clear hof hn' hol hb
    go_wp2
    go_roundg (m.zd.length - (k+1))
    case measure=>omega
    case rel=>exact⟨k+1,by omega,rfl,by go_num,by rw[HN.out];simp,HB2.out _⟩
   ·rw[if_neg hp] at hof
    have HN:Hid (yc m.za+Yj m.zd (k+1)=n):=by show _=_;omega
    have hpe:(m.zd[k].page == -1)=false:=by simpa using hp
    rw[hn']
    clear hof hn' hol hb
    go_wp2
    go_roundg (m.zd.length - (k+1))
    case measure=>omega
    case rel=>exact⟨k+1,by omega,rfl,by go_num,by rw[HN.out],HB2.out _⟩
  ·obtain rfl:k=m.zd.length:=by omega
   go_wp2
   go_ret
   exact⟨ur (by rw[HC.out]),hb⟩
def kz (m:Mc):Bool:=decide (m.order.length=m.za.length) && (List.range m.za.length).all fun i=>decide ((i:Int)∈m.order)
theorem zd9 {m:Mc} {k:Nat} (hk:k<m.za.length) (h:¬((k:Int)∈m.order)):kz m=false:=by
 unfold kz
 rw[Bool.and_eq_false_iff]
 right
 rw[List.all_eq_false]
 exact⟨k,List.mem_range.2 hk,by simpa using h⟩
theorem zcy {m:Mc} (hl:m.order.length=m.za.length) (h:∀k,k<m.za.length->(k:Int)∈m.order):kz m=true:=by
 unfold kz
 rw[Bool.and_eq_true_iff]
 exact⟨by simpa using hl,List.all_eq_true.2 fun k hk=>by simpa using h k (List.mem_range.1 hk)⟩
theorem za7 (vp vo vt vs:Value) (m:Mc) (w:World) (h:yC w vp vo vt vs m) :
 Calls Tryz.prog 59 #[.agg (zu vp vo vt vs m).toArray] w fun e w'=>e=.returned (.bool (kz m))/\zO w w':=by
 obtain⟨ap,cp,qz,hlp,hcp⟩:=id h.p
 obtain⟨ao,co,jw,hlo,hco⟩:=id h.o
 obtain⟨at',ct,jA,hlt',hct⟩:=id h.t
 obtain⟨as',cs,jG⟩:=h.s.shape
 subst qz jw jA jG
 unfold zu
 unfold maxLen at hlp hlo
 have HO:=h.o
 go_enter Tryz.func59,Tryz.ntmps59
 go_upto_region 1 with fail
 refine yg (fun W=>zO w W/\Bx W w.heap.size 34 [.int .i64 m.cells,.slice ap m.za.length cp,.slice ao m.order.length co,.int .i64 m.now,.slice at' m.zd.length ct,.int .i64 m.born,.slice as' m.zm.length cs,.int .i64 m.code]) ⟨zR _ _,Bx.new w _ _⟩ ?_
 rintro W ⟨hb,hm⟩
 obtain⟨⟨m0,m1,m2,m3,m4,m5,m6,m7⟩,_⟩:=jW hm
 have HOW:Hid (ug W (.slice ao m.order.length co) m.order):=HO.below hb
 by_cases hle:m.order.length=m.za.length
 case neg =>
  have HE:Hid (kz m=false):=by show _=_;unfold kz;simp[hle]
  have hlz:¬((m.order.length:Int)=(m.za.length:Int)):=by omega
  go_wp2
  go_ret
  exact⟨zp HE.out.symm,hb⟩
 have HLE:Hid (m.order.length=m.za.length):=hle
 rw[hle] at m2 HOW
 clear hle
 go_wp2_with fail
 go_loopg [3,14] m.za.length (fun g _ i wr=>∃k:Nat,k<=m.za.length/\g=m.za.length - k/\i=zI k/\wr=W/\∀j,j<k->(j:Int)∈m.order)
 case atStart=>exact⟨0,Nat.zero_le _,rfl,rfl,rfl,fun j h=>absurd h yB⟩
 case round =>
  obtain⟨k,hk,rfl,rfl,hw,hall⟩:=hrel
  obtain rfl:=hw.symm
  have H:Hid (∀j,j<k->(j:Int)∈m.order):=hall
  clear hall hw
  by_cases yt:k<m.za.length
  ·have v7:(k:Int)<(m.za.length:Int):=by omega
   obtain⟨f,hf⟩:∃f,decide ((k:Int)∈m.order)=f:=⟨_,rfl⟩
   have HC:=Xa _ m.order (k:Int) W HOW.out
   rw[hf] at HC
   go_wp2_with fail
   refine HC.mono ?_
   rintro e W1 ⟨rfl,hw⟩
   obtain rfl:=hw.symm
   clear hw HC
   cases f
   ·have HE:Hid (kz m=false):=zd9 yt (by simpa using hf)
    go_wp2
    go_ret
    exact⟨zp HE.out.symm,hb⟩
   ·have HN:Hid (∀j,j<k+1->(j:Int)∈m.order):=fun j hj=>by
     by_cases e:j=k
     ·subst e;simpa using hf
     ·exact H.out j (by omega)
    clear hf H
    go_wp2
    go_roundg (m.za.length - (k+1))
    case measure=>omega
    case rel=>exact⟨k+1,by omega,rfl,by go_num,rfl,HN.out⟩
  ·obtain rfl:k=m.za.length:=by omega
   have HE:Hid (kz m=true):=zcy HLE.out H.out
   go_wp2
   go_ret
   exact⟨zp HE.out.symm,hb⟩
theorem zan (a:Option Addr) (n c:Nat) (w:World) (hn:n<=1099511627776):Calls Tryz.prog 108 #[.slice a n c] w fun e w'=>e=.returned (zI ((10+n:Nat):Int))/\w'=w:=by
 go_enter Tryz.func108,Tryz.ntmps108
 go_wp2
 go_ret
 exact⟨ur (by omega),rfl⟩
def yw.fr (L:yw) (i k:Nat):Option jV:=(L.za[i]?).bind fun p=>p.zg[k]?
def Ya (ts:List km) (j:Int):Int:=if j<0 then -1 else((ts[j.toNat]?).map fun t=>(t.body:Int)).getD (-1)
def yP (ts:List km) (v:Int × Int):Int × Int:=if v.1=2 then(2,Ya ts v.2) else v
def Zr (n:Nat) (vs:yH):Prop:=∀v∈vs,v.1=2->∃j:Nat,v.2=(j:Int)/\j<n
def ui (n:Nat) (j:Int):Prop:=j=-1\/∃k:Nat,j=(k:Int)/\k<n
def Pr (I K i k:Nat):Prop:=¬(i=I/\k<K)
def qE (L:yw) (i k:Nat):Int:=match k with
 | 0=>Ya L.zd (((L.za[i]?).map (fun p:ws=>p.base)).getD (-1))
 | k+1=>((L.fr i k).map fun f=>(f.body:Int)).getD (-1)
structure Yy (ts:List km) (b:jg) (c:Cl):Prop where
 m:c.m=b.m
 pc:c.pc=b.pc
 zy:c.zy=b.zy
 zh:c.zh=b.zh.map (yP ts)
 zf:c.zf=b.zf.map (yP ts)
 vt:Zr ts.length b.zh
 vs:Zr ts.length b.zf
structure xE (I K:Nat) (L:yw) (h:Hp):Prop where
 fb:∀(i k:Nat) (f:jV),L.fr i k=some f->Pr I K i k->f.body<L.zj.length/\(f.twin=-1\/∃(j:Nat) (s:Int),f.twin=(j:Int)/\L.zd[j]?=some ⟨(i:Int),(k:Int),f.body,s⟩)
 tb:∀(j:Nat) (t:km),L.zd[j]?=some t->t.body<L.zj.length/\(t.page=-1\/∃(i k:Nat) (f:jV),L.fr i k=some f/\Pr I K i k/\f.twin=(j:Int)/\f.body=t.body/\t.page=(i:Int)/\t.place=(k:Int))
 fi:∀(i k:Nat) (f:jV) (i' k':Nat) (f':jV),L.fr i k=some f->Pr I K i k->L.fr i' k'=some f'->Pr I K i' k'->f.body=f'.body->i=i'/\k=k'
 ti:∀(j:Nat) (t:km) (j':Nat) (t':km),L.zd[j]?=some t->L.zd[j']?=some t'->t.body=t'.body->j=j'
 tf:∀(i k:Nat) (f:jV) (j:Nat) (t:km),L.fr i k=some f->Pr I K i k->L.zd[j]?=some t->t.page=-1->t.body≠f.body
 ba:∀(i:Nat) (p:ws),L.za[i]?=some p->ui L.zd.length p.base
 se:∀(j:Nat) (t:km),L.zd[j]?=some t->t.page=-1->ui L.zd.length t.zi
 al:∀(i k:Nat) (f:jV) (b:jg),L.fr i k=some f->Pr I K i k->L.zj[f.body]?=some b->b.zy=false
 n:h.ze.length=L.zj.length
 c:∀(k:Nat) (b:jg),L.zj[k]?=some b->∃c,h.ze[k]?=some c/\Yy L.zd b c
 fs:∀(i k:Nat) (f:jV) (c:Cl),L.fr i k=some f->Pr I K i k->h.ze[f.body]?=some c->c.zi=qE L i k
 ts:∀(j:Nat) (t:km) (c:Cl),L.zd[j]?=some t->t.page=-1->h.ze[t.body]?=some c->c.zi=Ya L.zd t.zi
theorem xE.noTwin {I K:Nat} {L:yw} {h:Hp} (s:xE I K L h) {i k:Nat} {f:jV} (hf:L.fr i k=some f) (hp:Pr I K i k) (h0:f.twin=-1) (j:Nat) (t:km) (ht:L.zd[j]?=some t):t.body≠f.body:=fun e=>by
 rcases(s.tb j t ht).2 with h1 | ⟨i',k',g,h1,h2,h3,h4,_⟩
 ·exact s.tf i k f j t hf hp ht h1 e
 ·obtain⟨rfl,rfl⟩:=s.fi i' k' g i k f h1 h2 hf hp (h4.trans e)
  rw[hf] at h1
  cases h1
  rw[h0] at h3
  omega
structure qx (ts ts':List km):Prop where
 le:ts.length<=ts'.length
 eq:∀(j:Nat) (t:km),ts[j]?=some t->∃t',ts'[j]?=some t'/\t'.body=t.body
theorem qx.refl (ts:List km):qx ts ts:=⟨Nat.le_refl _,fun _ t h=>⟨t,h,rfl⟩⟩
theorem qx.trans {a b c:List km} (h:qx a b) (k:qx b c):qx a c:=⟨Nat.le_trans h.le k.le,fun j t e=>by
 obtain⟨t1,e1,b1⟩:=h.eq j t e
 obtain⟨t2,e2,b2⟩:=k.eq j t1 e1
 exact⟨t2,e2,b2.trans b1⟩⟩
theorem qx.snoc (ts:List km) (t:km):qx ts (ts ++ [t]):=⟨by simp,fun j x h=>⟨x,by
 obtain⟨hj,_⟩:=List.getElem?_eq_some_iff.1 h
 rw[List.getElem?_append_left hj];exact h,rfl⟩⟩
theorem qx.set (ts:List km) (j:Nat) (x t:km) (h:ts[j]?=some t) (e:x.body=t.body):qx ts (ts.set j x):=⟨by simp,fun q y hy=>by
 obtain⟨hq,_⟩:=List.getElem?_eq_some_iff.1 hy
 by_cases hqj:j=q
 ·subst hqj
  rw[h] at hy
  cases hy
  exact⟨x,by rw[List.getElem?_set_self hq],e⟩
 ·exact⟨y,by rw[List.getElem?_set_ne hqj];exact hy,rfl⟩⟩
theorem ui.ext {n n':Nat} {j:Int} (h:ui n j) (hn:n<=n'):ui n' j:=h.imp id fun⟨k,e,hk⟩=>⟨k,e,by omega⟩
theorem wl {ts ts':List km} (h:qx ts ts') {j:Int} (hj:ui ts.length j):Ya ts' j=Ya ts j:=by
 rcases hj with rfl | ⟨k,rfl,hk⟩
 ·rfl
 ·obtain⟨t',e1,e2⟩:=h.eq k ts[k] (List.getElem?_eq_getElem hk)
  unfold Ya
  rw[if_neg (by omega),if_neg (by omega),Int.toNat_natCast,e1,List.getElem?_eq_getElem hk]
  simp[e2]
theorem zcM {ts:List km} {j:Nat} {t:km} (h:ts[j]?=some t):Ya ts (j:Int)=(t.body:Int):=by
 unfold Ya
 rw[if_neg (by omega),Int.toNat_natCast,h]
 rfl
theorem Zr.ext {n n':Nat} {vs:yH} (h:Zr n vs) (hn:n<=n'):Zr n' vs:=fun v hv e=>by
 obtain⟨j,e1,e2⟩:=h v hv e
 exact⟨j,e1,by omega⟩
theorem VK {ts ts':List km} (h:qx ts ts') {v:Int × Int} (hv:v.1=2->∃j:Nat,v.2=(j:Int)/\j<ts.length):yP ts' v=yP ts v:=by
 unfold yP
 by_cases e:v.1=2
 ·rw[if_pos e,if_pos e,wl h (.inr (hv e))]
 ·rw[if_neg e,if_neg e]
theorem U1 {ts ts':List km} (h:qx ts ts') {vs:yH} (hv:Zr ts.length vs):vs.map (yP ts')=vs.map (yP ts):=List.map_congr_left fun v m=>VK h (hv v m)
theorem Yy.ext {ts ts':List km} {b:jg} {c:Cl} (a:Yy ts b c) (h:qx ts ts'):Yy ts' b c :=
 ⟨a.m,a.pc,a.zy,by rw[a.zh,U1 h a.vt],by rw[a.zf,U1 h a.vs],a.vt.ext h.le,a.vs.ext h.le⟩
theorem j5 {L L':yw} (h:qx L.zd L'.zd) (hb:∀(i:Nat) (p:ws),L.za[i]?=some p->ui L.zd.length p.base) {i k:Nat} (h0:k=0->(L'.za[i]?).map (fun p:ws=>p.base)=(L.za[i]?).map (fun p:ws=>p.base))
 (h1:∀q,k=q+1->(L'.fr i q).map (·.body)=(L.fr i q).map (·.body)):qE L' i k=qE L i k:=by
 cases k with
 | zero =>
  show Ya L'.zd _=Ya L.zd _
  rw[h0 rfl]
  refine wl h ?_
  cases hp:L.za[i]? with
  | none=>exact .inl rfl
  | some p=>exact hb i p hp
 | succ q =>
  show((L'.fr i q).map fun f=>(f.body:Int)).getD (-1)=((L.fr i q).map fun f=>(f.body:Int)).getD (-1)
  have:=h1 q rfl
  cases e1:L'.fr i q with
  | none =>
   rw[e1] at this
   cases e2:L.fr i q with
   | none=>rfl
   | some g=>rw[e2] at this;cases this
  | some f =>
   rw[e1] at this
   cases e2:L.fr i q with
   | none=>rw[e2] at this;cases this
   | some g =>
    rw[e2] at this
    have:f.body=g.body:=by injection this
    show(f.body:Int)=(g.body:Int)
    rw[this]
def yw.setFr (L:yw) (i k:Nat) (f:jV):yw:={L with za:=L.za.set i {L.za.getD i ⟨-1,[]⟩ with zg:=(L.za.getD i ⟨-1,[]⟩).zg.set k f}}
theorem yw.fr_some {L:yw} {i k:Nat} {f:jV} (h:L.fr i k=some f):∃(hi:i<L.za.length) (hk:k<L.za[i].zg.length),L.za[i].zg[k]=f:=by
 unfold yw.fr at h
 cases hp:L.za[i]? with
 | none=>rw[hp] at h;cases h
 | some p =>
  rw[hp] at h
  obtain⟨hi,rfl⟩:=List.getElem?_eq_some_iff.1 hp
  obtain⟨hk,hf⟩:=List.getElem?_eq_some_iff.1 h
  exact⟨hi,hk,hf⟩
theorem yw.fr_at {L:yw} {i k:Nat} (hi:i<L.za.length) (hk:k<L.za[i].zg.length):L.fr i k=some L.za[i].zg[k]:=by
 unfold yw.fr
 rw[List.getElem?_eq_getElem hi]
 exact List.getElem?_eq_getElem hk
theorem yw.fr_setFr {L:yw} {i k:Nat} {f g:jV} (h:L.fr i k=some f) (i' k':Nat):(L.setFr i k g).fr i' k'=if i'=i/\k'=k then some g else L.fr i' k':=by
 obtain⟨hi,hk,rfl⟩:=yw.fr_some h
 have hg:L.za.getD i ⟨-1,[]⟩=L.za[i]:=by simp[hi]
 unfold yw.setFr yw.fr
 simp only[hg]
 by_cases e:i=i'
 ·subst e
  rw[List.getElem?_set_self hi,List.getElem?_eq_getElem hi]
  show(L.za[i].zg.set k g)[k']?=_
  by_cases e2:k=k'
  ·subst e2
   rw[List.getElem?_set_self hk,if_pos ⟨rfl,rfl⟩]
  ·rw[List.getElem?_set_ne e2,if_neg (fun x=>e2 x.2.symm)]
   rfl
 ·rw[List.getElem?_set_ne e,if_neg (fun x=>e x.1.symm)]
theorem yw.base_setFr {L:yw} {i k:Nat} {g:jV} (i':Nat):((L.setFr i k g).za[i']?).map (fun p:ws=>p.base)=(L.za[i']?).map (fun p:ws=>p.base):=by
 unfold yw.setFr
 simp only
 by_cases e:i=i'
 ·subst e
  by_cases hi:i<L.za.length
  ·rw[List.getElem?_set_self hi]
   simp[hi]
  ·simp[hi]
 ·rw[List.getElem?_set_ne e]
def YI (L:yw) (i k:Nat) (f:jV):yw:={L.setFr i k ⟨f.body,(L.zd.length:Int)⟩ with zd:=L.zd ++ [⟨(i:Int),(k:Int),f.body,0⟩]}
theorem xE.give {I K:Nat} {L:yw} {h:Hp} (s:xE I K L h) {i k:Nat} {f:jV} (hf:L.fr i k=some f) (hp:Pr I K i k) (h0:f.twin=-1):xE I K (YI L i k f) h:=by
 have hno:=s.noTwin hf hp h0
 have hE:qx L.zd (YI L i k f).zd:=qx.snoc _ _
 have hfr:∀i' k',(YI L i k f).fr i' k'=if i'=i/\k'=k then some ⟨f.body,(L.zd.length:Int)⟩ else L.fr i' k':=fun i' k'=>yw.fr_setFr hf i' k'
 -- each frame is one that was there,with the same call
 have old:∀i' k' g,(YI L i k f).fr i' k'=some g->∃g',L.fr i' k'=some g'/\g.body=g'.body/\((i'=i/\k'=k/\g'=f/\g.twin=(L.zd.length:Int))\/(g=g'/\¬(i'=i/\k'=k))):=fun i' k' g hg=>by
  rw[hfr] at hg
  by_cases e:i'=i/\k'=k
  ·rw[if_pos e] at hg
   obtain⟨rfl,rfl⟩:=e
   cases hg
   exact⟨f,hf,rfl,.inl ⟨rfl,rfl,rfl,rfl⟩⟩
  ·rw[if_neg e] at hg
   exact⟨g,hg,rfl,.inr ⟨rfl,e⟩⟩
 have twn:∀j t,(YI L i k f).zd[j]?=some t->(L.zd[j]?=some t/\j<L.zd.length)\/(j=L.zd.length/\t=⟨(i:Int),(k:Int),f.body,0⟩):=fun j t ht=>by
  have ht':(L.zd ++ [(⟨(i:Int),(k:Int),f.body,0⟩:km)])[j]?=some t:=ht
  by_cases hj:j<L.zd.length
  ·rw[List.getElem?_append_left hj] at ht'
   exact .inl ⟨ht',hj⟩
  ·rw[List.getElem?_append_right (by omega)] at ht'
   have:j - L.zd.length=0:=by
    have:=(List.getElem?_eq_some_iff.1 ht').1
    simp at this
    omega
   rw[this] at ht'
   cases ht'
   exact .inr ⟨by omega,rfl⟩
 have hbl:=(s.fb i k f hf hp).1
 have hbase:∀i':Nat,((YI L i k f).za[i']?).map (fun p:ws=>p.base)=(L.za[i']?).map (fun p:ws=>p.base):=fun i'=>yw.base_setFr i'
 have hbel:∀i' k',qE (YI L i k f) i' k'=qE L i' k':=fun i' k'=>j5 hE s.ba (fun _=>hbase i') fun q _=>by
  rw[hfr]
  split
  ·rename_i e
   rw[e.1,e.2,hf]
   rfl
  ·rfl
 refine⟨fun i' k' g hg hP=>?_,fun j t ht=>?_,fun i1 k1 g1 i2 k2 g2 h1 P1 h2 P2 e=>?_,fun j t j' t' h1 h2 e=>?_,fun i' k' g j t hg hP ht xt=>?_,fun i' p hpp=>?_,fun j t ht xt=>?_,fun i' k' g b hg hP hb=>?_,s.n,fun q b hb=>?_,fun i' k' g c hg hP hc=>?_,fun j t c ht xt hc=>?_⟩
 ·obtain⟨g',hg',hbd,hor⟩:=old i' k' g hg
  have h1:=s.fb i' k' g' hg' hP
  refine⟨by rw[hbd];exact h1.1,?_⟩
  rcases hor with⟨rfl,rfl,rfl,ht⟩ | ⟨rfl,_⟩
  ·refine .inr ⟨L.zd.length,0,ht,?_⟩
   rw[hbd]
   show(L.zd ++ [_])[L.zd.length]?=_
   simp
  ·refine h1.2.imp id fun⟨j,s',e1,e2⟩=>⟨j,s',e1,?_⟩
   show(L.zd ++ [_])[j]?=_
   rw[List.getElem?_append_left (List.getElem?_eq_some_iff.1 e2).1]
   exact e2
 ·rcases twn j t ht with⟨h1,hj⟩ | ⟨rfl,rfl⟩
  ·refine⟨(s.tb j t h1).1,(s.tb j t h1).2.imp id fun⟨i',k',g,e1,e2,e3,e4,e5,e6⟩=>⟨i',k',g,?_,e2,e3,e4,e5,e6⟩⟩
   rw[hfr,if_neg]
   ·exact e1
   ·rintro⟨rfl,rfl⟩
    rw[hf] at e1
    cases e1
    rw[h0] at e3
    omega
  ·exact⟨hbl,.inr ⟨i,k,⟨f.body,(L.zd.length:Int)⟩,by rw[hfr,if_pos ⟨rfl,rfl⟩],hp,rfl,rfl,rfl,rfl⟩⟩
 ·obtain⟨g1',q1,b1,_⟩:=old i1 k1 g1 h1
  obtain⟨g2',q2,b2,_⟩:=old i2 k2 g2 h2
  exact s.fi i1 k1 g1' i2 k2 g2' q1 P1 q2 P2 (by rw[<-b1,<-b2];exact e)
 ·rcases twn j t h1 with⟨q1,_⟩ | ⟨rfl,rfl⟩ <;> rcases twn j' t' h2 with⟨q2,_⟩ | ⟨rfl,rfl⟩
  ·exact s.ti j t j' t' q1 q2 e
  ·exact absurd e (hno j t q1)
  ·exact absurd e.symm (hno j' t' q2)
  ·rfl
 ·obtain⟨g',q1,b1,_⟩:=old i' k' g hg
  rcases twn j t ht with⟨q2,_⟩ | ⟨rfl,rfl⟩
  ·rw[b1]
   exact s.tf i' k' g' j t q1 hP q2 xt
  ·have hpg':(i:Int)=-1:=xt
   omega
 ·have:=hbase i'
  rw[hpp] at this
  cases hq:L.za[i']? with
  | none=>rw[hq] at this;cases this
  | some p' =>
   rw[hq] at this
   have e:p.base=p'.base:=by injection this
   rw[e]
   exact(s.ba i' p' hq).ext hE.le
 ·rcases twn j t ht with⟨q2,_⟩ | ⟨rfl,rfl⟩
  ·exact(s.se j t q2 xt).ext hE.le
  ·have hpg':(i:Int)=-1:=xt
   omega
 ·obtain⟨g',q1,b1,_⟩:=old i' k' g hg
  rw[b1] at hb
  exact s.al i' k' g' b q1 hP hb
 ·obtain⟨c,e1,e2⟩:=s.c q b hb
  exact⟨c,e1,e2.ext hE⟩
 ·obtain⟨g',q1,b1,_⟩:=old i' k' g hg
  rw[b1] at hc
  rw[hbel]
  exact s.fs i' k' g' c q1 hP hc
 ·rcases twn j t ht with⟨q2,_⟩ | ⟨rfl,rfl⟩
  ·rw[wl hE (s.se j t q2 xt)]
   exact s.ts j t c q2 xt hc
  ·have hpg':(i:Int)=-1:=xt
   omega
theorem yv (i k:Nat):Pr 0 0 i k:=fun h=>absurd h.2 yB
theorem Pr.more {I K i k:Nat} (h:Pr I (K+1) i k):Pr I K i k/\¬(i=I/\k=K):=⟨fun e=>h ⟨e.1,by omega⟩,fun e=>h ⟨e.1,by omega⟩⟩
theorem Pr.next {I K i k:Nat} (h:Pr I K i k) (n:¬(i=I/\k=K)):Pr I (K+1) i k:=fun e=>by
 by_cases e2:k=K
 ·exact n ⟨e.1,e2⟩
 ·exact h ⟨e.1,by omega⟩
def vF (L:yw) (j:Nat) (b:Nat) (below:Int):yw:={L with zd:=L.zd.set j ⟨-1,0,b,below⟩}
theorem ju {α:Type} {l:List α} {j q:Nat} {x y:α} (h:(l.set j x)[q]?=some y):(q=j/\y=x/\j<l.length)\/(q≠j/\l[q]?=some y):=by
 by_cases e:j=q
 ·subst e
  obtain⟨hj,_⟩:=List.getElem?_eq_some_iff.1 h
  rw[List.length_set] at hj
  rw[List.getElem?_set_self hj] at h
  cases h
  exact .inl ⟨rfl,rfl,hj⟩
 ·rw[List.getElem?_set_ne e] at h
  exact .inr ⟨fun x=>e x.symm,h⟩
theorem xE.off {I K:Nat} {L:yw} {h:Hp} (s:xE I K L h) {f:jV} {j:Nat} {below:Int} (hf:L.fr I K=some f) (ht:f.twin=(j:Int)) (hb:ui L.zd.length below) (he:qE L I K=Ya L.zd below):xE I (K+1) (vF L j f.body below) h:=by
 have hP:Pr I K I K:=fun e=>absurd e.2 (Nat.lt_irrefl _)
 obtain⟨sx,hj⟩:∃sx,L.zd[j]?=some ⟨(I:Int),(K:Int),f.body,sx⟩:=by
  rcases(s.fb I K f hf hP).2 with e | ⟨j',sx,e1,e2⟩
  ·omega
  ·have:j'=j:=by omega
   subst this
   exact⟨sx,e2⟩
 have hE:qx L.zd (vF L j f.body below).zd:=qx.set _ _ _ _ hj rfl
 have hl:(vF L j f.body below).zd.length=L.zd.length:=List.length_set
 have hfr:∀i k,(vF L j f.body below).fr i k=L.fr i k:=fun _ _=>rfl
 have hbel:∀i k,qE (vF L j f.body below) i k=qE L i k:=fun i k=>j5 hE s.ba (fun _=>rfl) fun _ _=>rfl
 have tw:=fun(q:Nat) (t:km) (h1:(vF L j f.body below).zd[q]?=some t)=>ju h1
 have tb:∀(q:Nat) (t:km),(vF L j f.body below).zd[q]?=some t->∃t',L.zd[q]?=some t'/\t'.body=t.body:=fun q t h1=>by
  rcases tw q t h1 with⟨rfl,rfl,_⟩ | ⟨_,h2⟩
  ·exact⟨_,hj,rfl⟩
  ·exact⟨t,h2,rfl⟩
 refine⟨fun i k g hg P=>?_,fun q t h1=>?_,fun i k g i' k' g' h1 P1 h2 P2 e=>s.fi i k g i' k' g' h1 P1.more.1 h2 P2.more.1 e,fun q t q' t' h1 h2 e=>?_,fun i k g q t hg P h1 xt=>?_,fun i p hp=>by rw[hl];exact s.ba i p hp,fun q t h1 xt=>?_,fun i k g b hg P hb=>s.al i k g b hg P.more.1 hb,s.n,fun q b hb=>?_,fun i k g c hg P hc=>by rw[hbel];exact s.fs i k g c hg P.more.1 hc,fun q t c h1 xt hc=>?_⟩
 ·refine⟨(s.fb i k g hg P.more.1).1,(s.fb i k g hg P.more.1).2.imp id fun⟨q,sx',e1,e2⟩=>⟨q,sx',e1,?_⟩⟩
  have hq:j≠q:=fun e=>by
   subst e
   rw[hj] at e2
   injection e2 with e2
   injection e2 with e3 e4
   exact P.more.2 ⟨by omega,by omega⟩
  show(L.zd.set j _)[q]?=_
  rw[List.getElem?_set_ne hq]
  exact e2
 ·rcases tw q t h1 with⟨rfl,rfl,_⟩ | ⟨hq,h2⟩
  ·exact⟨(s.fb I K f hf hP).1,.inl rfl⟩
  ·refine⟨(s.tb q t h2).1,(s.tb q t h2).2.imp id fun⟨i,k,g,e1,e2,e3,e4,e5,e6⟩=>⟨i,k,g,e1,e2.next ?_,e3,e4,e5,e6⟩⟩
   rintro⟨rfl,rfl⟩
   rw[hf] at e1
   cases e1
   exact hq (by omega)
 ·obtain⟨t1,a1,b1⟩:=tb q t h1
  obtain⟨t2,a2,b2⟩:=tb q' t' h2
  exact s.ti q t1 q' t2 a1 a2 (by rw[b1,b2];exact e)
 ·rcases tw q t h1 with⟨rfl,rfl,_⟩ | ⟨hq,h2⟩
  ·intro e
   obtain⟨e1,e2⟩:=s.fi I K f i k g hf hP hg P.more.1 e
   exact P.more.2 ⟨e1.symm,e2.symm⟩
  ·exact s.tf i k g q t hg P.more.1 h2 xt
 ·rw[hl]
  rcases tw q t h1 with⟨rfl,rfl,_⟩ | ⟨hq,h2⟩
  ·exact hb
  ·exact s.se q t h2 xt
 ·obtain⟨c,e1,e2⟩:=s.c q b hb
  exact⟨c,e1,e2.ext hE⟩
 ·rcases tw q t h1 with⟨rfl,rfl,_⟩ | ⟨hq,h2⟩
  ·rw[wl hE hb,<-he]
   exact s.fs I K f c hf hP hc
  ·rw[wl hE (s.se q t h2 xt)]
   exact s.ts q t c h2 xt hc
def Zy (L:yw) (I:Nat):yw:={L with za:=L.za.set I ⟨-1,[]⟩}
theorem vY {L:yw} {I:Nat} {p:ws} (hI:I<L.za.length) (i k:Nat):yw.fr {L with za:=L.za.set I p} i k=if i=I then p.zg[k]? else L.fr i k:=by
 unfold yw.fr
 by_cases e:I=i
 ·subst e
  rw[if_pos rfl]
  show((L.za.set I p)[I]?).bind _=_
  rw[List.getElem?_set_self hI]
  rfl
 ·rw[if_neg (fun x=>e x.symm)]
  show((L.za.set I p)[i]?).bind _=_
  rw[List.getElem?_set_ne e]
theorem xE.clear {I K:Nat} {L:yw} {h:Hp} (s:xE I K L h) (hI:I<L.za.length) (hK:L.za[I].zg.length<=K):xE 0 0 (Zy L I) h:=by
 have hfr:∀i k,(Zy L I).fr i k=if i=I then none else L.fr i k:=fun i k=>by
  unfold Zy
  rw[vY hI]
  simp
 have fo:∀i k g,(Zy L I).fr i k=some g->i≠I/\L.fr i k=some g/\Pr I K i k:=fun i k g hg=>by
  rw[hfr] at hg
  by_cases e:i=I
  ·rw[if_pos e] at hg;cases hg
  ·rw[if_neg e] at hg
   exact⟨e,hg,fun x=>e x.1⟩
 have hno:∀i k g,L.fr i k=some g->Pr I K i k->i≠I:=fun i k g hg P e=>by
  subst e
  obtain⟨_,hk,_⟩:=yw.fr_some hg
  exact P ⟨rfl,by omega⟩
 have hbel:∀i k,i≠I->qE (Zy L I) i k=qE L i k:=fun i k e=>j5 (L:=L) (L':=Zy L I) (qx.refl L.zd) s.ba (fun _=>by
  show((L.za.set I _)[i]?).map _=_
  rw[List.getElem?_set_ne (fun x=>e x.symm)]) fun q _=>by rw[hfr,if_neg e]
 refine⟨fun i k g hg _=>?_,fun q t h1=>?_,fun i k g i' k' g' h1 _ h2 _ e=>s.fi i k g i' k' g' (fo _ _ _ h1).2.1 (fo _ _ _ h1).2.2 (fo _ _ _ h2).2.1 (fo _ _ _ h2).2.2 e,s.ti,fun i k g q t hg _ h1 xt=>s.tf i k g q t (fo _ _ _ hg).2.1 (fo _ _ _ hg).2.2 h1 xt,fun i p hp=>?_,s.se,fun i k g b hg _ hb=>s.al i k g b (fo _ _ _ hg).2.1 (fo _ _ _ hg).2.2 hb,s.n,s.c,fun i k g c hg _ hc=>by rw[hbel i k (fo _ _ _ hg).1];exact s.fs i k g c (fo _ _ _ hg).2.1 (fo _ _ _ hg).2.2 hc,s.ts⟩
 ·exact s.fb i k g (fo _ _ _ hg).2.1 (fo _ _ _ hg).2.2
 ·refine⟨(s.tb q t h1).1,(s.tb q t h1).2.imp id fun⟨i,k,g,e1,e2,e3⟩=>⟨i,k,g,?_,yv _ _,e3⟩⟩
  rw[hfr,if_neg (hno i k g e1 e2)]
  exact e1
 ·rcases ju hp with⟨_,rfl,_⟩ | ⟨_,h2⟩
  ·exact .inl rfl
  ·exact s.ba i p h2
def yL (L:yw) (i:Nat) (x:Int):yw:={L with za:=L.za.set i ⟨x,[]⟩}
theorem xE.base {L:yw} {h:Hp} (s:xE 0 0 L h) {i:Nat} (hi:i<L.za.length) (he:L.za[i].zg=[]) {x:Int} (hx:ui L.zd.length x):xE 0 0 (yL L i x) h:=by
 have hfr:∀i' k,(yL L i x).fr i' k=L.fr i' k:=fun i' k=>by
  unfold yL
  rw[vY hi]
  by_cases e:i'=i
  ·subst e
   rw[if_pos rfl]
   unfold yw.fr
   rw[List.getElem?_eq_getElem hi]
   simp[he]
  ·rw[if_neg e]
 have xp:∀i' k g,L.fr i' k=some g->i'≠i:=fun i' k g hg e=>by
  subst e
  obtain⟨_,hk,_⟩:=yw.fr_some hg
  rw[he] at hk
  cases hk
 have hbel:∀i' k,i'≠i->qE (yL L i x) i' k=qE L i' k:=fun i' k e=>j5 (L:=L) (L':=yL L i x) (qx.refl L.zd) s.ba (fun _=>by
  show((L.za.set i _)[i']?).map _=_
  rw[List.getElem?_set_ne (fun y=>e y.symm)]) fun q _=>by rw[hfr]
 refine⟨fun i' k g hg P=>s.fb i' k g (by rw[<-hfr];exact hg) P,fun q t h1=>⟨(s.tb q t h1).1,(s.tb q t h1).2.imp id fun⟨i',k,g,e1,e2⟩=>⟨i',k,g,by rw[hfr];exact e1,e2⟩⟩,fun a b c a' b' c' h1 P1 h2 P2 e=>s.fi a b c a' b' c' (by rw[<-hfr];exact h1) P1 (by rw[<-hfr];exact h2) P2 e,s.ti,fun a b c q t hg P h1 xt=>s.tf a b c q t (by rw[<-hfr];exact hg) P h1 xt,fun i' p hp=>?_,s.se,fun a b c d hg P hb=>s.al a b c d (by rw[<-hfr];exact hg) P hb,s.n,s.c,fun a b c d hg P hc=>?_,s.ts⟩
 ·rcases ju hp with⟨_,rfl,_⟩ | ⟨_,h2⟩
  ·exact hx
  ·exact s.ba i' p h2
 ·rw[hfr] at hg
  rw[hbel a b (xp _ _ _ hg)]
  exact s.fs a b c d hg P hc
def Qu (L:yw) (k:Nat) (b:jg):yw:={L with zj:=L.zj.set k b}
theorem xE.body {I K:Nat} {L:yw} {h:Hp} (s:xE I K L h) {k:Nat} {b b':jg} {c c':Cl} (hb:L.zj[k]?=some b) (hc:h.ze[k]?=some c) (ha:Yy L.zd b' c') (hs:c'.zi=c.zi) (hd:b'.zy=b.zy) (now born code:Int) (zm:yH) :
 xE I K (Qu L k b') ⟨h.ze.set k c',now,born,zm,code⟩:=by
 have hl:(Qu L k b').zj.length=L.zj.length:=List.length_set
 refine⟨fun i q g hg P=>by rw[hl];exact s.fb i q g hg P,fun q t h1=>by rw[hl];exact s.tb q t h1,s.fi,s.ti,s.tf,s.ba,s.se,fun i q g x hg P hx=>?_,by rw[hl];exact List.length_set.trans s.n,fun q x hx=>?_,fun i q g x hg P hx=>?_,fun q t x h1 xt hx=>?_⟩
 ·rcases ju hx with⟨e,rfl,_⟩ | ⟨_,h2⟩
  ·rw[hd];exact s.al i q g b hg P (by rw[e];exact hb)
  ·exact s.al i q g x hg P h2
 ·have hck:k<h.ze.length:=(List.getElem?_eq_some_iff.1 hc).1
  rcases ju hx with⟨rfl,rfl,_⟩ | ⟨hq,h2⟩
  ·exact⟨c',List.getElem?_set_self hck,ha⟩
  ·obtain⟨y,e1,e2⟩:=s.c q x h2
   exact⟨y,by rw[List.getElem?_set_ne (fun e=>hq e.symm)];exact e1,e2⟩
 ·rcases ju hx with⟨e,rfl,_⟩ | ⟨_,h2⟩
  ·rw[hs];exact s.fs i q g c hg P (by rw[e];exact hc)
  ·exact s.fs i q g x hg P h2
 ·rcases ju hx with⟨e,rfl,_⟩ | ⟨_,h2⟩
  ·rw[hs];exact s.ts q t c h1 xt (by rw[e];exact hc)
  ·exact s.ts q t x h1 xt h2
def Kh (L:yw) (i j:Nat) (t:km):yw:={L with za:=L.za.set i ⟨t.zi,[⟨t.body,(j:Int)⟩]⟩,zd:=L.zd.set j ⟨(i:Int),0,t.body,0⟩}
theorem xE.on {L:yw} {h:Hp} (s:xE 0 0 L h) {i:Nat} (hi:i<L.za.length) (he:L.za[i].zg=[]) {j:Nat} {t:km} (hj:L.zd[j]?=some t) (xt:t.page=-1) (hd:∀b,L.zj[t.body]?=some b->b.zy=false):xE 0 0 (Kh L i j t) h:=by
 have hjl:j<L.zd.length:=(List.getElem?_eq_some_iff.1 hj).1
 have hE:qx L.zd (Kh L i j t).zd:=qx.set _ _ _ _ hj rfl
 have hl:(Kh L i j t).zd.length=L.zd.length:=List.length_set
 have hfr:∀i' k,(Kh L i j t).fr i' k=if i'=i then([⟨t.body,(j:Int)⟩]:List jV)[k]? else L.fr i' k:=fun i' k=>by
  unfold Kh
  exact vY (L:=L) hi i' k
 have hno:∀k,L.fr i k=none:=fun k=>by
  unfold yw.fr
  rw[List.getElem?_eq_getElem hi]
  simp[he]
 have fo:∀i' k g,(Kh L i j t).fr i' k=some g->(i'=i/\k=0/\g=⟨t.body,(j:Int)⟩)\/(i'≠i/\L.fr i' k=some g):=fun i' k g hg=>by
  rw[hfr] at hg
  by_cases e:i'=i
  ·rw[if_pos e] at hg
   have hk:k=0:=by
    have:=(List.getElem?_eq_some_iff.1 hg).1
    simpa using this
   subst hk
   cases hg
   exact .inl ⟨e,rfl,rfl⟩
  ·rw[if_neg e] at hg
   exact .inr ⟨e,hg⟩
 have hnew:(Kh L i j t).fr i 0=some ⟨t.body,(j:Int)⟩:=by rw[hfr,if_pos rfl];rfl
 have hbel:∀i' k,i'≠i->qE (Kh L i j t) i' k=qE L i' k:=fun i' k e=>j5 hE s.ba (fun _=>by
  show((L.za.set i _)[i']?).map _=_
  rw[List.getElem?_set_ne (fun y=>e y.symm)]) fun q _=>by rw[hfr,if_neg e]
 have tb:∀(q:Nat) (x:km),(Kh L i j t).zd[q]?=some x->∃t',L.zd[q]?=some t'/\t'.body=x.body:=fun q x h1=>by
  rcases ju h1 with⟨rfl,rfl,_⟩ | ⟨_,h2⟩
  ·exact⟨_,hj,rfl⟩
  ·exact⟨x,h2,rfl⟩
 refine⟨fun i' k g hg P=>?_,fun q x h1=>?_,fun a b g a' b' g' h1 P1 h2 P2 e=>?_,fun q x q' x' h1 h2 e=>?_,fun a b g q x hg P h1 hx=>?_,fun i' p hp=>?_,fun q x h1 hx=>?_,fun a b g y hg P hy=>?_,s.n,fun q b hb=>?_,fun a b g c hg P hc=>?_,fun q x c h1 hx hc=>?_⟩
 ·rcases fo i' k g hg with⟨rfl,rfl,rfl⟩ | ⟨e,h2⟩
  ·exact⟨(s.tb j t hj).1,.inr ⟨j,0,rfl,List.getElem?_set_self hjl⟩⟩
  ·refine⟨(s.fb i' k g h2 P).1,(s.fb i' k g h2 P).2.imp id fun⟨q,sx,e1,e2⟩=>⟨q,sx,e1,?_⟩⟩
   show(L.zd.set j _)[q]?=_
   rw[List.getElem?_set_ne]
   ·exact e2
   ·intro e3
    subst e3
    rw[hj] at e2
    cases e2
    have hpg':(i':Int)=-1:=xt
    omega
 ·rcases ju h1 with⟨rfl,rfl,_⟩ | ⟨hq,h2⟩
  ·exact⟨(s.tb q t hj).1,.inr ⟨i,0,_,hnew,yv _ _,rfl,rfl,rfl,rfl⟩⟩
  ·refine⟨(s.tb q x h2).1,(s.tb q x h2).2.imp id fun⟨a,b,g,e1,e2⟩=>⟨a,b,g,?_,e2⟩⟩
   rw[hfr,if_neg]
   ·exact e1
   ·intro e
    subst e
    rw[hno] at e1
    cases e1
 ·rcases fo a b g h1 with⟨rfl,rfl,rfl⟩ | ⟨e1,q1⟩ <;> rcases fo a' b' g' h2 with⟨rfl,rfl,rfl⟩ | ⟨e2,q2⟩
  ·exact⟨rfl,rfl⟩
  ·exact absurd e (s.tf a' b' g' j t q2 P2 hj xt)
  ·exact absurd e.symm (s.tf a b g j t q1 P1 hj xt)
  ·exact s.fi a b g a' b' g' q1 P1 q2 P2 e
 ·obtain⟨t1,a1,b1⟩:=tb q x h1
  obtain⟨t2,a2,b2⟩:=tb q' x' h2
  exact s.ti q t1 q' t2 a1 a2 (by rw[b1,b2];exact e)
 ·rcases ju h1 with⟨rfl,rfl,_⟩ | ⟨hq,h2⟩
  ·have hx':(i:Int)=-1:=hx
   omega
  ·rcases fo a b g hg with⟨rfl,rfl,rfl⟩ | ⟨e1,q1⟩
   ·intro e
    exact hq (s.ti q x j t h2 hj e)
   ·exact s.tf a b g q x q1 P h2 hx
 ·rw[hl]
  rcases ju hp with⟨_,rfl,_⟩ | ⟨_,h2⟩
  ·exact s.se j t hj xt
  ·exact s.ba i' p h2
 ·rw[hl]
  rcases ju h1 with⟨rfl,rfl,_⟩ | ⟨hq,h2⟩
  ·have hx':(i:Int)=-1:=hx
   omega
  ·exact s.se q x h2 hx
 ·rcases fo a b g hg with⟨rfl,rfl,rfl⟩ | ⟨e1,q1⟩
  ·exact hd y hy
  ·exact s.al a b g y q1 P hy
 ·obtain⟨c,e1,e2⟩:=s.c q b hb
  exact⟨c,e1,e2.ext hE⟩
 ·rcases fo a b g hg with⟨rfl,rfl,rfl⟩ | ⟨e1,q1⟩
  ·rw[s.ts j t c hj xt hc]
   show _=Ya (L.zd.set j _) ((((L.za.set a ⟨t.zi,_⟩)[a]?).map fun p:ws=>p.base).getD (-1))
   rw[List.getElem?_set_self hi]
   exact(wl hE (s.se j t hj xt)).symm
  ·rw[hbel a b e1]
   exact s.fs a b g c q1 P hc
 ·rcases ju h1 with⟨rfl,rfl,_⟩ | ⟨hq,h2⟩
  ·have hx':(i:Int)=-1:=hx
   omega
  ·rw[wl hE (s.se q x h2 hx)]
   exact s.ts q x c h2 hx hc
def uR (L:yw) (i:Nat) (b:jg):yw:={L with za:=L.za.set i ⟨(L.za.getD i ⟨-1,[]⟩).base,(L.za.getD i ⟨-1,[]⟩).zg ++ [⟨L.zj.length,-1⟩]⟩,zj:=L.zj ++ [b]}
def ue (L:yw) (i:Nat):Int:=qE L i (L.za.getD i ⟨-1,[]⟩).zg.length
theorem YZ {α:Type} {l:List α} {x y:α} {q:Nat} (h:(l ++ [x])[q]?=some y):(q=l.length/\y=x)\/(q<l.length/\l[q]?=some y):=by
 by_cases hq:q<l.length
 ·rw[List.getElem?_append_left hq] at h
  exact .inr ⟨hq,h⟩
 ·rw[List.getElem?_append_right (by omega)] at h
  have:q - l.length=0:=by
   have:=(List.getElem?_eq_some_iff.1 h).1
   simp at this
   omega
  rw[this] at h
  cases h
  exact .inl ⟨by omega,rfl⟩
theorem xE.new {L:yw} {h:Hp} (s:xE 0 0 L h) {i:Nat} (hi:i<L.za.length) {b:jg} {c:Cl} (ha:Yy L.zd b c) (hd:b.zy=false) (hs:c.zi=ue L i) (now born code:Int) (zm:yH) :
 xE 0 0 (uR L i b) ⟨h.ze ++ [c],now,born,zm,code⟩:=by
 have hg:L.za.getD i ⟨-1,[]⟩=L.za[i]:=by simp[hi]
 have hfr:∀i' k,(uR L i b).fr i' k=if i'=i then(L.za[i].zg ++ [⟨L.zj.length,-1⟩])[k]? else L.fr i' k:=fun i' k=>by
  unfold uR
  rw[hg]
  exact vY (L:=L) hi i' k
 have fo:∀i' k g,(uR L i b).fr i' k=some g->(i'=i/\k=L.za[i].zg.length/\g=⟨L.zj.length,-1⟩)\/L.fr i' k=some g:=fun i' k g hg'=>by
  rw[hfr] at hg'
  by_cases e:i'=i
  ·rw[if_pos e] at hg'
   subst e
   rcases YZ hg' with⟨e1,e2⟩ | ⟨e1,e2⟩
   ·exact .inl ⟨rfl,e1,e2⟩
   ·refine .inr ?_
    unfold yw.fr
    rw[List.getElem?_eq_getElem hi]
    exact e2
  ·rw[if_neg e] at hg'
   exact .inr hg'
 have fr1:∀i' k g,L.fr i' k=some g->(uR L i b).fr i' k=some g:=fun i' k g hg'=>by
  rw[hfr]
  by_cases e:i'=i
  ·subst e
   rw[if_pos rfl]
   obtain⟨_,hk,e2⟩:=yw.fr_some hg'
   rw[List.getElem?_append_left hk,List.getElem?_eq_getElem hk,e2]
  ·rw[if_neg e]
   exact hg'
 have hbase:∀i':Nat,((uR L i b).za[i']?).map (fun p:ws=>p.base)=(L.za[i']?).map (fun p:ws=>p.base):=fun i'=>by
  show((L.za.set i _)[i']?).map _=_
  by_cases e:i=i'
  ·subst e
   rw[List.getElem?_set_self hi,List.getElem?_eq_getElem hi,hg]
   rfl
  ·rw[List.getElem?_set_ne e]
 have hbel:∀i' k,(k=0\/∃q g,k=q+1/\L.fr i' q=some g)->qE (uR L i b) i' k=qE L i' k:=fun i' k hor=>j5 (L:=L) (L':=uR L i b) (qx.refl L.zd) s.ba (fun _=>hbase i') fun q e=>by
  rcases hor with e0 | ⟨q',g,e1,e2⟩
  ·omega
  ·have:q=q':=by omega
   subst this
   rw[e2,fr1 i' q g e2]
 have hlow:∀i' k g,L.fr i' k=some g->(k=0\/∃q g,k=q+1/\L.fr i' q=some g):=fun i' k g hg'=>by
  obtain⟨h1,h2,_⟩:=yw.fr_some hg'
  cases k with
  | zero=>exact .inl rfl
  | succ q=>exact .inr ⟨q,_,rfl,yw.fr_at h1 (by omega)⟩
 have hbl:(uR L i b).zj.length=L.zj.length+1:=by simp[uR]
 have lt:=fun(i' k:Nat) (g:jV) (hg':L.fr i' k=some g)=>(s.fb i' k g hg' (yv _ _)).1
 refine⟨fun i' k g hg' P=>?_,fun q x h1=>⟨by rw[hbl];have:=(s.tb q x h1).1;omega,(s.tb q x h1).2.imp id fun⟨a,d,g,e1,e2⟩=>⟨a,d,g,fr1 a d g e1,e2⟩⟩,fun a d g a' d' g' h1 P1 h2 P2 e=>?_,s.ti,fun a d g q x hg' P h1 hx=>?_,fun i' p hp=>?_,s.se,fun a d g y hg' P hy=>?_,by rw[hbl,<-s.n];simp,fun q x hx=>?_,fun a d g x hg' P hx=>?_,fun q x y h1 hx hy=>?_⟩
 ·rw[hbl]
  rcases fo i' k g hg' with⟨rfl,rfl,rfl⟩ | h2
  ·exact⟨Nat.lt_succ_self _,.inl rfl⟩
  ·exact⟨by have:=lt i' k g h2;omega,(s.fb i' k g h2 P).2⟩
 ·rcases fo a d g h1 with⟨rfl,rfl,rfl⟩ | q1 <;> rcases fo a' d' g' h2 with⟨rfl,rfl,rfl⟩ | q2
  ·exact⟨rfl,rfl⟩
  ·have:=lt a' d' g' q2
   have e':L.zj.length=g'.body:=e
   omega
  ·have:=lt a d g q1
   have e':g.body=L.zj.length:=e
   omega
  ·exact s.fi a d g a' d' g' q1 P1 q2 P2 e
 ·rcases fo a d g hg' with⟨rfl,rfl,rfl⟩ | q1
  ·intro e
   have:=(s.tb q x h1).1
   have e':x.body=L.zj.length:=e
   omega
  ·exact s.tf a d g q x q1 P h1 hx
 ·have:=hbase i'
  rw[hp] at this
  cases hq:L.za[i']? with
  | none=>rw[hq] at this;cases this
  | some p' =>
   rw[hq] at this
   have e:p.base=p'.base:=by injection this
   rw[e]
   exact s.ba i' p' hq
 ·rcases fo a d g hg' with⟨rfl,rfl,rfl⟩ | q1
  ·rcases YZ hy with⟨_,rfl⟩ | ⟨e,_⟩
   ·exact hd
   ·exact absurd e (Nat.lt_irrefl _)
  ·rcases YZ hy with⟨e,_⟩ | ⟨_,e⟩
   ·have:=lt a d g q1
    omega
   ·exact s.al a d g y q1 P e
 ·rcases YZ hx with⟨rfl,rfl⟩ | ⟨e,e2⟩
  ·exact⟨c,by show(h.ze ++ [c])[_]?=_;rw[<-s.n];simp,ha⟩
  ·obtain⟨y,h1,h2⟩:=s.c q x e2
   exact⟨y,by show(h.ze ++ [c])[_]?=_;rw[List.getElem?_append_left (by rw[s.n];exact e)];exact h1,h2⟩
 ·rcases fo a d g hg' with⟨rfl,rfl,rfl⟩ | q1
  ·have hx':(h.ze ++ [c])[L.zj.length]?=some x:=hx
   rw[<-s.n] at hx'
   simp at hx'
   rw[<-hx',hs]
   unfold ue
   rw[hg]
   refine(hbel a _ ?_).symm
   by_cases e:L.za[a].zg.length=0
   ·exact .inl e
   ·exact .inr ⟨L.za[a].zg.length - 1,_,by omega,yw.fr_at hi (by omega)⟩
  ·have hx':(h.ze ++ [c])[g.body]?=some x:=hx
   rw[List.getElem?_append_left (by rw[s.n];exact lt a d g q1)] at hx'
   rw[hbel a d (hlow a d g q1)]
   exact s.fs a d g x q1 P hx'
 ·have hy':(h.ze ++ [c])[x.body]?=some y:=hy
  rw[List.getElem?_append_left (by rw[s.n];exact(s.tb q x h1).1)] at hy'
  exact s.ts q x y h1 hx hy'
theorem zav:∀(l A:List Int),l.Nodup->(∀k∈l,k∈A)->l.length<=A.length
 | [],_,_,_=>Nat.zero_le _
 | x :: l,A,hn,hA=>by
  have hx:x∈A:=hA x (List.mem_cons_self ..)
  obtain⟨ZH,Ww⟩:=List.nodup_cons.1 hn
  have:=zav l (A.erase x) Ww fun k hk=>(List.mem_erase_of_ne (show k≠x from fun e=>ZH (by rw[<-e];exact hk))).2 (hA k (List.mem_cons_of_mem _ hk))
  rw[List.length_erase_of_mem hx] at this
  have h0:0<A.length:=List.length_pos_of_mem hx
  simp only[List.length_cons]
  omega
theorem zfB {m:Mc} (h:kz m=true) {x:Int} (hx:x∈m.order):0<=x/\x<(m.za.length:Int):=by
 unfold kz at h
 rw[Bool.and_eq_true_iff] at h
 have hl:m.order.length=m.za.length:=by simpa using h.1
 have ha:=List.all_eq_true.1 h.2
 by_cases hr:0<=x/\x<(m.za.length:Int)
 ·exact hr
 ·exfalso
  have hnd:((List.range m.za.length).map fun i:Nat=>(i:Int)).Nodup:=by
   refine List.Pairwise.map _ (fun a b hab e=>hab (by omega)) List.nodup_range
  have hmem:∀k∈(List.range m.za.length).map fun i:Nat=>(i:Int),k∈m.order:=fun k hk=>by
   obtain⟨i,hi,rfl⟩:=List.mem_map.1 hk
   simpa using ha i hi
  have hnx:x∉(List.range m.za.length).map fun i:Nat=>(i:Int):=fun hk=>by
   obtain⟨i,hi,rfl⟩:=List.mem_map.1 hk
   exact hr ⟨by omega,by have:=List.mem_range.1 hi;omega⟩
  have:=zav (x :: (List.range m.za.length).map fun i:Nat=>(i:Int)) m.order (List.nodup_cons.2 ⟨hnx,hnd⟩) (fun k hk=>by
   rcases List.mem_cons.1 hk with rfl | hk
   ·exact hx
   ·exact hmem k hk)
  simp at this
  omega
theorem Qe {B:Nat} {w0 w:World} (h:Below B w0 w) (n:Nat):Below B w0 (w.drewN n):=⟨h.os,h.tape,h.output,h.size,h.block⟩
def Pg.none:Pg:=⟨-1,[]⟩
def pgAt (m:Mc) (i:Int):Pg:=m.za.getD i.toNat Pg.none
theorem kE {m:Mc} {k:Nat} (h:k<m.za.length):pgAt m (k:Int)=m.za[k]:=by simp[pgAt,h]
def Ke (m:Mc):Bool:=m.now == -1 || (m.now == m.order.getD (m.order.length - 1) 0 && decide (0<(pgAt m m.now).zg.length))
theorem zd3 (vp vo vt vs:Value) (m:Mc) (w:World) (h:yC w vp vo vt vs m) (ho:kz m=true) (hp1:1<=m.za.length) :
 Calls Tryz.prog 60 #[.agg (zu vp vo vt vs m).toArray] w fun e w'=>e=.returned (.bool (Ke m))/\zO w w':=by
 have HLEQ:Hid (m.order.length=m.za.length):=by show _=_;unfold kz at ho;rw[Bool.and_eq_true_iff] at ho;simpa using ho.1
 have HIN:Hid (∀x∈m.order,0<=x/\x<(m.za.length:Int)):=fun x hx=>zfB ho hx
 clear ho
 obtain⟨ap,cp,qz,hlp,hcp⟩:=id h.p
 obtain⟨ao,co,jw,hlo,hco⟩:=id h.o
 obtain⟨at',ct,jA,hlt',hct⟩:=id h.t
 obtain⟨as',cs,jG⟩:=h.s.shape
 subst qz jw jA jG
 unfold zu
 unfold maxLen at hlp hlo
 go_enter Tryz.func60,Tryz.ntmps60
 go_upto_region 1 with fail
 refine yg (fun W=>zO w W/\Bx W w.heap.size 34 [.int .i64 m.cells,.slice ap m.za.length cp,.slice ao m.order.length co,.int .i64 m.now,.slice at' m.zd.length ct,.int .i64 m.born,.slice as' m.zm.length cs,.int .i64 m.code]) ⟨zR _ _,Bx.new w _ _⟩ ?_
 rintro W ⟨hb,hm⟩
 obtain⟨⟨m0,m1,m2,m3,m4,m5,m6,m7⟩,_⟩:=jW hm
 by_cases YK:m.now=-1
 ·have HE:Hid (Ke m=true):=by show _=_;unfold Ke;rw[YK];rfl
  rw[YK] at m3
  go_wp2
  go_ret
  exact⟨zp HE.out.symm,hb⟩
 have xp:(m.now == -1)=false:=by simpa using YK
 obtain⟨q,hq⟩:∃q,m.order.length=q+1:=⟨m.order.length - 1,by have:=HLEQ.out;omega⟩
 have hql:q<m.order.length:=by omega
 obtain⟨b,o,hao,c0⟩:=hco q hql
 subst hao
 have d0:=zc hb c0
 have HL:Hid (m.order.getD (m.order.length - 1) 0=m.order[q]):=by show _=_;rw[hq];simp[hql]
 have hrng:=HIN.out _ (List.getElem_mem hql)
 obtain⟨last,hla⟩:∃l,m.order[q]=l:=⟨_,rfl⟩
 rw[hla] at HL d0 hrng
 have hq1:((m.order.length:Int)) - 1=(q:Int):=by omega
 have hqz:(q:Int)<(m.order.length:Int):=by omega
 have hwq:IntKind.i64.wrap ((m.order.length:Int) - 1)=(q:Int):=by rw[IntKind.wrap_i64];omega
 have hbl:b<w.heap.size:=World.block_lt_of_cell? _ _ c0
 clear hla c0 hco hq hq1
 obtain⟨k,hk⟩:=Int.eq_ofNat_of_zero_le hrng.1
 subst hk
 have hkl:k<m.za.length:=by omega
 obtain⟨b2,o2,vf,hap,xt⟩:=hcp k hkl
 subst hap
 obtain⟨af,cf,QW⟩:=xt.f.shape
 have e1:=zc hb xt.c1
 rw[QW] at e1
 obtain⟨nf,hnf⟩:∃nf,m.za[k].zg.length=nf:=⟨_,rfl⟩
 have HPG:Hid ((pgAt m (k:Int)).zg.length=nf):=by show _=_;rw[kE hkl,hnf]
 rw[hnf] at e1
 clear hnf xt hcp QW
 have v7:(k:Int)<(m.za.length:Int):=by omega
 by_cases hnl:m.now=(k:Int)
 ·have HE:Hid (Ke m=decide (0<nf)):=by show _=_;unfold Ke;rw[xp,HL.out,hnl,HPG.out];simp
  rw[hnl] at m3 xp
  go_wp2_with fail
  go_quiet (fail)
  go_wp2
  go_ret
  exact⟨zp HE.out.symm,Qe hb _⟩
 ·have HE:Hid (Ke m=false):=by show _=_;unfold Ke;rw[xp,HL.out];simp[hnl]
  have hnl2:(m.now == (k:Int))=false:=by simpa using hnl
  go_wp2_with fail
  go_quiet (fail)
  go_wp2
  go_ret
  exact⟨zp HE.out.symm,Qe hb _⟩
end Go.Proofs.YtbjgjjkgfnfejaaGreatDoor

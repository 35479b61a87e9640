/-
  The program's heap at work: an operation is done, whichever it is.
-/
import Derived.Test.YtbjgjjkgfnfejaaGreatDoorLWalk14
import Derived.Test.YtbjgjjkgfnfejaaGreatDoorLStep4
namespace Go.Proofs.YtbjgjjkgfnfejaaGreatDoor
set_option maxHeartbeats 8000000
set_option maxRecDepth 100000
open Go.RowKit
variable {B:Nat} {w w':World} {bl br:Nat} {vp vcs vsd:Value} {C D:Nat->Nat} {T:Nat->Value × Value} {h h':Hp}
theorem Xa {k:Int} (h:1<=k/\k<=18):k=1\/k=2\/k=3\/k=4\/k=5\/k=6\/k=7\/k=8\/k=9\/k=10\/k=11\/k=12\/k=13\/k=14\/k=15\/k=16\/k=17\/k=18:=by omega
theorem wg {n a:Int} (h:qQ n 1 a=true):0<=a/\a<=999:=by
 unfold qQ at h
 rw[if_neg (by decide),if_pos rfl,zF] at h
 exact h
theorem KW {n a:Int} (h:qQ n 0 a=true):a=0:=by
 unfold qQ at h
 rw[if_pos rfl,beq_iff_eq] at h
 exact h
theorem jX.len {ms:Ms} {j:Nat} {k a:Int} {args:yH} (d:jX ms h j k a args) (h9:k≠9):(args.length:Int)=tk k:=by
 have:=d.takes
 rw[je h9] at this
 exact this
theorem jX.temp {ms:Ms} {j:Nat} {k a:Int} {args:yH} (d:jX ms h j k a args) (hk:k=2\/k=3):0<=a/\a<((h.za[j]'d.lt).zg.length:Int):=by
 obtain⟨m,hm,hcm,hop⟩:=d.op
 unfold kg at hop
 rw[if_neg (by omega),if_pos hk,zF] at hop
 have ht:=(d.g.cl j d.lt).t
 rw[hcm,Int.toNat_natCast,yn hm] at ht
 omega
theorem jX.peek {ms:Ms} {j:Nat} {k a:Int} {args:yH} (d:jX ms h j k a args) (hk:k=13\/k=14):0<=a:=by
 obtain⟨m,hm,hcm,hop⟩:=d.op
 unfold kg at hop
 rw[if_neg (by omega),if_neg (by omega),if_neg (by omega),if_neg (by omega),if_pos hk,zF] at hop
 omega
theorem jX.meth {ms:Ms} {j:Nat} {a:Int} {args:yH} (d:jX ms h j 9 a args):0<=a/\a<(ms.length:Int):=by
 obtain⟨m,hm,hcm,hop⟩:=d.op
 unfold kg at hop
 rw[if_neg (by decide),if_neg (by decide),if_neg (by decide),if_pos rfl,zF] at hop
 omega
theorem jX.backs {ms:Ms} {j:Nat} {a:Int} {args:yH} (d:jX ms h j 15 a args) {i:Nat} (hi:i<h.za.length) (hd:h.za[i].zv=false):(∃l,qG h.za h.now l/\i∈l/\l.length<=h.za.length)/\(yC h.za.length h i).now=(i:Int)/\(yC h.za.length h i).za.length=h.za.length/\∀hb:i<(yC h.za.length h i).za.length,(yC h.za.length h i).za[i].zf.length<=1000:=by
 obtain⟨l,hw⟩:=d.g.w
 have hbl:i∈l:=hw.all _ hi hd
 have h6:∀hb:i<h.za.length,h.za[i].zf.length<6:=fun hb=>by
  have hw2:=hw
  rw[d.now] at hw2
  obtain⟨_,t,rfl,_⟩:=hw2.head
  rcases List.mem_cons.1 hbl with q | q
  ·have:=d.free (by rw[je (by decide)];rfl)
   simp only[q]
   exact this
  ·exact hw.room _ (by simpa using q) hb
 obtain⟨r1,_,r3,r4,r5⟩:=Good.back h.za.length h _ l d.g d.code hw hbl hw.len h6
 exact⟨⟨l,hw,hbl,hw.len⟩,r3,r4,fun hb=>by have:=(r5 hb).1;omega⟩
theorem zaU (k:LV B w bl br vp vcs vsd C D T h) (hB:B<=w.heap.size) {ms:Ms} (hM:yD w vp ms) (hsl:h.zm.length<=2900000) {j:Nat} {kk a:Int} {vt:Value} {args:yH} (t:Tk (yu bl br vcs vsd C D T h.za.length) w vt args) (d:jX ms h j kk a args) :
 ∃K,wB[kk.toNat]?=some (.func (.func K) #[] #[])/\∀W,zO w W->Calls Tryz.prog K #[zJ br 0,zI a,vt] W fun e w'=>e=.returned (.tuple #[])/\qY B bl br vp (yu bl br vcs vsd C D T h.za.length) w (doH ms h kk a args) w':=by
 have hn:=d.now
 have hj:=d.lt
 have c:=d.g.cl j hj
 have hst:h.za[j].zf.length<=1000:=by have:=c.s;omega
 have hT:∀{W:World},zO w W->Tk (yu bl br vcs vsd C D T h.za.length) W vt args:=fun hb=>t.go (B:=w.heap.size) (P':=yu bl br vcs vsd C D T h.za.length) ⟨hb,fun g hg _=>hb.block g hg,fun _ e=>.inl e⟩
 have hBW:∀{W:World},zO w W->B<=W.heap.size:=fun hb=>by have:=hb.size;omega
 have fin:∀{K:Nat} {W:World} {h2:Hp},zO w W->doH ms h kk a args=h2->(Calls Tryz.prog K #[zJ br 0,zI a,vt] W fun e w'=>e=.returned (.tuple #[])/\qY B bl br vp (yu bl br vcs vsd C D T h.za.length) W h2 w')->Calls Tryz.prog K #[zJ br 0,zI a,vt] W fun e w'=>e=.returned (.tuple #[])/\qY B bl br vp (yu bl br vcs vsd C D T h.za.length) w (doH ms h kk a args) w':=fun hb he hc=>by
  refine hc.mono ?_
  rintro e w' ⟨h1,h2⟩
  rw[he]
  exact⟨h1,qY.first hb hB h2⟩
 rcases Xa d.kind with e | e | e | e | e | e | e | e | e | e | e | e | e | e | e | e | e | e
 ·subst e
  exact⟨_,rfl,fun W hb=>fin hb rfl (zcq (k.below hb) hn hj (hBW hb) hst a vt)⟩
 ·subst e
  obtain⟨h0,h1⟩:=d.temp (.inl rfl)
  obtain⟨q,rfl⟩:=Int.eq_ofNat_of_zero_le h0
  have hq:q<h.za[j].zg.length:=by omega
  refine⟨_,rfl,fun W hb=>fin hb ?_ (zaX (k.below hb) hn hj (hBW hb) hst q hq vt)⟩
  show yI h ((yJ h).zg.getD (q:Int).toNat (0,0))=_
  rw[xO hn hj,Int.toNat_natCast,yn hq]
 ·subst e
  have hl:=d.len (by decide)
  have h0l:0<args.length:=by have:tk 3=1:=rfl;omega
  obtain⟨h0,h1⟩:=d.temp (.inr rfl)
  obtain⟨q,rfl⟩:=Int.eq_ofNat_of_zero_le h0
  have hq:q<h.za[j].zg.length:=by omega
  refine⟨_,rfl,fun W hb=>fin hb ?_ (zct (k.below hb) hn hj (hBW hb) (hT hb) h0l q hq)⟩
  show setH h {yJ h with zg:=(yJ h).zg.set (q:Int).toNat (args.getD 0 (0,0))}=_
  rw[Int.toNat_natCast,yn h0l]
 ·subst e
  exact⟨_,rfl,fun W hb=>fin hb rfl (zaP (k.below hb) a vt)⟩
 ·subst e
  have hl:=d.len (by decide)
  have QM:1<args.length:=by have:tk 5=2:=rfl;omega
  have h0l:0<args.length:=by omega
  have hk:=d.kinds
  simp only[qK,if_true,Bool.and_eq_true,beq_iff_eq] at hk
  rw[yn h0l,yn QM] at hk
  have hx:=d.first 0
  have hy:=d.first 1
  rw[yn h0l,hk.1] at hx
  rw[yn QM,hk.2] at hy
  refine⟨_,rfl,fun W hb=>fin hb ?_ (zcp (k.below hb) hn hj (hBW hb) hst a (hT hb) QM (wg hx) (wg hy))⟩
  show yI h (1,((args.getD 0 (0,0)).2+(args.getD 1 (0,0)).2) % 1000)=_
  rw[yn h0l,yn QM]
 ·subst e
  have hl:=d.len (by decide)
  have QM:1<args.length:=by have:tk 6=2:=rfl;omega
  have h0l:0<args.length:=by omega
  refine⟨_,rfl,fun W hb=>fin hb ?_ (zaV (k.below hb) hn hj (hBW hb) hst a (hT hb) QM)⟩
  show yI h (Qo (decide (args.getD 0 (0,0)=args.getD 1 (0,0))))=_
  rw[yn h0l,yn QM]
 ·subst e
  exact⟨_,rfl,fun W hb=>fin hb rfl (zaR (k.below hb) hn hj a vt)⟩
 ·subst e
  have hl:=d.len (by decide)
  have h0l:0<args.length:=by have:tk 8=1:=rfl;omega
  have hx:=d.first 0
  rw[yn h0l] at hx
  refine⟨_,rfl,fun W hb=>fin hb ?_ (zaY (k.below hb) hn hj (hBW hb) a (hT hb) h0l)⟩
  show(if(args.getD 0 (0,0)).1=0\/args.getD 0 (0,0)=(1,0) then setH h {yJ h with pc:=a} else h)=_
  rw[yn h0l]
  generalize args[0]=x at *
  obtain⟨x1,x2⟩:=x
  simp only at hx ⊢
  have e:(x1=0\/(x1,x2)=(1,0)) ↔ (x2=0/\(x1=0\/x1=1)):=by
   rw[Prod.mk.injEq]
   constructor
   ·rintro(q | ⟨q1,q2⟩)
    ·subst q;exact⟨KW hx,.inl rfl⟩
    ·exact⟨q2,.inr q1⟩
   ·rintro⟨q1,q2 | q2⟩
    ·exact .inl q2
    ·exact .inr ⟨q2,q1⟩
  by_cases q:x2=0/\(x1=0\/x1=1)
  ·rw[if_pos (e.2 q),if_pos q]
  ·rw[if_neg (fun z=>q (e.1 z)),if_neg q]
 ·subst e
  obtain⟨h0,h1⟩:=d.meth
  obtain⟨q,rfl⟩:=Int.eq_ofNat_of_zero_le h0
  have hq:q<ms.length:=by omega
  have htk:=d.takes
  rw[ui hq] at htk
  have hmp:=jR d.g.head.p hq
  have hbn:=d.g.head.born
  have hfw:=d.g.head.few
  exact⟨_,rfl,fun W hb=>fin hb rfl (zaN (k.below hb) (hBW hb) (hM.below hb) q hq (hT hb) htk ⟨hmp.zg.1,hmp.zg.2⟩ d.g.head.now.2 (fun i hi=>(d.g.cl i hi).sd.2) (by omega) ⟨by omega,by omega⟩)⟩
 ·subst e
  have hl:=d.len (by decide)
  have h0l:0<args.length:=by have:tk 10=1:=rfl;omega
  have hx:=d.first 0
  rw[yn h0l] at hx
  refine⟨_,rfl,fun W hb=>fin hb ?_ (zcr (k.below hb) hn hj (hBW hb) hsl a (hT hb) h0l (fun q=>by rw[q] at hx;exact ZZ hx) c.sd.2 (fun i hi=>by have:=(d.g.cl i hi).s;omega))⟩
  show Vt h (args.getD 0 (0,0))=_
  rw[yn h0l]
 ·subst e
  exact⟨_,rfl,fun W hb=>fin hb rfl (zaQ (k.below hb) hn hj (hBW hb) hst a vt)⟩
 ·subst e
  have hl:=d.len (by decide)
  have h0l:0<args.length:=by have:tk 12=1:=rfl;omega
  obtain⟨_,r0,r1⟩:=d.ref (by decide)
  rw[yn h0l] at r0 r1
  have hs:=(d.g.cl _ r1).sd
  refine⟨_,rfl,fun W hb=>fin hb ?_ (Ut (k.below hb) hn hj (hBW hb) hst a (hT hb) h0l r1 (by omega) hs.2 hs.1)⟩
  show yI h (uo h 12 a (args.getD 0 (0,0)).2.toNat)=_
  rw[yn h0l]
  unfold uo
  simp only[if_true]
  rw[yn r1]
 ·subst e
  have hl:=d.len (by decide)
  have h0l:0<args.length:=by have:tk 13=1:=rfl;omega
  obtain⟨_,r0,r1⟩:=d.ref (by decide)
  rw[yn h0l] at r0 r1
  obtain⟨q,rfl⟩:=Int.eq_ofNat_of_zero_le (d.peek (.inl rfl))
  refine⟨_,rfl,fun W hb=>fin hb ?_ (zaS (k.below hb) hn hj (hBW hb) hst q (hT hb) h0l r1 (by omega))⟩
  show yI h (uo h 13 q (args.getD 0 (0,0)).2.toNat)=_
  rw[yn h0l]
  unfold uo
  simp only[]
  rw[if_neg (by decide),if_pos trivial,yn r1,Int.toNat_natCast]
 ·subst e
  have hl:=d.len (by decide)
  have QM:1<args.length:=by have:tk 14=2:=rfl;omega
  have h0l:0<args.length:=by omega
  obtain⟨_,r0,r1⟩:=d.ref (by decide)
  rw[yn h0l] at r0 r1
  obtain⟨q,rfl⟩:=Int.eq_ofNat_of_zero_le (d.peek (.inr rfl))
  refine⟨_,rfl,fun W hb=>fin hb ?_ (zaT (k.below hb) (hBW hb) q (hT hb) QM r1 (by omega))⟩
  show uV h (args.getD 0 (0,0)).2.toNat q (args.getD 1 (0,0))=_
  rw[yn h0l,yn QM]
 ·subst e
  have hl:=d.len (by decide)
  have QM:1<args.length:=by have:tk 15=2:=rfl;omega
  have h0l:0<args.length:=by omega
  obtain⟨_,r0,r1⟩:=d.ref (by decide)
  rw[yn h0l] at r0 r1
  refine⟨_,rfl,fun W hb=>fin hb ?_ (zaM (k.below hb) (hBW hb) a (hT hb) QM r1 (by omega) (fun q=>d.backs r1 q))⟩
  show Qb h (args.getD 0 (0,0)).2.toNat (args.getD 1 (0,0))=_
  rw[yn h0l,yn QM]
 ·subst e
  have hl:=d.len (by decide)
  have h0l:0<args.length:=by have:tk 16=1:=rfl;omega
  have hx:=d.first 0
  rw[yn h0l] at hx
  refine⟨_,rfl,fun W hb=>fin hb ?_ (zcs (k.below hb) (hBW hb) hsl a (hT hb) h0l (fun q=>by rw[q] at hx;exact ZZ hx))⟩
  show uN h (args.getD 0 (0,0))=_
  rw[yn h0l]
 ·subst e
  have hl:=d.len (by decide)
  have h0l:0<args.length:=by have:tk 17=1:=rfl;omega
  obtain⟨_,r0,r1⟩:=d.ref (by decide)
  rw[yn h0l] at r0 r1
  refine⟨_,rfl,fun W hb=>fin hb ?_ (zaO (k.below hb) hn hj (hBW hb) hst a (hT hb) h0l r1 (by omega))⟩
  show yI h (uo h 17 a (args.getD 0 (0,0)).2.toNat)=_
  rw[yn h0l]
  unfold uo
  simp only[]
  rw[if_neg (by decide),if_neg (by decide),if_pos trivial,yn r1]
 ·subst e
  have hl:=d.len (by decide)
  have h0l:0<args.length:=by have:tk 18=1:=rfl;omega
  obtain⟨_,r0,r1⟩:=d.ref (by decide)
  rw[yn h0l] at r0 r1
  refine⟨_,rfl,fun W hb=>fin hb ?_ (Wp (k.below hb) hn hj (hBW hb) hst a (hT hb) h0l r1 (by omega))⟩
  show yI h (uo h 18 a (args.getD 0 (0,0)).2.toNat)=_
  rw[yn h0l]
  unfold uo
  simp only[]
  rw[if_neg (by decide),if_neg (by decide),if_neg (by decide),yn r1]
variable {B:Nat} {w w':World} {bl br:Nat} {vp vcs vsd:Value} {C D:Nat->Nat} {T:Nat->Value × Value} {h h':Hp}
theorem Jk (sa:Option Addr) (L sc:Nat):sliced sa 0 L sc 2=.slice sa L sc:=by
 unfold sliced
 cases sa with
 | none=>simp
 | some a=>by_cases e:sc=0 <;> simp[e,Addr.add]
theorem LV.cut (k:LV B w bl br vp vcs vsd C D T h) {j:Nat} (hj:j<h.za.length) (hB:B<=w.heap.size) {sa:Option Addr} {n sc L:Nat} (hV:(T j).2=.slice sa n sc) (hL:L<=h.za[j].zf.length) :
 LV B (w.setCell (zH (D j) 3) (.slice sa L sc)) bl br vp vcs vsd C D (xT T j ((T j).1,.slice sa L sc)) {h with za:=h.za.set j {h.za[j] with zf:=h.za[j].zf.take L}}/\vV B (yu bl br vcs vsd C D T h.za.length) (yu bl br vcs vsd C D (xT T j ((T j).1,.slice sa L sc)) h.za.length) w (w.setCell (zH (D j) 3) (.slice sa L sc)):=by
 have hr:=(k.ts j hj).2
 rw[hV] at hr
 exact k.push hj hB zD zS (fun _ _ _=>rfl) (hr.cutTo hL) (fun q e=>.inl (by rw[hV];rw[<-e];cases sa <;> rfl))
theorem Jd {kk:Int} (hk:1<=kk/\kk<=18) {v:Value} (hv:wB[kk.toNat]?=some v) (W:World):(Instr.index 194 (.agg wB.toArray) (zI kk)).run Tryz.prog W=.ok v W:=by
 rcases Xa hk with rfl | rfl | rfl | rfl | rfl | rfl | rfl | rfl | rfl | rfl | rfl | rfl | rfl | rfl | rfl | rfl | rfl | rfl
 all_goals
  obtain rfl:_=v:=Option.some.inj hv
  kernel_rfl
theorem X6 {kk:Int} (hk:1<=kk/\kk<=18) {K:Nat} (hv:wB[kk.toNat]?=some (.func (.func K) #[] #[])) (args:Array Value) (W:World):(callFunc K args).run Tryz.prog W=.ok (.enter K args) W:=by
 rcases Xa hk with rfl | rfl | rfl | rfl | rfl | rfl | rfl | rfl | rfl | rfl | rfl | rfl | rfl | rfl | rfl | rfl | rfl | rfl
 ·have e:=Option.some.inj hv
  injection e with e1
  injection e1 with e2
  subst e2
  exact Tryz.call146 args W
 ·have e:=Option.some.inj hv
  injection e with e1
  injection e1 with e2
  subst e2
  exact Tryz.call147 args W
 ·have e:=Option.some.inj hv
  injection e with e1
  injection e1 with e2
  subst e2
  exact Tryz.call148 args W
 ·have e:=Option.some.inj hv
  injection e with e1
  injection e1 with e2
  subst e2
  exact Tryz.call149 args W
 ·have e:=Option.some.inj hv
  injection e with e1
  injection e1 with e2
  subst e2
  exact Tryz.call150 args W
 ·have e:=Option.some.inj hv
  injection e with e1
  injection e1 with e2
  subst e2
  exact Tryz.call151 args W
 ·have e:=Option.some.inj hv
  injection e with e1
  injection e1 with e2
  subst e2
  exact Tryz.call152 args W
 ·have e:=Option.some.inj hv
  injection e with e1
  injection e1 with e2
  subst e2
  exact Tryz.call153 args W
 ·have e:=Option.some.inj hv
  injection e with e1
  injection e1 with e2
  subst e2
  exact Tryz.call154 args W
 ·have e:=Option.some.inj hv
  injection e with e1
  injection e1 with e2
  subst e2
  exact Tryz.call155 args W
 ·have e:=Option.some.inj hv
  injection e with e1
  injection e1 with e2
  subst e2
  exact Tryz.call156 args W
 ·have e:=Option.some.inj hv
  injection e with e1
  injection e1 with e2
  subst e2
  exact Tryz.call157 args W
 ·have e:=Option.some.inj hv
  injection e with e1
  injection e1 with e2
  subst e2
  exact Tryz.call158 args W
 ·have e:=Option.some.inj hv
  injection e with e1
  injection e1 with e2
  subst e2
  exact Tryz.call159 args W
 ·have e:=Option.some.inj hv
  injection e with e1
  injection e1 with e2
  subst e2
  exact Tryz.call160 args W
 ·have e:=Option.some.inj hv
  injection e with e1
  injection e1 with e2
  subst e2
  exact Tryz.call161 args W
 ·have e:=Option.some.inj hv
  injection e with e1
  injection e1 with e2
  subst e2
  exact Tryz.call162 args W
 ·have e:=Option.some.inj hv
  injection e with e1
  injection e1 with e2
  subst e2
  exact Tryz.call163 args W
theorem Tk.new {P:Nat->Prop} {v:Value} {args:yH} {b:Nat} (hr:zk b w v args) (hP:∀g,P g->g<b):Tk P w v args :=
 ⟨hr.at,fun g e=>⟨(hr.lt g e).2,fun hg=>by have:=(hr.lt g e).1;have:=hP g hg;omega⟩⟩
def Yn (B:Nat) (w:World) (vp:Value) (ms:Ms):Prop:=∃w0:World,w0.heap.size=B/\Below B w0 w/\yD w0 vp ms/\TabAt w0
theorem Yn.meths {ms:Ms} (e:Yn B w vp ms):yD w vp ms:=by
 obtain⟨w0,rfl,hb,hM,_⟩:=e
 exact hM.below hb
theorem Yn.tab {ms:Ms} (e:Yn B w vp ms):TabAt w:=by
 obtain⟨w0,rfl,hb,_,hT⟩:=e
 exact hT.below hb
theorem Yn.go {ms:Ms} (e:Yn B w vp ms) (h:Below B w w'):Yn B w' vp ms:=by
 obtain⟨w0,hz,hb,hM,hT⟩:=e
 exact⟨w0,hz,hb.trans h,hM,hT⟩
theorem qY.stays {P:Nat->Prop} (e:qY B bl br vp P w h w') {g:Nat} (hg:g<w.heap.size) (hn:¬P g):w'.heap[g]?=w.heap[g]?:=by
 obtain⟨_,_,_,_,_,_,k⟩:=e
 exact k.keep g hg hn
variable {B:Nat} {w w':World} {bl br:Nat} {vp vcs vsd:Value} {C D:Nat->Nat} {T:Nat->Value × Value} {h h':Hp}
theorem U1 (k:LV B w bl br vp vcs vsd C D T h) (hB:B<=w.heap.size) {ms:Ms} (Qt:Yn B w vp ms) (g:Good ms h) (hc:h.code=0) (hsl:h.zm.length<=2900000) :
 Calls Tryz.prog 87 #[zJ br 0] w fun e w'=>e=.returned (.tuple #[])/\qY B bl br vp (yu bl br vcs vsd C D T h.za.length) w (qH ms h) w':=by
 have hM:=Qt.meths
 have hTB:=Qt.tab
 have HENV:Hid (Yn B w vp ms):=Qt
 clear Qt
 have WE:0<=h.now:=by
  by_cases q:h.now<0
  ·have:=g.head.fin.2 q;omega
  ·omega
 obtain⟨j,hn⟩:∃j:Nat,h.now=j:=⟨h.now.toNat,by omega⟩
 have hj:j<h.za.length:=by have:=g.head.now;omega
 have c:=g.cl j hj
 obtain⟨m,hm⟩:=Int.eq_ofNat_of_zero_le c.m.1
 obtain⟨pc,hpc⟩:=Int.eq_ofNat_of_zero_le c.pc.1
 have wX:m<ms.length:=by have:=c.m;omega
 have HR:=kJ k hn hj
 have Qh:=Tryz.go_running bl
 obtain⟨ap,cp,qI,_⟩:=id hM
 subst qI
 obtain⟨⟨y0,y1,y2,y3,y4⟩,_⟩:=zq k.rn
 obtain⟨⟨z0,z1,z2,z3,z4⟩,_⟩:=zq (k.bd j hj)
 rw[hm] at z0
 rw[hpc] at z1
 have hbrl:br<w.heap.size:=(k.lo .run trivial br rfl).2
 have hDl:D j<w.heap.size:=(k.lo (.body j) hj (D j) rfl).2
 obtain⟨kk,a,ho⟩:∃kk a,ms[m].2.2.getD pc (0,0)=(kk,a):=⟨_,_,rfl⟩
 obtain⟨fd,K2⟩:∃fd,decide (pc<ms[m].2.2.length)=fd:=⟨_,rfl⟩
 have HOP:Hid (∀W,zO w W->Calls Tryz.prog 127 #[.agg #[.slice ap ms.length cp],zI m,zI pc] W fun e w'=>e=.returned (.tuple #[.agg #[zI kk,zI a],.bool fd])/\zO W w'):=fun W hb=>by
  have:=WX (.slice ap ms.length cp) ms m pc W (hM.below hb) wX
  rw[ho,K2] at this
  exact this
 have HK0:Hid (LV B w bl br (.slice ap ms.length cp) vcs vsd C D T h):=k
 have HK:Hid (LV B w bl br (.slice ap ms.length cp) vcs vsd C D T h/\yD w (.slice ap ms.length cp) ms/\TabAt w/\Good ms h/\ClP ms h.za.length h.za[j]):=⟨k,hM,hTB,g,c⟩
 have HO:Hid (ms[m].2.2.getD pc (0,0)=(kk,a)/\decide (pc<ms[m].2.2.length)=fd/\h.za[j].m=m/\h.za[j].pc=pc/\h.now=j/\h.code=0):=⟨ho,K2,hm,hpc,hn,hc⟩
 clear k hM hTB g c ho K2 hm hpc hn WE hc
 go_enter Tryz.func87,Tryz.ntmps87
 go_upto_region 1 with(go_at_call 227;refine HR.mono ?_;rintro e w' ⟨rfl,hw⟩;obtain rfl:=hw.symm)
 clear HR Qh
 have HS:∀w',zO w w'->(w'.cell? (zH br 0)=some (.slice ap ms.length cp)/\w'.cell? (zH (D j) 0)=some (zI m)/\w'.cell? (zH (D j) 1)=some (zI pc)/\zO w w'):=fun w' hB=>⟨zc hB y0,zc hB z0,zc hB z1,hB⟩
 go_region_held3 (fun w'=>w'.cell? (zH br 0)=some (.slice ap ms.length cp)/\w'.cell? (zH (D j) 0)=some (zI m)/\w'.cell? (zH (D j) 1)=some (zI pc)/\zO w w')
  ((refine HS _ ?_;first
   | (with_reducible exact(‹_/\_/\_/\zO w _›).2.2.2)
   | (with_reducible exact zS.drew)
   | (with_reducible exact hBC)
   | (with_reducible exact(zR _ _).drew)
   | (with_reducible exact hBC.alloc hBC.size _)
   | (with_reducible exact(hBC.setCell (p:=zH _ 0) (by first | omega | simp) _).setCell (p:=zH _ 1) (by first | omega | simp) _)))
  (first
   | (go_at_call 127;refine(HOP.out _ (‹_/\_/\_/\zO w _›).2.2.2).mono ?_;rintro e wC ⟨rfl,hbC⟩;have hBC:=Below.trans (‹_/\_/\_/\zO w _›).2.2.2 (hbC.mono ((‹_/\_/\_/\zO w _›).2.2.2).size);have hzC:=hBC.size;first | (have rC:=yp hbC (show((w.alloc (.cells #[.int .i64 0,.int .i64 0] 70)).drew).rowIs _ _ 2 _ from xJ w 70 (.int .i64 0) (.int .i64 0));obtain⟨⟨n0,n1⟩,l0,l1⟩:=zZ rC) | skip))
 all_goals first
  | (have rb:=xJ wC 70 (.int .i64 kk) (.int .i64 a);have BW:=(‹_/\_/\_/\zO w (wC.alloc _)›).2.2.2;have hbxw:w.heap.size<=wC.heap.size:=hzC;clear HS HOP hbC hBC hzC;generalize wC.alloc (.cells #[.int .i64 kk,.int .i64 a] 70)=W at *;generalize wC.heap.size=bx at *)
  | (have rb:((wC.setCell (zH w.heap.size 0) (zI kk)).setCell (zH w.heap.size 1) (zI a)).rowIs w.heap.size 70 2 (Jn (zI kk) (zI a)):=((uO rC (zI kk)).set 1 (zI a)).congr fun i hi=>(by match i,hi with | 0,_=>rfl | 1,_=>rfl);have BW:=(‹_/\_/\_/\zO w ((wC.setCell _ _).setCell _ _)›).2.2.2;clear HS HOP hbC hBC hzC rC n0 n1 l0 l1;generalize (wC.setCell (zH w.heap.size 0) (zI kk)).setCell (zH w.heap.size 1) (zI a)=W at *;obtain⟨bx,hbx⟩:∃bx,bx=w.heap.size:=⟨_,rfl⟩;rw[<-hbx] at rb;rw[<-hbx];have hbxw:w.heap.size<=bx:=(by omega);clear hbx)
 all_goals
  obtain⟨k0,M0,TB0,g0,c0⟩:=HK.out
  obtain⟨ho,K2,hm,hpc,hn,hc⟩:=HO.out
  have kW:=k0.below BW
  have MW:=M0.below ((BW).drew)
  have TW:=TB0.below ((BW).drew)
  have ZQ:=BW.size
  have hs6:=c0.s
  obtain⟨sa,sc,Ux,_⟩:=(kW.ts j hj).2.slice
  have QQ:=(kW.ts j hj).2
  rw[Ux] at QQ
  clear y0 y1 y2 y3 y4 z0 z1 z2 z3 z4
  obtain⟨⟨y0,y1,y2,y3,y4⟩,yf0,yf1,yf2,yf3,yf4⟩:=zq kW.rn
  obtain⟨⟨z0,z1,z2,z3,z4⟩,zf0,Wc,zf2,zf3,zf4⟩:=zq (kW.bd j hj)
  obtain⟨⟨q0,q1⟩,_⟩:=zZ rb
  rw[Ux] at z3
  rw[hpc] at z1
  have hDW:D j<W.heap.size:=by omega
  have zdL:br<W.heap.size:=by omega
  have hbxW:bx<W.heap.size:=rb.lt
  have HS2:∀w',zO W w'->(w'.cell? (zH br 0)=some (.slice ap ms.length cp)/\w'.cell? (zH bx 0)=some (zI kk)/\w'.cell? (zH bx 1)=some (zI a)/\w'.cell? (zH (D j) 3)=some (.slice sa h.za[j].zf.length sc)):=fun w' hb=>⟨zc hb y0,zc hb q0,zc hb q1,zc hb z3⟩
  have HE2:Hid (∀w4,zO W w4->qH ms h={h with code:=2}->((w4.cell? (zH br 4)=some (zI h.code)/\w4.frozen? (zH br 4)=false)/\qY B bl br (.slice ap ms.length cp) (yu bl br vcs vsd C D T h.za.length) w (qH ms h) (w4.setCell (zH br 4) (zI 2)))):=fun w4 hb e=>by
   have k4:=kW.below hb
   refine⟨⟨(zq k4.rn).1.2.2.2.2,(zq k4.rn).2.2.2.2.2⟩,?_⟩
   rw[e]
   exact qY.first (BW.trans (hb.mono ZQ)) hB ⟨_,_,_,_,_,k4.num (h':={h with code:=2}) (i:=4) (x:=2) rfl rfl rfl (jM k4.rn (zI 2)),vV.set (p:=zH br 4) ⟨.run,trivial,rfl⟩ (k0.lo .run trivial br rfl).1 _⟩
  cases fd
  ·have hlp:ms[m].2.2.length<=pc:=by simpa using K2
   have e0:ms[m].2.2.getD pc (0,0)=(0,0):=by rw[List.getD_eq_getElem?_getD,List.getElem?_eq_none hlp];rfl
   rw[e0] at ho
   injection ho with ek ea
   have HR2:Hid (qH ms h={h with code:=2}):=KP hn hj hm hpc wX hlp
   have HTKH:Hid (Calls Tryz.prog 128 #[.agg #[.slice ap ms.length cp],.agg #[zI kk,zI a],.slice sa h.za[j].zf.length sc] W.drew fun e w'=>∃v',e=.returned (.tuple #[v',.bool true])/\zk W.drew.heap.size w' v' (h.za[j].zf.drop h.za[j].zf.length)/\Below W.drew.heap.size W.drew w'):=by
    rw[<-ek,<-ea]
    exact Zh (B:=B) (.slice ap ms.length cp) ms g0.head.p 0 0 0 0 (by rw[je (by decide)];rfl) sa sc h.za[j].zf W.drew MW TW QQ hs6 (L:=h.za[j].zf.length) (by omega) (by omega) (by rw[List.drop_length];rfl)
   clear k0 M0 TB0 g0 c0 kW MW TW QQ HK HO ek ea e0 hlp hm hpc hn hc Ux K2 y1 y2 y3 y4 z0 z1 z2 z4 hs6
   go_upto_region 2 with fail
   go_region_held3 (fun w'=>w'.cell? (zH br 0)=some (.slice ap ms.length cp)/\w'.cell? (zH bx 0)=some (zI kk)/\w'.cell? (zH bx 1)=some (zI a)/\w'.cell? (zH (D j) 3)=some (.slice sa h.za[j].zf.length sc))
    ((refine HS2 _ ?_;first | (with_reducible exact zS.drew) | (with_reducible exact hB4) | (with_reducible exact Below.refl _ _)))
    (first | (go_at_call 128;refine HTKH.out.mono ?_;rintro e w4 ⟨v4,rfl,Ko,Yg⟩;have hB4:zO W w4:=zS.drew.trans Yg))
   all_goals
    obtain⟨⟨v0,vf0⟩,hE⟩:=HE2.out _ hB4 HR2.out
    go_wp2
    exact bodyPost_ret (results_none rfl _ _ _) rfl ⟨rfl,hE⟩
  ·have hpl:pc<ms[m].2.2.length:=by simpa using K2
   rw[yn hpl] at ho
   obtain⟨t,l,ht⟩:∃t l,yv ms kk a=(t,l):=⟨_,_,rfl⟩
   have HTB:=Zi g0.head.p kk a
   rw[ht] at HTB
   simp only[] at HTB
   by_cases hbad:((h.za[j].zf.length:Int) - t<0\/6<(h.za[j].zf.length:Int) - t+l)\/qK kk (h.za[j].zf.drop ((h.za[j].zf.length:Int) - t).toNat)=false
   ·have HTKH:Hid (Calls Tryz.prog 128 #[.agg #[.slice ap ms.length cp],.agg #[zI kk,zI a],.slice sa h.za[j].zf.length sc] W.drew fun e w'=>e=.returned (.tuple #[zQ,.bool false])/\Below W.drew.heap.size W.drew w'):=KQ (B:=B) (.slice ap ms.length cp) ms g0.head.p kk a t l ht sa sc h.za[j].zf W.drew MW TW QQ hs6 hbad
    have HR2:Hid (qH ms h={h with code:=2}):=by
     show _=_
     rw[Xj hn hj hm hpc wX hpl ho ht]
     by_cases q:(h.za[j].zf.length:Int) - t<0\/6<(h.za[j].zf.length:Int) - t+l
     ·rw[if_pos q]
     ·rw[if_neg q]
      rcases hbad with hb | hb
      ·exact absurd hb q
      ·rw[if_pos hb]
    clear k0 M0 TB0 g0 c0 kW MW TW QQ HK HO ho ht HTB hbad hpl hm hpc hn hc Ux K2 y1 y2 y3 y4 z0 z1 z2 z4 hs6
    go_upto_region 2 with fail
    go_region_held3 (fun w'=>w'.cell? (zH br 0)=some (.slice ap ms.length cp)/\w'.cell? (zH bx 0)=some (zI kk)/\w'.cell? (zH bx 1)=some (zI a)/\w'.cell? (zH (D j) 3)=some (.slice sa h.za[j].zf.length sc))
     ((refine HS2 _ ?_;first | (with_reducible exact zS.drew) | (with_reducible exact hB4) | (with_reducible exact Below.refl _ _)))
     (first | (go_at_call 128;refine HTKH.out.mono ?_;rintro e w4 ⟨rfl,Yg⟩;have hB4:zO W w4:=zS.drew.trans Yg))
    all_goals
     obtain⟨⟨v0,vf0⟩,hE⟩:=HE2.out _ hB4 HR2.out
     go_wp2
     exact bodyPost_ret (results_none rfl _ _ _) rfl ⟨rfl,hE⟩
   ·obtain⟨yL,hkb⟩:=not_or.1 hbad
    have Qx:qK kk (h.za[j].zf.drop ((h.za[j].zf.length:Int) - t).toNat)=true:=by simpa using hkb
    obtain⟨L,hL⟩:∃L:Nat,(h.za[j].zf.length:Int) - t=(L:Int):=⟨((h.za[j].zf.length:Int) - t).toNat,by omega⟩
    have hLn:L<=h.za[j].zf.length:=by omega
    have d0:=Wq g0 hc hn hj hm hpc wX hpl ho ht yL Qx
    have HSE:Hid (qH ms h=doH ms {h with za:=h.za.set j {h.za[j] with zf:=h.za[j].zf.take L,pc:=(pc:Int)+1}} kk a (h.za[j].zf.drop L)):=by
     show _=_
     rw[Xj hn hj hm hpc wX hpl ho ht,if_neg yL,hL,Int.toNat_natCast]
     rw[hL,Int.toNat_natCast] at Qx
     rw[if_neg (by rw[Qx];decide)]
    rw[hL,Int.toNat_natCast] at Qx d0
    have HTKH:Hid (Calls Tryz.prog 128 #[.agg #[.slice ap ms.length cp],.agg #[zI kk,zI a],.slice sa h.za[j].zf.length sc] W.drew fun e w'=>∃v',e=.returned (.tuple #[v',.bool true])/\zk W.drew.heap.size w' v' (h.za[j].zf.drop L)/\Below W.drew.heap.size W.drew w'):=Zh (B:=B) (.slice ap ms.length cp) ms g0.head.p kk a t l ht sa sc h.za[j].zf W.drew MW TW QQ hs6 hL (by omega) Qx
    have hDRl:(h.za[j].zf.drop L).length=h.za[j].zf.length - L:=by simp
    have hsc:L<=sc:=(QQ.piece (l:=0) (k:=L) zY hLn).2
    have hto:∀W,(Instr.slice 32 (.slice sa h.za[j].zf.length sc) none (some (zI (L:Int))) none).run Tryz.prog W=.ok (.slice sa L sc) W:=fun W=>by rw[<-Jk sa L sc];exact zez W sa _ sc L hsc
    have HD:Hid (jX ms {h with za:=h.za.set j {h.za[j] with zf:=h.za[j].zf.take L,pc:=(pc:Int)+1}} j kk a (h.za[j].zf.drop L)):=d0
    have HN:Hid (pc+1<=14/\1<=kk/\kk<=18):=⟨by have:=(jR g0.head.p wX).few;omega,d0.kind⟩
    have HKW:Hid (LV B W bl br (.slice ap ms.length cp) vcs vsd C D T h/\yD W (.slice ap ms.length cp) ms/\(T j).2=.slice sa h.za[j].zf.length sc/\h.za[j].pc=pc):=⟨kW,M0.below BW,Ux,hpc⟩
    generalize hDR:h.za[j].zf.drop L=DR at *
    have hwl:IntKind.i64.wrap ((h.za[j].zf.length:Int) - (DR.length:Int))=(L:Int):=by rw[IntKind.wrap_i64];omega
    clear k0 M0 TB0 g0 c0 kW MW TW QQ HK HO ho ht HTB hbad hpl hm hpc hn hc Ux K2 hkb Qx yL d0 hDR hsc hDRl
    go_upto_region 2 with fail
    go_region_held3 (fun w'=>w'.cell? (zH br 0)=some (.slice ap ms.length cp)/\w'.cell? (zH bx 0)=some (zI kk)/\w'.cell? (zH bx 1)=some (zI a)/\w'.cell? (zH (D j) 3)=some (.slice sa h.za[j].zf.length sc))
     ((refine HS2 _ ?_;first | (with_reducible exact zS.drew) | (with_reducible exact hB4) | (with_reducible exact Below.refl _ _)))
     (first | (go_at_call 128;refine HTKH.out.mono ?_;rintro e w4 ⟨v4,rfl,Ko,Yg⟩;have hB4:zO W w4:=zS.drew.trans Yg;obtain⟨a4,c4,hv4,_⟩:=Ko.slice;subst hv4))
    all_goals
     obtain⟨kW,MW,Ux,hpc⟩:=HKW.out
     have k4:=kW.below hB4
     have hz4:=hB4.size
     clear y0 y1 y2 y3 y4 yf0 yf1 yf2 yf3 yf4 z0 z1 z2 z3 z4 zf0 Wc zf2 zf3 zf4 q0 q1 HS2
     obtain⟨⟨z0,z1,z2,z3,z4⟩,zf0,Wc,zf2,zf3,zf4⟩:=zq (k4.bd j hj)
     rw[Ux] at z3
     rw[hpc] at z1
     have hD4:D j<w4.heap.size:=by omega
     have hB44:B<=w4.heap.size:=by omega
     obtain⟨k5,g5⟩:=k4.cut hj hB44 Ux hLn
     have hj5:j<(h.za.set j {h.za[j] with zf:=h.za[j].zf.take L}).length:=by simpa using hj
     obtain⟨k6,g6⟩:=k5.pc hj5 ((pc:Int)+1)
     simp only[List.getElem_set_self,List.set_set,List.length_set] at k6 g6
     have hwp:IntKind.i64.wrap ((pc:Int)+1)=(pc:Int)+1:=by rw[IntKind.wrap_i64];have:=HN.out.1;omega
     clear k5
     go_wp2_with fail
     go_region
     go_upto_region 7 with fail
     have qF:bx≠D j:=by omega
     have rb7:(((w4.setCell (zH (D j) 3) (.slice sa L sc)).setCell (zH (D j) 1) (zI ((pc:Int)+1))).drew).rowIs bx 70 2 (Jn (zI kk) (zI a)):=((yp hB4 rb).of_block (Below.heap_setCell _ _ _ _ qF)).of_block (Below.heap_setCell _ _ _ _ qF)
     have k7:=k6.below (zS.drew)
     have t4:Tk (yu bl br vcs vsd C D T h.za.length) w4 (.slice a4 DR.length c4) DR:=Tk.new (b:=W.heap.size) Ko (fun g ⟨x,hx,e⟩=>(kW.lo x hx g e).2)
     have t6:=t4.go (g5.trans g6)
     have g7:=(vV.of_below (P:=yu bl br vcs vsd C D T h.za.length) hB (BW.trans (hB4.mono ZQ))).trans (g5.trans g6)
     have E7:=HENV.out.go g7.b
     have hb7:B<=((w4.setCell (zH (D j) 3) (.slice sa L sc)).setCell (zH (D j) 1) (zI ((pc:Int)+1))).heap.size:=by simp[World.setCell];omega
     have hnb:¬yu bl br vcs vsd C D T h.za.length bx:=fun⟨x,hx,e⟩=>by have:=(HK0.out.lo x hx bx e).2;omega
     have hnb7:¬yu bl br vcs vsd C D (xT (xT T j ((T j).1,.slice sa L sc)) j ((xT T j ((T j).1,.slice sa L sc) j).1,(xT T j ((T j).1,.slice sa L sc) j).2)) h.za.length bx:=fun e=>by
      rcases(g5.trans g6).own bx e with q | q
      ·exact hnb q
      ·omega
     clear k4 k6 g5 g6 t4 kW MW
     generalize xT (xT T j ((T j).1,.slice sa L sc)) j ((xT T j ((T j).1,.slice sa L sc) j).1,(xT T j ((T j).1,.slice sa L sc) j).2)=T7 at *
     generalize (w4.setCell (zH (D j) 3) (.slice sa L sc)).setCell (zH (D j) 1) (zI ((pc:Int)+1))=W6 at *
     have hl7:(h.za.set j {h.za[j] with zf:=h.za[j].zf.take L,pc:=(pc:Int)+1}).length=h.za.length:=List.length_set
     have t7:Tk (yu bl br vcs vsd C D T7 (h.za.set j {h.za[j] with zf:=h.za[j].zf.take L,pc:=(pc:Int)+1}).length) W6.drew (.slice a4 DR.length c4) DR:=by
      rw[hl7]
      exact⟨t6.at_.below zS.drew,t6.off⟩
     have hbx6:bx<W6.drew.heap.size:=rb7.lt
     obtain⟨K,hK,HDo⟩:=zaU (h:={h with za:=h.za.set j {h.za[j] with zf:=h.za[j].zf.take L,pc:=(pc:Int)+1}}) k7 hb7 (E7.meths.below zS.drew) hsl t7 HD.out
     have hidx:=Jd HN.out.2 hK
     have hcall:=X6 HN.out.2 hK
     have HFIN:Hid (∀W,Below W6.drew.heap.size W6.drew W->Calls Tryz.prog K #[zJ br 0,zI a,.slice a4 DR.length c4] W fun e w'=>e=.returned (.tuple #[])/\w'.heap[bx]?=W6.drew.heap[bx]?/\qY B bl br (.slice ap ms.length cp) (yu bl br vcs vsd C D T h.za.length) w (qH ms h) w'):=fun W hbW=>by
      refine(HDo W hbW).mono ?_
      rintro e w9 ⟨h1,h2⟩
      simp only[hl7] at h2
      refine⟨h1,h2.stays hbx6 hnb7,?_⟩
      obtain⟨a1,a2,a3,a4',a5,a6,a7⟩:=h2
      rw[HSE.out]
      exact⟨a1,a2,a3,a4',a5,a6,g7.trans ((vV.of_below (P:=yu bl br vcs vsd C D T7 h.za.length) hb7 zS.drew).trans a7)⟩
     have HS7:∀w':World,w'.heap[bx]?=W6.drew.heap[bx]?->(w'.cell? (zH bx 0)=some (zI kk)/\w'.cell? (zH bx 1)=some (zI a)):=fun w' hb=>(zZ (rb7.of_block hb)).1
     clear k7 t7 t6 g7 E7 HDo hK HD HSE HTKH HKW HE2 HN hto hwl hwp Ko hB4 Yg rb z0 z1 z2 z3 z4 zf0 Wc zf2 zf3 zf4
     go_region_held3 (fun w'=>w'.cell? (zH bx 0)=some (zI kk)/\w'.cell? (zH bx 1)=some (zI a))
      ((refine HS7 _ ?_;first | (with_reducible exact rfl) | (with_reducible exact hk9) | (with_reducible exact hB8.block _ hbx6) | rfl))
      (first
       | (go_at_call 129;refine(J9 _).mono ?_;rintro e w8 ⟨rfl,hb8⟩;have hB8:Below W6.drew.heap.size W6.drew w8:=zS.drew.trans hb8)
       | (refine(HFIN.out _ hB8).mono ?_;rintro e w9 ⟨rfl,hk9,hE⟩))
     all_goals exact bodyPost_end (results_none rfl _ _ _) rfl ⟨rfl,hE⟩
variable {B:Nat} {w w':World} {bl br:Nat} {vp vcs vsd:Value} {C D:Nat->Nat} {T:Nat->Value × Value} {h h':Hp}
theorem Vx (k:LV B w bl br vp vcs vsd C D T h) (hB:B<=w.heap.size) {ms:Ms} (Qt:Yn B w vp ms) (g:Good ms h) (n:Nat) (hsl:h.zm.length+n<=2900000) :
 Calls Tryz.prog 47 #[zJ br 0,zI n] w fun e w'=>e=.returned (.tuple #[])/\qY B bl br vp (yu bl br vcs vsd C D T h.za.length) w (zV ms n h) w':=by
 have HK:Hid (Yn B w vp ms/\Good ms h):=⟨Qt,g⟩
 have HL:Hid (qY B bl br vp (yu bl br vcs vsd C D T h.za.length) w (zV ms 0 h) w):=⟨_,_,_,_,_,k,vV.refl _ _ _⟩
 clear k Qt g
 go_enter Tryz.func47,Tryz.ntmps47
 go_wp2
 go_loopg [4] n (fun gm i wr=>∃q:Nat,q<=n/\gm=n - q/\i=zI q/\qY B bl br vp (yu bl br vcs vsd C D T h.za.length) w (zV ms q h) wr)
 case atStart=>exact⟨0,Nat.zero_le _,rfl,rfl,HL.out⟩
 case round =>
  obtain⟨q,hq,rfl,rfl,hE⟩:=hrel
  obtain⟨xt,YZ,C',D',T',k',g'⟩:=hE
  have gq:=Good.run q h HK.out.2
  have hzr:=g'.b.size
  obtain⟨⟨_,_,_,_,y4⟩,_⟩:=zq k'.rn
  by_cases yz:q<n
  ·have hqz:(q:Int)<(n:Int):=by omega
   by_cases hc:(zV ms q h).code=0
   ·have HS:=U1 k' (by omega) (HK.out.1.go g'.b) gq hc (by have:=KN ms q h;omega)
    have HQ:Hid (∀w2,qY B bl br vp (yu bl br xt YZ C' D' T' (zV ms q h).za.length) wr (qH ms (zV ms q h)) w2->qY B bl br vp (yu bl br vcs vsd C D T h.za.length) w (zV ms (q+1) h) w2):=fun w2 hE2=>by
     obtain⟨a1,a2,a3,a4,a5,a6,a7⟩:=hE2
     rw[KL ms q h hc]
     exact⟨a1,a2,a3,a4,a5,a6,g'.trans a7⟩
    rw[hc] at y4
    clear k' gq hc g'
    go_wp2_with (go_at_call 87;refine HS.mono ?_;rintro e w2 ⟨rfl,hE2⟩)
    go_roundg (n - (q+1))
    case measure=>omega
    case rel=>exact⟨q+1,by omega,rfl,by go_num,HQ.out _ hE2⟩
   ·have hc':((zV ms q h).code == 0)=false:=zG.2 hc
    have HF:Hid (qY B bl br vp (yu bl br vcs vsd C D T h.za.length) w (zV ms n h) wr):=by
     show qY _ _ _ _ _ _ _ _
     rw[KM ms n q h hq hc]
     exact⟨_,_,_,_,_,k',g'⟩
    clear k' gq hc g'
    go_wp2
    exact bodyPost_end (results_none rfl _ _ _) rfl ⟨rfl,HF.out⟩
  ·obtain rfl:q=n:=by omega
   have HF:Hid (qY B bl br vp (yu bl br vcs vsd C D T h.za.length) w (zV ms q h) wr):=⟨_,_,_,_,_,k',g'⟩
   clear k' gq g'
   go_wp2
   exact bodyPost_end (results_none rfl _ _ _) rfl ⟨rfl,HF.out⟩
end Go.Proofs.YtbjgjjkgfnfejaaGreatDoor

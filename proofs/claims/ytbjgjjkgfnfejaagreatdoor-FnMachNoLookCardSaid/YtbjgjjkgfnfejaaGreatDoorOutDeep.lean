/-
  A machine that has run, handed out: how deep it is; the program's MachDeep.
-/
import Derived.Test.YtbjgjjkgfnfejaaGreatDoorTwinBase
namespace Go.Proofs.YtbjgjjkgfnfejaaGreatDoor
open Go.RowKit
theorem QI {cs:List Cl}:∀(f:Nat) (a:Int) (l:List Nat),qh cs f a=some l->kg cs f a=some l.length
 | f,a,l,h=>by
  by_cases hn:a<0
  ·rw[yN hn] at h
   cases h
   exact XX (by omega)
  ·obtain⟨n,rfl⟩:=Int.eq_ofNat_of_zero_le (show 0<=a by omega)
   cases f with
   | zero=>rw[vr (by omega)] at h;cases h
   | succ f =>
    by_cases hl:n<cs.length
    ·cases hd:cs[n].zy with
     | true=>rw[uD hl hd] at h;cases h
     | false =>
      rw[xQ hl hd] at h
      obtain⟨t,ht,rfl⟩:=Option.map_eq_some_iff.1 h
      rw[QJ hl hd,QI f _ t ht]
      rfl
    ·rw[wY hl] at h;cases h
theorem Zw.walk {S:Nat->Prop} {φ:Nat->Nat} {g h:Hp} (e:Zw S φ g h):∀(f:Nat) (a:Int) (l:List Nat),KA S a->qh h.ze f (up φ a)=some l->∃l',qh g.ze f a=some l'/\l'.map φ=l
 | f,a,l,ha,hl=>by
  rcases ha with h0 | ⟨k,rfl,hk⟩
  ·rw[zcO φ h0,yN h0] at hl
   cases hl
   exact⟨[],yN h0,rfl⟩
  ·rw[Yb] at hl
   have h1:=e.lo k hk
   have h2:=e.lt k hk
   have hc:=e.cl k hk
   have hs:=e.snd k hk
   rw[List.getD_eq_getElem?_getD,List.getElem?_eq_getElem h2,Option.getD_some,List.getD_eq_getElem?_getD,List.getElem?_eq_getElem h1,Option.getD_some] at hc
   rw[List.getD_eq_getElem?_getD,List.getElem?_eq_getElem h1,Option.getD_some] at hs
   have hd:h.ze[φ k].zy=g.ze[k].zy:=by rw[hc];rfl
   have hn:h.ze[φ k].zi=up φ g.ze[k].zi:=by rw[hc];rfl
   cases f with
   | zero=>rw[vr (by omega)] at hl;cases hl
   | succ f =>
    cases hg:g.ze[k].zy with
    | true=>rw[uD h2 (hd.trans hg)] at hl;cases hl
    | false =>
     rw[xQ h2 (hd.trans hg),hn] at hl
     obtain⟨t,ht,rfl⟩:=Option.map_eq_some_iff.1 hl
     obtain⟨t',h3,h4⟩:=Zw.walk e f _ t hs ht
     exact⟨k :: t',by rw[xQ h1 hg,h3];rfl,by rw[List.map_cons,h4]⟩
theorem Zw.deep {S:Nat->Prop} {φ:Nat->Nat} {g h:Hp} (e:Zw S φ g h) {l:List Nat} (hw:xj h.ze h.now l):qQ g.ze g.now=qQ h.ze h.now/\qQ h.ze h.now<=h.ze.length:=by
 obtain⟨f,hf⟩:=hw.ch
 have hf':=hf
 rw[e.now] at hf'
 obtain⟨l',h1,h2⟩:=e.walk f _ l e.nowS hf'
 have hlen:l'.length=l.length:=by rw[<-h2,List.length_map]
 have h3:l'.length<=g.ze.length:=by
  have:=xX l' (List.range g.ze.length) (Zt _ _ _ h1) (fun k hk=>List.mem_range.2 (XG _ _ _ h1 k hk).1)
  simpa using this
 have a1:=QI _ _ _ (uE l' f g.ze.length _ h1 h3)
 have a2:=QI _ _ _ (uE l f h.ze.length _ hf hw.len)
 unfold qQ
 rw[a1,a2,hlen]
 exact⟨rfl,hw.len⟩
set_option maxRecDepth 100000 in
set_option maxHeartbeats 4000000 in
theorem Jb (vp vo vt vs:Value) (m:Mc) (w:World) (h:yC w vp vo vt vs m) (hT:Jw m) (hD:zdm m) (hn:m.za.length<=1048576) (hN:yc m.za+m.zd.length<=61) (hd:qQ (yQ m).ze (yQ m).now<=30) :
 Calls Tryz.prog 18 #[.agg (zu vp vo vt vs m).toArray] w fun e w'=>e=.returned (.int .i64 (qQ (yQ m).ze (yQ m).now:Nat))/\zO w w':=by
 have HM:Hid (yC w vp vo vt vs m):=h
 obtain⟨dp,hdp⟩:∃dp,qQ (yQ m).ze (yQ m).now=dp:=⟨_,rfl⟩
 rw[hdp] at hd ⊢
 have hdz:(dp:Int)<=30:=by omega
 have HDP:Hid (qQ (yQ m).ze (yQ m).now=dp):=hdp
 clear hdp
 have hcn:(yQ m).ze.length<=61:=by
  show(yR m m.za.length ++ qV m m.zd.length).length<=_
  rw[List.length_append,qY zD,ki]
  exact hN
 obtain⟨ap,cp,qz,hlp,hcp⟩:=id h.p
 obtain⟨ao,co,jw,hlo,hco⟩:=id h.o
 obtain⟨at',ct,jA,hlt',hct⟩:=id h.t
 obtain⟨as',cs,jG⟩:=h.s.shape
 subst qz jw jA jG
 unfold zu
 go_enter Tryz.func18,Tryz.ntmps18
 go_upto_region 1 with fail
 refine yg (fun W=>zO w W/\Bx W w.heap.size 34 [.int .i64 m.cells,.slice ap m.za.length cp,.slice ao m.order.length co,.int .i64 m.now,.slice at' m.zd.length ct,.int .i64 m.born,.slice as' m.zm.length cs,.int .i64 m.code]) ⟨zR _ _,Bx.new w _ _⟩ ?_
 rintro W ⟨hb,hm⟩
 obtain⟨⟨m0,m1,m2,m3,m4,m5,m6,m7⟩,_⟩:=jW hm
 have zb:=hb.size
 clear hcp hco hct
 have HP:=Yr _ _ _ _ m W (HM.out.below hb) hT
 unfold zu at HP
 go_wp2_with fail
 refine HP.mono ?_
 rintro e W2 ⟨rfl,t2⟩
 have yE:=hb.trans (t2.mono zb)
 have ww:=hm.below t2
 have z2:=yE.size
 clear HP t2 hm m0 m1 m2 m3 m4 m5 m6 m7
 obtain⟨⟨m0,m1,m2,m3,m4,m5,m6,m7⟩,_⟩:=jW ww
 have HQ:=Z9 _ _ _ _ m W2 (HM.out.below yE) hD hn (by omega)
 unfold zu at HQ
 go_wp2_with fail
 refine HQ.mono ?_
 rintro e W3 ⟨vc,rfl,hc,t3⟩
 have qR:=yE.trans (t3.mono z2)
 have z3:=qR.size
 have HV:Hid (Calls Tryz.prog 24 #[.agg #[vc,.int .i64 (kF m),.int .i64 0,.slice none 0 0,.int .i64 0]] W3 fun e w'=>e=.returned (.int .i64 (dp:Int))/\zO W3 w'):=by
  have:=ZL vc (zQ) (yQ m) W3 ⟨hc,⟨none,0,rfl,Nat.zero_le _,fun _ hi=>absurd hi yB⟩⟩ (by omega)
  rw[HDP.out] at this
  exact this
 clear HQ t3 ww m0 m1 m2 m3 m4 m5 m6 m7
 go_wp2_with fail
 refine HV.out.mono ?_
 rintro e W4 ⟨rfl,t4⟩
 have Za:=qR.trans (t4.mono z3)
 go_wp2
 go_ret
 exact⟨rfl,Za⟩
theorem WK {ms:Ms} {L:yw} {h:Hp} {born:Int} {zm:yH} {code:Int} {vp vo vt vs:Value} (s:xE 0 0 L h) (hw:uZ L h) (g:Good ms h) (xt:L.za.length<=900) (w:World) (hm:yC w vp vo vt vs (yM L born zm code)) :
 Calls Tryz.prog 18 #[.agg (zu vp vo vt vs (yM L born zm code)).toArray] w fun e w'=>e=.returned (.int .i64 (qQ h.ze h.now:Nat))/\zO w w':=by
 obtain⟨h30,hl⟩:=g.lens
 obtain⟨h60,hsh⟩:=UQ (born:=born) (zm:=zm) (code:=code) s hw h30 hl
 obtain⟨l,hwt⟩:=g.w
 obtain⟨h1,h2⟩:=(Vo (born:=born) (zm:=zm) (code:=code) s hw).deep hwt
 have:=Jb vp vo vt vs (yM L born zm code) w hm (UR s hl) (za8 s hl) (by rw[kr];omega) (by omega) (by omega)
 rw[h1] at this
 exact this
end Go.Proofs.YtbjgjjkgfnfejaaGreatDoor

/- Part 01 -/
import Derived.Test.YtclgbmmambkiaaaGreatDoorMIf00
set_option maxRecDepth 100000
set_option maxHeartbeats 4000000
set_option linter.unusedVariables false
set_option linter.unusedSimpArgs false
namespace Go.Proofs.YtclgbmmambkiaaaGreatDoor
open Go.RowKit
theorem zum{w:World}{F:Nat→Prop}{a b c:Sx.Ex}{kd nu:Int}{nm ag:ByteArray}{la:Option Addr}{na ca:Nat}{lp:Option Addr}{np cp:Nat}(h:ExAt w F (Sx.zd6 a b c) (.agg #[.int .i64 kd,.int .i64 nu,.string nm,.string ag,.slice la na ca,.slice lp np cp])):kd=8∧np=2:=by
 unfold Sx.zd6 at h;rw [ExAt] at h;obtain⟨sv,xs,pv,ps,hv,h1,_,h3,_⟩:=h;obtain⟨l1,c1,rfl⟩:=zad h1.1;obtain⟨l2,c2,rfl⟩:=zad h3.1;simp only [Value.agg.injEq,Array.mk.injEq,List.cons.injEq,Value.int.injEq,Value.slice.injEq,and_true,true_and] at hv;exact⟨hv.1,hv.2.2.2.2.2.2.1⟩
theorem zyc(a b c:ByteArray)(w:World)(hg:Gl w)(sa:a.size≤6000)(sb:b.size≤6000)(sc:c.size≤6000)(xa xb xc:Sx.Ex)(ha:rdE a=.ok xa)(hb:rdE b=.ok xb)(hc:rdE c=.ok xc) :
  Calls Tryz.prog 9 #[.string a,.string b,.string c] w fun e w'=>e=.returned (.bool true)∧Old w w':=by
 obtain⟨hI,hC⟩:=zyd ha hb hc sa sb sc;have cX:=zw7 (Sx.zd6 xa xb xc);obtain⟨k,hk⟩ : ∃k,ckE (Sx.zd6 xa xb xc)=k:=⟨_,rfl⟩;rw [hk] at hI hC cX;obtain⟨R,hR⟩ : ∃R:Except (Int×Int) Sx.Ex,R=if k=0 then .ok (Sx.zd6 xa xb xc) else .error (0,k):=⟨_,rfl⟩
 rw [← hR] at hI hC;have xi:res2 R=k:=by
  rw [hR];split
  ·rename_i h;rw [h];rfl
  ·rfl
 have hRx:k=0→R=.ok (Sx.zd6 xa xb xc):=fun h=>by rw [hR,if_pos h]
 have HC:=qya (And.intro ha (And.intro hb (And.intro hc (And.intro hI (And.intro hC (And.intro xi hRx))))));have zI:(tIf a b c).size≤140737488355328:=by rw [zp1];omega
 have zC:(zra a b c).size≤140737488355328:=by rw [zj9];omega
 have qY:=qya (And.intro (And.intro sa (And.intro sb sc)) (And.intro zI zC));have d1:decide ((6000:Int)<(a.size:Int))=false:=qyk (by omega);have e1:decide (6000<a.size)=false:=qyk (by omega);have d2:decide ((6000:Int)<(b.size:Int))=false:=qyk (by omega);have e2:decide (6000<b.size)=false:=qyk (by omega);have d3:decide ((6000:Int)<(c.size:Int))=false:=qyk (by omega);have e3:decide (6000<c.size)=false:=qyk (by omega);clear ha hb hc hI hC hR xi hRx zI zC hk
 go_enter Tryz.func9,Tryz.ntmps9
 go_wp2_with fail
 refine (zbg w hg).mono ?_;rintro e w1 ⟨rfl,o1⟩
 go_wp2_with fail
 refine (za6 a (by have:=qY.out;omega) w1 (hg.old o1) _ (qya rfl) 0 (congrArg res2 HC.out.1)).mono ?_;rintro e w2 ⟨o2,kd,nu,nm,ag,la,na,uD,lp,np,cp,p,rfl,-⟩;have o2:=(o1.trans o2).alloc (.cells #[.int .i64 kd,.int .i64 nu,.string nm,.string ag,.slice la na uD,.slice lp np cp] 32);clear o1
 go_wp2_with fail
 refine (za6 b (by have:=qY.out;omega) _ (hg.old o2) _ (qya rfl) 0 (congrArg res2 HC.out.2.1)).mono ?_;rintro e w3 ⟨o3,lw,mL,m5,eC,ly,m7,mY,lj,mA,eU,p3,rfl,-⟩;have o3:=(o2.trans o3).alloc (.cells #[.int .i64 lw,.int .i64 mL,.string m5,.string eC,.slice ly m7 mY,.slice lj mA eU] 32);clear o2
 go_wp2_with fail
 refine (za6 c (by have:=qY.out;omega) _ (hg.old o3) _ (qya rfl) 0 (congrArg res2 HC.out.2.2.1)).mono ?_;rintro e w4 ⟨o4,jo,jr,jl,jV,ji,je,jt,ja,jm,jZ,p4,rfl,-⟩;have o4:=(o3.trans o4).alloc (.cells #[.int .i64 jo,.int .i64 jr,.string jl,.string jV,.slice ji je jt,.slice ja jm jZ] 32);clear o3
 go_wp2_with fail
 refine (za6 (tIf a b c) qY.out.2.1 _ (hg.old o4) R (qya HC.out.2.2.2.1) k HC.out.2.2.2.2.2.1).mono ?_;rintro e w5 ⟨o5,vn,vd,zE,vl,vq,zA,zS,zH,zL,zN,p5,rfl,hx5⟩;have o5:=o4.trans o5;have k5:=Blk.new w5 #[.int .i64 vn,.int .i64 vd,.string zE,.string vl,.slice vq zA zS,.slice zH zL zN] 32;have o5':=(Old.refl w5).alloc (.cells #[.int .i64 vn,.int .i64 vd,.string zE,.string vl,.slice vq zA zS,.slice zH zL zN] 32);have o6:=o5.trans o5';clear o4 o5
 go_wp2_with fail
 refine (za6 (zra a b c) qY.out.2.2 _ (hg.old o6) R (qya HC.out.2.2.2.2.1) k HC.out.2.2.2.2.2.1).mono ?_;rintro e w6 ⟨o7,kd6,nu6,nm6,ag6,la6,na6,ca6,lp6,np6,cp6,p6,rfl,hx6⟩;have k5:=(k5.keep o7 (fun e=>e)).alloc (.cells #[.int .i64 kd6,.int .i64 nu6,.string nm6,.string ag6,.slice la6 na6 ca6,.slice lp6 np6 cp6] 32);have k6:=Blk.new w6 #[.int .i64 kd6,.int .i64 nu6,.string nm6,.string ag6,.slice la6 na6 ca6,.slice lp6 np6 cp6] 32;have o8:=(Old.refl w6).alloc (.cells #[.int .i64 kd6,.int .i64 nu6,.string nm6,.string ag6,.slice la6 na6 ca6,.slice lp6 np6 cp6] 32);have HO:=qya ((o6.trans o7).trans o8)
 by_cases h0:k=0
 ·have hX:=HC.out.2.2.2.2.2.2 h0;subst h0;have x5:=(hx5 _ hX).keep ((o5'.trans o7).trans o8) (fun _ _ e=>e);have x6:=(hx6 _ hX).keep o8 (fun _ _ e=>e);obtain⟨rfl,rfl⟩:=zum x5;clear o6 o7 o8 o5' hx5 hx6 hX cX;have tB:=qya (zyu x5 x6);have HK:=qya k5;obtain⟨s0,s1,s2,s3,s4,s5⟩:=k5.c6;obtain⟨t0,t1,t2,t3,t4,t5⟩:=k6.c6;clear k5 k6 x5 x6
  go_wp2_with fail
  (with_reducible refine tB.out.mono ?_)
  rintro e w7 ⟨rfl,o9⟩;have k5:=HK.out.keep o9 (fun e=>e);clear s0 s1 s2 s3 s4 s5 t0 t1 t2 t3 t4 t5;have s0:=k5.c 0 (.int .i64 8) rfl;have s5:=k5.c 5 (.slice zH 2 zN) rfl;have HO2:=qya (HO.out.trans o9);clear k5 o9;go_wp2;go_ret;exact⟨rfl,HO2.out⟩
 ·have f1:(k != 0)=true:=bne_iff_ne.2 h0;have f2:(k==k)=true:=beq_self_eq_true k;have f3:(k != 20)=true:=bne_iff_ne.2 cX;clear o6 o7 o8 o5' hx5 hx6 k5 k6 h0 cX;go_wp2;go_ret;exact⟨rfl,HO.out⟩
theorem zmy(a b c:ByteArray)(_:a.size≤140737488355328)(_:b.size≤140737488355328)(_:c.size≤140737488355328)(w:World)(hg:Gl w) :
  Calls Tryz.prog 9 #[.string a,.string b,.string c] w fun e w'=>e=.returned (.bool true)∧Old w w':=by
 by_cases hb:6000<a.size∨6000<b.size∨6000<c.size
 ·exact zy3 a b c w hg hb
 have hx : ∀t:ByteArray,res2 (rdE t)≠0∨∃x,rdE t=.ok x:=fun t=>by
  cases h:rdE t with
  | ok x=>exact .inr ⟨x,rfl⟩
  | error p=>
   exact .inl (zrn h)
 rcases hx a with h | ⟨xa,ha⟩
 ·exact zl5 a b c w hg (by omega) (by omega) (by omega) (.inl h)
 rcases hx b with h | ⟨xb,pY⟩
 ·exact zl5 a b c w hg (by omega) (by omega) (by omega) (.inr (.inl h))
 rcases hx c with h | ⟨xc,hc⟩
 ·exact zl5 a b c w hg (by omega) (by omega) (by omega) (.inr (.inr h))
 exact zyc a b c w hg (by omega) (by omega) (by omega) xa xb xc ha pY hc
end Go.Proofs.YtclgbmmambkiaaaGreatDoor

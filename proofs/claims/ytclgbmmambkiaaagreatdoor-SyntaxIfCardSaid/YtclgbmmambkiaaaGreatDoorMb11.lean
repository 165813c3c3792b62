/- Part 11 -/
import Derived.Test.YtclgbmmambkiaaaGreatDoorMb10
import Derived.Shelf.Strings.BuilderK
import Derived.Lib.FrozenHead2
import Derived.Lib.OthersKept
set_option maxRecDepth 100000
set_option maxHeartbeats 4000000
set_option linter.unusedVariables false
set_option linter.unusedSimpArgs false
namespace Go.Proofs.YtclgbmmambkiaaaGreatDoor
open Go.RowKit
theorem zy6(t:Ti)(H:zek t)(w:World)(F:Nat→Prop)(v v0:Value)(base R:Nat)(L:List RT)(hE:ExAt w F t.ex v)(hF : ∀k,F k→k<base)(hV:WrV w base R L v0)(hg:Gl w)(hB:6≤base)(hl:L.length+(enc (decide (t.lv<5)) t.wT).length≤1000000) :
  Calls Tryz.prog 202 #[.pointer (some ⟨R,0,none⟩),v] w fun e w'=>e=.returned (.tuple #[])∧Wrote w v0 base R (L++enc (decide (t.lv<5)) t.wT) w':=by
 obtain⟨kd,nu,nm,ag,la,na,ca,lp,np,cp,rfl⟩:=hE.parts;obtain⟨w1,ju⟩ : ∃w1,w.alloc (.cells #[.int .i64 kd,.int .i64 nu,.string nm,.string ag,.slice la na ca,.slice lp np cp] 32)=w1:=⟨_,rfl⟩;have kB:Blk w1 w.heap.size #[.int .i64 kd,.int .i64 nu,.string nm,.string ag,.slice la na ca,.slice lp np cp] 32:=by rw [← ju];exact Blk.new _ _ _
 have O1:Old w w1:=by rw [← ju];exact (Old.refl w).alloc _
 obtain⟨c0,c1,c2,c3,c4,c5⟩:=BoxE.of kB;have HC:=qya (zuo t H 5 w1 F _ v0 base R L (hE.keep O1 (fun _ _ e=>e)) hF (hV.old O1) (hg.old O1) hB hl);have vS:=qya ju;clear ju kB hE hV hg hl
 go_enter Tryz.func202,Tryz.ntmps202
 go_wp2_with fail
 rw [vS.out]
 go_wp2_with fail
 (with_reducible refine HC.out.mono ?_)
 rintro e w2 ⟨rfl,xi⟩;have HR:=qya xi;clear xi;go_wp2
 go_end0
 exact⟨rfl,Wrote.fore O1 HR.out⟩
theorem zqy(a b:Ti)(Ha:zek a)(Hb:zek b)(w W:World)(P Q:Nat)(F:Nat→Prop)(v0:Value)(base R:Nat)(L:List RT)
  (kd nu:Int)(nm ag:ByteArray)(la:Option Addr)(na ca:Nat)(lq:Option Addr)(nq cq:Nat)(qI j3:Int)(qh j9:ByteArray)(jR:Option Addr)(jN jD:Nat)(uK:Option Addr)(uV uP:Nat)
  (ha:ExAt w F a.ex (exV kd nu nm ag la na ca lq nq cq))(hb:ExAt w F b.ex (exV qI j3 qh j9 jR jN jD uK uV uP))(hF : ∀k,F k→k<base)(hV:WrV w base R L v0)(hg:Gl w)(hB:6≤base)
  (hl:L.length+((enc (decide (a.lv<4)) a.wT).length+(enc (decide (b.lv<5)) b.wT).length)≤1000000)(hO:Old w W)(hP:w.heap.size≤P)(hQ:w.heap.size≤Q)
  (kP:Blk W P #[.int .i64 kd,.int .i64 nu,.string nm,.string ag,.slice la na ca,.slice lq nq cq] 32)(kQ:Blk W Q #[.int .i64 qI,.int .i64 j3,.string qh,.string j9,.slice jR jN jD,.slice uK uV uP] 32)(w5:World)(h5:Old W w5) :
  Calls Tryz.prog 203 #[.pointer (some ⟨R,0,none⟩),.bool (decide (a.lv<4)),exV kd nu nm ag la na ca lq nq cq,.func (.func 68) #[.pointer (some ⟨R,0,none⟩)] #[]] w5 fun e w6=>e=.returned (.tuple #[])∧BoxE w6 P kd nu nm ag la na ca lq nq cq∧BoxE w6 Q qI j3 qh j9 jR jN jD uK uV uP ∧
   Calls Tryz.prog 202 #[.pointer (some ⟨R,0,none⟩),exV qI j3 qh j9 jR jN jD uK uV uP] w6 fun e w'=>e=.returned (.tuple #[])∧Wrote w v0 base R (L++(enc (decide (a.lv<4)) a.wT++enc (decide (b.lv<5)) b.wT)) w':=by
 have o:=hO.trans h5;have hRw:=hV.lt;have cm:=hV.own;have fM:=hV.old o;refine (zkz a Ha _ w5 F _ v0 base R L (ha.keep o (fun _ _ e=>e)) hF fM (hg.old o) hB (by omega)).mono ?_;rintro e w6 ⟨rfl,v1,hV6,f6,o6⟩;refine⟨rfl,BoxE.of ((kP.keep h5 (fun e=>e)).keep f6 (fun e=>e.elim (fun e=>by omega) (fun e=>by have:=(cm _ e).2;omega))),BoxE.of ((kQ.keep h5 (fun e=>e)).keep f6 (fun e=>e.elim (fun e=>by omega) (fun e=>by have:=(cm _ e).2;omega))),?_⟩;refine (zy6 b Hb w6 F _ v1 base R _ ((hb.keep o (fun _ _ e=>e)).keep f6 (fun k hk e=>by have:=hF k hk;have:=fM.above k e;omega)) hF hV6 ((hg.old o).wrote fM hB f6) hB (by rw [qye];omega)).mono ?_;rintro e w7 ⟨rfl,hW⟩;have:=Wrote.fore o (Wrote.more f6 o6 hW);rw [List.append_assoc] at this;exact⟨rfl,this⟩
theorem zmk(a b:Ti)(Ha:zek a)(Hb:zek b)(w:World)(F:Nat→Prop)(v v0:Value)(base R:Nat)(L:List RT)(hE:ExAt w F (Ti.app a b).ex v)(hF : ∀k,F k→k<base)(hV:WrV w base R L v0)(hg:Gl w)(hB:6≤base)(hl:L.length+(Ti.app a b).wT.length≤1000000) :
  Calls Tryz.prog 139 #[.pointer (some ⟨R,0,none⟩),v] w fun e w'=>e=.returned (.tuple #[])∧Wrote w v0 base R (L++(Ti.app a b).wT) w':=by
 rw [Ti.ex] at hE;obtain⟨G,cap,lp,np,cp,kd,nu,nm,ag,la,na,ca,lq,nq,cq,qI,j3,qh,j9,jR,jN,jD,uK,uV,uP,rfl,hr,hFG,ha,hb⟩:=zp0 hE;rw [Ti.wT] at hl ⊢;have lR:decide (kd=3)=false:=by
  cases a <;> (rw [Ti.ex,ExAt] at ha;obtain⟨sv,xs,pv,ps,e,-⟩:=ha;cases e;rfl)
 have hkn : ¬kd=3:=of_decide_eq_false lR;have hll:L.length+((enc (decide (a.lv<4)) a.wT).length+(enc (decide (b.lv<5)) b.wT).length)≤1000000:=by rw [qye] at hl;exact hl
 obtain⟨w1,ju⟩ : ∃w1,w.alloc (.cells #[.int .i64 4,.int .i64 0,.string ⟨#[]⟩,.string ⟨#[]⟩,.slice (some ⟨G,0,none⟩) 2 cap,.slice lp np cp] 32)=w1:=⟨_,rfl⟩;have kB:Blk w1 w.heap.size #[.int .i64 4,.int .i64 0,.string ⟨#[]⟩,.string ⟨#[]⟩,.slice (some ⟨G,0,none⟩) 2 cap,.slice lp np cp] 32:=by rw [← ju];exact Blk.new _ _ _
 have O1:Old w w1.drew:=by rw [← ju];exact ((Old.refl w).alloc _).drew
 have hRw:=hV.lt;have cm:=hV.own;have vS:=qya ju;have hO1:Old w w1:=by rw [← ju];exact (Old.refl w).alloc _
 have j5:w1.heap.size=w.heap.size+1:=by rw [← ju];exact qyd _ _
 have hr1:=zaa hr hO1 (fun _ _ e=>e);have cZ:G<w1.heap.size:=(hr1.lt _ rfl).2;have kk : ∀w',Fr (fun k=>w1.heap.size≤k) w1 w'→w'.cell? ⟨w.heap.size,4,none⟩=some (.slice (some ⟨G,0,none⟩) 2 cap)∧w'.cell? ⟨G,0,none⟩=some (.int .i64 kd)∧w'.cell? ⟨G,1,none⟩=some (.int .i64 nu)∧w'.cell? ⟨G,2,none⟩=some (.string nm)∧w'.cell? ⟨G,3,none⟩=some (.string ag)∧w'.cell? ⟨G,4,none⟩=some (.slice la na ca)∧w'.cell? ⟨G,5,none⟩=some (.slice lq nq cq)∧w'.cell? ⟨G,6,none⟩=some (.int .i64 qI)∧w'.cell? ⟨G,7,none⟩=some (.int .i64 j3)∧w'.cell? ⟨G,8,none⟩=some (.string qh)∧w'.cell? ⟨G,9,none⟩=some (.string j9)∧w'.cell? ⟨G,10,none⟩=some (.slice jR jN jD)∧w'.cell? ⟨G,11,none⟩=some (.slice uK uV uP):=fun w' hf=>by
  have h2:=zaa hr1 hf (fun k hk e=>by cases hk;exact absurd cZ (Nat.not_lt.2 e));have h1:=BoxE.of (kB.keep hf (fun e=>by omega));exact⟨h1.2.2.2.2.1,h2.cellAt 0 (by decide),h2.cellAt 1 (by decide),h2.cellAt 2 (by decide),h2.cellAt 3 (by decide),h2.cellAt 4 (by decide),h2.cellAt 5 (by decide),h2.cellAt 6 (by decide),h2.cellAt 7 (by decide),h2.cellAt 8 (by decide),h2.cellAt 9 (by decide),h2.cellAt 10 (by decide),h2.cellAt 11 (by decide)⟩
 have HKP:=qya kk;clear kk;have HK:=qya (And.intro kB (And.intro hr (And.intro ha (And.intro hb (And.intro hV hg)))));clear ju kB hr hr1 ha hb hV hg hE
 go_enter Tryz.func139,Tryz.ntmps139
 go_wp2_with fail
 rw [vS.out]
 go_region_held3 (fun w'=>w'.cell? ⟨w.heap.size,4,none⟩=some (.slice (some ⟨G,0,none⟩) 2 cap)∧w'.cell? ⟨G,0,none⟩=some (.int .i64 kd)∧w'.cell? ⟨G,1,none⟩=some (.int .i64 nu)∧w'.cell? ⟨G,2,none⟩=some (.string nm)∧w'.cell? ⟨G,3,none⟩=some (.string ag)∧w'.cell? ⟨G,4,none⟩=some (.slice la na ca)∧w'.cell? ⟨G,5,none⟩=some (.slice lq nq cq)∧w'.cell? ⟨G,6,none⟩=some (.int .i64 qI)∧w'.cell? ⟨G,7,none⟩=some (.int .i64 j3)∧w'.cell? ⟨G,8,none⟩=some (.string qh)∧w'.cell? ⟨G,9,none⟩=some (.string j9)∧w'.cell? ⟨G,10,none⟩=some (.slice jR jN jD)∧w'.cell? ⟨G,11,none⟩=some (.slice uK uV uP)) ((refine HKP.out _ ?_;repeat (first | exact Fr.refl _ _ | refine Fr.drew ?_ | refine Fr.alloc ?_ _ | refine Fr.setCell ?_ _ (fun _=>by first | exact qyb _ | exact Nat.le_succ _) _))) (fail)
 ·obtain⟨W2,jJ⟩ : ∃W2,((w1.alloc (.cells #[.int .i64 kd,.int .i64 nu,.string nm,.string ag,.slice la na ca,.slice lq nq cq] 32)).alloc (.cells #[.int .i64 qI,.int .i64 j3,.string qh,.string j9,.slice jR jN jD,.slice uK uV uP] 32)).drew=W2:=⟨_,rfl⟩;have kP:Blk W2 (w.heap.size+1) #[.int .i64 kd,.int .i64 nu,.string nm,.string ag,.slice la na ca,.slice lq nq cq] 32:=by rw [← jJ,← j5];exact ((Blk.new w1 _ _).alloc _).drew
  have kQ:Blk W2 (w.heap.size+1+1) #[.int .i64 qI,.int .i64 j3,.string qh,.string j9,.slice jR jN jD,.slice uK uV uP] 32:=by
   rw [← jJ,← j5];have:=(Blk.new (w1.alloc (.cells #[.int .i64 kd,.int .i64 nu,.string nm,.string ag,.slice la na ca,.slice lq nq cq] 32)) #[.int .i64 qI,.int .i64 j3,.string qh,.string j9,.slice jR jN jD,.slice uK uV uP] 32).drew;rw [qyd] at this;exact this
  have OW:Old w W2:=by rw [← jJ];exact ((hO1.alloc _).alloc _).drew
  rw [jJ];clear jJ;obtain⟨kB,hr,ha,hb,hV,hg⟩:=HK.out;obtain⟨p0,p1,p2,p3,p4,p5⟩:=BoxE.of kP;obtain⟨t0,t1,t2,t3,t4,t5⟩:=BoxE.of kP.drew;have hN:=zqy a b Ha Hb w W2.drew (w.heap.size+1) (w.heap.size+1+1) F v0 base R L _ _ _ _ _ _ _ _ _ _ _ _ _ _ _ _ _ _ _ _ ha hb hF hV hg hB hll OW.drew (by omega) (by omega) kP.drew kQ.drew;have HN:=qya hN;have mD:=qya (zh5 a w F _ ha W2.drew);have kk : ∀w5,Old W2.drew w5→BoxE w5 (w.heap.size+1) kd nu nm ag la na ca lq nq cq:=fun w5 o5=>BoxE.of (kP.drew.keep o5 (fun e=>e));have HKE:=qya kk;clear hN kk kP kQ kB hr ha hb hV hg OW hll
  go_wp2_with fail
  go_region_held3 (fun w'=>w'.cell? ⟨w.heap.size+1,0,none⟩=some (.int .i64 kd)∧w'.cell? ⟨w.heap.size+1,1,none⟩=some (.int .i64 nu)∧w'.cell? ⟨w.heap.size+1,2,none⟩=some (.string nm)∧w'.cell? ⟨w.heap.size+1,3,none⟩=some (.string ag)∧w'.cell? ⟨w.heap.size+1,4,none⟩=some (.slice la na ca)∧w'.cell? ⟨w.heap.size+1,5,none⟩=some (.slice lq nq cq))
   (first | exact⟨t0,t1,t2,t3,t4,t5⟩ | exact HKE.out _ (by assumption) | exact hB6)
   (first
    | (go_at_call 204;refine mD.out.mono ?_;rintro e w5 ⟨rfl,hO5⟩)
    | (go_at_call 203;refine (HN.out _ hO5).mono ?_;rintro e w6 ⟨rfl,hB6,⟨u0,u1,u2,u3,u4,u5⟩,hC6⟩))
  all_goals
   have HC:=qya hC6;clear hC6
   go_wp2_with fail
   (with_reducible refine HC.out.mono ?_)
   rintro e w7 ⟨rfl,yf⟩;have HR:=qya yf;clear yf;go_wp2
   go_end0
   exact⟨rfl,HR.out⟩
 ·obtain⟨W2,jJ⟩ : ∃W2,((w1.alloc (.cells #[.int .i64 qI,.int .i64 j3,.string qh,.string j9,.slice jR jN jD,.slice uK uV uP] 32)).alloc (.cells #[.int .i64 kd,.int .i64 nu,.string nm,.string ag,.slice la na ca,.slice lq nq cq] 32)).drew=W2:=⟨_,rfl⟩;have kQ:Blk W2 (w.heap.size+1) #[.int .i64 qI,.int .i64 j3,.string qh,.string j9,.slice jR jN jD,.slice uK uV uP] 32:=by rw [← jJ,← j5];exact ((Blk.new w1 _ _).alloc _).drew
  have kP:Blk W2 (w.heap.size+1+1) #[.int .i64 kd,.int .i64 nu,.string nm,.string ag,.slice la na ca,.slice lq nq cq] 32:=by
   rw [← jJ,← j5];have:=(Blk.new (w1.alloc (.cells #[.int .i64 qI,.int .i64 j3,.string qh,.string j9,.slice jR jN jD,.slice uK uV uP] 32)) #[.int .i64 kd,.int .i64 nu,.string nm,.string ag,.slice la na ca,.slice lq nq cq] 32).drew;rw [qyd] at this;exact this
  have OW:Old w W2:=by rw [← jJ];exact ((hO1.alloc _).alloc _).drew
  rw [jJ];clear jJ;obtain⟨kB,hr,ha,hb,hV,hg⟩:=HK.out;obtain⟨p0,p1,p2,p3,p4,p5⟩:=BoxE.of kP;obtain⟨t0,t1,t2,t3,t4,t5⟩:=BoxE.of kP.drew;have hN:=zqy a b Ha Hb w W2.drew (w.heap.size+1+1) (w.heap.size+1) F v0 base R L _ _ _ _ _ _ _ _ _ _ _ _ _ _ _ _ _ _ _ _ ha hb hF hV hg hB hll OW.drew (by omega) (by omega) kP.drew kQ.drew;have HN:=qya hN;have mD:=qya (zh5 a w F _ ha W2.drew);have kk : ∀w5,Old W2.drew w5→BoxE w5 (w.heap.size+1+1) kd nu nm ag la na ca lq nq cq:=fun w5 o5=>BoxE.of (kP.drew.keep o5 (fun e=>e));have HKE:=qya kk;clear hN kk kP kQ kB hr ha hb hV hg OW hll
  go_wp2_with fail
  go_region_held3 (fun w'=>w'.cell? ⟨w.heap.size+1+1,0,none⟩=some (.int .i64 kd)∧w'.cell? ⟨w.heap.size+1+1,1,none⟩=some (.int .i64 nu)∧w'.cell? ⟨w.heap.size+1+1,2,none⟩=some (.string nm)∧w'.cell? ⟨w.heap.size+1+1,3,none⟩=some (.string ag)∧w'.cell? ⟨w.heap.size+1+1,4,none⟩=some (.slice la na ca)∧w'.cell? ⟨w.heap.size+1+1,5,none⟩=some (.slice lq nq cq))
   (first | exact⟨t0,t1,t2,t3,t4,t5⟩ | exact HKE.out _ (by assumption) | exact hB6)
   (first
    | (go_at_call 204;refine mD.out.mono ?_;rintro e w5 ⟨rfl,hO5⟩)
    | (go_at_call 203;refine (HN.out _ hO5).mono ?_;rintro e w6 ⟨rfl,hB6,⟨u0,u1,u2,u3,u4,u5⟩,hC6⟩))
  all_goals
   have HC:=qya hC6;clear hC6
   go_wp2_with fail
   (with_reducible refine HC.out.mono ?_)
   rintro e w7 ⟨rfl,yf⟩;have HR:=qya yf;clear yf;go_wp2
   go_end0
   exact⟨rfl,HR.out⟩
theorem zf7{w w1:World}{kd nu:Int}{nm ag:ByteArray}{la:Option Addr}{na ca:Nat}{lp:Option Addr}{np cp:Nat}(h:w.alloc (.cells #[.int .i64 kd,.int .i64 nu,.string nm,.string ag,.slice la na ca,.slice lp np cp] 32)=w1) :
  Blk w1 w.heap.size #[.int .i64 kd,.int .i64 nu,.string nm,.string ag,.slice la na ca,.slice lp np cp] 32∧Old w w1∧w1.heap.size=w.heap.size+1:=by
 subst h;exact⟨Blk.new _ _ _,(Old.refl w).alloc _,qyd _ _⟩
theorem zwz(n:Nat)(hn:(Ti.num n).fits):zek (.num n):=by
 intro w F v v0 base R L hE hF hV hg hB hl;rw [Ti.ex,ExAt] at hE;obtain⟨sv,xs,pv,ps,rfl,hr,-,pr,-⟩:=hE;obtain⟨la,c,rfl⟩:=zad hr.1;obtain⟨lp,q,rfl⟩:=zad pr.1;obtain⟨w1,ju⟩ : ∃w1,w.alloc (.cells #[.int .i64 1,.int .i64 n,.string ⟨#[]⟩,.string ⟨#[]⟩,.slice la 0 c,.slice lp 0 q] 32)=w1:=⟨_,rfl⟩;obtain⟨kB,O1,j5⟩:=zf7 ju;obtain⟨p0,p1,p2,p3,p4,p5⟩:=BoxE.of kB;have xg:(n:Int)≤9223372036854775807:=by have:n≤9223372036854775807:=hn;omega
 have gB:L.length≤1000000:=by omega
 have HC:=qya (num_w n (by omega) xg w1 base R L v0 (hg.old O1) (hV.old O1) gB);have vS:=qya ju;clear ju kB hr pr hV hg hl hn xg
 go_enter Tryz.func68,Tryz.ntmps68
 go_wp2_with fail
 simp only [bv,List.toArray] at *
 rw [vS.out]
 go_wp2_with fail
 (with_reducible refine HC.out.mono ?_)
 rintro e w2 ⟨rfl,xi⟩;have HR:=qya xi;clear xi;go_wp2
 go_end0
 exact⟨rfl,Wrote.fore O1 HR.out⟩
theorem zu9(s:ByteArray):bv s.data.toList=.string s:=by cases s;simp
theorem zwx(s:ByteArray)(hn:(Ti.var s).fits):zek (.var s):=by
 intro w F v v0 base R L hE hF hV hg hB hl;rw [Ti.ex,ExAt] at hE;obtain⟨sv,xs,pv,ps,rfl,hr,-,pr,-⟩:=hE;obtain⟨la,c,rfl⟩:=zad hr.1;obtain⟨lp,q,rfl⟩:=zad pr.1;rw [zu9];obtain⟨w1,ju⟩ : ∃w1,w.alloc (.cells #[.int .i64 2,.int .i64 0,.string s,.string ⟨#[]⟩,.slice la 0 c,.slice lp 0 q] 32)=w1:=⟨_,rfl⟩;obtain⟨kB,O1,j5⟩:=zf7 ju;obtain⟨p0,p1,p2,p3,p4,p5⟩:=BoxE.of kB;have gB:L.length+[s].length≤1000000:=hl;have HC:=qya (znb [s] (by intro u hu;cases hu with | head=>exact hn | tail _ h=>cases h) 1 rfl #[.string s] rfl w1 (w.heap.size+1) j5.symm base R L v0 (hg.old O1) hB (hV.old O1) gB);have vS:=qya ju;clear ju kB hr pr hV hg hl hn
 go_enter Tryz.func68,Tryz.ntmps68
 go_wp2_with fail
 simp only [bv,List.toArray] at *
 rw [vS.out]
 go_wp2_with fail
 (with_reducible refine HC.out.mono ?_)
 rintro e w2 ⟨rfl,xi⟩;have HR:=qya xi;clear xi;go_wp2
 go_end0
 exact⟨rfl,Wrote.fore O1 HR.out⟩
theorem zwy(a b:Ti)(Ha:zek a)(Hb:zek b):zek (.sub a b):=by
 intro w F v v0 base R L hE hF hV hg hB hl;have hE0:=hE;rw [Ti.ex] at hE;obtain⟨G,cap,lp,np,cp,kd,nu,nm,ag,la,na,ca,lq,nq,cq,qI,j3,qh,j9,jR,jN,jD,uK,uV,uP,rfl,-⟩:=zp0 hE;obtain⟨w1,ju⟩ : ∃w1,w.alloc (.cells #[.int .i64 9,.int .i64 0,.string ⟨#[45]⟩,.string ⟨#[]⟩,.slice (some ⟨G,0,none⟩) 2 cap,.slice lp np cp] 32)=w1:=⟨_,rfl⟩;obtain⟨kB,O1,j5⟩:=zf7 ju;obtain⟨p0,p1,p2,p3,p4,p5⟩:=BoxE.of kB;have hC:=zov a b Ha Hb w1 F _ v0 base R L (hE0.keep O1 (fun _ _ e=>e)) hF (hV.old O1) (hg.old O1) hB hl;have HC:=qya hC;have vS:=qya ju;clear ju kB hV hg hl hC hE0 hE
 go_enter Tryz.func68,Tryz.ntmps68
 go_wp2_with fail
 rw [vS.out]
 go_wp2_with fail
 (with_reducible refine HC.out.mono ?_)
 rintro e w2 ⟨rfl,xi⟩;have HR:=qya xi;clear xi;go_wp2
 go_end0
 exact⟨rfl,Wrote.fore O1 HR.out⟩
theorem zw0(a b:Ti)(Ha:zek a)(Hb:zek b):zek (.app a b):=by
 intro w F v v0 base R L hE hF hV hg hB hl;have hE0:=hE;rw [Ti.ex] at hE;obtain⟨G,cap,lp,np,cp,kd,nu,nm,ag,la,na,ca,lq,nq,cq,qI,j3,qh,j9,jR,jN,jD,uK,uV,uP,rfl,-⟩:=zp0 hE;obtain⟨w1,ju⟩ : ∃w1,w.alloc (.cells #[.int .i64 4,.int .i64 0,.string ⟨#[]⟩,.string ⟨#[]⟩,.slice (some ⟨G,0,none⟩) 2 cap,.slice lp np cp] 32)=w1:=⟨_,rfl⟩;obtain⟨kB,O1,j5⟩:=zf7 ju;obtain⟨p0,p1,p2,p3,p4,p5⟩:=BoxE.of kB;have hC:=zmk a b Ha Hb w1 F _ v0 base R L (hE0.keep O1 (fun _ _ e=>e)) hF (hV.old O1) (hg.old O1) hB hl;have HC:=qya hC;have vS:=qya ju;clear ju kB hV hg hl hC hE0 hE
 go_enter Tryz.func68,Tryz.ntmps68
 go_wp2_with fail
 rw [vS.out]
 go_wp2_with fail
 (with_reducible refine HC.out.mono ?_)
 rintro e w2 ⟨rfl,xi⟩;have HR:=qya xi;clear xi;go_wp2
 go_end0
 exact⟨rfl,Wrote.fore O1 HR.out⟩
theorem zyg(x:ByteArray)(b:Ti)(hn:x.size≤140737488355328)(Hb:zek b):zek (.fn x b):=by
 intro w F v v0 base R L hE hF hV hg hB hl;rw [Ti.ex] at hE;obtain⟨G,cap,lp,np,cp,kd,nu,nm,ag,la,na,ca,lq,nq,cq,hv,hr,hFG,hb⟩:=zyv hE;have hx:(⟨x.data.toList.toArray⟩:ByteArray)=x:=by cases x;simp
 rw [hx] at hv;subst hv;rw [Ti.wT] at hl ⊢;have dq:L.length+(3+b.wT.length)≤1000000:=by rw [qye] at hl;exact hl
 obtain⟨w1,ju⟩ : ∃w1,w.alloc (.cells #[.int .i64 5,.int .i64 0,.string ⟨#[]⟩,.string x,.slice (some ⟨G,0,none⟩) 1 cap,.slice lp np cp] 32)=w1:=⟨_,rfl⟩;obtain⟨kB,O1,j5⟩:=zf7 ju;obtain⟨p0,p1,p2,p3,p4,p5⟩:=BoxE.of kB;have hRw:=hV.lt;have cm:=hV.own;have xl:=hV.old O1;have uc:=hg.old O1;have HC:=qya (znb [⟨#[102,110]⟩,x,⟨#[61,62]⟩] (by intro u hu;simp at hu;rcases hu with rfl | rfl | rfl <;> first | exact hn | exact (by decide:(2:Nat)≤140737488355328)) 3 rfl #[.string ⟨#[102,110]⟩,.string x,.string ⟨#[61,62]⟩] rfl w1 (w.heap.size+1) j5.symm base R L v0 uc hB xl (by show L.length+3≤1000000;omega));have vS:=qya ju;have HK:=qya (And.intro kB (And.intro (zaa hr O1 (fun _ _ e=>e)) (And.intro (hb.keep O1 (fun _ _ e=>e)) (And.intro xl uc))));clear ju kB hr hb hV hg hl hn xl uc hE
 go_enter Tryz.func68,Tryz.ntmps68
 go_wp2_with fail
 rw [vS.out]
 go_wp2_with fail
 (with_reducible refine HC.out.mono ?_)
 rintro e w2 ⟨rfl,v1,dR,f2,o2⟩;obtain⟨kB,hr,hb,hV,hg⟩:=HK.out;clear p0 p1 p2 p3 p4 p5;have hbG:G<base:=hF _ hFG;have fH:=kB.keep f2 (fun e=>e.elim (fun e=>by omega) (fun e=>by have:=(cm _ e).2;omega));have xr:=zaa hr f2 (fun k hk e=>by cases hk;have:=hV.above _ e;exact absurd hbG (Nat.not_lt.2 this));have kt:=hb.keep f2 (fun k hk e=>by have:=hF k hk;have:=hV.above k e;omega);have xW:=hg.wrote hV hB f2;obtain⟨r0,r1,r2,r3,r4,r5⟩:=BoxE.of fH;have q0:w2.cell? ⟨G,0,none⟩=some (.int .i64 kd):=xr.cellAt 0 (by decide);have q1:w2.cell? ⟨G,1,none⟩=some (.int .i64 nu):=xr.cellAt 1 (by decide);have q2:w2.cell? ⟨G,2,none⟩=some (.string nm):=xr.cellAt 2 (by decide);have q3:w2.cell? ⟨G,3,none⟩=some (.string ag):=xr.cellAt 3 (by decide);have q4:w2.cell? ⟨G,4,none⟩=some (.slice la na ca):=xr.cellAt 4 (by decide);have q5:w2.cell? ⟨G,5,none⟩=some (.slice lq nq cq):=xr.cellAt 5 (by decide);have tB:=qya (Hb w2 F _ v1 base R _ kt hF dR xW hB (by rw [qye];show L.length+3+b.wT.length≤1000000;omega));have HK2:=qya (And.intro f2 o2);clear fH xr kt xW kB hr hb hV hg f2 o2 dR
 go_wp2_with fail
 (with_reducible refine tB.out.mono ?_)
 rintro e w3 ⟨rfl,vf⟩;have HR:=qya vf;clear vf;go_wp2
 go_end0
 have:=Wrote.fore O1 (Wrote.more HK2.out.1 HK2.out.2 HR.out);rw [List.append_assoc] at this;exact⟨rfl,this⟩
theorem zky : ∀(t:Ti),t.fits→zek t
 | .num n,h=>zwz n h
 | .var s,h=>zwx s h
 | .sub a b,h=>zwy a b (zky a h.1) (zky b h.2)
 | .app a b,h=>zw0 a b (zky a h.1) (zky b h.2)
 | .fn x b,h=>zyg x b h.1 (zky b h.2)
theorem zvf(k n a k' n' a':Int)(s s':ByteArray)(w:World) :
  Calls Tryz.prog 132 #[tokV k n s a,tokV k' n' s' a'] w fun e w'=>e=.returned (.bool ((k==k')&&((n==n')&&(s.toList==s'.toList))))∧Old w w':=by
 cases h1:(k==k')
 ·go_enter Tryz.func132,Tryz.ntmps132
  go_wp2;go_ret;exact⟨rfl,((Old.refl w).alloc _).alloc _⟩
 ·cases h2:(n==n')
  ·go_enter Tryz.func132,Tryz.ntmps132
   go_wp2;go_ret;exact⟨rfl,((Old.refl w).alloc _).alloc _⟩
  ·go_enter Tryz.func132,Tryz.ntmps132
   go_wp2;go_ret;exact⟨rfl,((Old.refl w).alloc _).alloc _⟩
def Lx.valid(k n:Int)(s:List UInt8)(a:Int):Bool:=match Lx.whole s with
 | some (k',n')=>decide (0≤a)&&((k==k')&&(n==n'))
 | none=>false
theorem zq8(w:World)(b:Nat)(t:ByteArray)(p:Nat)(v:Value)(h:St w b t p v)(hg:Gl w)(h6:6≤b)(k n a:Int)(s:ByteArray)(hs:s.size≤140737488355328)(hW:Lx.whole s.data.toList=none) :
  Calls Tryz.prog 61 #[.pointer (some ⟨b,0,none⟩),tokV k n s a] w fun e w'=>e=.returned (.bool false)∧But b w w':=by
 have HW:=qya hW;clear hW
 go_enter Tryz.func61,Tryz.ntmps61
 go_wp2_with fail
 refine (zf8 _ b t p v (h.alloc _) (hg.alloc _) h6 s hs).mono ?_;intro e w1 hP;rw [HW.out] at hP;obtain⟨rfl,f1⟩:=hP;have F1:=((But.refl b w).alloc _).trans f1;have kT:=(Blk.new' (b:=w.heap.size) rfl #[.int .i64 k,.int .i64 n,.string s,.int .i64 a] 59).keep f1 (by have:=h.lt;omega);obtain⟨c0,c1,c2,c3,g0,g1,g2,g3⟩:=kT.four;have hl:=kT.lt;clear f1;go_wp2;go_ret;exact⟨rfl,F1.alloc _⟩
theorem zq7(w:World)(b:Nat)(t:ByteArray)(p:Nat)(v:Value)(h:St w b t p v)(hg:Gl w)(h6:6≤b)(k n a:Int)(s:ByteArray)(hs:s.size≤140737488355328)(k' n':Int)(hW:Lx.whole s.data.toList=some (k',n')) :
  Calls Tryz.prog 61 #[.pointer (some ⟨b,0,none⟩),tokV k n s a] w fun e w'=>e=.returned (.bool (decide (0≤a)&&((k==k')&&(n==n'))))∧St w' b s s.size v∧But b w w':=by
 have HW:=qya hW;clear hW;cases ha:decide (0≤a)
 ·go_enter Tryz.func61,Tryz.ntmps61
  go_wp2_with fail
  refine (zf8 _ b t p v (h.alloc _) (hg.alloc _) h6 s hs).mono ?_;intro e w1 hP;rw [HW.out] at hP;obtain⟨rfl,h1,f1⟩:=hP;have F1:=((But.refl b w).alloc _).trans f1;have kT:=(Blk.new' (b:=w.heap.size) rfl #[.int .i64 k,.int .i64 n,.string s,.int .i64 a] 59).keep f1 (by have:=h.lt;omega);obtain⟨c0,c1,c2,c3,g0,g1,g2,g3⟩:=kT.four;have hl:=kT.lt;clear f1;go_wp2;go_ret;exact⟨rfl,h1.alloc _,F1.alloc _⟩
 ·go_enter Tryz.func61,Tryz.ntmps61
  go_wp2_with fail
  refine (zf8 _ b t p v (h.alloc _) (hg.alloc _) h6 s hs).mono ?_;intro e w1 hP;rw [HW.out] at hP;obtain⟨rfl,h1,f1⟩:=hP;have F1:=((But.refl b w).alloc _).trans f1;have kT:=(Blk.new' (b:=w.heap.size) rfl #[.int .i64 k,.int .i64 n,.string s,.int .i64 a] 59).keep f1 (by have:=h.lt;omega);obtain⟨c0,c1,c2,c3,g0,g1,g2,g3⟩:=kT.four;have hl:=kT.lt;clear f1
  go_wp2_with fail
  refine (zvf k n a k' n' 0 s s _).mono ?_;rintro e w2 ⟨rfl,o2⟩;rw [beq_self_eq_true,Bool.and_true];go_wp2;go_ret;exact⟨rfl,(h1.alloc _).old o2,(F1.alloc _).trans (o2.but b)⟩
theorem zqo:(Tryz.prog.info? 5).map (fun i=>(i.zero,i.size,i.bytes))=some (some (.int .u8 0),1,1):=by kernel_rfl
theorem zik:(Tryz.prog.info? 111).map (·.size)=some 2:=by kernel_rfl
theorem zo8:liesAt Tryz.prog Tryz.prog.depth 111 (2/Tryz.prog.cellsOf 111) 0 111 1=true:=by kernel_rfl
abbrev IsB(B b:Nat)(bs:List Value)(w:World):Prop:=Lib.IsBuilderF 111 5 B b bs w
abbrev AtB(B b:Nat)(bs:List Value)(w:World):Prop:=Lib.BuilderAtF 111 5 B b (.pointer (some ⟨b,0,none⟩)) bs w
abbrev Oth(b:Nat)(w w':World):Prop:=Lib.OthersKept 5 (some b) w w'
theorem zsp(b:Nat)(w:World)(h0:w.cell? ⟨b,0,none⟩=some (.pointer none))(hsh:w.shape? b=some (111,2))(hfz:w.frozen? ⟨b,0,none⟩=false) :
  Calls Tryz.prog 133 #[.pointer (some ⟨b,0,none⟩)] w fun e w'=>e=.returned (.tuple #[])∧w'=w.setCell ⟨b,0,none⟩ (.pointer (some ⟨b,0,none⟩)):=by
 obtain⟨j,hj,hjs⟩:=Option.map_eq_some_iff.1 zik
 go_enter Tryz.func133,Tryz.ntmps133
 go_wp2_with fail
 rw [Lib.run_to_unsafe w ⟨b,0,none⟩ Tryz.underlying108 Tryz.underlying220 hj (by rw [hjs];decide) hsh (Nat.zero_lt_succ 1)];simp only [Result.andThen];rw [Oper.upon_value]
 go_wp2_with fail
 rw [run_callFunc_extern Tryz.func198 (by kernel_rfl) (by kernel_rfl) (by kernel_rfl) (e:=Extern.AbiNoEscape.same) (by kernel_rfl)];rw [Lib.run_noEscape];simp only [Result.andThen];rw [Oper.upon_value]
 go_wp2_with fail
 rw [Lib.run_from_unsafe w ⟨b,0,none⟩ Tryz.underlying220 Tryz.underlying108 hj hsh zo8];simp only [Result.andThen];rw [Oper.upon_value]
 go_wp2_with fail
 go_end0
 exact⟨rfl,rfl⟩
theorem zu0(b:Nat)(w:World)(h0:w.cell? ⟨b,0,none⟩=some (.pointer (some ⟨b,0,none⟩))) :
  Calls Tryz.prog 133 #[.pointer (some ⟨b,0,none⟩)] w fun e w'=>e=.returned (.tuple #[])∧w'=w:=by
 go_enter Tryz.func133,Tryz.ntmps133
 obtain⟨j,hj,_⟩:=Option.map_eq_some_iff.1 zik
 go_wp2_with fail
 rw [Lib.run_neq_ptr_same w _ Tryz.underlying108 hj]
 go_wp2_with fail
 go_end0
 exact⟨rfl,rfl⟩
theorem zqv(B b:Nat)(bs:List Value)(w:World)(h:IsB B b bs w) :
  Calls Tryz.prog 133 #[.pointer (some ⟨b,0,none⟩)] w fun e w'=>e=.returned (.tuple #[])∧AtB B b bs w'∧Below B w w'∧Oth b w w':=by
 rcases h with h | h
 ·refine (zsp b w h.cell0 h.shape h.frozen0).mono ?_;rintro e w' ⟨rfl,rfl⟩;exact⟨rfl,h.used _,(Below.refl B w).setCell (p:=⟨b,0,none⟩) h.1 _,(Lib.OthersKept.refl _ _ w).setCell ⟨b,0,none⟩ rfl _⟩
 ·refine (zu0 b w h.cell0).mono ?_;rintro e w' ⟨rfl,rfl⟩;exact⟨rfl,h,Below.refl B _,Lib.OthersKept.refl _ _ _⟩
theorem zk7(B b:Nat)(bs:List Value)(c:Int)(w:World)(h:IsB B b bs w)(hlen:bs.length+1≤140737488355328)(hBw:B≤w.heap.size) :
  Calls Tryz.prog 62 #[.pointer (some ⟨b,0,none⟩),.int .u8 c] w fun e w'=>e=.returned .nilIface∧AtB B b (bs++[.int .u8 c]) w'∧Below B w w'∧Oth b w w':=by
 obtain⟨i0,hi,qw,j5,jE⟩:=info_parts zqo
 go_enter Tryz.func62,Tryz.ntmps62
 go_wp2_with fail
 refine (zqv B b bs _ h).mono ?_;rintro e w1 ⟨rfl,h1,vK,hk1⟩;obtain⟨hB,v,uG,qz,zh⟩:=h1;have c0:w1.cell? ⟨b,0,none⟩=some (.pointer (some ⟨b,0,none⟩)):=by rw [Lib.cell_of_heap uG];rfl
 have c1:w1.cell? ⟨b,1,none⟩=some v:=by rw [Lib.cell_of_heap uG];rfl
 go_wp2_with (at_builtin;refine wpList_append_ownF _ rfl _ _ 109 rfl B 5 i0 (.int .u8 0) 1 1 Tryz.underlying109 hi qw j5 jE rfl (by decide) _ _ _ rfl (qz.alloc _) ⟨w1.heap.size,0,none⟩ 1 1 [.int .u8 c] rfl rfl ?c1 ?c2 ?c3 ?c4 ?c5 ?_)
 case c1=>
  intro j u hj
  match j,hj with
  | 0,hj=>simp at hj;subst hj;simp [Addr.add]
 case c2=>intro u hu;simp at hu;subst hu;rfl
 case c3=>unfold maxLen;omega
 case c4=>omega
 case c5=>have:=vK.size;simp;omega
 intro v' w2 jM xU _;have qx:b<w1.heap.size:=lt_of_block uG;have kt:w2.heap[b]? = some (.cells #[.pointer (some ⟨b,0,none⟩),v] 111 (0,0)):=by
  rw [xU.block b (by simp;omega) (fun e=>zh e.symm),Lib.alloc_old w1 _ b qx];exact uG
 have d0:w2.cell? ⟨b,0,none⟩=some (.pointer (some ⟨b,0,none⟩)):=by rw [Lib.cell_of_heap kt];rfl
 have d1:w2.cell? ⟨b,1,none⟩=some v:=by rw [Lib.cell_of_heap kt];rfl
 have f1:w2.frozen? ⟨b,1,none⟩=false:=Lib.frozen_of_heap kt 1;obtain⟨g,cap,rfl⟩ : ∃g cap,v'=.slice (some ⟨g,0,none⟩) (bs.length+1) cap:=by
  rcases jM.2 with ⟨_,h0⟩ | ⟨g,cap,vy,fz,hv,_⟩
  ·omega
  ·exact⟨g,cap,hv⟩
 go_wp2;go_ret;refine⟨rfl,?_,?_,((hk1.alloc _).grown xU (Lib.ownsRowF_kind (qz.alloc _))).setCell ⟨b,1,none⟩ rfl _⟩
 ·exact Lib.BuilderAtF.put (T:=111) (e:=5) hB kt (bs':=bs++[.int .u8 c]) (by simpa using jM) (by decide)
 ·exact ((vK.alloc (by have:=vK.size;omega) _).grown xU (by have:=vK.size;simp;omega) (fun k hk=>(qz.lt k hk).1)).setCell (p:=⟨b,1,none⟩) hB _
theorem ze2(B b:Nat)(bs:List Value)(s:ByteArray)(w:World)(h:IsB B b bs w)(hlen:bs.length+s.size≤140737488355328)(hBw:B≤w.heap.size) :
  Calls Tryz.prog 63 #[.pointer (some ⟨b,0,none⟩),.string s] w fun e w'=>e=.returned (.tuple #[.int .i64 s.size,.nilIface])∧AtB B b (bs++Lib.strCells s) w'∧Below B w w'∧Oth b w w':=by
 obtain⟨i0,hi,qw,j5,jE⟩:=info_parts zqo
 go_enter Tryz.func63,Tryz.ntmps63
 go_wp2_with fail
 refine (zqv B b bs _ h).mono ?_;rintro e w1 ⟨rfl,h1,vK,hk1⟩;obtain⟨hB,v,uG,qz,zh⟩:=h1;have c0:w1.cell? ⟨b,0,none⟩=some (.pointer (some ⟨b,0,none⟩)):=by rw [Lib.cell_of_heap uG];rfl
 have c1:w1.cell? ⟨b,1,none⟩=some v:=by rw [Lib.cell_of_heap uG];rfl
 go_wp2_with (at_builtin;refine Lib.wpList_append_own_stringF _ rfl _ _ 109 9 rfl B 5 i0 Tryz.underlying109 Tryz.underlying9 hi qw j5 jE _ _ _ rfl qz s rfl ?c3 ?c4 ?c5 ?_)
 case c3=>unfold maxLen;omega
 case c4=>omega
 case c5=>have:=vK.size;omega
 intro v' w2 jM xU _;have qx:b<w1.heap.size:=lt_of_block uG;have kt:w2.heap[b]? = some (.cells #[.pointer (some ⟨b,0,none⟩),v] 111 (0,0)):=by
  rw [xU.block b qx (fun e=>zh e.symm)];exact uG
 have d0:w2.cell? ⟨b,0,none⟩=some (.pointer (some ⟨b,0,none⟩)):=by rw [Lib.cell_of_heap kt];rfl
 have d1:w2.cell? ⟨b,1,none⟩=some v:=by rw [Lib.cell_of_heap kt];rfl
 have f1:w2.frozen? ⟨b,1,none⟩=false:=Lib.frozen_of_heap kt 1;obtain⟨ao,n',cap,rfl⟩ : ∃ao n' cap,v'=.slice ao n' cap:=by
  rcases jM.2 with ⟨hv,_⟩ | ⟨g,cap,vy,fz,hv,_⟩
  ·exact⟨_,_,_,hv⟩
  ·exact⟨_,_,_,hv⟩
 go_wp2
 go_ret2
 refine⟨rfl,?_,?_,(hk1.grown xU (Lib.ownsRowF_kind qz)).setCell ⟨b,1,none⟩ rfl _⟩
 ·exact Lib.BuilderAtF.put (T:=111) (e:=5) hB kt (bs':=bs++Lib.strCells s) (by simpa [Lib.strCells_length] using jM) (by decide)
 ·exact (vK.grown xU (by have:=vK.size;omega) (fun k hk=>(qz.lt k hk).1)).setCell (p:=⟨b,1,none⟩) hB _
end Go.Proofs.YtclgbmmambkiaaaGreatDoor
namespace Lx
def jn:List (List B)→List B
 | []=>[]
 | [x]=>x
 | x::y::r=>x++32::jn (y::r)
theorem zue : ∀(L:List (List B)) (x:List B),L≠[]→jn (L++[x])=jn L++32::x
 | [],x,h=>absurd rfl h
 | [y],x,_=>rfl
 | y::z::r,x,_=>by
  have:=zue (z::r) x (by simp);show y++32::jn (z::r++[x])=(y++32::jn (z::r))++32::x;rw [this];simp
end Lx
namespace Go.Proofs.YtclgbmmambkiaaaGreatDoor
open Go.RowKit
def RT.valid(x:RT):Bool:=Lx.valid x.k x.n x.s.data.toList x.a
def RT.bytes(x:RT):List UInt8:=x.s.data.toList
def zpb(L:List RT):List UInt8:=if L.all RT.valid then Lx.jn (L.map RT.bytes) else []
theorem IsB.keep{S:Nat→Prop}{w w':World}{B b:Nat}{bs:List Value}(h:IsB B b bs w)(hf:Fr S w w')(hb : ¬S b)(hn : ∀k,S k→∃cs T f,w.heap[k]? = some (.cells cs T f)∧T≠5):IsB B b bs w':=by
 have one : ∀p,Lib.BuilderAtF 111 5 B b p bs w→Lib.BuilderAtF 111 5 B b p bs w':=by
  rintro p ⟨hB,v,uG,⟨h1,h2⟩,zh⟩;refine⟨hB,v,hf.heap uG hb,⟨h1,?_⟩,zh⟩;rcases h2 with h2 | ⟨g,cap,vy,fz,hv,hg,hh,r⟩
  ·exact .inl h2
  ·refine .inr ⟨g,cap,vy,fz,hv,hg,hf.heap hh (fun e => ?_),r⟩;obtain⟨cs,T,f,hc,hT⟩:=hn g e;rw [hh] at hc;cases hc;exact hT rfl
 exact h.imp (one _) (one _)
def BldS(bb:Nat)(w:World)(k:Nat):Prop:=k=bb∨∃cs f,w.heap[k]? = some (.cells cs 5 f)
theorem Fr.oth{bb:Nat}{w w':World}(hb:Below bb w w')(h:Oth bb w w'):Fr (BldS bb w) w w':=
 ⟨hb.os,hb.tape,hb.output,hb.size,fun k hk hn=>by
  obtain⟨o,ho⟩ : ∃o,w.heap[k]? = some o:=⟨_,Array.getElem?_eq_getElem hk⟩;rw [ho];exact h k o ho (fun e=>hn (.inl (by cases e;rfl))) (fun c fz e=>hn (.inr ⟨c,fz,by rw [ho,e]⟩))⟩
theorem St.oth{bb:Nat}{w w':World}{b:Nat}{t:ByteArray}{p:Nat}{v:Value}(h:St w b t p v)(hf:Fr (BldS bb w) w w')(hbb:b≠bb)(uG : ∃cs T f,w.heap[bb]? = some (.cells cs T f)):St w' b t p v:=by
 refine h.keep hf ?_ ?_
 ·rintro (e | ⟨cs,f,hc⟩)
  ·exact hbb e
  ·obtain⟨r,h1,_⟩:=h;have:=h1.blk;unfold Blk at this;rw [this] at hc;cases hc
 ·rintro k (e | ⟨cs,f,hc⟩)
  ·subst e;exact uG
  ·exact⟨cs,_,f,hc⟩
theorem Blk.oth{bb:Nat}{w w':World}{k:Nat}{cs:Array Value}{T:TypeId}(h:Blk w k cs T)(hf:Fr (BldS bb w) w w')(hk:k≠bb)(hT:T≠5):Blk w' k cs T:=by
 refine h.keep hf ?_;rintro (e | ⟨cs',f,hc⟩)
 ·exact hk e
 ·unfold Blk at h;rw [h] at hc;cases hc;exact hT rfl
theorem IsB.blk{w:World}{B b:Nat}{bs:List Value}(h:IsB B b bs w) : ∃cs T f,w.heap[b]? = some (.cells cs T f):=by
 rcases h with ⟨_,v,hb,_⟩ | ⟨_,v,hb,_⟩ <;> exact⟨_,_,_,hb⟩
theorem zib(w:World)(b:Nat)(t:ByteArray)(p:Nat)(v:Value)(h:St w b t p v)(hg:Gl w)(h6:6≤b)(x:RT)(hs:x.s.size≤140737488355328){r:Bool}(hr:Hid (x.valid=r)) :
  Calls Tryz.prog 61 #[.pointer (some ⟨b,0,none⟩),x.v] w fun e w'=>e=.returned (.bool r)∧But b w w'∧(r=true→∃t' q,St w' b t' q v):=by
 have jf:=hr.out;unfold RT.valid Lx.valid at jf;cases hW:Lx.whole x.s.data.toList with
 | none=>
  rw [hW] at jf;simp only at jf;subst jf;exact (zq8 w b t p v h hg h6 x.k x.n x.a x.s hs hW).mono (fun e w' hp=>⟨hp.1,hp.2,fun e=>by cases e⟩)
 | some y=>
  obtain⟨k',n'⟩:=y;rw [hW] at jf;simp only at jf;refine (zq7 w b t p v h hg h6 x.k x.n x.a x.s hs k' n' hW).mono (fun e w' hp => ?_);rw [jf] at hp;exact⟨hp.1,hp.2.2,fun _=>⟨_,_,hp.2.1⟩⟩
theorem znt(n:Nat) : ∀(L:List (List UInt8)),(∀x∈L,x.length≤n)→(Lx.jn L).length≤L.length*(n+1)
 | [],_=>by simp [Lx.jn]
 | [x],h=>by
  have:=h x (by simp);simp only [Lx.jn,qxh,qxi];omega
 | x::y::r,h=>by
  have h1:=znt n (y::r) (fun z hz=>h z (List.mem_cons_of_mem _ hz));have h2:=h x (by simp);have e:(Lx.jn (x::y::r)).length=x.length+((Lx.jn (y::r)).length+1):=by
   show (x++32::Lx.jn (y::r)).length=_;rw [qye,qxh]
  rw [e,qxh (a:=x),Nat.add_mul];omega
theorem zud{L:List RT}{i:Nat}(hi:i<L.length)(h:L[i].valid=false):zpb L=[]:=by
 unfold zpb;rw [if_neg];intro e;rw [List.all_eq_true] at e;have:=e L[i] (List.getElem_mem hi);rw [h] at this;cases this
theorem zwe(L:List RT)(la:Option Addr)(lc:Nat)(w:World)(hg:Gl w)(hL:TlAt w la L)(hn:L.length≤10000000000)(hs : ∀x∈L,x.s.size≤140737488355328)(hv : ∀x∈L,x.valid=true→x.s.size≤1000) :
  Calls Tryz.prog 25 #[.slice la L.length lc] w fun e w'=>e=.returned (.string ⟨(zpb L).toArray⟩)∧Old w w':=by
 have h6:=hg.lt
 go_enter Tryz.func25,Tryz.ntmps25
 go_wp2_with fail
 refine (zt6 ⟨#[]⟩ w (by decide)).mono ?_;rintro e w1 ⟨rfl,hS,hC,hO⟩
 go_wp2_with fail
 have vK:w.heap.size≤w1.heap.size:=hO.size;have rZ:w.heap.size<w1.heap.size:=hS.lt;have hB0:IsB w1.heap.size w1.heap.size [] (w1.alloc (.cells #[.pointer none,.slice none 0 0] 111)):=by
  refine .inl ⟨qyb _,.slice none 0 0,World.alloc_heap_new w1 _,⟨rfl,.inl ⟨rfl,rfl⟩⟩,?_⟩;intro e;cases e
 go_loopg [10] L.length (fun g x wr=>∃(i:Nat) (t:ByteArray) (q:Nat),g=L.length-i∧i≤L.length∧x=.int .i64 i∧(∀y∈L.take i,y.valid=true)∧IsB w1.heap.size w1.heap.size (Lib.byteCells (Lx.jn ((L.take i).map RT.bytes))) wr∧St wr w.heap.size t q (.slice none 0 0)∧Old w wr∧w1.heap.size<wr.heap.size)
 case atStart=>
  exact⟨0,⟨#[]⟩,0,rfl,qyi _,rfl,by simp,hB0,hS.alloc _,hO.alloc _,by simp⟩
 case round=>
  obtain⟨i,t,q,bI,hi,rfl,xM,hB,hSt,hOr,jy⟩:=hrel;have HG:=qya bI;clear bI
  by_cases qx:i<L.length
  ·have hd:decide ((i:Int)<(L.length:Int))=true:=(by simp only [qyo];omega);obtain⟨g,o,rfl,qQ,x0,x1,x2,x3⟩:=(hL.old hOr) i qx;obtain⟨x,hx⟩ : ∃x,L[i]=x:=⟨_,rfl⟩;have q8:x∈L:=hx▸List.getElem_mem qx;have qY:=hs x q8;rw [hx] at x0 x1 x2 x3;have vN:L.take (i+1)=L.take i++[x]:=(by rw [← hx,List.take_append_getElem qx]);have lS:(Lx.jn ((L.take i).map RT.bytes)).length≤i*1001:=by
    have:=znt 1000 ((L.take i).map RT.bytes) (fun z hz=>by
     obtain⟨y,hy,rfl⟩:=List.mem_map.1 hz;have h1:=hv y (List.mem_of_mem_take hy) (xM y hy);unfold RT.bytes;rw [qyv];exact h1)
    rw [List.length_map,List.length_take,Nat.min_eq_left hi] at this;exact this
   have HJ:=qya (show i*1001≤100000000000000 by omega);have HJL:=qya lS;have HI:=qya qx;have HN:=qya hn;have dV:Hid (wrap64 ((i:Int)+1)=(i:Int)+1):=qya (IntWalk.wrap64_in _ (by omega));clear lS hn hi;cases hr:x.valid
   ·have HR:=qya hr;clear hr
    go_wp2_with fail
    refine (zib _ w.heap.size t q _ (hSt.alloc _) ((hg.old hOr).alloc _) h6 x qY HR).mono ?_;rintro e w2 ⟨rfl,f2,-⟩;have uH:Old w w2:=Old.but' (hOr.alloc _) (qyb _) f2;have hbad:=zud qx (by rw [hx];exact HR.out);go_wp2;refine bodyPost_ret (v:=.string ⟨#[]⟩) (by simp [results,Tryz.results25,go_sem]) rfl ⟨by rw [hbad],uH⟩
   ·have HR:=qya hr;have hxs:=hv x q8 hr;clear hr
    go_wp2_with fail
    refine (zib _ w.heap.size t q _ (hSt.alloc _) ((hg.old hOr).alloc _) h6 x qY HR).mono ?_;rintro e w2 ⟨rfl,f2,hst2⟩;obtain⟨t',q',cJ⟩:=hst2 rfl;clear hst2;have uH:Old w w2:=Old.but' (hOr.alloc _) (qyb _) f2;have hB2:IsB w1.heap.size w1.heap.size (Lib.byteCells (Lx.jn ((L.take i).map RT.bytes))) w2:=by
     refine (hB.keep ((Old.refl wr).alloc _) (by simp) (fun k e=>e.elim)).keep f2 (by omega) ?_;rintro k rfl;obtain⟨r,hr1,_⟩:=(hSt.alloc (.cells #[.int .i64 x.k,.int .i64 x.n,.string x.s,.int .i64 x.a] 59 (0,0)));exact⟨_,_,_,hr1.blk,by decide⟩
    have kT:Blk w2 wr.heap.size #[.int .i64 x.k,.int .i64 x.n,.string x.s,.int .i64 x.a] 59:=(Blk.new' rfl _ _).keep f2 (by omega);have jE:w1.heap.size≤w2.heap.size:=(by have:=f2.size;simp at this;omega);have hvn : ∀y∈L.take (i+1),y.valid=true:=by
     intro y hy;rw [vN,List.mem_append] at hy;rcases hy with hy | hy
     ·exact xM y hy
     ·simp at hy;subst hy;exact HR.out
    have cj:=qya vN;clear vN;cases i with
    | zero=>
     obtain⟨c0,c1,c2,c3,-⟩:=kT.four
     go_wp2_with fail
     refine (ze2 w1.heap.size w1.heap.size _ x.s _ hB2 (by simp [Lib.byteCells,Lx.jn];omega) jE).mono ?_;rintro e w3 ⟨rfl,hB3,wv,ho3⟩;have F3:=Fr.oth wv ho3;have hS3:=cJ.oth F3 (by omega) hB2.blk;have hO3:Old w w3:=uH.below (wv.mono vK);have uY:w1.heap.size<w3.heap.size:=(by have:=wv.size;have:=f2.size;simp at this;omega);have HH:=qya hvn;clear c0 c1 c2 c3 jE hxs qY q8 jy rZ vK hd x0 x1 x2 x3;go_wp2
     go_roundg (L.length-(0+1))
     case measure=>have:=HG.out;have:=HI.out;omega
     case rel=>
      refine⟨0+1,_,_,rfl,HI.out,rfl,HH.out,.inr ?_,hS3,hO3,uY⟩;rw [cj.out];simpa [Lx.jn,RT.bytes,Lib.byteCells,Lib.strCells] using hB3
    | succ i=>
     obtain⟨c0,c1,c2,c3,-⟩:=kT.four;have vR:decide (0<((i+1:Nat):Int))=true:=by simp only [qyo];omega
     go_wp2_with fail
     refine (zk7 w1.heap.size w1.heap.size _ 32 _ hB2 (by rw [Lib.byteCells_length];have:=HJL.out;have:=HJ.out;omega) jE).mono ?_;rintro e w3 ⟨rfl,hB3,wv,ho3⟩;have F3:=Fr.oth wv ho3;have hS3:=cJ.oth F3 (by omega) hB2.blk;have kT3:=kT.oth F3 (by omega) (by decide);have hO3:Old w w3:=uH.below (wv.mono vK);have uY:w1.heap.size≤w3.heap.size:=(by have:=wv.size;omega);clear c0 c1 c2 c3;obtain⟨c0,c1,c2,c3,-⟩:=kT3.four
     go_wp2_with fail
     refine (ze2 w1.heap.size w1.heap.size _ x.s _ (.inr hB3) (by rw [qye,Lib.byteCells_length,qyh];have:=HJL.out;have:=HJ.out;omega) uY).mono ?_;rintro e w4 ⟨rfl,eK,nj,ho4⟩;have F4:=Fr.oth nj ho4;have hS4:=hS3.oth F4 (by omega) (IsB.blk (.inr hB3));have hO4:Old w w4:=hO3.below (nj.mono vK);have hz4:w1.heap.size<w4.heap.size:=(by have:=wv.size;have:=nj.size;have:=f2.size;simp at this;omega);have HH:=qya hvn;clear c0 c1 c2 c3 jE uY hxs qY q8 jy rZ vK hd x0 x1 x2 x3 vR;go_wp2
     go_roundg (L.length-(i+1+1))
     case measure=>have:=HG.out;have:=HI.out;omega
     case rel=>
      refine⟨i+1+1,_,_,rfl,HI.out,by have:=dV.out;simpa using this,HH.out,.inr ?_,hS4,hO4,hz4⟩;rw [cj.out,List.map_append,List.map_cons,List.map_nil,Lx.zue _ _ (by
       intro e;have:=congrArg List.length e;rw [List.length_map,List.length_take,qxi] at this;have:=HI.out;omega)]
      rw [show Lib.byteCells (Lx.jn ((L.take (i+1)).map RT.bytes)++32::x.bytes)=Lib.byteCells (Lx.jn ((L.take (i+1)).map RT.bytes))++[.int .u8 32]++Lib.strCells x.s from by
       simp [Lib.byteCells,Lib.strCells,RT.bytes]]
      exact eK
  ·have hd:decide ((i:Int)<(L.length:Int))=false:=(by simp only [qyn];omega);have hin:i=L.length:=(by omega);subst hin;rw [List.take_length] at xM hB;have ql:zpb L=Lx.jn (L.map RT.bytes):=by
    unfold zpb;rw [if_pos (List.all_eq_true.2 xM)]
   have HA:=qya ql;clear ql qx hi
   go_wp2_with fail
   refine (Tryz.Builder_String_any_k w1.heap.size w1.heap.size _ wr hB (Nat.le_of_lt jy)).mono ?_;rintro e w2 ⟨rfl,-,kt,-⟩;have uH:Old w w2:=hOr.below (kt.mono vK);go_wp2;go_ret;exact⟨by rw [HA.out];rfl,uH⟩
theorem ziv : ∀(L:List RT) (i:Nat) (x:RT),L[i]? = some x→(zb4 L)[i*4]? = some (.int .i64 x.k)∧(zb4 L)[i*4+1]? = some (.int .i64 x.n)∧(zb4 L)[i*4+2]? = some (.string x.s)∧(zb4 L)[i*4+3]? = some (.int .i64 x.a)
 | [],i,x,h=>by simp at h
 | y::r,0,x,h=>by cases h;exact⟨rfl,rfl,rfl,rfl⟩
 | y::r,i+1,x,h=>by
  obtain⟨h0,h1,h2,h3⟩:=ziv r i x (by simpa using h);have e:zb4 (y::r)=.int .i64 y.k::.int .i64 y.n::.string y.s::.int .i64 y.a::zb4 r:=rfl;rw [e];refine⟨?_,?_,?_,?_⟩
  ·rw [show (i+1)*4=i*4+4 by omega];simpa using h0
  ·rw [show (i+1)*4+1=i*4+1+4 by omega];simpa using h1
  ·rw [show (i+1)*4+2=i*4+2+4 by omega];simpa using h2
  ·rw [show (i+1)*4+3=i*4+3+4 by omega];simpa using h3
theorem zys{w:World}{base:Nat}{la:Option Addr}{cap:Nat}{L:List RT}(h:w.ownsRow base 59 4 (.slice la L.length cap) L.length (zb4 L)):TlAt w la L:=by
 intro i hi;obtain⟨h0,h1,h2,h3⟩:=ziv L i L[i] (List.getElem?_eq_getElem hi);rcases h.2 with ⟨-,hn⟩ | ⟨g,dI,vy,hv,-,hh,-⟩
 ·omega
 ·cases hv;refine⟨g,0,rfl,(h.lt g rfl).2,?_,?_,?_,?_⟩
  ·rw [Nat.zero_add,h.cellAt _ (by omega),h0]
  ·rw [Nat.zero_add,h.cellAt _ (by omega),h1]
  ·rw [Nat.zero_add,h.cellAt _ (by omega),h2]
  ·rw [Nat.zero_add,h.cellAt _ (by omega),h3]
theorem zxq(t:Ti)(hf:t.fits)(hs:zci t.ex)(xH:ckE t.ex=0)(w:World)(F:Nat→Prop)(v:Value)(hE:ExAt w F t.ex v)(hF : ∀k,F k→k<w.heap.size)(hg:Gl w)(hl:t.wT.length≤1000000)
  (hj : ∀x∈t.wT,x.s.size≤1000) :
  Calls Tryz.prog 67 #[v,.func (.func 68) #[] #[],.func (.func 44) #[] #[]] w fun e w'=>e=.returned (.tuple #[.string ⟨(zpb t.wT).toArray⟩,.int .i64 0])∧Old w w':=by
 obtain⟨kd,nu,nm,ag,la,na,ca,lp,np,cp,rfl⟩:=hE.parts;obtain⟨w1,ju⟩ : ∃w1,w.alloc (.cells #[.int .i64 kd,.int .i64 nu,.string nm,.string ag,.slice la na ca,.slice lp np cp] 32)=w1:=⟨_,rfl⟩;obtain⟨kB,O1,j5⟩:=zf7 ju;obtain⟨p0,p1,p2,p3,p4,p5⟩:=BoxE.of kB;have cV:=zk2 t.ex _ F w1 hs (hE.keep O1 (fun _ _ e=>e)) (fun k hk=>by have:=hF k hk;omega) (hg.old O1);rw [xH] at cV;have HC1:=qya cV;have vS:=qya ju;have HK:=qya (And.intro kB (And.intro hE hg));clear ju cV kB hE hg xH
 go_enter Tryz.func67,Tryz.ntmps67
 go_wp2_with fail
 rw [vS.out]
 go_wp2_with fail
 (with_reducible refine HC1.out.mono ?_)
 rintro e w2 ⟨rfl,O2⟩;obtain⟨kB,hE,hg⟩:=HK.out;clear p0 p1 p2 p3 p4 p5;have vV:=O1.trans O2;have bV:=vV.size;obtain⟨w3,p8⟩ : ∃w3,w2.alloc (.cells #[.slice none 0 0] 160)=w3:=⟨_,rfl⟩;have kR:Blk w3 w2.heap.size #[.slice none 0 0] 160:=by rw [← p8];exact Blk.new _ _ _
 have O3:Old w2 w3:=by rw [← p8];exact (Old.refl w2).alloc _
 have gG:=vV.trans O3;have kB3:=(kB.keep O2 (fun e=>e)).keep O3 (fun e=>e);obtain⟨p0,p1,p2,p3,p4,p5⟩:=BoxE.of kB3;have vF:=hg.old gG;have yg:WrV w3 w2.heap.size w2.heap.size [] (.slice none 0 0):=⟨qyb _,O3.size,kR,⟨rfl,.inl ⟨rfl,rfl⟩⟩,fun e=>by cases e⟩;have hNG:6≤w2.heap.size:=(hg.old vV).lt;have nx:=zky t hf w3 F _ _ w2.heap.size w2.heap.size [] (hE.keep gG (fun _ _ e=>e)) (fun k hk=>by have:=hF k hk;omega) yg vF hNG (by simpa using hl);have eE:=qya nx;rw [← p8] at p0 p1 p2 p3 p4 p5;have HW3:=qya p8;have HK3:=qya (And.intro yg (And.intro vF (And.intro gG hNG)));clear nx p8 kR kB kB3 hE hg yg vF gG O3 vV O2 hNG
 go_wp2_with fail
 rw [HW3.out]
 go_wp2_with fail
 (with_reducible refine eE.out.mono ?_)
 rintro e w4 ⟨rfl,v1,mu,f4,o4⟩;obtain⟨yg,vF,gG,hNG⟩:=HK3.out;clear p0 p1 p2 p3 p4 p5;rw [qxn] at mu;obtain⟨cf,tJ,rfl⟩:=zad mu.2.2.2.1;have q0:=mu.2.2.1.c 0 (.slice cf t.wT.length tJ) rfl;have gT:=vF.wrote yg hNG f4;have nH:Old w w4:=gG.trans' f4 (fun i hi e=>by have:=yg.above i e;omega);have hC4:=zwe t.wT cf tJ w4 gT (zys mu.2.2.2.1) (by omega) (fun x hx=>by have:=hj x hx;omega) (fun x hx _=>hj x hx);have HC4:=qya hC4;have HO:=qya nH;clear hC4 mu yg vF gT gG hNG f4 o4 nH
 go_wp2_with fail
 (with_reducible refine HC4.out.mono ?_)
 rintro e w5 ⟨rfl,O5⟩;have HO5:=qya (HO.out.trans O5);clear O5;go_wp2
 go_ret2
 exact⟨rfl,HO5.out⟩
theorem ziy(t:Ti)(hf:t.fits)(hs:zci t.ex)(xH:ckE t.ex=0)(w:World)(F:Nat→Prop)(v:Value)(hE:ExAt w F t.ex v)(hF : ∀k,F k→k<w.heap.size)(hg:Gl w)(hl:t.wT.length≤1000000)
  (hj : ∀x∈t.wT,x.s.size≤1000)(js:ByteArray)(hjs:(⟨(zpb t.wT).toArray⟩:ByteArray)=js) :
  Calls Tryz.prog 31 #[v] w fun e w'=>e=.returned (.tuple #[.string js,.int .i64 0])∧Old w w':=by
 subst hjs;obtain⟨kd,nu,nm,ag,la,na,ca,lp,np,cp,rfl⟩:=hE.parts;obtain⟨w1,ju⟩ : ∃w1,w.alloc (.cells #[.int .i64 kd,.int .i64 nu,.string nm,.string ag,.slice la na ca,.slice lp np cp] 32)=w1:=⟨_,rfl⟩;obtain⟨kB,O1,j5⟩:=zf7 ju;obtain⟨p0,p1,p2,p3,p4,p5⟩:=BoxE.of kB;have HC1:=qya (zxq t hf hs xH w1 F _ (hE.keep O1 (fun _ _ e=>e)) (fun k hk=>by have:=hF k hk;omega) (hg.old O1) hl hj);have vS:=qya ju;clear ju kB hE hg xH
 go_enter Tryz.func31,Tryz.ntmps31
 go_wp2_with fail
 rw [vS.out]
 go_wp2_with fail
 (with_reducible refine HC1.out.mono ?_)
 rintro e w2 ⟨rfl,O2⟩;have HO:=qya (O1.trans O2);clear O2;go_wp2
 go_ret2
 exact⟨rfl,HO.out⟩
theorem zlz(n:Int)(w:World):Calls Tryz.prog 30 #[.int .i64 n] w fun e w'=>e=.returned (.agg #[.int .i64 1,.int .i64 n,.string ⟨#[]⟩,.string ⟨#[]⟩,.slice none 0 0,.slice none 0 0])∧Old w w':=by
 go_enter Tryz.func30,Tryz.ntmps30
 go_wp2;have kR:=Blk.new w #[.int .i64 1,.int .i64 n,.string ⟨#[]⟩,.string ⟨#[]⟩,.slice none 0 0,.slice none 0 0] 32;obtain⟨c0,c1,c2,c3,c4,c5⟩:=kR.c6;refine bodyPost_ret (v:=.agg #[.int .i64 1,.int .i64 n,.string ⟨#[]⟩,.string ⟨#[]⟩,.slice none 0 0,.slice none 0 0]) (by simp [results,Tryz.results30,go_sem,c0,c1,c2,c3,c4,c5]) rfl ?_;exact⟨rfl,(Old.refl w).alloc _⟩
theorem zpa(s:ByteArray)(w:World):Calls Tryz.prog 29 #[.string s] w fun e w'=>e=.returned (.agg #[.int .i64 2,.int .i64 0,.string s,.string ⟨#[]⟩,.slice none 0 0,.slice none 0 0])∧Old w w':=by
 go_enter Tryz.func29,Tryz.ntmps29
 go_wp2;have kR:=Blk.new w #[.int .i64 2,.int .i64 0,.string s,.string ⟨#[]⟩,.slice none 0 0,.slice none 0 0] 32;obtain⟨c0,c1,c2,c3,c4,c5⟩:=kR.c6;refine bodyPost_ret (v:=.agg #[.int .i64 2,.int .i64 0,.string s,.string ⟨#[]⟩,.slice none 0 0,.slice none 0 0]) (by simp [results,Tryz.results29,go_sem,c0,c1,c2,c3,c4,c5]) rfl ?_;exact⟨rfl,(Old.refl w).alloc _⟩
theorem zub(w:World)(F:Nat→Prop)(k n:Int)(s:ByteArray):ExAt w F (.mk k n s.data.toList [] [] []) (.agg #[.int .i64 k,.int .i64 n,.string s,.string ⟨#[]⟩,.slice none 0 0,.slice none 0 0]):=by
 rw [ExAt];refine⟨_,[],_,[],?_,RowAt.none ..,by rw [ExsAt],RowAt.none ..,by rw [PasAt]⟩;have:(⟨s.data.toList.toArray⟩:ByteArray)=s:=by cases s;simp
 show _=Value.agg #[.int .i64 k,.int .i64 n,.string ⟨s.data.toList.toArray⟩,.string ⟨([]:List UInt8).toArray⟩,_,_];rw [this]
theorem zo9(s:ByteArray)(a b:Sx.Ex)(F:Nat→Prop)(va vb:Value)(w:World)(hF : ∀k,F k→k<w.heap.size)(ha:ExAt w F a va)(hb:ExAt w F b vb) :
  Calls Tryz.prog 27 #[.string s,va,vb] w fun e w'=>Old w w'∧∃v F',e=.returned v∧ExAt w' F' (.mk 9 0 s.data.toList [] [a,b] []) v∧∀k,F' k→k<w'.heap.size:=by
 obtain⟨kd,nu,nm,ag,la,na,ca,lp,np,cp,rfl⟩:=ha.parts;obtain⟨kb,nb,mb,gb,ba,bn,bc,bp,bq,br,rfl⟩:=hb.parts;have O4:Old w ((((w.alloc (.cells #[.int .i64 kd,.int .i64 nu,.string nm,.string ag,.slice la na ca,.slice lp np cp] 32)).alloc (.cells #[.int .i64 kb,.int .i64 nb,.string mb,.string gb,.slice ba bn bc,.slice bp bq br] 32)).alloc (.cells #[.int .i64 9,.int .i64 0,.string s,.string ⟨#[]⟩,.slice (some ⟨w.heap.size+1+1+1,0,none⟩) 2 2,.slice none 0 0] 32)).alloc (.cells #[.int .i64 kd,.int .i64 nu,.string nm,.string ag,.slice la na ca,.slice lp np cp,.int .i64 kb,.int .i64 nb,.string mb,.string gb,.slice ba bn bc,.slice bp bq br] 32)):=((((Old.refl w).alloc _).alloc _).alloc _).alloc _;have k3:Blk ((((w.alloc (.cells #[.int .i64 kd,.int .i64 nu,.string nm,.string ag,.slice la na ca,.slice lp np cp] 32)).alloc (.cells #[.int .i64 kb,.int .i64 nb,.string mb,.string gb,.slice ba bn bc,.slice bp bq br] 32)).alloc (.cells #[.int .i64 9,.int .i64 0,.string s,.string ⟨#[]⟩,.slice (some ⟨w.heap.size+1+1+1,0,none⟩) 2 2,.slice none 0 0] 32)).alloc (.cells #[.int .i64 kd,.int .i64 nu,.string nm,.string ag,.slice la na ca,.slice lp np cp,.int .i64 kb,.int .i64 nb,.string mb,.string gb,.slice ba bn bc,.slice bp bq br] 32)) (w.heap.size+1+1) #[.int .i64 9,.int .i64 0,.string s,.string ⟨#[]⟩,.slice (some ⟨w.heap.size+1+1+1,0,none⟩) 2 2,.slice none 0 0] 32:=(Blk.new' (by simp) _ _).alloc _;have cI:Blk ((((w.alloc (.cells #[.int .i64 kd,.int .i64 nu,.string nm,.string ag,.slice la na ca,.slice lp np cp] 32)).alloc (.cells #[.int .i64 kb,.int .i64 nb,.string mb,.string gb,.slice ba bn bc,.slice bp bq br] 32)).alloc (.cells #[.int .i64 9,.int .i64 0,.string s,.string ⟨#[]⟩,.slice (some ⟨w.heap.size+1+1+1,0,none⟩) 2 2,.slice none 0 0] 32)).alloc (.cells #[.int .i64 kd,.int .i64 nu,.string nm,.string ag,.slice la na ca,.slice lp np cp,.int .i64 kb,.int .i64 nb,.string mb,.string gb,.slice ba bn bc,.slice bp bq br] 32)) (w.heap.size+1+1+1) #[.int .i64 kd,.int .i64 nu,.string nm,.string ag,.slice la na ca,.slice lp np cp,.int .i64 kb,.int .i64 nb,.string mb,.string gb,.slice ba bn bc,.slice bp bq br] 32:=Blk.new' (by simp) _ _;have rW:=ha.keep O4 (fun _ _ e=>e);have kt:=hb.keep O4 (fun _ _ e=>e);obtain⟨qP,qC,qA,jv,jz,jj⟩:=k3.c6;have hzf:=cI.lt;have HS:=qya (And.intro cI (And.intro rW (And.intro kt O4)));clear k3 cI rW kt O4 ha hb
 go_enter Tryz.func27,Tryz.ntmps27
 go_wp2;obtain⟨cI,rW,kt,O4⟩:=HS.out;refine bodyPost_ret (v:=.agg #[.int .i64 9,.int .i64 0,.string s,.string ⟨#[]⟩,.slice (some ⟨w.heap.size+1+1+1,0,none⟩) 2 2,.slice none 0 0]) (by simp [results,Tryz.results27,go_sem,qP,qC,qA,jv,jz,jj]) rfl ?_;clear qP qC qA jv jz jj;refine⟨O4,_,fun i=>F i∨i=w.heap.size+1+1+1,rfl,?_,fun k hk => ?_⟩
 ·rw [ExAt];refine⟨_,[.int .i64 kd,.int .i64 nu,.string nm,.string ag,.slice la na ca,.slice lp np cp,.int .i64 kb,.int .i64 nb,.string mb,.string gb,.slice ba bn bc,.slice bp bq br],_,[],?_,⟨⟨rfl,.inr ⟨w.heap.size+1+1+1,2,_,rfl,qyi _,cI,qyb _,by unfold maxLen;omega,rfl,rfl⟩⟩,fun k hk=>by cases hk;exact .inr rfl⟩,?_,RowAt.none ..,by rw [PasAt]⟩
  ·have hss:(⟨s.data.toList.toArray⟩:ByteArray)=s:=(by cases s;simp);show _=Value.agg #[_,_,.string ⟨s.data.toList.toArray⟩,.string ⟨([]:List UInt8).toArray⟩,_,_];rw [hss];rfl
  ·rw [ExsAt];refine⟨_,_,_,_,_,_,_,rfl,rW.more (fun _ h=>.inl h),?_⟩;rw [ExsAt];exact⟨_,_,_,_,_,_,_,rfl,kt.more (fun _ h=>.inl h),by rw [ExsAt]⟩
 ·rcases hk with hk | hk
  ·have:=hF k hk;exact Nat.lt_trans (show k<w.heap.size+1+1+1 by omega) hzf
  ·rw [hk];exact hzf
theorem zns(a b:Sx.Ex)(F:Nat→Prop)(va vb:Value)(w:World)(hF : ∀k,F k→k<w.heap.size)(ha:ExAt w F a va)(hb:ExAt w F b vb) :
  Calls Tryz.prog 28 #[va,vb] w fun e w'=>Old w w'∧∃v F',e=.returned v∧ExAt w' F' (.mk 4 0 [] [] [a,b] []) v∧∀k,F' k→k<w'.heap.size:=by
 obtain⟨kd,nu,nm,ag,la,na,ca,lp,np,cp,rfl⟩:=ha.parts;obtain⟨kb,nb,mb,gb,ba,bn,bc,bp,bq,br,rfl⟩:=hb.parts;have O4:Old w ((((w.alloc (.cells #[.int .i64 kd,.int .i64 nu,.string nm,.string ag,.slice la na ca,.slice lp np cp] 32)).alloc (.cells #[.int .i64 kb,.int .i64 nb,.string mb,.string gb,.slice ba bn bc,.slice bp bq br] 32)).alloc (.cells #[.int .i64 4,.int .i64 0,.string ⟨#[]⟩,.string ⟨#[]⟩,.slice (some ⟨w.heap.size+1+1+1,0,none⟩) 2 2,.slice none 0 0] 32)).alloc (.cells #[.int .i64 kd,.int .i64 nu,.string nm,.string ag,.slice la na ca,.slice lp np cp,.int .i64 kb,.int .i64 nb,.string mb,.string gb,.slice ba bn bc,.slice bp bq br] 32)):=((((Old.refl w).alloc _).alloc _).alloc _).alloc _;have k3:Blk ((((w.alloc (.cells #[.int .i64 kd,.int .i64 nu,.string nm,.string ag,.slice la na ca,.slice lp np cp] 32)).alloc (.cells #[.int .i64 kb,.int .i64 nb,.string mb,.string gb,.slice ba bn bc,.slice bp bq br] 32)).alloc (.cells #[.int .i64 4,.int .i64 0,.string ⟨#[]⟩,.string ⟨#[]⟩,.slice (some ⟨w.heap.size+1+1+1,0,none⟩) 2 2,.slice none 0 0] 32)).alloc (.cells #[.int .i64 kd,.int .i64 nu,.string nm,.string ag,.slice la na ca,.slice lp np cp,.int .i64 kb,.int .i64 nb,.string mb,.string gb,.slice ba bn bc,.slice bp bq br] 32)) (w.heap.size+1+1) #[.int .i64 4,.int .i64 0,.string ⟨#[]⟩,.string ⟨#[]⟩,.slice (some ⟨w.heap.size+1+1+1,0,none⟩) 2 2,.slice none 0 0] 32:=(Blk.new' (by simp) _ _).alloc _;have cI:Blk ((((w.alloc (.cells #[.int .i64 kd,.int .i64 nu,.string nm,.string ag,.slice la na ca,.slice lp np cp] 32)).alloc (.cells #[.int .i64 kb,.int .i64 nb,.string mb,.string gb,.slice ba bn bc,.slice bp bq br] 32)).alloc (.cells #[.int .i64 4,.int .i64 0,.string ⟨#[]⟩,.string ⟨#[]⟩,.slice (some ⟨w.heap.size+1+1+1,0,none⟩) 2 2,.slice none 0 0] 32)).alloc (.cells #[.int .i64 kd,.int .i64 nu,.string nm,.string ag,.slice la na ca,.slice lp np cp,.int .i64 kb,.int .i64 nb,.string mb,.string gb,.slice ba bn bc,.slice bp bq br] 32)) (w.heap.size+1+1+1) #[.int .i64 kd,.int .i64 nu,.string nm,.string ag,.slice la na ca,.slice lp np cp,.int .i64 kb,.int .i64 nb,.string mb,.string gb,.slice ba bn bc,.slice bp bq br] 32:=Blk.new' (by simp) _ _;have rW:=ha.keep O4 (fun _ _ e=>e);have kt:=hb.keep O4 (fun _ _ e=>e);obtain⟨qP,qC,qA,jv,jz,jj⟩:=k3.c6;have hzf:=cI.lt;have HS:=qya (And.intro cI (And.intro rW (And.intro kt O4)));clear k3 cI rW kt O4 ha hb
 go_enter Tryz.func28,Tryz.ntmps28
 go_wp2;obtain⟨cI,rW,kt,O4⟩:=HS.out;refine bodyPost_ret (v:=.agg #[.int .i64 4,.int .i64 0,.string ⟨#[]⟩,.string ⟨#[]⟩,.slice (some ⟨w.heap.size+1+1+1,0,none⟩) 2 2,.slice none 0 0]) (by simp [results,Tryz.results28,go_sem,qP,qC,qA,jv,jz,jj]) rfl ?_;clear qP qC qA jv jz jj;refine⟨O4,_,fun i=>F i∨i=w.heap.size+1+1+1,rfl,?_,fun k hk => ?_⟩
 ·rw [ExAt];refine⟨_,[.int .i64 kd,.int .i64 nu,.string nm,.string ag,.slice la na ca,.slice lp np cp,.int .i64 kb,.int .i64 nb,.string mb,.string gb,.slice ba bn bc,.slice bp bq br],_,[],rfl,⟨⟨rfl,.inr ⟨w.heap.size+1+1+1,2,_,rfl,qyi _,cI,qyb _,by unfold maxLen;omega,rfl,rfl⟩⟩,fun k hk=>by cases hk;exact .inr rfl⟩,?_,RowAt.none ..,by rw [PasAt]⟩
  ·rw [ExsAt];refine⟨_,_,_,_,_,_,_,rfl,rW.more (fun _ h=>.inl h),?_⟩;rw [ExsAt];exact⟨_,_,_,_,_,_,_,rfl,kt.more (fun _ h=>.inl h),by rw [ExsAt]⟩
 ·rcases hk with hk | hk
  ·have:=hF k hk;exact Nat.lt_trans (show k<w.heap.size+1+1+1 by omega) hzf
  ·rw [hk];exact hzf
def zfc:Sx.Ex:=.mk 9 0 [45] [] [.mk 4 0 [] [] [.mk 4 0 [] [] [.mk 2 0 [102] [] [] [],.mk 2 0 [120] [] [] []] [],.mk 4 0 [] [] [.mk 2 0 [103] [] [] [],.mk 1 1 [] [] [] []] []] [],.mk 9 0 [42] [] [.mk 1 2 [] [] [] [],.mk 1 3 [] [] [] []] []] []
abbrev zxp:Value:=.agg #[.int .i64 0,.int .i64 0,.string ⟨#[]⟩,.string ⟨#[]⟩,.slice none 0 0,.slice none 0 0]
theorem sane1(w:World)(hg:Gl w):Calls Tryz.prog 14 #[.string ⟨#[102,32,120,32,40,103,32,49,41,32,45,32,50,32,42,32,51]⟩] w fun e w'=>Old w w'∧∃v,e=.returned (.tuple #[v,.int .i64 0,.int .i64 0])∧ExAt w' (fun k=>k<w'.heap.size) zfc v:=by
 refine (zct ⟨#[102,32,120,32,40,103,32,49,41,32,45,32,50,32,42,32,51]⟩ (by decide) w hg (.ok zfc) (qya (by kernel_rfl))).mono ?_;rintro e w' ⟨hO,v,a,c,rfl,rfl,rfl,h⟩;exact⟨hO,v,rfl,h.more (fun k hk=>hk.2)⟩
theorem sane2(w:World)(hg:Gl w):Calls Tryz.prog 14 #[.string ⟨#[49,32,60,32,50,32,60,32,51]⟩] w fun e w'=>Old w w'∧e=.returned (.tuple #[zxp,.int .i64 6,.int .i64 20]):=by
 refine (zct ⟨#[49,32,60,32,50,32,60,32,51]⟩ (by decide) w hg (.error (6,20)) (qya (by kernel_rfl))).mono ?_;rintro e w' ⟨hO,v,a,c,rfl,rfl,rfl,rfl⟩;exact⟨hO,rfl⟩
theorem sane3(w:World)(hg:Gl w):Calls Tryz.prog 14 #[.string ⟨#[108,101,116,32,120,32,61,32,49]⟩] w fun e w'=>Old w w'∧e=.returned (.tuple #[zxp,.int .i64 9,.int .i64 20]):=by
 refine (zct ⟨#[108,101,116,32,120,32,61,32,49]⟩ (by decide) w hg (.error (9,20)) (qya (by kernel_rfl))).mono ?_;rintro e w' ⟨hO,v,a,c,rfl,rfl,rfl,rfl⟩;exact⟨hO,rfl⟩
theorem sane4(w:World)(hg:Gl w):Calls Tryz.prog 14 #[.string ⟨#[40,49,44,32,50,44,32,51,44,32,52,44,32,53,41]⟩] w fun e w'=>Old w w'∧e=.returned (.tuple #[zxp,.int .i64 11,.int .i64 20]):=by
 refine (zct ⟨#[40,49,44,32,50,44,32,51,44,32,52,44,32,53,41]⟩ (by decide) w hg (.error (11,20)) (qya (by kernel_rfl))).mono ?_;rintro e w' ⟨hO,v,a,c,rfl,rfl,rfl,rfl⟩;exact⟨hO,rfl⟩
def zlp:List Sx.Decl:=[.val [120] (.mk 4 0 [] [] [.mk 2 0 [102] [] [] [],.mk 1 1 [] [] [] []] [])]
theorem sane5(w:World)(hg:Gl w):Calls Tryz.prog 11 #[.string ⟨#[118,97,108,32,120,32,61,32,102,32,49,59]⟩] w fun e w'=>Old w w'∧∃v,e=.returned (.tuple #[v,.int .i64 0,.int .i64 0])∧G.ProgAt w' (fun k=>w.heap.size≤k∧k<w'.heap.size) zlp v:=by
 refine (zng ⟨#[118,97,108,32,120,32,61,32,102,32,49,59]⟩ (by decide) w hg (.ok zlp) (qya (by kernel_rfl))).mono ?_;rintro e w' ⟨hO,v,a,c,rfl,rfl,rfl,h⟩;exact⟨hO,v,rfl,h⟩
theorem ztn(w:World)(F:Nat→Prop)(v:Value)(h:G.ProgAt w F zlp v)(hF : ∀k,F k→k<w.heap.size):Calls Tryz.prog 32 #[v] w fun e w'=>e=.returned (.int .i64 2)∧Old w w':=by
 have:=zmc zlp v F w (by decide +kernel) (by decide +kernel) h hF;rw [show (Sx.capD 100 (Sx.zav zlp))=2 by kernel_rfl] at this;exact this
theorem zvy(w:World)(F:Nat→Prop)(v:Value)(h:G.ProgAt w F zlp v)(hF : ∀k,F k→k<w.heap.size):Calls Tryz.prog 26 #[v] w fun e w'=>e=.returned (.int .i64 3)∧Old w w':=by
 have:=zm0 zlp v F w (by decide +kernel) (by decide +kernel) h hF;rw [show (min (Sx.cnt 100 (Sx.zav zlp)) 2001:Nat)=3 by kernel_rfl] at this;exact this
theorem saneS(w:World)(F F':Nat→Prop)(v v':Value)(h:ExAt w F zfc v)(h':ExAt w F' zfc v'):Calls Tryz.prog 20 #[v,v'] w fun e w'=>e=.returned (.bool true)∧Old w w':=by
 have:=zit zfc zfc F F' v v' w h h';rw [show Sx.zg0 zfc zfc=true by kernel_rfl] at this;exact this
def zqa:Ti:=(.sub (.num 1) (.sub (.num 2) (.num 3)))
theorem zri(w:World)(F:Nat→Prop)(v:Value)(h:ExAt w F zqa.ex v)(hF : ∀k,F k→k<w.heap.size)(hg:Gl w):Calls Tryz.prog 31 #[v] w fun e w'=>e=.returned (.tuple #[.string ⟨#[49,32,45,32,40,32,50,32,45,32,51,32,41]⟩,.int .i64 0])∧Old w w':=
 ziy zqa (by simp only [zqa,Ti.fits];decide) (by simp [zqa,Ti.ex,zci,zdm,zc8]) (by kernel_rfl) w F v h hF hg (by decide +kernel) (by decide +kernel) ⟨#[49,32,45,32,40,32,50,32,45,32,51,32,41]⟩ (by kernel_rfl)
def zp9:Ti:=(.app (.fn ⟨#[120]⟩ (.var ⟨#[120]⟩)) (.num 1))
theorem zrh(w:World)(F:Nat→Prop)(v:Value)(h:ExAt w F zp9.ex v)(hF : ∀k,F k→k<w.heap.size)(hg:Gl w):Calls Tryz.prog 31 #[v] w fun e w'=>e=.returned (.tuple #[.string ⟨#[40,32,102,110,32,120,32,61,62,32,120,32,41,32,49]⟩,.int .i64 0])∧Old w w':=
 ziy zp9 (by simp only [zp9,Ti.fits];decide) (by simp [zp9,Ti.ex,zci,zdm,zc8]) (by kernel_rfl) w F v h hF hg (by decide +kernel) (by decide +kernel) ⟨#[40,32,102,110,32,120,32,61,62,32,120,32,41,32,49]⟩ (by kernel_rfl)
def Tr(w:World)(t:Sx.Ex)(v:Value):Prop:=∃F:Nat→Prop,(∀k,F k→k<w.heap.size)∧ExAt w F t v
theorem Tr.old{w w':World}{t:Sx.Ex}{v:Value}(h:Tr w t v)(hf:Old w w'):Tr w' t v:=by
 obtain⟨F,h1,h2⟩:=h;exact⟨F,fun k hk=>qyc (h1 k hk) hf.size,h2.keep hf (fun _ _ e=>e)⟩
theorem Tr.parts{w:World}{t:Sx.Ex}{v:Value}(h:Tr w t v) : ∃(kd nu:Int) (nm ag:ByteArray) (l2:Option Addr) (n2 c2:Nat) (l4:Option Addr) (n4 c4:Nat),v=.agg #[.int .i64 kd,.int .i64 nu,.string nm,.string ag,.slice l2 n2 c2,.slice l4 n4 c4]:=by
 obtain⟨F,h1,h2⟩:=h;exact h2.parts
theorem zvj(s:ByteArray)(w:World):Calls Tryz.prog 29 #[.string s] w fun e w'=>Old w w'∧∃v,e=.returned v∧Tr w' (.mk 2 0 s.data.toList [] [] []) v:=by
 refine (zpa s w).mono ?_;rintro e w' ⟨rfl,hO⟩;exact⟨hO,_,rfl,fun _=>False,fun _ h=>h.elim,zub w' _ 2 0 s⟩
theorem tNum(n:Int)(w:World):Calls Tryz.prog 30 #[.int .i64 n] w fun e w'=>Old w w'∧∃v,e=.returned v∧Tr w' (.mk 1 n [] [] [] []) v:=by
 refine (zlz n w).mono ?_;rintro e w' ⟨rfl,hO⟩;exact⟨hO,_,rfl,fun _=>False,fun _ h=>h.elim,zub w' _ 1 n ⟨#[]⟩⟩
theorem tApp{w:World}{a b:Sx.Ex}{va vb:Value}(ha:Tr w a va)(hb:Tr w b vb):Calls Tryz.prog 28 #[va,vb] w fun e w'=>Old w w'∧∃v,e=.returned v∧Tr w' (.mk 4 0 [] [] [a,b] []) v:=by
 obtain⟨F,h1,h2⟩:=ha;obtain⟨F',h3,h4⟩:=hb;refine (zns a b (fun k=>F k∨F' k) va vb w (fun k hk=>hk.elim (h1 k) (h3 k)) (h2.more (fun _ h=>.inl h)) (h4.more (fun _ h=>.inr h))).mono ?_;rintro e w' ⟨hO,v,F2,rfl,h5,h6⟩;exact⟨hO,v,rfl,F2,h6,h5⟩
theorem zvi(s:ByteArray){w:World}{a b:Sx.Ex}{va vb:Value}(ha:Tr w a va)(hb:Tr w b vb):Calls Tryz.prog 27 #[.string s,va,vb] w fun e w'=>Old w w'∧∃v,e=.returned v∧Tr w' (.mk 9 0 s.data.toList [] [a,b] []) v:=by
 obtain⟨F,h1,h2⟩:=ha;obtain⟨F',h3,h4⟩:=hb;refine (zo9 s a b (fun k=>F k∨F' k) va vb w (fun k hk=>hk.elim (h1 k) (h3 k)) (h2.more (fun _ h=>.inl h)) (h4.more (fun _ h=>.inr h))).mono ?_;rintro e w' ⟨hO,v,F2,rfl,h5,h6⟩;exact⟨hO,v,rfl,F2,h6,h5⟩
theorem tFn(x:ByteArray){w:World}{a:Sx.Ex}{kd nu:Int}{nm ag:ByteArray}{la:Option Addr}{na ca:Nat}{lp:Option Addr}{np cp:Nat}(h:Tr w a (exV kd nu nm ag la na ca lp np cp)) :
  Tr (w.alloc (.cells #[.int .i64 kd,.int .i64 nu,.string nm,.string ag,.slice la na ca,.slice lp np cp] 32)) (.mk 5 0 [] x.data.toList [a] []) (.agg #[.int .i64 5,.int .i64 0,.string ⟨#[]⟩,.string x,.slice (some ⟨w.heap.size,0,none⟩) 1 1,.slice none 0 0]):=by
 obtain⟨F,h1,h2⟩:=h;have kN:=Blk.new w #[.int .i64 kd,.int .i64 nu,.string nm,.string ag,.slice la na ca,.slice lp np cp] 32;refine⟨fun k=>F k∨k=w.heap.size,fun k hk => ?_,?_⟩
 ·rw [qyd];rcases hk with hk | hk
  ·have:=h1 k hk;omega
  ·omega
 ·rw [ExAt];refine⟨_,exL kd nu nm ag la na ca lp np cp,_,[],?_,⟨⟨rfl,.inr ⟨w.heap.size,1,_,rfl,qyi _,kN,qyb _,by unfold maxLen;omega,rfl,rfl⟩⟩,fun k hk=>by cases hk;exact .inr rfl⟩,?_,RowAt.none ..,by rw [PasAt]⟩
  ·rw [zu9];rfl
  ·rw [ExsAt];exact⟨_,_,_,_,_,_,_,rfl,(h2.keep ((Old.refl w).alloc _) (fun _ _ e=>e)).more (fun _ h=>.inl h),by rw [ExsAt]⟩
def Pr(w:World)(v:Value):Prop:=∃F:Nat→Prop,(∀k,F k→k<w.heap.size)∧G.ProgAt w F zlp v
theorem Pr.old{w w':World}{v:Value}(h:Pr w v)(hf:Old w w'):Pr w' v:=by
 obtain⟨F,h1,sv,hv,hl⟩:=h;exact⟨F,fun k hk=>qyc (h1 k hk) hf.size,sv,hv,(zcc.ls _ _).keep hf (fun _ _ e=>e) _ _ hl⟩
theorem zyt{w:World}{v:Value}(h:Pr w v):Calls Tryz.prog 32 #[v] w fun e w'=>e=.returned (.int .i64 2)∧Old w w':=by
 obtain⟨F,h1,h2⟩:=h;exact ztn w F v h2 h1
theorem tSize{w:World}{v:Value}(h:Pr w v):Calls Tryz.prog 26 #[v] w fun e w'=>e=.returned (.int .i64 3)∧Old w w':=by
 obtain⟨F,h1,h2⟩:=h;exact zvy w F v h2 h1
theorem tSame{w:World}{v v':Value}(h:Tr w zfc v)(h':Tr w zfc v'):Calls Tryz.prog 20 #[v,v'] w fun e w'=>e=.returned (.bool true)∧Old w w':=by
 obtain⟨F,h1,h2⟩:=h;obtain⟨F',h3,h4⟩:=h';exact saneS w F F' v v' h2 h4
theorem zbg(w:World)(hg:Gl w):Calls Tryz.prog 10 #[] w fun e w'=>e=.returned (.bool true)∧Old w w':=by
 go_enter Tryz.func10,Tryz.ntmps10
 have OW:=Old.refl w
 go_wp2_with fail
 refine (sane1 w hg).mono ?_;rintro e w1 ⟨o1,v1,rfl,h1⟩;have OW:=OW.trans o1;have hg:=hg.old o1;have h1:Tr w1 zfc v1:=⟨_,fun _ hk=>hk,h1⟩;obtain⟨akd,anu,anm,aag,ala,ana,aca,alp,anp,acp,rfl⟩:=h1.parts;have oa:=(Old.refl w1).alloc (.cells #[.int .i64 akd,.int .i64 anu,.string anm,.string aag,.slice ala ana aca,.slice alp anp acp] 32);have OW:=OW.trans oa;have hg:=hg.old oa;have h1:=h1.old oa;have kA:=Blk.new w1 #[.int .i64 akd,.int .i64 anu,.string anm,.string aag,.slice ala ana aca,.slice alp anp acp] 32
 go_wp2_with fail
 refine (zvj ⟨#[102]⟩ _).mono ?_;rintro e w2 ⟨o2,v2,rfl,h2⟩;have OW:=OW.trans o2;have hg:=hg.old o2;have h1:=h1.old o2;have kA:=kA.keep o2 (fun e=>e)
 go_wp2_with fail
 refine (zvj ⟨#[120]⟩ _).mono ?_;rintro e w3 ⟨o3,v3,rfl,h3⟩;have OW:=OW.trans o3;have hg:=hg.old o3;have h1:=h1.old o3;have kA:=kA.keep o3 (fun e=>e);have h2:=h2.old o3
 go_wp2_with fail
 refine (tApp h2 h3).mono ?_;rintro e w4 ⟨o4,v4,rfl,h4⟩;have OW:=OW.trans o4;have hg:=hg.old o4;have h1:=h1.old o4;have kA:=kA.keep o4 (fun e=>e);have h2:=h2.old o4;have h3:=h3.old o4
 go_wp2_with fail
 refine (zvj ⟨#[103]⟩ _).mono ?_;rintro e w5 ⟨o5,v5,rfl,h5⟩;have OW:=OW.trans o5;have hg:=hg.old o5;have h1:=h1.old o5;have kA:=kA.keep o5 (fun e=>e);have h2:=h2.old o5;have h3:=h3.old o5;have h4:=h4.old o5
 go_wp2_with fail
 refine (tNum 1 _).mono ?_;rintro e w6 ⟨o6,v6,rfl,h6⟩;have OW:=OW.trans o6;have hg:=hg.old o6;have h1:=h1.old o6;have kA:=kA.keep o6 (fun e=>e);have h2:=h2.old o6;have h3:=h3.old o6;have h4:=h4.old o6;have h5:=h5.old o6
 go_wp2_with fail
 refine (tApp h5 h6).mono ?_;rintro e w7 ⟨o7,v7,rfl,h7⟩;have OW:=OW.trans o7;have hg:=hg.old o7;have h1:=h1.old o7;have kA:=kA.keep o7 (fun e=>e);have h2:=h2.old o7;have h3:=h3.old o7;have h4:=h4.old o7;have h5:=h5.old o7;have h6:=h6.old o7
 go_wp2_with fail
 refine (tApp h4 h7).mono ?_;rintro e w8 ⟨o8,v8,rfl,h8⟩;have OW:=OW.trans o8;have hg:=hg.old o8;have h1:=h1.old o8;have kA:=kA.keep o8 (fun e=>e);have h2:=h2.old o8;have h3:=h3.old o8;have h4:=h4.old o8;have h5:=h5.old o8;have h6:=h6.old o8;have h7:=h7.old o8
 go_wp2_with fail
 refine (tNum 2 _).mono ?_;rintro e w9 ⟨o9,v9,rfl,h9⟩;have OW:=OW.trans o9;have hg:=hg.old o9;have h1:=h1.old o9;have kA:=kA.keep o9 (fun e=>e);have h2:=h2.old o9;have h3:=h3.old o9;have h4:=h4.old o9;have h5:=h5.old o9;have h6:=h6.old o9;have h7:=h7.old o9;have h8:=h8.old o9
 go_wp2_with fail
 refine (tNum 3 _).mono ?_;rintro e cC ⟨cw,v10,rfl,tr⟩;have OW:=OW.trans cw;have hg:=hg.old cw;have h1:=h1.old cw;have kA:=kA.keep cw (fun e=>e);have h2:=h2.old cw;have h3:=h3.old cw;have h4:=h4.old cw;have h5:=h5.old cw;have h6:=h6.old cw;have h7:=h7.old cw;have h8:=h8.old cw;have h9:=h9.old cw
 go_wp2_with fail
 refine (zvi ⟨#[42]⟩ h9 tr).mono ?_;rintro e w11 ⟨fF,v11,rfl,h11⟩;have OW:=OW.trans fF;have hg:=hg.old fF;have h1:=h1.old fF;have kA:=kA.keep fF (fun e=>e);have h2:=h2.old fF;have h3:=h3.old fF;have h4:=h4.old fF;have h5:=h5.old fF;have h6:=h6.old fF;have h7:=h7.old fF;have h8:=h8.old fF;have h9:=h9.old fF;have tr:=tr.old fF
 go_wp2_with fail
 refine (zvi ⟨#[45]⟩ h8 h11).mono ?_;rintro e w12 ⟨vV,v12,rfl,vx⟩;have OW:=OW.trans vV;have hg:=hg.old vV;have h1:=h1.old vV;have kA:=kA.keep vV (fun e=>e);have h2:=h2.old vV;have h3:=h3.old vV;have h4:=h4.old vV;have h5:=h5.old vV;have h6:=h6.old vV;have h7:=h7.old vV;have h8:=h8.old vV;have h9:=h9.old vV;have tr:=tr.old vV;have h11:=h11.old vV;clear h2 h3 h4 h5 h6 h7 h8 h9 tr h11;obtain⟨bkd,bnu,bnm,bag,bla,bna,bca,blp,bnp,bcp,rfl⟩:=vx.parts;have oa:=(Old.refl w12).alloc (.cells #[.int .i64 bkd,.int .i64 bnu,.string bnm,.string bag,.slice bla bna bca,.slice blp bnp bcp] 32);have OW:=OW.trans oa;have hg:=hg.old oa;have h1:=h1.old oa;have kA:=kA.keep oa (fun e=>e);have vx:=vx.old oa;have kB:=Blk.new w12 #[.int .i64 bkd,.int .i64 bnu,.string bnm,.string bag,.slice bla bna bca,.slice blp bnp bcp] 32
 go_wp2_with fail
 refine (sane2 _ hg).mono ?_;rintro e w13 ⟨gG,rfl⟩;have OW:=OW.trans gG;have hg:=hg.old gG;have h1:=h1.old gG;have kA:=kA.keep gG (fun e=>e);have vx:=vx.old gG;have kB:=kB.keep gG (fun e=>e);have oa:=(Old.refl w13).alloc (.cells #[.int .i64 0,.int .i64 0,.string ⟨#[]⟩,.string ⟨#[]⟩,.slice none 0 0,.slice none 0 0] 32);have OW:=OW.trans oa;have hg:=hg.old oa;have h1:=h1.old oa;have kA:=kA.keep oa (fun e=>e);have vx:=vx.old oa;have kB:=kB.keep oa (fun e=>e);have kz2:=Blk.new w13 #[.int .i64 0,.int .i64 0,.string ⟨#[]⟩,.string ⟨#[]⟩,.slice none 0 0,.slice none 0 0] 32;clear kz2
 go_wp2_with fail
 refine (sane3 _ hg).mono ?_;rintro e w14 ⟨nH,rfl⟩;have OW:=OW.trans nH;have hg:=hg.old nH;have h1:=h1.old nH;have kA:=kA.keep nH (fun e=>e);have vx:=vx.old nH;have kB:=kB.keep nH (fun e=>e);have oa:=(Old.refl w14).alloc (.cells #[.int .i64 0,.int .i64 0,.string ⟨#[]⟩,.string ⟨#[]⟩,.slice none 0 0,.slice none 0 0] 32);have OW:=OW.trans oa;have hg:=hg.old oa;have h1:=h1.old oa;have kA:=kA.keep oa (fun e=>e);have vx:=vx.old oa;have kB:=kB.keep oa (fun e=>e);have kz3:=Blk.new w14 #[.int .i64 0,.int .i64 0,.string ⟨#[]⟩,.string ⟨#[]⟩,.slice none 0 0,.slice none 0 0] 32;clear kz3
 go_wp2_with fail
 refine (sane4 _ hg).mono ?_;rintro e w15 ⟨o15,rfl⟩;have OW:=OW.trans o15;have hg:=hg.old o15;have h1:=h1.old o15;have kA:=kA.keep o15 (fun e=>e);have vx:=vx.old o15;have kB:=kB.keep o15 (fun e=>e);have oa:=(Old.refl w15).alloc (.cells #[.int .i64 0,.int .i64 0,.string ⟨#[]⟩,.string ⟨#[]⟩,.slice none 0 0,.slice none 0 0] 32);have OW:=OW.trans oa;have hg:=hg.old oa;have h1:=h1.old oa;have kA:=kA.keep oa (fun e=>e);have vx:=vx.old oa;have kB:=kB.keep oa (fun e=>e);have kz4:=Blk.new w15 #[.int .i64 0,.int .i64 0,.string ⟨#[]⟩,.string ⟨#[]⟩,.slice none 0 0,.slice none 0 0] 32;clear kz4
 go_wp2_with fail
 refine (tNum 1 _).mono ?_;rintro e w16 ⟨o16,v16,rfl,cY⟩;have OW:=OW.trans o16;have hg:=hg.old o16;have h1:=h1.old o16;have kA:=kA.keep o16 (fun e=>e);have vx:=vx.old o16;have kB:=kB.keep o16 (fun e=>e)
 go_wp2_with fail
 refine (tNum 2 _).mono ?_;rintro e w17 ⟨mS,v17,rfl,ny⟩;have OW:=OW.trans mS;have hg:=hg.old mS;have h1:=h1.old mS;have kA:=kA.keep mS (fun e=>e);have vx:=vx.old mS;have kB:=kB.keep mS (fun e=>e);have cY:=cY.old mS
 go_wp2_with fail
 refine (tNum 3 _).mono ?_;rintro e w18 ⟨sm,v18,rfl,mr⟩;have OW:=OW.trans sm;have hg:=hg.old sm;have h1:=h1.old sm;have kA:=kA.keep sm (fun e=>e);have vx:=vx.old sm;have kB:=kB.keep sm (fun e=>e);have cY:=cY.old sm;have ny:=ny.old sm
 go_wp2_with fail
 refine (zvi ⟨#[45]⟩ ny mr).mono ?_;rintro e w19 ⟨nG,v19,rfl,h19⟩;have OW:=OW.trans nG;have hg:=hg.old nG;have h1:=h1.old nG;have kA:=kA.keep nG (fun e=>e);have vx:=vx.old nG;have kB:=kB.keep nG (fun e=>e);have cY:=cY.old nG;have ny:=ny.old nG;have mr:=mr.old nG
 go_wp2_with fail
 refine (zvi ⟨#[45]⟩ cY h19).mono ?_;rintro e w20 ⟨tR,v20,rfl,cX⟩;have OW:=OW.trans tR;have hg:=hg.old tR;have h1:=h1.old tR;have kA:=kA.keep tR (fun e=>e);have vx:=vx.old tR;have kB:=kB.keep tR (fun e=>e);have cY:=cY.old tR;have ny:=ny.old tR;have mr:=mr.old tR;have h19:=h19.old tR
 go_wp2_with fail
 refine (zri _ cX.choose _ cX.choose_spec.2 cX.choose_spec.1 hg).mono ?_;rintro e w21 ⟨rfl,cE⟩;have OW:=OW.trans cE;have hg:=hg.old cE;have h1:=h1.old cE;have kA:=kA.keep cE (fun e=>e);have vx:=vx.old cE;have kB:=kB.keep cE (fun e=>e);have cY:=cY.old cE;have ny:=ny.old cE;have mr:=mr.old cE;have h19:=h19.old cE;have cX:=cX.old cE;clear cY ny mr h19 cX
 go_wp2_with fail
 refine (zvj ⟨#[120]⟩ _).mono ?_;rintro e w22 ⟨o22,v22,rfl,h22⟩;have OW:=OW.trans o22;have hg:=hg.old o22;have h1:=h1.old o22;have kA:=kA.keep o22 (fun e=>e);have vx:=vx.old o22;have kB:=kB.keep o22 (fun e=>e);obtain⟨ckd,cnu,cnm,cag,cla,cna,cca,clp,cnp,ccp,rfl⟩:=h22.parts;have yI:=tFn ⟨#[120]⟩ h22;have oa:=(Old.refl w22).alloc (.cells #[.int .i64 ckd,.int .i64 cnu,.string cnm,.string cag,.slice cla cna cca,.slice clp cnp ccp] 32);have OW:=OW.trans oa;have hg:=hg.old oa;have h1:=h1.old oa;have kA:=kA.keep oa (fun e=>e);have vx:=vx.old oa;have kB:=kB.keep oa (fun e=>e);have kc:=Blk.new w22 #[.int .i64 ckd,.int .i64 cnu,.string cnm,.string cag,.slice cla cna cca,.slice clp cnp ccp] 32;clear kc
 go_wp2_with fail
 refine (tNum 1 _).mono ?_;rintro e w23 ⟨mR,v23,rfl,h23⟩;have OW:=OW.trans mR;have hg:=hg.old mR;have h1:=h1.old mR;have kA:=kA.keep mR (fun e=>e);have vx:=vx.old mR;have kB:=kB.keep mR (fun e=>e);have yI:=yI.old mR
 go_wp2_with fail
 refine (tApp yI h23).mono ?_;rintro e w24 ⟨ss,v24,rfl,h24⟩;have OW:=OW.trans ss;have hg:=hg.old ss;have h1:=h1.old ss;have kA:=kA.keep ss (fun e=>e);have vx:=vx.old ss;have kB:=kB.keep ss (fun e=>e);have yI:=yI.old ss;have h23:=h23.old ss
 go_wp2_with fail
 refine (zrh _ h24.choose _ h24.choose_spec.2 h24.choose_spec.1 hg).mono ?_;rintro e w25 ⟨rfl,nW⟩;have OW:=OW.trans nW;have hg:=hg.old nW;have h1:=h1.old nW;have kA:=kA.keep nW (fun e=>e);have vx:=vx.old nW;have kB:=kB.keep nW (fun e=>e);have yI:=yI.old nW;have h23:=h23.old nW;have h24:=h24.old nW;clear yI h23 h24
 go_wp2_with fail
 refine (sane5 _ hg).mono ?_;rintro e w26 ⟨o26,vp,rfl,hp⟩;have OW:=OW.trans o26;have hg:=hg.old o26;have h1:=h1.old o26;have kA:=kA.keep o26 (fun e=>e);have vx:=vx.old o26;have kB:=kB.keep o26 (fun e=>e);have hp:Pr w26 vp:=⟨_,fun _ hk=>hk.2,hp⟩;obtain⟨l,m,c,rfl⟩ : ∃l m c,vp=.agg #[.slice l m c]:=by
  obtain⟨F,-,sv,hv,hl⟩:=hp;obtain⟨l,c,rfl⟩:=hl.parts;exact⟨l,_,c,hv⟩
 have oa:=(Old.refl w26).alloc (.cells #[.slice l m c] 25);have OW:=OW.trans oa;have hg:=hg.old oa;have h1:=h1.old oa;have kA:=kA.keep oa (fun e=>e);have vx:=vx.old oa;have kB:=kB.keep oa (fun e=>e);have hp:=hp.old oa;have kP:=Blk.new w26 #[.slice l m c] 25;obtain⟨hU,fI,fA,cH,cF,cG⟩:=kA.c6;obtain⟨dr,dt,db,nf,ng,nw⟩:=kB.c6;have HS:=qya (And.intro h1 (And.intro vx (And.intro hp (And.intro kP (And.intro hg OW)))));clear kA kB;have HC:=qya (tSame h1 vx)
 go_wp2_with fail
 (with_reducible refine HC.out.mono ?_)
 rintro e w27 ⟨rfl,o27⟩;obtain⟨h1,vx,hp,kP,hg,OW⟩:=HS.out;clear hU fI fA cH cF cG dr dt db nf ng nw;have hp:=hp.old o27;have kP:=kP.keep o27 (fun e=>e);have OW:=OW.trans o27;have xp:=kP.c 0 (.slice l m c) rfl;have tB:=qya (zyt hp);have HS2:=qya (And.intro hp (And.intro kP OW))
 go_wp2_with fail
 (with_reducible refine tB.out.mono ?_)
 rintro e w28 ⟨rfl,o28⟩;obtain⟨hp,kP,OW⟩:=HS2.out;clear xp;have hp:=hp.old o28;have kP:=kP.keep o28 (fun e=>e);have OW:=OW.trans o28;have xp:=kP.c 0 (.slice l m c) rfl;have eE:=qya (tSize hp)
 go_wp2_with fail
 (with_reducible refine eE.out.mono ?_)
 rintro e w29 ⟨rfl,o29⟩;have HO:=qya (OW.trans o29);clear xp;go_wp2;go_ret;exact⟨rfl,HO.out⟩
end Go.Proofs.YtclgbmmambkiaaaGreatDoor

/- Part 07 -/
import Derived.Test.YtclgbmmambkiaaaGreatDoorMb06
set_option maxRecDepth 100000
set_option maxHeartbeats 4000000
set_option linter.unusedVariables false
set_option linter.unusedSimpArgs false
namespace Go.Proofs.YtclgbmmambkiaaaGreatDoor
open Go.RowKit
attribute [local go_sem] Oper.semAt_some
def Sx.treeW{α : Type}(ck : α→Int)(len:Int):Sx.Res α→Except (Int×Int) α
 | .ok x []=>if ck x=0 then .ok x else .error (0,ck x)
 | .ok _ r=>.error (zah len r,20)
 | .bad r=>.error (zah len r,20)
def Sx.readW{α : Type}(ck : α→Int)(len:Int)(s:Lx.Scan)(rd:List Lx.Tok→Sx.Res α):Except (Int×Int) α:=
 if s.code=0 then Sx.treeW ck len (rd s.toks) else .error (s.at_,s.code)
def zfs{α : Type}(At:World→(Nat→Prop)→α→Value→Prop)(zero:Value)(w:World)(r:Except (Int×Int) α)(e:Ending)(w':World):Prop:=
 Old w w'∧∃(v:Value) (a c:Int),e=.returned (.tuple #[v,.int .i64 a,.int .i64 c])∧match r with
  | .ok x=>a=0∧c=0∧At w' (fun k=>w.heap.size≤k∧k<w'.heap.size) x v
  | .error (a',c')=>v=zero∧a=a'∧c=c'
theorem zcs{w:World}{R A E:Nat}{x0 x1 x2 x3 x4 x5 y z:Value}{TX TY TZ:TypeId}(hx:Blk w R #[x0,x1,x2,x3,x4,x5] TX)(hy:Blk w A #[y] TY)(hz:Blk w E #[z] TZ)(tmps:Array Value)(h6:tmps[6]? = some (.pointer (some ⟨R,0,none⟩)))(h7:tmps[7]? = some (.pointer (some ⟨A,0,none⟩)))(h8:tmps[8]? = some (.pointer (some ⟨E,0,none⟩))) :
  (results Tryz.f42 tmps).run Tryz.prog w=.ok (.tuple #[.agg #[x0,x1,x2,x3,x4,x5],y,z]) w:=by
 obtain⟨c0,c1,c2,c3,c4,c5⟩:=hx.c6;have d0:=hy.c 0 y rfl;have e0:=hz.c 0 z rfl;simp [results,Tryz.results42,go_sem,h6,h7,h8,c0,c1,c2,c3,c4,c5,d0,e0]
theorem zp4{F:Fence}{n:Nat}{P:Program}{ops:Array Oper}{rest:List Oper}{o:Oper}{a:Act}{w:World}{Q:Exit→Act→World→Prop}(az:Array Operand)(tz:Array TypeId)(ho:o.op=.call { callee:=.builtin .append,args:=az,argTypes:=tz })(h:Stop (wpListIn F n P ops Q (o::rest) a w)):wpListIn F n P ops Q (o::rest) a w:=h
theorem zlb(l:List UInt8):(Lx.upto l 20000).toks.length≤40000:=by
 unfold Lx.upto;split
 ·exact qyi _
 ·rename_i h;cases hs:Lx.scan l 0 with
  | ok ts cs=>have:=Lx.zgy hs;show ts.length≤40000;omega
  | err p e=>exact qyi _
theorem ztu(t:ByteArray)(ht:t.size≤140737488355328)(w:World)(hg:Gl w)(ck:Sx.Ex→Int)
  (xH : ∀(x:Sx.Ex),(∃r,Sx.zcb (Lx.upto t.data.toList 20000).toks=.ok x r)→∀(v:Value) (F:Nat→Prop) (W:World),ExAt W F x v→(∀k,F k→k<W.heap.size)→Gl W→Calls Tryz.prog 44 #[v] W fun e W'=>e=.returned (.int .i64 (ck x))∧Old W W')
  (bQ : ∀(b:Nat) (la:Option Addr) (lc:Nat) (L:List RT) (toks:List Lx.Tok) (len:Int),RtOf L toks len→∀(q:Nat) (W:World),Rd W b la lc L q→q≤toks.length→Calls Tryz.prog 43 #[.pointer (some ⟨b,0,none⟩)] W (zaf ExAt b la lc L toks len (Sx.zcb (toks.drop q)) q W))
  (lR : ∀x∈(Lx.upto t.data.toList 20000).toks,x.kind≠0)
  (M0:Except (Int×Int) Sx.Ex)(HM:Hid (M0=Sx.readW ck t.size (Lx.upto t.data.toList 20000) Sx.zcb)) :
  CallsIn Fence.wide 3 Tryz.prog 42 #[.string t,.func (.func 43) #[] #[],.func (.func 44) #[] #[]] w (zfs ExAt (.agg #[.int .i64 0,.int .i64 0,.string ⟨#[]⟩,.string ⟨#[]⟩,.slice none 0 0,.slice none 0 0]) w M0):=by
 have vw:=mkf;refine callsIn_of_wp_marks Tryz.func42 rfl trivial ?_ rfl;simp only [Tryz.ntmps42,qxg,qxh,qxi,Nat.reduceAdd,Nat.reduceSub,qxj,qxk,qxl,qxm,qxn,qxo]
 gi_wp2_with fail
 obtain⟨W0,qF⟩ : ∃W0,(((w.alloc (.cells #[.int .i64 0,.int .i64 0,.string ⟨#[]⟩,.string ⟨#[]⟩,.slice none 0 0,.slice none 0 0] 32)).alloc (.cells #[.int .i64 0] 3)).alloc (.cells #[.int .i64 0] 26)).alloc (.cells #[.int .i64 0,.int .i64 0,.string ⟨#[]⟩,.string ⟨#[]⟩,.slice none 0 0,.slice none 0 0] 32)=W0:=⟨_,rfl⟩;rw [qF];have F0:Old w W0:=by rw [← qF];exact ((((Old.refl w).alloc _).alloc _).alloc _).alloc _
 have z0:W0.heap.size=w.heap.size+4:=by rw [← qF];simp
 have qD:Blk W0 w.heap.size #[.int .i64 0,.int .i64 0,.string ⟨#[]⟩,.string ⟨#[]⟩,.slice none 0 0,.slice none 0 0] 32:=by rw [← qF];exact (((Blk.new w _ _).alloc _).alloc _).alloc _
 have kA0:Blk W0 (w.heap.size+1) #[.int .i64 0] 3:=by rw [← qF];exact ((Blk.new' (by simp) _ _).alloc _).alloc _
 have kE0:Blk W0 (w.heap.size+1+1) #[.int .i64 0] 26:=by rw [← qF];exact (Blk.new' (by simp) _ _).alloc _
 have kZ0:Blk W0 (w.heap.size+1+1+1) #[.int .i64 0,.int .i64 0,.string ⟨#[]⟩,.string ⟨#[]⟩,.slice none 0 0,.slice none 0 0] 32:=by rw [← qF];exact Blk.new' (by simp) _ _
 clear qF;refine⟨trivial,callsIn_wide.2 ((zhy t ht W0 (hg.old F0)).mono ?_)⟩;rintro e w1 ⟨lv,rfl,vN,o1⟩;obtain⟨s,hs⟩ : ∃s,Lx.upto t.data.toList 20000=s:=⟨_,rfl⟩;rw [hs] at vN HM lR xH ⊢;have z1:=o1.size;have kU:=qD.keep o1 (fun e=>e);have bw:=kA0.keep o1 (fun e=>e);have bk:=kE0.keep o1 (fun e=>e);have cd:=kZ0.keep o1 (fun e=>e);obtain⟨lt0,ct0,rfl⟩:=zad vN;have r1_0:=kU.c 0 (.int .i64 0) rfl;have r1f0:=kU.free 0;have z1_0:=cd.c 0 (.int .i64 0) rfl;have r1_1:=kU.c 1 (.int .i64 0) rfl;have r1f1:=kU.free 1;have z1_1:=cd.c 1 (.int .i64 0) rfl;have r1_2:=kU.c 2 (.string ⟨#[]⟩) rfl;have r1f2:=kU.free 2;have z1_2:=cd.c 2 (.string ⟨#[]⟩) rfl;have r1_3:=kU.c 3 (.string ⟨#[]⟩) rfl;have r1f3:=kU.free 3;have z1_3:=cd.c 3 (.string ⟨#[]⟩) rfl;have r1_4:=kU.c 4 (.slice none 0 0) rfl;have r1f4:=kU.free 4;have z1_4:=cd.c 4 (.slice none 0 0) rfl;have r1_5:=kU.c 5 (.slice none 0 0) rfl;have r1f5:=kU.free 5;have z1_5:=cd.c 5 (.slice none 0 0) rfl;have a1c:=bw.c 0 (.int .i64 0) rfl;have a1f:=bw.free 0;have e1c:=bk.c 0 (.int .i64 0) rfl;have e1f:=bk.free 0;have lR1:=kU.lt;have lA1:=bw.lt;have lE1:=bk.lt;have lZ1:=cd.lt;have HS:=qya hs;have Z0:=qya z0;clear hs z0;cases hc:(s.code != 0)
 ·have eu:s.toks.length≤40000:=by rw [← HS.out];exact zlb _
  have z0:=Z0.out;have F2:Fr (fun k=>k=w.heap.size+1∨k=w.heap.size+1+1) w1 ((w1.setCell ⟨w.heap.size+1,0,none⟩ (.int .i64 s.at_)).setCell ⟨w.heap.size+1+1,0,none⟩ (.int .i64 s.code)):=(((Fr.refl (fun k=>k=w.heap.size+1∨k=w.heap.size+1+1) w1).setCell ⟨w.heap.size+1,0,none⟩ (fun _=>.inl rfl) (.int .i64 s.at_)).setCell ⟨w.heap.size+1+1,0,none⟩ (fun _=>.inr rfl) (.int .i64 s.code));have zJ:=zaa vN F2 (fun k hk e=>by have:=(vN.lt k hk).1;omega);have z2:((w1.setCell ⟨w.heap.size+1,0,none⟩ (.int .i64 s.at_)).setCell ⟨w.heap.size+1+1,0,none⟩ (.int .i64 s.code)).heap.size=w1.heap.size:=by simp
  have di:=zJ.alloc (.cells #[.int .i64 0,.int .i64 0,.string ⟨#[]⟩,.int .i64 t.size] 59);have z3:(((w1.setCell ⟨w.heap.size+1,0,none⟩ (.int .i64 s.at_)).setCell ⟨w.heap.size+1+1,0,none⟩ (.int .i64 s.code)).alloc (.cells #[.int .i64 0,.int .i64 0,.string ⟨#[]⟩,.int .i64 t.size] 59)).heap.size=w1.heap.size+1:=by rw [qyd,z2]
  have qR : ∀j u,[Value.int .i64 0,Value.int .i64 0,Value.string ⟨#[]⟩,Value.int .i64 t.size][j]? = some u→(((w1.setCell ⟨w.heap.size+1,0,none⟩ (.int .i64 s.at_)).setCell ⟨w.heap.size+1+1,0,none⟩ (.int .i64 s.code)).alloc (.cells #[.int .i64 0,.int .i64 0,.string ⟨#[]⟩,.int .i64 t.size] 59)).cell? ((⟨w1.heap.size,0,none⟩:Addr).add j)=some u:=by
   have:=World.news_of_block (Blk.new ((w1.setCell ⟨w.heap.size+1,0,none⟩ (.int .i64 s.at_)).setCell ⟨w.heap.size+1+1,0,none⟩ (.int .i64 s.code)) #[.int .i64 0,.int .i64 0,.string ⟨#[]⟩,.int .i64 t.size] 59)
   rwa [z2] at this
  obtain⟨i0,hi,qw,j5,jE⟩:=info_parts zjb
  gi_wp2_with (first | (gi_at_builtin;refine zp4 _ _ rfl ?_) | fail)
  refine Stop.mk ?_;refine zbi rfl _ _ 54 rfl (W0.heap.size+1) 59 i0 (.agg #[.int .i64 0,.int .i64 0,.string ⟨#[]⟩,.int .i64 0]) 4 40 Tryz.underlying54 hi qw j5 jE rfl (by decide) _ s.toks.length (zco s.toks) rfl di ⟨w1.heap.size,0,none⟩ 1 1 [.int .i64 0,.int .i64 0,.string ⟨#[]⟩,.int .i64 t.size] rfl rfl qR (by intro u hu;simp at hu;rcases hu with rfl | rfl | rfl | rfl <;> rfl) (by decide) (by unfold maxLen;omega) (by omega) (by omega) (w1.heap.size+1) z3 ?_;intro g cap w4 zc gT qZ yD;have qZ:(Value.slice lt0 s.toks.length ct0).ownBlock=some g∨g=w1.heap.size+1:=qZ;have F4:Fr (fun k=>(Value.slice lt0 s.toks.length ct0).ownBlock=some k) (((w1.setCell ⟨w.heap.size+1,0,none⟩ (.int .i64 s.at_)).setCell ⟨w.heap.size+1+1,0,none⟩ (.int .i64 s.code)).alloc (.cells #[.int .i64 0,.int .i64 0,.string ⟨#[]⟩,.int .i64 t.size] 59)) w4:=(Fr.refl _ _).grown gT (fun k e _=>e);have jQ:=fun k hk=>vN.lt k hk;have xn:=((kU.keep F2 (by omega)).alloc (.cells #[.int .i64 0,.int .i64 0,.string ⟨#[]⟩,.int .i64 t.size] 59)).keep F4 (fun e=>by have:=(jQ _ e).1;omega);have kZ4:=((cd.keep F2 (by omega)).alloc (.cells #[.int .i64 0,.int .i64 0,.string ⟨#[]⟩,.int .i64 t.size] 59)).keep F4 (fun e=>by have:=(jQ _ e).1;omega);have kA2:Blk ((w1.setCell ⟨w.heap.size+1,0,none⟩ (.int .i64 s.at_)).setCell ⟨w.heap.size+1+1,0,none⟩ (.int .i64 s.code)) (w.heap.size+1) #[.int .i64 s.at_] 3:=(bw.set 0 (.int .i64 s.at_)).other ⟨w.heap.size+1+1,0,none⟩ (by simp) (.int .i64 s.code);have kE2:Blk ((w1.setCell ⟨w.heap.size+1,0,none⟩ (.int .i64 s.at_)).setCell ⟨w.heap.size+1+1,0,none⟩ (.int .i64 s.code)) (w.heap.size+1+1) #[.int .i64 s.code] 26:=(bk.other ⟨w.heap.size+1,0,none⟩ (by simp) (.int .i64 s.at_)).set 0 (.int .i64 s.code);have lm:=(kA2.alloc (.cells #[.int .i64 0,.int .i64 0,.string ⟨#[]⟩,.int .i64 t.size] 59)).keep F4 (fun e=>by have:=(jQ _ e).1;omega);have kE4:=(kE2.alloc (.cells #[.int .i64 0,.int .i64 0,.string ⟨#[]⟩,.int .i64 t.size] 59)).keep F4 (fun e=>by have:=(jQ _ e).1;omega);have z4:=F4.size;have F14:Fr (fun k=>w.heap.size≤k) w1 w4:=Fr.trans' ((F2.mono (S':=fun k=>w.heap.size≤k) (fun k _ e=>by omega)).alloc _) F4 (fun k _ e=>by have:=(jQ _ e).1;omega);obtain⟨L,tg⟩ : ∃L,L=s.toks.map rt++[⟨0,0,⟨#[]⟩,(t.size:Int)⟩]:=⟨_,rfl⟩;have hL:RtOf L s.toks t.size:=tg;have fJ:L.length=s.toks.length+1:=by rw [tg];simp
  have ur:zdk L=zco s.toks++[.int .i64 0,.int .i64 0,.string ⟨#[]⟩,.int .i64 t.size]:=by rw [tg];exact ziu _ _
  have hgw:W0.heap.size+1≤g:=(zc.lt g rfl).1;have kB:=Blk.new w4 #[.slice (some ⟨g,0,none⟩) (s.toks.length+1) cap,.int .i64 0] 129;have jc:Rd (w4.alloc (.cells #[.slice (some ⟨g,0,none⟩) (s.toks.length+1) cap,.int .i64 0] 129)) w4.heap.size (some ⟨g,0,none⟩) cap L 0:=
   Rd.new (base:=W0.heap.size+1) (by rw [fJ,ur];exact zc.alloc _) (by rw [qyd];omega) (by rw [fJ];exact kB) (by omega) (by omega)
  have o4:Old w4 (w4.alloc (.cells #[.slice (some ⟨g,0,none⟩) (s.toks.length+1) cap,.int .i64 0] 129)):=(Old.refl w4).alloc _;have mT:(w4.alloc (.cells #[.slice (some ⟨g,0,none⟩) (s.toks.length+1) cap,.int .i64 0] 129)).heap.size=w4.heap.size+1:=qyd _ _;have hc0:s.code=0:=by simpa using hc
  have HM:Hid (M0=Sx.treeW ck t.size (Sx.zcb s.toks)):=qya (by rw [HM.out,Sx.readW,if_pos hc0]);have HL:=qya tg;have Z40:=qya mT;clear tg ur z0 mT z2 z3 qR
  gi_wp2_with fail
  refine⟨trivial,callsIn_wide.2 ((bQ w4.heap.size (some ⟨g,0,none⟩) cap L s.toks t.size hL 0 _ jc (qyi _)).mono ?_)⟩;rintro e w5 ⟨f5,hp⟩;rw [List.drop_zero] at hp;have z0:=Z0.out;have mT:=Z40.out;have z5:=f5.size;have j4:=(xn.keep o4 (fun e=>e)).keep f5 (by omega);have lg:=(kZ4.keep o4 (fun e=>e)).keep f5 (by omega);have rz:=(lm.keep o4 (fun e=>e)).keep f5 (by omega);have rq:=(kE4.keep o4 (fun e=>e)).keep f5 (by omega);have wx:Fr (fun k=>w.heap.size≤k) w w5:=Fr.trans' (Fr.trans' (Fr.trans' (Fr.trans' ((F0.trans o1).mono (S':=fun k=>w.heap.size≤k) (fun k _ e=>e.elim)) F14 (fun k _ e=>e)) o4 (fun _ _ e=>e.elim)) f5 (fun k _ e=>by omega)) (Fr.refl (fun k=>w.heap.size≤k) w5) (fun k _ e=>e);cases hres:Sx.zcb s.toks with
  | bad rest=>
   rw [hres] at hp;have hp:e=panS (zah t.size rest):=hp;subst hp;have HR:=qya hres;clear hres;refine zax (by simp) (by simp [go_sem]) ?_;refine (zkj _ (w.heap.size+1+1+1) w.heap.size (w.heap.size+1) (w.heap.size+1+1) _ _ _ _ _ _ _ _ _ _ (zah t.size rest) [] w5 lg j4 rz rq (by omega) (by omega) (by omega) (by omega) (by omega) (by omega)).mono ?_;rintro e u' w' ⟨rfl,rfl,o,rfl⟩;have bR6:Blk ((((((w5.setCell ⟨w.heap.size,0,none⟩ (.int .i64 0)).setCell ⟨w.heap.size,1,none⟩ (.int .i64 0)).setCell ⟨w.heap.size,2,none⟩ (.string ⟨#[]⟩)).setCell ⟨w.heap.size,3,none⟩ (.string ⟨#[]⟩)).setCell ⟨w.heap.size,4,none⟩ (.slice none 0 0)).setCell ⟨w.heap.size,5,none⟩ (.slice none 0 0)) w.heap.size #[.int .i64 0,.int .i64 0,.string ⟨#[]⟩,.string ⟨#[]⟩,.slice none 0 0,.slice none 0 0] 32:=by
    have:=((((((j4.set 0 (.int .i64 0)).set 1 (.int .i64 0)).set 2 (.string ⟨#[]⟩)).set 3 (.string ⟨#[]⟩)).set 4 (.slice none 0 0)).set 5 (.slice none 0 0));simpa only [qxd,qxe,qxf] using this
   have bA6:Blk ((((((w5.setCell ⟨w.heap.size,0,none⟩ (.int .i64 0)).setCell ⟨w.heap.size,1,none⟩ (.int .i64 0)).setCell ⟨w.heap.size,2,none⟩ (.string ⟨#[]⟩)).setCell ⟨w.heap.size,3,none⟩ (.string ⟨#[]⟩)).setCell ⟨w.heap.size,4,none⟩ (.slice none 0 0)).setCell ⟨w.heap.size,5,none⟩ (.slice none 0 0)) (w.heap.size+1) _ _:=((((((rz.other ⟨w.heap.size,0,none⟩ (by simp) (.int .i64 0)).other ⟨w.heap.size,1,none⟩ (by simp) (.int .i64 0)).other ⟨w.heap.size,2,none⟩ (by simp) (.string ⟨#[]⟩)).other ⟨w.heap.size,3,none⟩ (by simp) (.string ⟨#[]⟩)).other ⟨w.heap.size,4,none⟩ (by simp) (.slice none 0 0)).other ⟨w.heap.size,5,none⟩ (by simp) (.slice none 0 0));have bE6:Blk ((((((w5.setCell ⟨w.heap.size,0,none⟩ (.int .i64 0)).setCell ⟨w.heap.size,1,none⟩ (.int .i64 0)).setCell ⟨w.heap.size,2,none⟩ (.string ⟨#[]⟩)).setCell ⟨w.heap.size,3,none⟩ (.string ⟨#[]⟩)).setCell ⟨w.heap.size,4,none⟩ (.slice none 0 0)).setCell ⟨w.heap.size,5,none⟩ (.slice none 0 0)) (w.heap.size+1+1) _ _:=((((((rq.other ⟨w.heap.size,0,none⟩ (by simp;omega) (.int .i64 0)).other ⟨w.heap.size,1,none⟩ (by simp;omega) (.int .i64 0)).other ⟨w.heap.size,2,none⟩ (by simp;omega) (.string ⟨#[]⟩)).other ⟨w.heap.size,3,none⟩ (by simp;omega) (.string ⟨#[]⟩)).other ⟨w.heap.size,4,none⟩ (by simp;omega) (.slice none 0 0)).other ⟨w.heap.size,5,none⟩ (by simp;omega) (.slice none 0 0));have F6:Fr (fun k=>w.heap.size≤k) w ((((((w5.setCell ⟨w.heap.size,0,none⟩ (.int .i64 0)).setCell ⟨w.heap.size,1,none⟩ (.int .i64 0)).setCell ⟨w.heap.size,2,none⟩ (.string ⟨#[]⟩)).setCell ⟨w.heap.size,3,none⟩ (.string ⟨#[]⟩)).setCell ⟨w.heap.size,4,none⟩ (.slice none 0 0)).setCell ⟨w.heap.size,5,none⟩ (.slice none 0 0)):=((((((wx.setCell ⟨w.heap.size,0,none⟩ (fun _=>qyb _) (.int .i64 0)).setCell ⟨w.heap.size,1,none⟩ (fun _=>qyb _) (.int .i64 0)).setCell ⟨w.heap.size,2,none⟩ (fun _=>qyb _) (.string ⟨#[]⟩)).setCell ⟨w.heap.size,3,none⟩ (fun _=>qyb _) (.string ⟨#[]⟩)).setCell ⟨w.heap.size,4,none⟩ (fun _=>qyb _) (.slice none 0 0)).setCell ⟨w.heap.size,5,none⟩ (fun _=>qyb _) (.slice none 0 0));obtain⟨w6,be⟩ : ∃w6,((((((w5.setCell ⟨w.heap.size,0,none⟩ (.int .i64 0)).setCell ⟨w.heap.size,1,none⟩ (.int .i64 0)).setCell ⟨w.heap.size,2,none⟩ (.string ⟨#[]⟩)).setCell ⟨w.heap.size,3,none⟩ (.string ⟨#[]⟩)).setCell ⟨w.heap.size,4,none⟩ (.slice none 0 0)).setCell ⟨w.heap.size,5,none⟩ (.slice none 0 0))=w6:=⟨_,rfl⟩;rw [be] at bR6 bA6 bE6 F6 ⊢;clear be;have eF:=(((bR6.other ⟨w.heap.size+1,0,none⟩ (by simp) (.int .i64 (zah t.size rest))).other ⟨w.heap.size+1+1,0,none⟩ (by simp;omega) (.int .i64 20)).alloc o).drew;have eP:Blk _ (w.heap.size+1) #[.int .i64 (zah t.size rest)] 3:=(((bA6.set 0 (.int .i64 (zah t.size rest))).other ⟨w.heap.size+1+1,0,none⟩ (by simp) (.int .i64 20)).alloc o).drew;have eH:Blk _ (w.heap.size+1+1) #[.int .i64 20] 26:=(((bE6.other ⟨w.heap.size+1,0,none⟩ (by simp) (.int .i64 (zah t.size rest))).set 0 (.int .i64 20)).alloc o).drew;have F7:=(((F6.setCell ⟨w.heap.size+1,0,none⟩ (fun _=>Nat.le_succ _) (.int .i64 (zah t.size rest))).setCell ⟨w.heap.size+1+1,0,none⟩ (fun _=>by show w.heap.size≤w.heap.size+1+1;omega) (.int .i64 20)).alloc o).drew;refine⟨_,zcs eF eP eH _ rfl rfl rfl,F7.mono (fun k hk e=>absurd hk (Nat.not_lt.2 e)),_,_,_,rfl,?_⟩;rw [HM.out,HR.out];exact⟨rfl,rfl,rfl⟩
  | ok x rest=>
   rw [hres] at hp;obtain⟨v,q',rfl,qq,qx,qX,lW,pg⟩:=hp;obtain⟨kd,nu,nm,ag,la,na,ca,lp,np,cp,rfl⟩:=pg.parts;have HM:Hid (M0=Sx.treeW ck t.size (.ok x (s.toks.drop q'))):=qya (by rw [HM.out,hres,qq]);have fW:Hid (∃r,Sx.zcb s.toks=.ok x r):=qya ⟨rest,hres⟩;clear hres qq;obtain⟨xt,hx⟩ : ∃xt,L[q']? = some xt:=⟨_,List.getElem?_eq_getElem (by omega)⟩;obtain⟨jb,hd2,vj⟩:=zc2 hL hx qX;have HX:=qya hx;have H3:=qya vj;have H1:=qya jb;clear hx jb hd2 vj;have hk:=zc5 xt;obtain⟨r5_0,r5_1,r5_2,r5_3,r5_4,r5_5⟩:=j4.c6;obtain⟨r5f0,r5f1,r5f2,r5f3,r5f4,r5f5⟩:=j4.f6;have hRl5:=j4.lt;have hZl5:=lg.lt;have hAl5:=rz.lt;have hEl5:=rq.lt;have S5:Fr (fun k=>k=w.heap.size) w5 ((((((w5.setCell ⟨w.heap.size,0,none⟩ (.int .i64 kd)).setCell ⟨w.heap.size,1,none⟩ (.int .i64 nu)).setCell ⟨w.heap.size,2,none⟩ (.string nm)).setCell ⟨w.heap.size,3,none⟩ (.string ag)).setCell ⟨w.heap.size,4,none⟩ (.slice la na ca)).setCell ⟨w.heap.size,5,none⟩ (.slice lp np cp)):=(((((((Fr.refl (fun k=>k=w.heap.size) w5).setCell ⟨w.heap.size,0,none⟩ (fun _=>rfl) (.int .i64 kd)).setCell ⟨w.heap.size,1,none⟩ (fun _=>rfl) (.int .i64 nu)).setCell ⟨w.heap.size,2,none⟩ (fun _=>rfl) (.string nm)).setCell ⟨w.heap.size,3,none⟩ (fun _=>rfl) (.string ag)).setCell ⟨w.heap.size,4,none⟩ (fun _=>rfl) (.slice la na ca)).setCell ⟨w.heap.size,5,none⟩ (fun _=>rfl) (.slice lp np cp));have yH:Blk ((((((w5.setCell ⟨w.heap.size,0,none⟩ (.int .i64 kd)).setCell ⟨w.heap.size,1,none⟩ (.int .i64 nu)).setCell ⟨w.heap.size,2,none⟩ (.string nm)).setCell ⟨w.heap.size,3,none⟩ (.string ag)).setCell ⟨w.heap.size,4,none⟩ (.slice la na ca)).setCell ⟨w.heap.size,5,none⟩ (.slice lp np cp)) w.heap.size #[.int .i64 kd,.int .i64 nu,.string nm,.string ag,.slice la na ca,.slice lp np cp] 32:=by
    have:=((((((j4.set 0 (.int .i64 kd)).set 1 (.int .i64 nu)).set 2 (.string nm)).set 3 (.string ag)).set 4 (.slice la na ca)).set 5 (.slice lp np cp));simpa only [qxd,qxe,qxf] using this
   gi_wp2_with fail
   have kZ6:=lg.keep S5 (by omega);have uX:=rz.keep S5 (by omega);have kE6:=rq.keep S5 (by omega);have pb:=lW.keep S5 (by omega) (fun g' kI=>by cases kI;show ¬g=w.heap.size;omega);obtain⟨w6,be⟩ : ∃w6,((((((w5.setCell ⟨w.heap.size,0,none⟩ (.int .i64 kd)).setCell ⟨w.heap.size,1,none⟩ (.int .i64 nu)).setCell ⟨w.heap.size,2,none⟩ (.string nm)).setCell ⟨w.heap.size,3,none⟩ (.string ag)).setCell ⟨w.heap.size,4,none⟩ (.slice la na ca)).setCell ⟨w.heap.size,5,none⟩ (.slice lp np cp))=w6:=⟨_,rfl⟩;rw [be] at S5 yH kZ6 uX kE6 pb ⊢;clear be;refine⟨trivial,callsIn_wide.2 ((zbt w6 w4.heap.size (some ⟨g,0,none⟩) cap L q' pb xt HX.out).mono ?_)⟩;rintro e w7 ⟨rfl,o7⟩;have dJ:=yH.keep o7 (fun e=>e);have kZ7:=kZ6.keep o7 (fun e=>e);have kA7:=uX.keep o7 (fun e=>e);have kE7:=kE6.keep o7 (fun e=>e);have F07:Fr (fun k=>w.heap.size≤k) w w7:=Fr.trans' (Fr.trans' wx S5 (fun k _ e=>by omega)) o7 (fun _ _ e=>e.elim);have kT:=Blk.new w7 #[.int .i64 xt.k,.int .i64 xt.n,.string xt.s,.int .i64 xt.a] 59;obtain⟨t0,t1,t2,t3,-⟩:=kT.four;have o8:Old w7 (w7.alloc (.cells #[.int .i64 xt.k,.int .i64 xt.n,.string xt.s,.int .i64 xt.a] 59)):=(Old.refl w7).alloc _;have dQ:=dJ.keep o8 (fun e=>e);have nI:=kZ7.keep o8 (fun e=>e);have gH:=kA7.keep o8 (fun e=>e);have pA:=kE7.keep o8 (fun e=>e);cases hk0:(xt.k != 0)
   ·have qy:s.toks.drop q'=[]:=by
     by_cases xK:q'<s.toks.length
     ·exfalso;have h1:=H1.out;rw [List.drop_eq_getElem_cons xK] at h1;have h2:s.toks[q'].kind=xt.k:=h1;exact lR _ (List.getElem_mem xK) (by rw [h2];simpa using hk0)
     ·exact List.drop_eq_nil_of_le (by omega)
    have HM:Hid (M0=if ck x=0 then .ok x else .error (0,ck x)):=qya (by rw [HM.out,qy];rfl);clear qy;have cu:=F07.trans' o8 (fun _ _ e=>e.elim);have pw:=((pg.keep S5 (fun k hk e=>by omega)).keep o7 (fun _ _ e=>e)).keep o8 (fun _ _ e=>e);have t9:=hg.old (cu.mono (S':=fun _=>False) (fun k hk e=>absurd hk (Nat.not_lt.2 e)));have z58:=((S5.mono (S':=fun k=>w.heap.size≤k) (fun k _ e=>Nat.le_of_eq e.symm)).trans' (o7.trans o8) (fun _ _ e=>e.elim)).size;obtain⟨r8_0,r8_1,r8_2,r8_3,r8_4,r8_5⟩:=dQ.c6
    gi_wp2_with fail
    obtain⟨w8,gI⟩ : ∃w8,w7.alloc (.cells #[.int .i64 xt.k,.int .i64 xt.n,.string xt.s,.int .i64 xt.a] 59)=w8:=⟨_,rfl⟩;rw [gI] at dQ nI gH pA cu pw t9 z58 ⊢;clear gI;refine⟨trivial,callsIn_wide.2 ((xH x fW.out _ _ w8 pw (fun k hk=>qyc hk.2 z58) t9).mono ?_)⟩;rintro e w9 ⟨rfl,o9⟩;have uT:=dQ.keep o9 (fun e=>e);have tS:=nI.keep o9 (fun e=>e);have bu:=gH.keep o9 (fun e=>e);have bz:=pA.keep o9 (fun e=>e);have lV:=pw.keep o9 (fun _ _ e=>e);have F09:=cu.trans' o9 (fun _ _ e=>e.elim);have vI:w.heap.size≤w.heap.size+1+1:=(by omega);have r9_0:=uT.c 0 (.int .i64 kd) rfl;have r9f0:=uT.free 0;have z9_0:=tS.c 0 (.int .i64 0) rfl;have r9_1:=uT.c 1 (.int .i64 nu) rfl;have r9f1:=uT.free 1;have z9_1:=tS.c 1 (.int .i64 0) rfl;have r9_2:=uT.c 2 (.string nm) rfl;have r9f2:=uT.free 2;have z9_2:=tS.c 2 (.string ⟨#[]⟩) rfl;have r9_3:=uT.c 3 (.string ag) rfl;have r9f3:=uT.free 3;have z9_3:=tS.c 3 (.string ⟨#[]⟩) rfl;have r9_4:=uT.c 4 (.slice la na ca) rfl;have r9f4:=uT.free 4;have z9_4:=tS.c 4 (.slice none 0 0) rfl;have r9_5:=uT.c 5 (.slice lp np cp) rfl;have r9f5:=uT.free 5;have z9_5:=tS.c 5 (.slice none 0 0) rfl;have a9c:=bu.c 0 (.int .i64 s.at_) rfl;have a9f:=bu.free 0;have e9c:=bz.c 0 (.int .i64 s.code) rfl;have e9f:=bz.free 0;have lR9:=uT.lt;have lA9:=bu.lt;have lE9:=bz.lt;have lZ9:=tS.lt;cases hz:(ck x != 0)
    ·gi_wp2;refine zax (by simp) (by simp [go_sem]) ?_;refine (zna _ _ _ _ _ _).mono ?_;rintro e u' w' ⟨rfl,rfl,o,rfl⟩;have FK:=((((((((((Fr.refl (fun k=>k=w.heap.size∨k=w.heap.size+1∨k=w.heap.size+1+1) w9).setCell ⟨w.heap.size+1+1,0,none⟩ (fun _=>.inr (.inr rfl)) (.int .i64 (ck x))).setCell ⟨w.heap.size,0,none⟩ (fun _=>.inl rfl) (.int .i64 kd)).setCell ⟨w.heap.size,1,none⟩ (fun _=>.inl rfl) (.int .i64 nu)).setCell ⟨w.heap.size,2,none⟩ (fun _=>.inl rfl) (.string nm)).setCell ⟨w.heap.size,3,none⟩ (fun _=>.inl rfl) (.string ag)).setCell ⟨w.heap.size,4,none⟩ (fun _=>.inl rfl) (.slice la na ca)).setCell ⟨w.heap.size,5,none⟩ (fun _=>.inl rfl) (.slice lp np cp)).setCell ⟨w.heap.size+1,0,none⟩ (fun _=>.inr (.inl rfl)) (.int .i64 0)).setCell ⟨w.heap.size+1+1,0,none⟩ (fun _=>.inr (.inr rfl)) (.int .i64 0)).alloc o;have zk:=FK.size;have z9:=o9.size;have z14:=F14.size;refine⟨.tuple #[.agg #[.int .i64 kd,.int .i64 nu,.string nm,.string ag,.slice la na ca,.slice lp np cp],.int .i64 0,.int .i64 0],zcs (TX:=32) (TY:=3) (TZ:=26) ?_ ?_ ?_ _ rfl rfl rfl,Fr.mono (S:=fun k=>w.heap.size≤k) ?_ (fun k hk e=>absurd hk (Nat.not_lt.2 e)),_,_,_,rfl,?_⟩
     ·have:=(((((((((uT.other ⟨w.heap.size+1+1,0,none⟩ (by simp;omega) (.int .i64 (ck x))).set 0 (.int .i64 kd)).set 1 (.int .i64 nu)).set 2 (.string nm)).set 3 (.string ag)).set 4 (.slice la na ca)).set 5 (.slice lp np cp)).other ⟨w.heap.size+1,0,none⟩ (by simp) (.int .i64 0)).other ⟨w.heap.size+1+1,0,none⟩ (by simp;omega) (.int .i64 0)).alloc o;simpa only [qxd,qxe,qxf] using this
     ·exact ((((((((((bu.other ⟨w.heap.size+1+1,0,none⟩ (by simp) (.int .i64 (ck x))).other ⟨w.heap.size,0,none⟩ (by simp) (.int .i64 kd)).other ⟨w.heap.size,1,none⟩ (by simp) (.int .i64 nu)).other ⟨w.heap.size,2,none⟩ (by simp) (.string nm)).other ⟨w.heap.size,3,none⟩ (by simp) (.string ag)).other ⟨w.heap.size,4,none⟩ (by simp) (.slice la na ca)).other ⟨w.heap.size,5,none⟩ (by simp) (.slice lp np cp)).set 0 (.int .i64 0)).other ⟨w.heap.size+1+1,0,none⟩ (by simp) (.int .i64 0)).alloc o)
     ·exact ((((((((((bz.set 0 (.int .i64 (ck x))).other ⟨w.heap.size,0,none⟩ (by simp;omega) (.int .i64 kd)).other ⟨w.heap.size,1,none⟩ (by simp;omega) (.int .i64 nu)).other ⟨w.heap.size,2,none⟩ (by simp;omega) (.string nm)).other ⟨w.heap.size,3,none⟩ (by simp;omega) (.string ag)).other ⟨w.heap.size,4,none⟩ (by simp;omega) (.slice la na ca)).other ⟨w.heap.size,5,none⟩ (by simp;omega) (.slice lp np cp)).other ⟨w.heap.size+1,0,none⟩ (by simp) (.int .i64 0)).set 0 (.int .i64 0)).alloc o)
     ·exact (((((((((F09.setCell ⟨w.heap.size+1+1,0,none⟩ (fun _=>vI) (.int .i64 (ck x))).setCell ⟨w.heap.size,0,none⟩ (fun _=>qyb _) (.int .i64 kd)).setCell ⟨w.heap.size,1,none⟩ (fun _=>qyb _) (.int .i64 nu)).setCell ⟨w.heap.size,2,none⟩ (fun _=>qyb _) (.string nm)).setCell ⟨w.heap.size,3,none⟩ (fun _=>qyb _) (.string ag)).setCell ⟨w.heap.size,4,none⟩ (fun _=>qyb _) (.slice la na ca)).setCell ⟨w.heap.size,5,none⟩ (fun _=>qyb _) (.slice lp np cp)).setCell ⟨w.heap.size+1,0,none⟩ (fun _=>Nat.le_succ _) (.int .i64 0)).setCell ⟨w.heap.size+1+1,0,none⟩ (fun _=>vI) (.int .i64 0)).alloc o
     ·rw [HM.out,if_pos (by simpa using hz)];exact⟨rfl,rfl,ExAt.more (fun k hk=>⟨by omega,by omega⟩) _ _ (lV.keep FK (fun k hk e=>by omega))⟩
    ·gi_wp2_with fail
     gi_region
     gi_wp2;refine zax (by simp) (by simp [go_sem]) ?_;refine (zna _ _ _ _ _ _).mono ?_;rintro e u' w' ⟨rfl,rfl,o,rfl⟩;refine⟨.tuple #[.agg #[.int .i64 0,.int .i64 0,.string ⟨#[]⟩,.string ⟨#[]⟩,.slice none 0 0,.slice none 0 0],.int .i64 0,.int .i64 (ck x)],zcs (TX:=32) (TY:=3) (TZ:=26) ?_ ?_ ?_ _ rfl rfl rfl,Fr.mono (S:=fun k=>w.heap.size≤k) ?_ (fun k hk e=>absurd hk (Nat.not_lt.2 e)),_,_,_,rfl,?_⟩
     ·have:=(((((((((((uT.other ⟨w.heap.size+1+1,0,none⟩ (by simp;omega) (.int .i64 (ck x))).set 0 (.int .i64 0)).set 1 (.int .i64 0)).set 2 (.string ⟨#[]⟩)).set 3 (.string ⟨#[]⟩)).set 4 (.slice none 0 0)).set 5 (.slice none 0 0)).other ⟨w.heap.size+1,0,none⟩ (by simp) (.int .i64 0)).other ⟨w.heap.size+1+1,0,none⟩ (by simp;omega) (.int .i64 (ck x))).drew).alloc o);simpa only [qxd,qxe,qxf] using this
     ·exact (((((((((((bu.other ⟨w.heap.size+1+1,0,none⟩ (by simp) (.int .i64 (ck x))).other ⟨w.heap.size,0,none⟩ (by simp) (.int .i64 0)).other ⟨w.heap.size,1,none⟩ (by simp) (.int .i64 0)).other ⟨w.heap.size,2,none⟩ (by simp) (.string ⟨#[]⟩)).other ⟨w.heap.size,3,none⟩ (by simp) (.string ⟨#[]⟩)).other ⟨w.heap.size,4,none⟩ (by simp) (.slice none 0 0)).other ⟨w.heap.size,5,none⟩ (by simp) (.slice none 0 0)).set 0 (.int .i64 0)).other ⟨w.heap.size+1+1,0,none⟩ (by simp) (.int .i64 (ck x))).drew).alloc o)
     ·exact (((((((((((bz.set 0 (.int .i64 (ck x))).other ⟨w.heap.size,0,none⟩ (by simp;omega) (.int .i64 0)).other ⟨w.heap.size,1,none⟩ (by simp;omega) (.int .i64 0)).other ⟨w.heap.size,2,none⟩ (by simp;omega) (.string ⟨#[]⟩)).other ⟨w.heap.size,3,none⟩ (by simp;omega) (.string ⟨#[]⟩)).other ⟨w.heap.size,4,none⟩ (by simp;omega) (.slice none 0 0)).other ⟨w.heap.size,5,none⟩ (by simp;omega) (.slice none 0 0)).other ⟨w.heap.size+1,0,none⟩ (by simp) (.int .i64 0)).set 0 (.int .i64 (ck x))).drew).alloc o)
     ·exact (((((((((((F09.setCell ⟨w.heap.size+1+1,0,none⟩ (fun _=>vI) (.int .i64 (ck x))).setCell ⟨w.heap.size,0,none⟩ (fun _=>qyb _) (.int .i64 0)).setCell ⟨w.heap.size,1,none⟩ (fun _=>qyb _) (.int .i64 0)).setCell ⟨w.heap.size,2,none⟩ (fun _=>qyb _) (.string ⟨#[]⟩)).setCell ⟨w.heap.size,3,none⟩ (fun _=>qyb _) (.string ⟨#[]⟩)).setCell ⟨w.heap.size,4,none⟩ (fun _=>qyb _) (.slice none 0 0)).setCell ⟨w.heap.size,5,none⟩ (fun _=>qyb _) (.slice none 0 0)).setCell ⟨w.heap.size+1,0,none⟩ (fun _=>Nat.le_succ _) (.int .i64 0)).setCell ⟨w.heap.size+1+1,0,none⟩ (fun _=>vI) (.int .i64 (ck x))).drew).alloc o)
     ·rw [HM.out,if_neg (by simpa using hz)];exact⟨rfl,rfl,rfl⟩
   ·gi_wp2;have cu:=F07.trans' o8 (fun _ _ e=>e.elim);obtain⟨w8,gI⟩ : ∃w8,w7.alloc (.cells #[.int .i64 xt.k,.int .i64 xt.n,.string xt.s,.int .i64 xt.a] 59)=w8:=⟨_,rfl⟩;rw [gI] at dQ nI gH pA cu ⊢;clear gI;refine zax (by simp) (by simp [go_sem]) ?_;refine (zkj _ (w.heap.size+1+1+1) w.heap.size (w.heap.size+1) (w.heap.size+1+1) _ _ _ _ _ _ _ _ _ _ (xt.a) [] w8 nI dQ gH pA (by omega) (by omega) (by omega) (by omega) (by omega) (by omega)).mono ?_;rintro e u' w' ⟨rfl,rfl,o,rfl⟩;have tZ:Blk ((((((w8.setCell ⟨w.heap.size,0,none⟩ (.int .i64 0)).setCell ⟨w.heap.size,1,none⟩ (.int .i64 0)).setCell ⟨w.heap.size,2,none⟩ (.string ⟨#[]⟩)).setCell ⟨w.heap.size,3,none⟩ (.string ⟨#[]⟩)).setCell ⟨w.heap.size,4,none⟩ (.slice none 0 0)).setCell ⟨w.heap.size,5,none⟩ (.slice none 0 0)) w.heap.size #[.int .i64 0,.int .i64 0,.string ⟨#[]⟩,.string ⟨#[]⟩,.slice none 0 0,.slice none 0 0] 32:=by
     have:=((((((dQ.set 0 (.int .i64 0)).set 1 (.int .i64 0)).set 2 (.string ⟨#[]⟩)).set 3 (.string ⟨#[]⟩)).set 4 (.slice none 0 0)).set 5 (.slice none 0 0));simpa only [qxd,qxe,qxf] using this
    have tK:Blk ((((((w8.setCell ⟨w.heap.size,0,none⟩ (.int .i64 0)).setCell ⟨w.heap.size,1,none⟩ (.int .i64 0)).setCell ⟨w.heap.size,2,none⟩ (.string ⟨#[]⟩)).setCell ⟨w.heap.size,3,none⟩ (.string ⟨#[]⟩)).setCell ⟨w.heap.size,4,none⟩ (.slice none 0 0)).setCell ⟨w.heap.size,5,none⟩ (.slice none 0 0)) (w.heap.size+1) _ _:=((((((gH.other ⟨w.heap.size,0,none⟩ (by simp) (.int .i64 0)).other ⟨w.heap.size,1,none⟩ (by simp) (.int .i64 0)).other ⟨w.heap.size,2,none⟩ (by simp) (.string ⟨#[]⟩)).other ⟨w.heap.size,3,none⟩ (by simp) (.string ⟨#[]⟩)).other ⟨w.heap.size,4,none⟩ (by simp) (.slice none 0 0)).other ⟨w.heap.size,5,none⟩ (by simp) (.slice none 0 0));have tV:Blk ((((((w8.setCell ⟨w.heap.size,0,none⟩ (.int .i64 0)).setCell ⟨w.heap.size,1,none⟩ (.int .i64 0)).setCell ⟨w.heap.size,2,none⟩ (.string ⟨#[]⟩)).setCell ⟨w.heap.size,3,none⟩ (.string ⟨#[]⟩)).setCell ⟨w.heap.size,4,none⟩ (.slice none 0 0)).setCell ⟨w.heap.size,5,none⟩ (.slice none 0 0)) (w.heap.size+1+1) _ _:=((((((pA.other ⟨w.heap.size,0,none⟩ (by simp;omega) (.int .i64 0)).other ⟨w.heap.size,1,none⟩ (by simp;omega) (.int .i64 0)).other ⟨w.heap.size,2,none⟩ (by simp;omega) (.string ⟨#[]⟩)).other ⟨w.heap.size,3,none⟩ (by simp;omega) (.string ⟨#[]⟩)).other ⟨w.heap.size,4,none⟩ (by simp;omega) (.slice none 0 0)).other ⟨w.heap.size,5,none⟩ (by simp;omega) (.slice none 0 0));have sh:Fr (fun k=>w.heap.size≤k) w ((((((w8.setCell ⟨w.heap.size,0,none⟩ (.int .i64 0)).setCell ⟨w.heap.size,1,none⟩ (.int .i64 0)).setCell ⟨w.heap.size,2,none⟩ (.string ⟨#[]⟩)).setCell ⟨w.heap.size,3,none⟩ (.string ⟨#[]⟩)).setCell ⟨w.heap.size,4,none⟩ (.slice none 0 0)).setCell ⟨w.heap.size,5,none⟩ (.slice none 0 0)):=((((((cu.setCell ⟨w.heap.size,0,none⟩ (fun _=>qyb _) (.int .i64 0)).setCell ⟨w.heap.size,1,none⟩ (fun _=>qyb _) (.int .i64 0)).setCell ⟨w.heap.size,2,none⟩ (fun _=>qyb _) (.string ⟨#[]⟩)).setCell ⟨w.heap.size,3,none⟩ (fun _=>qyb _) (.string ⟨#[]⟩)).setCell ⟨w.heap.size,4,none⟩ (fun _=>qyb _) (.slice none 0 0)).setCell ⟨w.heap.size,5,none⟩ (fun _=>qyb _) (.slice none 0 0));obtain⟨cC,fq⟩ : ∃cC,((((((w8.setCell ⟨w.heap.size,0,none⟩ (.int .i64 0)).setCell ⟨w.heap.size,1,none⟩ (.int .i64 0)).setCell ⟨w.heap.size,2,none⟩ (.string ⟨#[]⟩)).setCell ⟨w.heap.size,3,none⟩ (.string ⟨#[]⟩)).setCell ⟨w.heap.size,4,none⟩ (.slice none 0 0)).setCell ⟨w.heap.size,5,none⟩ (.slice none 0 0))=cC:=⟨_,rfl⟩;rw [fq] at tZ tK tV sh ⊢;clear fq;have eF:=(((tZ.other ⟨w.heap.size+1,0,none⟩ (by simp) (.int .i64 (xt.a))).other ⟨w.heap.size+1+1,0,none⟩ (by simp;omega) (.int .i64 20)).alloc o).drew;have eP:Blk _ (w.heap.size+1) #[.int .i64 (xt.a)] 3:=(((tK.set 0 (.int .i64 (xt.a))).other ⟨w.heap.size+1+1,0,none⟩ (by simp) (.int .i64 20)).alloc o).drew;have eH:Blk _ (w.heap.size+1+1) #[.int .i64 20] 26:=(((tV.other ⟨w.heap.size+1,0,none⟩ (by simp) (.int .i64 (xt.a))).set 0 (.int .i64 20)).alloc o).drew;have F7:=(((sh.setCell ⟨w.heap.size+1,0,none⟩ (fun _=>Nat.le_succ _) (.int .i64 (xt.a))).setCell ⟨w.heap.size+1+1,0,none⟩ (fun _=>by show w.heap.size≤w.heap.size+1+1;omega) (.int .i64 20)).alloc o).drew;refine⟨_,zcs eF eP eH _ rfl rfl rfl,F7.mono (fun k hk e=>absurd hk (Nat.not_lt.2 e)),_,_,_,rfl,?_⟩;rw [HM.out];obtain⟨y,r,xK,fa,-⟩:=zep hL HX.out (by simpa using hk0);have h3:=H3.out;rw [fa] at h3 ⊢;exact⟨rfl,h3.symm,rfl⟩
 ·gi_wp2_with fail
  gi_region
  gi_wp2;have ka:Fr (fun k=>w.heap.size≤k) w w1:=(F0.trans o1).mono (fun k _ e=>e.elim);have vI:w.heap.size≤w.heap.size+1+1:=by omega
  refine⟨.tuple #[.agg #[.int .i64 0,.int .i64 0,.string ⟨#[]⟩,.string ⟨#[]⟩,.slice none 0 0,.slice none 0 0],.int .i64 s.at_,.int .i64 s.code],zcs (TX:=32) (TY:=3) (TZ:=26) ?_ ?_ ?_ _ rfl rfl rfl,Fr.mono (S:=fun k=>w.heap.size≤k) ?_ (fun k hk e=>absurd hk (Nat.not_lt.2 e)),_,_,_,rfl,?_⟩
  ·have:=((((((((((kU.other ⟨w.heap.size+1,0,none⟩ (by simp) (.int .i64 s.at_)).other ⟨w.heap.size+1+1,0,none⟩ (by simp;omega) (.int .i64 s.code)).set 0 (.int .i64 0)).set 1 (.int .i64 0)).set 2 (.string ⟨#[]⟩)).set 3 (.string ⟨#[]⟩)).set 4 (.slice none 0 0)).set 5 (.slice none 0 0)).other ⟨w.heap.size+1,0,none⟩ (by simp) (.int .i64 s.at_)).other ⟨w.heap.size+1+1,0,none⟩ (by simp;omega) (.int .i64 s.code)).drew;simpa only [qxd,qxe,qxf] using this
  ·exact ((((((((((bw.set 0 (.int .i64 s.at_)).other ⟨w.heap.size+1+1,0,none⟩ (by simp) (.int .i64 s.code)).other ⟨w.heap.size,0,none⟩ (by simp) (.int .i64 0)).other ⟨w.heap.size,1,none⟩ (by simp) (.int .i64 0)).other ⟨w.heap.size,2,none⟩ (by simp) (.string ⟨#[]⟩)).other ⟨w.heap.size,3,none⟩ (by simp) (.string ⟨#[]⟩)).other ⟨w.heap.size,4,none⟩ (by simp) (.slice none 0 0)).other ⟨w.heap.size,5,none⟩ (by simp) (.slice none 0 0)).set 0 (.int .i64 s.at_)).other ⟨w.heap.size+1+1,0,none⟩ (by simp) (.int .i64 s.code)).drew
  ·exact ((((((((((bk.other ⟨w.heap.size+1,0,none⟩ (by simp) (.int .i64 s.at_)).set 0 (.int .i64 s.code)).other ⟨w.heap.size,0,none⟩ (by simp;omega) (.int .i64 0)).other ⟨w.heap.size,1,none⟩ (by simp;omega) (.int .i64 0)).other ⟨w.heap.size,2,none⟩ (by simp;omega) (.string ⟨#[]⟩)).other ⟨w.heap.size,3,none⟩ (by simp;omega) (.string ⟨#[]⟩)).other ⟨w.heap.size,4,none⟩ (by simp;omega) (.slice none 0 0)).other ⟨w.heap.size,5,none⟩ (by simp;omega) (.slice none 0 0)).other ⟨w.heap.size+1,0,none⟩ (by simp) (.int .i64 s.at_)).set 0 (.int .i64 s.code)).drew
  ·exact ((((((((((ka.setCell ⟨w.heap.size+1,0,none⟩ (fun _=>Nat.le_succ _) (.int .i64 s.at_)).setCell ⟨w.heap.size+1+1,0,none⟩ (fun _=>vI) (.int .i64 s.code)).setCell ⟨w.heap.size,0,none⟩ (fun _=>qyb _) (.int .i64 0)).setCell ⟨w.heap.size,1,none⟩ (fun _=>qyb _) (.int .i64 0)).setCell ⟨w.heap.size,2,none⟩ (fun _=>qyb _) (.string ⟨#[]⟩)).setCell ⟨w.heap.size,3,none⟩ (fun _=>qyb _) (.string ⟨#[]⟩)).setCell ⟨w.heap.size,4,none⟩ (fun _=>qyb _) (.slice none 0 0)).setCell ⟨w.heap.size,5,none⟩ (fun _=>qyb _) (.slice none 0 0)).setCell ⟨w.heap.size+1,0,none⟩ (fun _=>Nat.le_succ _) (.int .i64 s.at_)).setCell ⟨w.heap.size+1+1,0,none⟩ (fun _=>vI) (.int .i64 s.code)).drew
  ·rw [HM.out,Sx.readW,if_neg (by simpa using hc)];exact⟨rfl,rfl,rfl⟩
end Go.Proofs.YtclgbmmambkiaaaGreatDoor
namespace Go.Proofs.YtclgbmmambkiaaaGreatDoor.S
open Go.RowKit
attribute [local go_sem] Oper.semAt_some
theorem isVariable_is(t:Lx.Tok)(W:World):Calls Tryz.prog 213 #[rtV (rt t)] W fun e W'=>e=.returned (.bool (decide (t.kind=4)))∧Old W W':=by
 have hk:=zc5 (rt t)
 go_enter Tryz.func213,Tryz.ntmps213
 have hx:decide (t.kind=4)=((rt t).k==4):=by
  show decide (t.kind=4)=(t.kind==4);rw [Bool.beq_eq_decide_eq]
 have HX:=qya hx;clear hx;go_wp2;go_ret;refine⟨?_,(Old.refl W).alloc _⟩;rw [HX.out];rfl
def ManyPost(b:Nat)(la:Option Addr)(lc:Nat)(L:List RT)(toks:List Lx.Tok)(len:Int)(q:Nat)(r:Sx.Res (List (List UInt8)))(w0:World)(e:Ending)(W':World):Prop:=
 But b w0 W'∧match r with
  | .ok ts rest=>∃v q',e=.returned v∧rest=toks.drop q'∧q≤q'∧q'≤toks.length∧Rd W' b la lc L q'∧W'.ownsRow w0.heap.size 9 1 v ts.length (ts.map bv)
  | .bad rest=>e=panS (zah len rest)
theorem manyX_any(w0:World)(b:Nat)(la:Option Addr)(lc:Nat)(L:List RT)(toks:List Lx.Tok)(len:Int)(hL:RtOf L toks len)(q:Nat)(jc:Rd w0 b la lc L q)(hq:q≤toks.length)
    (bg:Lx.Tok→Bool)(kx : ∀(t:Lx.Tok) (W:World),Calls Tryz.prog 213 #[rtV (rt t)] W fun e W'=>e=.returned (.bool (bg t))∧Old W W')
    (el:List Lx.Tok→Sx.Res (List UInt8))(q9 : ∀(q':Nat) (W:World),q≤q'→Rd W b la lc L q'→q'<toks.length→Calls Tryz.prog 214 #[.pointer (some ⟨b,0,none⟩)] W (zaf StAt b la lc L toks len (el (toks.drop q')) q' W))
    (m:Nat)(hm:toks.length-q≤m) :
    CallsIn Fence.wide 3 Tryz.prog 212 #[.pointer (some ⟨b,0,none⟩),.func (.func 213) #[] #[],.func (.func 214) #[.pointer (some ⟨b,0,none⟩)] #[]] w0 (ManyPost b la lc L toks len q (Sx.many bg el m (toks.drop q)) w0):=by
  have vw:=mkf;have hb:=jc.blk.lt;refine callsIn_of_wpAt_marks Tryz.func212 rfl trivial ?_ rfl;simp only [Tryz.ntmps212,qxg,qxh,qxi,Nat.reduceAdd,Nat.reduceSub,qxj,qxk,qxl,qxm,qxn,qxo];refine wpAt_seq_in (fun K hK => ?_);gi_wp2;refine wpAt_scope ?_;refine wpAt_seq_in (fun K hK => ?_);gi_wp2;refine wpAt_seq_in (fun K hK=>wpIn_label ?_);refine hK _ _ ?_;clear hK K;refine wpAt_seq ?_;refine wpAt_seq_in (fun K hK => ?_);gi_wp2;refine wpAt_block ?_;refine zb2 ?_;intro A B hA hB;have jI:zay (Tryz.f212.body.getD .skip)=some (A,B):=by rw [hA,hB];rfl
  clear hA hB vw;obtain⟨W0,qF⟩ : ∃W0,(((w0.alloc (.cells #[.func (.func 213) #[] #[]] 112)).alloc (.cells #[.func (.func 214) #[.pointer (some ⟨b,0,none⟩)] #[]] 118)).alloc (.cells #[.slice none 0 0] 78))=W0:=⟨_,rfl⟩;rw [qF];have F0:Old w0 W0:=by rw [← qF];exact (((Old.refl w0).alloc _).alloc _).alloc _
  have z0:W0.heap.size=w0.heap.size+3:=by rw [← qF];simp
  have bA:Blk W0 w0.heap.size #[.func (.func 213) #[] #[]] 112:=by rw [← qF];exact ((Blk.new w0 _ _).alloc _).alloc _
  have bE:Blk W0 (w0.heap.size+1) #[.func (.func 214) #[.pointer (some ⟨b,0,none⟩)] #[]] 118:=by rw [← qF];exact (Blk.new' (by simp) _ _).alloc _
  have bR:Blk W0 (w0.heap.size+2) #[.slice none 0 0] 78:=by rw [← qF];exact Blk.new' (by simp) _ _
  clear qF;refine wpAt_rangeFunc ?_;obtain⟨tm,jS⟩ : ∃tm,tm=(#[.pointer (some ⟨b,0,none⟩),.func (.func 213) #[] #[],.func (.func 214) #[.pointer (some ⟨b,0,none⟩)] #[],undef,.pointer (some ⟨w0.heap.size,0,none⟩),.pointer (some ⟨w0.heap.size+1,0,none⟩),.slice none 0 0,.pointer (some ⟨w0.heap.size+1+1,0,none⟩),undef,undef,.pointer (some ⟨b,0,none⟩),
    .func (.func 72) #[.pointer (some ⟨b,0,none⟩)] #[],undef,undef,undef,undef,undef,undef,undef,undef,undef,undef,undef,undef]:Array Value):=⟨_,rfl⟩
  obtain⟨qj,qu⟩ : ∃qj,qj=fun st pe=>({ state:=st,pending:=pe,fn:=212,tmps:=tm,params:=#[12],assign:=A,body:=B,defers:=W0.heap.size } : Loop):=⟨_,rfl⟩;obtain⟨W1,qd⟩ : ∃W1,(W0.alloc (.deferred (some []))).alloc (.loop (qj .ready none))=W1:=⟨_,rfl⟩;have F1:Old w0 W1:=by rw [← qd];exact (F0.alloc _).alloc _
  have ka:Old W0 W1:=by rw [← qd];exact ((Old.refl W0).alloc _).alloc _
  have z1:W1.heap.size=W0.heap.size+2:=by rw [← qd];simp
  have qE : ∀g,la=some g→g.block<w0.heap.size:=jc.glt (by rw [hL];simp;omega);have hlen:L.length=toks.length+1:=by rw [hL];simp
  have xF:ManyAt w0 b w0.heap.size (w0.heap.size+1) (w0.heap.size+1+1) (W0.heap.size+1) W0.heap.size (.func (.func 213) #[] #[]) (.func (.func 214) #[.pointer (some ⟨b,0,none⟩)] #[]) (qj .ready none) [] W1:=
    ⟨⟨_,by decide,bA.keep ka (fun e=>e)⟩,⟨_,by decide,bE.keep ka (fun e=>e)⟩,⟨_,bR.keep ka (fun e=>e),⟨rfl,.inl ⟨rfl,rfl⟩⟩⟩,
     by rw [← qd];have:=World.alloc_heap_new (W0.alloc (.deferred (some []))) (.loop (qj .ready none));rwa [qyd] at this,
     by rw [← qd];exact (Below.heap_alloc _ _ _ (by simp)).trans (World.alloc_heap_new W0 _),F1.but b⟩
  refine⟨W0.heap.size+1,[{ target:=.collected W0.heap.size,args:=#[] }],W1,{ target:=.fn (.func 72) #[],args:=#[.pointer (some ⟨b,0,none⟩),.func (.yield (W0.heap.size+1)) #[] #[]] },W1,72,
    #[.pointer (some ⟨b,0,none⟩),.func (.yield (W0.heap.size+1)) #[] #[]],W1,?_,?_,fun _ _=>trivial,?_,fun e=>by simp [Fence.wide] at e,?_⟩
  · rw [← qd,qu,jS];exact run_enterLoop_outer _ _ _ _ _
  · simp [resolve,go_sem]
  · simp [invoke,go_sem]
  · refine (zdx 2 (by decide) (W0.heap.size+1) W1 b la lc L q
      (ManyJ w0 b w0.heap.size (w0.heap.size+1) (w0.heap.size+1+1) (W0.heap.size+1) W0.heap.size (.func (.func 213) #[] #[]) (.func (.func 214) #[.pointer (some ⟨b,0,none⟩)] #[]) qj la lc L toks q bg el (Sx.many bg el m (toks.drop q)))
      (ManyF w0 b w0.heap.size (w0.heap.size+1) (w0.heap.size+1+1) (W0.heap.size+1) W0.heap.size (.func (.func 213) #[] #[]) (.func (.func 214) #[.pointer (some ⟨b,0,none⟩)] #[]) qj la lc L toks q (Sx.many bg el m (toks.drop q)))
      (ManyP w0 b W0.heap.size len (Sx.many bg el m (toks.drop q)))
      (fun q' W h=>by obtain⟨ts,m',h1,h2,h3,_⟩:=h;exact⟨h2,by omega⟩)
      (fun q' W W' h hO=>by
        obtain⟨ts,m',h1,h2,h3⟩:=h;exact⟨ts,m',h1.old hb (by omega) (by omega) (by omega) (by omega) (by omega) (hO.but b),h2.old hO,h3⟩)
      (fun q' x W hx hk h=>manyX_yield 1 w0 b w0.heap.size (w0.heap.size+1) (w0.heap.size+1+1) (W0.heap.size+1) W0.heap.size hb (by omega) (by omega) (by omega) (by omega) (by omega) (by omega) (by omega) (by omega) (by omega) (by omega) (by omega) (by omega) A B jI tm _ _ _ _ _ _ _ _ _ _ _ _ _ _ _ _ _ _ _ _ _ jS qj qu la lc L toks len hL qE bg kx q el q9 _ q' x W hx hk h)
      ⟨[],m,xF,jc.old F1,hq,hm,by simp,by cases Sx.many bg el m (toks.drop q) <;> simp [Sx.Res.map]⟩).mono ?_
    have hst:(qj .ready none).state=.ready∧(qj .ready none).pending=none∧(qj .done (some (.exit 0))).state=.done∧(qj .done (some (.exit 0))).pending=some (.exit 0):=(by rw [qu];exact⟨rfl,rfl,rfl,rfl⟩);clear qu jI xF qd;rintro e W2 (⟨rfl,⟨q',x,⟨ts,m',zt,qG,xw,tE,fC,qV⟩,hx,dZ⟩ | ⟨ts,q',zt,qG,xw,fC,qV⟩⟩ | ⟨c,rfl,rest,qV,hc,zb,hK⟩)
    · have zd:Sx.many bg el m (toks.drop q)=.ok ts (toks.drop q'):=by
        rw [qV,zh4 hL hx dZ];simp [Sx.Res.map]
      obtain⟨L',qy⟩ : ∃L',(Instr.endLoop (W0.heap.size+1)).run Tryz.prog W2=.ok none (W2.putObj (W0.heap.size+1) (.loop L')):=⟨_,by have:=run_endLoop (P:=Tryz.prog) zt.L (by rw [hst.1];simp);rw [hst.2.1] at this;exact this⟩;obtain⟨W3,qM⟩ : ∃W3,W2.putObj (W0.heap.size+1) (.loop L')=W3:=⟨_,rfl⟩;rw [qM] at qy;have F3:Fr (fun k=>k=W0.heap.size+1) W2 W3:=(by rw [← qM];exact (Fr.refl _ W2).putObj _ _ (fun _=>rfl));have jx:=zt.loop (by omega) (by omega) (by omega) (by omega) (by omega) (F3.mono (fun k _ e=>.inr e)) (by omega) (by omega) (by omega) (by omega) hb (by rw [← qM];exact World.putObj_heap_same (zaj zt.L));have qN:Rd W3 b la lc L q':=qG.keep F3 (by omega) (fun g hg=>by have:=qE g hg;omega);clear qM;refine⟨none,W3,qy,wpAt_of_wpIn ?_⟩;obtain⟨v,vf,qf⟩:=jx.box;have x0:=vf.c 0 v rfl;have zX:=qya zd;have Z0:=qya z0;clear qy zd qV z0;gi_wp2;have z0:=Z0.out;refine⟨by simp,.inl ⟨_,_,rfl,run_takeDeferred jx.K,?_⟩⟩;have F5:Fr (fun k=>k=W0.heap.size) W3 (W3.putObj W0.heap.size (.deferred none)):=(Fr.refl _ W3).putObj _ _ (fun _=>rfl);refine⟨v,by simp [results,Tryz.results212,go_sem],?_⟩;unfold ManyPost;rw [zX.out];refine⟨jx.but.trans' F5 (fun k hk e=>by omega),v,q',rfl,rfl,by omega,xw,qN.keep F5 (by omega) (fun g hg=>by have:=qE g hg;omega),zaa qf F5 (fun k hk e=>zan qf hk (e▸jx.K) (by intro cs fr;exact fun e=>by cases e))⟩
    · obtain⟨L',qy⟩ : ∃L',(Instr.endLoop (W0.heap.size+1)).run Tryz.prog W2=.ok (some (.exit 0)) (W2.putObj (W0.heap.size+1) (.loop L')):=⟨_,by have:=run_endLoop (P:=Tryz.prog) zt.L (by rw [hst.2.2.1];simp);rw [hst.2.2.2] at this;exact this⟩;obtain⟨W3,qM⟩ : ∃W3,W2.putObj (W0.heap.size+1) (.loop L')=W3:=⟨_,rfl⟩;rw [qM] at qy;have F3:Fr (fun k=>k=W0.heap.size+1) W2 W3:=(by rw [← qM];exact (Fr.refl _ W2).putObj _ _ (fun _=>rfl));have jx:=zt.loop (by omega) (by omega) (by omega) (by omega) (by omega) (F3.mono (fun k _ e=>.inr e)) (by omega) (by omega) (by omega) (by omega) hb (by rw [← qM];exact World.putObj_heap_same (zaj zt.L));have qN:Rd W3 b la lc L q':=qG.keep F3 (by omega) (fun g hg=>by have:=qE g hg;omega);clear qM;refine⟨some (.exit 0),W3,qy,wpIn_exit ?_⟩;simp only [Exit.inBlock,if_true];refine wpAt_of_wpIn ?_;obtain⟨v,vf,qf⟩:=jx.box;have x0:=vf.c 0 v rfl;have zX:=qya qV;have Z0:=qya z0;clear qy qV z0;gi_wp2;have z0:=Z0.out;refine⟨by simp,.inl ⟨_,_,rfl,run_takeDeferred jx.K,?_⟩⟩;have F5:Fr (fun k=>k=W0.heap.size) W3 (W3.putObj W0.heap.size (.deferred none)):=(Fr.refl _ W3).putObj _ _ (fun _=>rfl);refine⟨v,by simp [results,Tryz.results212,go_sem],?_⟩;unfold ManyPost;rw [zX.out];refine⟨jx.but.trans' F5 (fun k hk e=>by omega),v,q',rfl,rfl,by omega,xw,qN.keep F5 (by omega) (fun g hg=>by have:=qE g hg;omega),zaa qf F5 (fun k hk e=>zan qf hk (e▸jx.K) (by intro cs fr;exact fun e=>by cases e))⟩
    · refine⟨by simp,.inl ⟨_,_,rfl,run_takeDeferred hK,?_⟩⟩;have F5:Fr (fun k=>k=W0.heap.size) W2 (W2.putObj W0.heap.size (.deferred none)):=(Fr.refl _ W2).putObj _ _ (fun _=>rfl);show ManyPost b la lc L toks len q (Sx.many bg el m (toks.drop q)) w0 (.panicked c) _;unfold ManyPost;rw [qV];exact⟨zb.trans' F5 (fun k hk e=>by omega),hc⟩
end Go.Proofs.YtclgbmmambkiaaaGreatDoor.S
namespace Go.Proofs.YtclgbmmambkiaaaGreatDoor
open Go.RowKit
def Sx.dataE(l:List Lx.Tok):Sx.Res (List UInt8×List (List UInt8)×List Sx.Con):=(Sx.zag 3 l).bind fun n r=>(Sx.many (fun t=>decide (t.kind=4)) (Sx.zag 4) r.length r).bind fun vs r=>(Sx.take [61] r).bind fun _ r=>(Sx.row [124] Sx.con r.length r).map fun cs=>(n,vs,cs)
def DataAt(w:World)(F:Nat→Prop)(x:List UInt8×List (List UInt8)×List Sx.Con)(v:Value):Prop:=∃(s:ByteArray) (vv cv:Value),v=.agg #[.string s,vv,cv]∧s.toList=x.1∧RowAt w F 9 1 vv x.2.1.length (x.2.1.map bv)∧LsAt ConAt 177 2 w F x.2.2 cv
theorem zff:Lies DataAt:=⟨fun hf hn t v ⟨s,vv,cv,h1,h2,h3,h4⟩=>⟨s,vv,cv,h1,h2,h3.keep hf hn,(zb1.ls _ _).keep hf hn _ _ h4⟩,fun hn t v ⟨s,vv,cv,h1,h2,h3,h4⟩=>⟨s,vv,cv,h1,h2,h3.more hn,(zb1.ls _ _).more hn _ _ h4⟩⟩
theorem LsAt.parts{α : Type}{At:World→(Nat→Prop)→α→Value→Prop}{T:TypeId}{m:Nat}{w:World}{F:Nat→Prop}{l:List α}{v:Value}(h:LsAt At T m w F l v) : ∃(la:Option Addr) (c:Nat),v=.slice la l.length c:=by
 obtain⟨xs,h1,_⟩:=h;exact zad h1.1
theorem DataAt.parts{w:World}{F:Nat→Prop}{x:List UInt8×List (List UInt8)×List Sx.Con}{v:Value}(h:DataAt w F x v) : ∃(s:ByteArray) (la:Option Addr) (na ca:Nat) (lp:Option Addr) (np cp:Nat),v=.agg #[.string s,.slice la na ca,.slice lp np cp]:=by
 obtain⟨s,vv,cv,rfl,_,h3,h4⟩:=h;obtain⟨la,c,rfl⟩:=zad h3.1;obtain⟨lp,c',rfl⟩:=h4.parts;exact⟨s,la,_,c,lp,_,c',rfl⟩
theorem zoi(b:Nat)(la:Option Addr)(lc:Nat)(L:List RT)(toks:List Lx.Tok)(len:Int)(hL:RtOf L toks len)(q:Nat)(W:World)(h:Rd W b la lc L q)(hq:q≤toks.length) :
  Calls Tryz.prog 214 #[.pointer (some ⟨b,0,none⟩)] W (zaf S.StAt b la lc L toks len (Sx.zag 4 (toks.drop q)) q W):=by
 refine (zs6 W b la lc L toks len hL q h hq).mono ?_;rintro e W' ⟨f,hp⟩;refine⟨f,?_⟩;cases hres:Sx.zag 4 (toks.drop q) with
 | bad rest=>rw [hres] at hp;exact hp
 | ok x rest=>
  rw [hres] at hp;obtain⟨v,he,hv,hr,xK,h1⟩:=hp;exact⟨v,q+1,he,hr,Nat.lt_succ_self q,xK,h1,hv⟩
theorem zw4(b:Nat)(la:Option Addr)(lc:Nat)(L:List RT)(toks:List Lx.Tok)(len:Int)(hL:RtOf L toks len)(q:Nat)
  (w:World)(h:Rd w b la lc L q)(hq:q≤toks.length)(M0:Sx.Res (List UInt8×List (List UInt8)×List Sx.Con))(HM:Hid (M0=Sx.dataE (toks.drop q))) :
  Calls Tryz.prog 146 #[.pointer (some ⟨b,0,none⟩)] w (zaf DataAt b la lc L toks len M0 q w):=by
 have HL:=qya (show (⟨#[61]⟩:ByteArray).toList=[61] from qyw [61]);have cx:=qya (show (⟨#[124]⟩:ByteArray).toList=[124] from qyw [124]);have HM:Hid (M0=(Sx.zag 3 (toks.drop q)).bind fun n r=>(Sx.many (fun t=>decide (t.kind=4)) (Sx.zag 4) r.length r).bind fun vs r=>(Sx.take [61] r).bind fun _ r=>(Sx.row [124] Sx.con r.length r).map fun cs=>(n,vs,cs)):=HM;have hb:=h.blk.lt;have qQ:=h.glt (by rw [hL];simp;omega);have O0:Old w (w.alloc (.cells #[.string ⟨#[]⟩,.slice none 0 0,.slice none 0 0] 81)):=(Old.refl w).alloc _;have qD:=Blk.new w #[.string ⟨#[]⟩,.slice none 0 0,.slice none 0 0] 81;have h0:=h.old O0;obtain⟨qp,qr⟩ : ∃qp,w.alloc (.cells #[.string ⟨#[]⟩,.slice none 0 0,.slice none 0 0] 81)=qp:=⟨_,rfl⟩;have qw:qp.heap.size=w.heap.size+1:=by rw [← qr];simp
 rw [qr] at O0 qD h0;have vh:=qya qr;have qi:=qya qw;clear qr qw
 go_enter Tryz.func146,Tryz.ntmps146
 go_wp2_with fail
 rw [vh.out]
 (with_reducible refine (zu2 qp b la lc L toks len hL q h0 hq).mono ?_)
 rintro e w1 ⟨f1,hp⟩;cases hres:Sx.zag 3 (toks.drop q) with
 | bad rest=>
  rw [hres] at hp;have hp:e=panS (zah len rest):=hp;subst hp;have HR:=qya hres;clear hres;go_wp2;refine⟨rfl,Fr.trans (Old.but O0 b) f1,?_⟩;rw [HM.out,HR.out]
  try rfl
 | ok ww rest=>
  rw [hres] at hp;obtain⟨_,rfl,⟨s,rfl,hs⟩,qq,xK,h1⟩:=hp;have HM:Hid (M0=(Sx.many (fun t=>decide (t.kind=4)) (Sx.zag 4) (toks.drop (q+1)).length (toks.drop (q+1))).bind fun vs r=>(Sx.take [61] r).bind fun _ r=>(Sx.row [124] Sx.con r.length r).map fun cs=>(ww,vs,cs)):=qya (by rw [HM.out,hres,qq];try rfl);clear hres qq;have HS:=qya hs;clear hs;have hm:=callsIn_wide.1 (S.manyX_any w1 b la lc L toks len hL (q+1) h1 xK (fun t=>decide (t.kind=4)) S.isVariable_is (Sx.zag 4) (fun q' W hl hr jq=>zoi b la lc L toks len hL q' W hr (Nat.le_of_lt jq)) (toks.drop (q+1)).length (by rw [qym];omega));have vw:=mkf
  go_wp2_with fail
  (with_reducible refine (hm).mono ?_)
  rintro e w2 ⟨f2,hp⟩;cases hres:Sx.many (fun t=>decide (t.kind=4)) (Sx.zag 4) (toks.drop (q+1)).length (toks.drop (q+1)) with
  | bad rest=>
   rw [hres] at hp;have hp:e=panS (zah len rest):=hp;subst hp;have HR:=qya hres;clear hres;go_wp2;refine⟨rfl,Fr.trans (Old.but O0 b) (Fr.trans f1 f2),?_⟩;rw [HM.out,HR.out]
   try rfl
  | ok zQ rest=>
   rw [hres] at hp;obtain⟨v2,q2,rfl,qq,jh,qo,h2,fc⟩:=hp;have HM:Hid (M0=(Sx.take [61] (toks.drop q2)).bind fun _ r=>(Sx.row [124] Sx.con r.length r).map fun cs=>(ww,zQ,cs)):=qya (by rw [HM.out,hres,qq];try rfl);clear hres qq;obtain⟨l2,c2,rfl⟩:=zad fc
   go_wp2_with fail
   (with_reducible refine (zbq w2 b la lc L toks len hL q2 h2 qo ⟨#[61]⟩ [61] HL.out (by decide)).mono ?_)
   rintro e w3 ⟨f3,hp⟩;cases hres:Sx.take [61] (toks.drop q2) with
   | bad rest=>
    rw [hres] at hp;have hp:e=panS (zah len rest):=hp;subst hp;have HR:=qya hres;clear hres;go_wp2;refine⟨rfl,Fr.trans (Old.but O0 b) (Fr.trans f1 (Fr.trans f2 f3)),?_⟩;rw [HM.out,HR.out]
    try rfl
   | ok vC rest=>
    rw [hres] at hp;obtain⟨_,rfl,rfl,qq,uU,h3⟩:=hp;have HM:Hid (M0=(Sx.row [124] Sx.con (toks.drop (q2+1)).length (toks.drop (q2+1))).map fun cs=>(ww,zQ,cs)):=qya (by rw [HM.out,hres,qq];try rfl);clear hres qq
    go_wp2_with fail
    (with_reducible refine (zv0 b la lc L toks len hL ⟨#[124]⟩ [124] cx.out (by decide) (q2+1) Sx.con (fun q' W hl hr jq=>zn5 b la lc L toks len hL q' W hr jq _ (qya rfl)) w3 h3 uU (toks.drop (q2+1)).length (by rw [qym];omega) _ (qya rfl)).mono ?_)
    rintro e w4 ⟨f4,hp⟩;cases hres:Sx.row [124] Sx.con (toks.drop (q2+1)).length (toks.drop (q2+1)) with
    | bad rest=>
     rw [hres] at hp;have hp:e=panS (zah len rest):=hp;subst hp;have HR:=qya hres;clear hres;go_wp2;refine⟨rfl,Fr.trans (Old.but O0 b) (Fr.trans f1 (Fr.trans f2 (Fr.trans f3 f4))),?_⟩;rw [HM.out,HR.out]
     try rfl
    | ok xy rest=>
     rw [hres] at hp;obtain⟨v4,q4,rfl,qq,yD,ks,h4,uk⟩:=hp;have HM:Hid (M0=.ok (ww,zQ,xy) (toks.drop q4)):=qya (by rw [HM.out,hres,qq];try rfl);clear hres qq;obtain⟨l4,c4,rfl⟩:=uk.parts;have yk:But b qp w4:=Fr.trans f1 (Fr.trans f2 (Fr.trans f3 f4));have z04:=yk.size;have z01:=f1.size;have z12:=f2.size;have z23:=f3.size;have z34:=f4.size;have qw:=qi.out;have xn:=qD.keep yk (by omega);obtain⟨vM,kp,kr⟩:=xn.c3;obtain⟨kq,kn,ke⟩:=xn.f3;have qJ:=xn.lt;clear qw;go_wp2;obtain⟨Wf,qv,S2,k3,zD⟩:=xn.put3 (.string s) (.slice l2 zQ.length c2) (.slice l4 xy.length c4);rw [qv];clear qv;obtain⟨qP,qC,qA⟩:=k3.c3;refine bodyPost_ret (v:=.agg #[.string s,.slice l2 zQ.length c2,.slice l4 xy.length c4]) (by simp [results,Tryz.results146,go_sem,qP,qC,qA]) rfl ?_;have S3:=S2;have qw:=qi.out;have zf:=S3.size;refine⟨(Fr.trans (Old.but O0 b) yk).trans' S3 (fun k hk e=>by omega),?_⟩;rw [HM.out];have zc:=zaa (zaa fc (Fr.trans f3 f4) (fun k hk e=>by have:=(fc.lt k hk).1;omega)) S3 (fun k hk e=>by have:=(fc.lt k hk).1;omega);refine⟨_,q4,rfl,rfl,by omega,ks,h4.keep S3 (by omega) (fun g hg=>by have:=qQ g hg;omega),s,_,_,rfl,HS.out,⟨zc.mono (qyi _),fun k hk=>⟨by have:=(fc.lt k hk).1;omega,(zc.lt k hk).2⟩⟩,(zb1.ls _ _).more (fun k hk=>⟨by omega,qyc hk.2 zf⟩) _ _ ((zb1.ls _ _).keep S3 (fun k hk e=>by omega) _ _ uk)⟩
def DeclAt(w:World)(F:Nat→Prop):Sx.Decl→Value→Prop
 | .data n vs cs,v=>∃(s:ByteArray) (vv cv:Value),v=.agg #[.int .i64 1,.string s,vv,cv,.string ⟨#[]⟩,.string ⟨#[]⟩,.slice none 0 0,.slice none 0 0,.int .i64 0,.int .i64 0,.string ⟨#[]⟩,.string ⟨#[]⟩,.slice none 0 0,.slice none 0 0]∧DataAt w F (n,vs,cs) (.agg #[.string s,vv,cv])
 | .input n t,v=>∃(s:ByteArray) (ts tv:Value),v=.agg #[.int .i64 2,.string ⟨#[]⟩,.slice none 0 0,.slice none 0 0,.string s,ts,tv,.slice none 0 0,.int .i64 0,.int .i64 0,.string ⟨#[]⟩,.string ⟨#[]⟩,.slice none 0 0,.slice none 0 0]∧s.toList=n∧TyAt w F t (.agg #[ts,tv])
 | .funs fs,v=>∃(fv:Value),v=.agg #[.int .i64 3,.string ⟨#[]⟩,.slice none 0 0,.slice none 0 0,.string ⟨#[]⟩,.string ⟨#[]⟩,.slice none 0 0,fv,.int .i64 0,.int .i64 0,.string ⟨#[]⟩,.string ⟨#[]⟩,.slice none 0 0,.slice none 0 0]∧LsAt FunAt 144 8 w F fs fv
 | .val n e,v=>∃(s:ByteArray) (a0 a1 a2 a3 a4 a5:Value),v=.agg #[.int .i64 4,.string ⟨#[]⟩,.slice none 0 0,.slice none 0 0,.string s,.string ⟨#[]⟩,.slice none 0 0,.slice none 0 0,a0,a1,a2,a3,a4,a5]∧s.toList=n∧ExAt w F e (.agg #[a0,a1,a2,a3,a4,a5])
 | .output n e,v=>∃(s:ByteArray) (a0 a1 a2 a3 a4 a5:Value),v=.agg #[.int .i64 5,.string ⟨#[]⟩,.slice none 0 0,.slice none 0 0,.string s,.string ⟨#[]⟩,.slice none 0 0,.slice none 0 0,a0,a1,a2,a3,a4,a5]∧s.toList=n∧ExAt w F e (.agg #[a0,a1,a2,a3,a4,a5])
theorem DeclAt.keep{S F:Nat→Prop}{w w':World}(hf:Fr S w w')(hn : ∀k,F k→¬S k) : ∀(d:Sx.Decl) (v:Value),DeclAt w F d v→DeclAt w' F d v
 | .data n vs cs,v,⟨s,vv,cv,h1,h2⟩=>⟨s,vv,cv,h1,zff.keep hf hn _ _ h2⟩
 | .input n t,v,⟨s,ts,tv,h1,h2,h3⟩=>⟨s,ts,tv,h1,h2,TyAt.keep hf hn _ _ h3⟩
 | .funs fs,v,⟨fv,h1,h2⟩=>⟨fv,h1,(zb0.ls _ _).keep hf hn _ _ h2⟩
 | .val n e,v,⟨s,a0,a1,a2,a3,a4,a5,h1,h2,h3⟩=>⟨s,a0,a1,a2,a3,a4,a5,h1,h2,ExAt.keep hf hn _ _ h3⟩
 | .output n e,v,⟨s,a0,a1,a2,a3,a4,a5,h1,h2,h3⟩=>⟨s,a0,a1,a2,a3,a4,a5,h1,h2,ExAt.keep hf hn _ _ h3⟩
theorem DeclAt.more{F F':Nat→Prop}{w:World}(hn : ∀k,F k→F' k) : ∀(d:Sx.Decl) (v:Value),DeclAt w F d v→DeclAt w F' d v
 | .data n vs cs,v,⟨s,vv,cv,h1,h2⟩=>⟨s,vv,cv,h1,zff.more hn _ _ h2⟩
 | .input n t,v,⟨s,ts,tv,h1,h2,h3⟩=>⟨s,ts,tv,h1,h2,TyAt.more hn _ _ h3⟩
 | .funs fs,v,⟨fv,h1,h2⟩=>⟨fv,h1,(zb0.ls _ _).more hn _ _ h2⟩
 | .val n e,v,⟨s,a0,a1,a2,a3,a4,a5,h1,h2,h3⟩=>⟨s,a0,a1,a2,a3,a4,a5,h1,h2,ExAt.more hn _ _ h3⟩
 | .output n e,v,⟨s,a0,a1,a2,a3,a4,a5,h1,h2,h3⟩=>⟨s,a0,a1,a2,a3,a4,a5,h1,h2,ExAt.more hn _ _ h3⟩
theorem zcc:Lies DeclAt:=⟨fun hf hn=>DeclAt.keep hf hn,fun hn=>DeclAt.more hn⟩
theorem DeclAt.parts{w:World}{F:Nat→Prop} : ∀ {d:Sx.Decl} {v:Value},DeclAt w F d v→∃(k:Int) (s:ByteArray) (l1:Option Addr) (n1 c1:Nat) (l2:Option Addr) (n2 c2:Nat) (u t:ByteArray) (l3:Option Addr) (n3 c3:Nat) (l4:Option Addr) (n4 c4:Nat) (kd nu:Int) (nm ag:ByteArray) (la:Option Addr) (na ca:Nat) (lp:Option Addr) (np cp:Nat),v=.agg #[.int .i64 k,.string s,.slice l1 n1 c1,.slice l2 n2 c2,.string u,.string t,.slice l3 n3 c3,.slice l4 n4 c4,.int .i64 kd,.int .i64 nu,.string nm,.string ag,.slice la na ca,.slice lp np cp]
 | .data n vs cs,v,⟨s,vv,cv,h1,h2⟩=>by
  obtain⟨s',la,na,ca,lp,np,cp,he⟩:=h2.parts;cases he;exact⟨_,_,_,_,_,_,_,_,_,_,_,_,_,_,_,_,_,_,_,_,_,_,_,_,_,_,h1⟩
 | .input n t,v,⟨s,ts,tv,h1,h2,h3⟩=>by
  obtain⟨nm,l2,n2,c2,he⟩:=h3.parts;cases he;exact⟨_,_,_,_,_,_,_,_,_,_,_,_,_,_,_,_,_,_,_,_,_,_,_,_,_,_,h1⟩
 | .funs fs,v,⟨fv,h1,h2⟩=>by
  obtain⟨la,c,rfl⟩:=h2.parts;exact⟨_,_,_,_,_,_,_,_,_,_,_,_,_,_,_,_,_,_,_,_,_,_,_,_,_,_,h1⟩
 | .val n e,v,⟨s,a0,a1,a2,a3,a4,a5,h1,h2,h3⟩=>by
  obtain⟨kd,nu,nm,ag,la,na,ca,lp,np,cp,he⟩:=h3.parts;cases he;exact⟨_,_,_,_,_,_,_,_,_,_,_,_,_,_,_,_,_,_,_,_,_,_,_,_,_,_,h1⟩
 | .output n e,v,⟨s,a0,a1,a2,a3,a4,a5,h1,h2,h3⟩=>by
  obtain⟨kd,nu,nm,ag,la,na,ca,lp,np,cp,he⟩:=h3.parts;cases he;exact⟨_,_,_,_,_,_,_,_,_,_,_,_,_,_,_,_,_,_,_,_,_,_,_,_,_,_,h1⟩
theorem zls(b:Nat)(la:Option Addr)(lc:Nat)(L:List RT)(toks:List Lx.Tok)(len:Int)(hL:RtOf L toks len)(q:Nat)(W:World)(h:Rd W b la lc L q)(hq:q≤toks.length) :
  Calls Tryz.prog 43 #[.pointer (some ⟨b,0,none⟩)] W (zaf ExAt b la lc L toks len (Sx.zcb (toks.drop q)) q W):=
 (zjg b la lc L toks len hL _ (Sx.fuel (toks.drop q)) (qyb _)).1 q W (by unfold Sx.fuel;rw [qym];omega) h hq
theorem zx2(b:Nat)(la:Option Addr)(lc:Nat)(L:List RT)(toks:List Lx.Tok)(len:Int)(hL:RtOf L toks len)(q:Nat)(W:World)(h:Rd W b la lc L q)(hq:q≤toks.length) :
  Calls Tryz.prog 46 #[.pointer (some ⟨b,0,none⟩)] W (zaf TyAt b la lc L toks len (Sx.pTyp (toks.drop q)) q W):=
 (zic b la lc L toks len hL (Sx.fuel (toks.drop q))).1 q W (by unfold Sx.fuel;rw [qym];omega) h hq
theorem zye(b:Nat)(la:Option Addr)(lc:Nat)(L:List RT)(toks:List Lx.Tok)(len:Int)(hL:RtOf L toks len)(q:Nat)(W:World)(h:Rd W b la lc L q)(hq:q≤toks.length) :
  Calls Tryz.prog 150 #[.pointer (some ⟨b,0,none⟩)] W (zaf FunAt b la lc L toks len (Sx.func (toks.drop q)) q W):=
 zun b la lc L toks len hL Sx.zcb q (fun q' W hl hr jq=>zls b la lc L toks len hL q' W hr jq) W h hq _ (qya rfl)
theorem zuy(b:Nat)(la:Option Addr)(lc:Nat)(L:List RT)(toks:List Lx.Tok)(len:Int)(hL:RtOf L toks len)(q:Nat)(W:World)(h:Rd W b la lc L q)(hq:q≤toks.length) :
  Calls Tryz.prog 148 #[.pointer (some ⟨b,0,none⟩)] W (zaf zzb b la lc L toks len (Sx.defn (toks.drop q)) q W):=
 zd9 b la lc L toks len hL Sx.zcb q (fun q' W hl hr jq=>zls b la lc L toks len hL q' W hr jq) W h hq _ (qya rfl)
theorem zw3(b:Nat)(la:Option Addr)(lc:Nat)(L:List RT)(toks:List Lx.Tok)(len:Int)(hL:RtOf L toks len)(q:Nat)
  (w:World)(h:Rd w b la lc L q)(hq:q≤toks.length)(M0:Sx.Res Sx.Decl)(HM:Hid (M0=Sx.decl (toks.drop q))) :
  Calls Tryz.prog 73 #[.pointer (some ⟨b,0,none⟩)] w (zaf DeclAt b la lc L toks len M0 q w):=by
 obtain⟨x,hx⟩ : ∃x,L[q]? = some x:=⟨_,List.getElem?_eq_getElem (by rw [hL];simp;omega)⟩;obtain⟨jb,hd2,vj⟩:=zc2 hL hx hq;have HM:Hid (M0=if x.s.toList=[100,97,116,97] then (Sx.dataE (toks.drop (q+1))).map fun x=>Sx.Decl.data x.1 x.2.1 x.2.2 else if x.s.toList=[105,110,112,117,116] then (Sx.zag 2 (toks.drop (q+1))).bind fun n r=>(Sx.take [58] r).bind fun _ r=>(Sx.pTyp r).map fun t=>Sx.Decl.input n t else if x.s.toList=[118,97,108] then (Sx.defn (toks.drop (q+1))).map fun x=>Sx.Decl.val x.1 x.2 else if x.s.toList=[111,117,116,112,117,116] then (Sx.defn (toks.drop (q+1))).map fun x=>Sx.Decl.output x.1 x.2 else if x.s.toList=[102,117,110] then (Sx.row Sx.wAnd Sx.func (toks.drop q).length (toks.drop (q+1))).map fun fs=>Sx.Decl.funs fs else .bad (toks.drop q)):=qya (by
  rw [HM.out,Sx.decl,hd2,qys];unfold Sx.dataE;show (if x.s.toList=[100,97,116,97] then _ else if x.s.toList=[105,110,112,117,116] then _ else if x.s.toList=[118,97,108] then _ else if x.s.toList=[111,117,116,112,117,116] then _ else if x.s.toList=[102,117,110] then _ else _)=_;split
  ·cases Sx.zag 3 (toks.drop (q+1)) with
   | bad r=>rfl
   | ok n r=>
    show (Sx.many _ _ _ r).bind _=((Sx.many _ _ _ r).bind _).map _;cases Sx.many (fun t=>decide (t.kind=4)) (Sx.zag 4) r.length r with
    | bad r=>rfl
    | ok vs r=>
     show (Sx.take [61] r).bind _=((Sx.take [61] r).bind _).map _;cases Sx.take [61] r with
     | bad r=>rfl
     | ok u r=>
      show (Sx.row [124] Sx.con r.length r).map _=((Sx.row [124] Sx.con r.length r).map _).map _;cases Sx.row [124] Sx.con r.length r <;> rfl
  ·rfl)
 have HX:=qya hx;have H3:=qya vj;have HL:=qya (show (⟨#[58]⟩:ByteArray).toList=[58] from qyw [58]);have cx:=qya (show (⟨#[97,110,100]⟩:ByteArray).toList=Sx.wAnd from qyw [97,110,100]);clear hx jb hd2 vj;have hb:=h.blk.lt;have qQ:=h.glt (by rw [hL];simp;omega);have O0:Old w (w.alloc (.cells #[.int .i64 0,.string ⟨#[]⟩,.slice none 0 0,.slice none 0 0,.string ⟨#[]⟩,.string ⟨#[]⟩,.slice none 0 0,.slice none 0 0,.int .i64 0,.int .i64 0,.string ⟨#[]⟩,.string ⟨#[]⟩,.slice none 0 0,.slice none 0 0] 84)):=(Old.refl w).alloc _;have qD:=Blk.new w #[.int .i64 0,.string ⟨#[]⟩,.slice none 0 0,.slice none 0 0,.string ⟨#[]⟩,.string ⟨#[]⟩,.slice none 0 0,.slice none 0 0,.int .i64 0,.int .i64 0,.string ⟨#[]⟩,.string ⟨#[]⟩,.slice none 0 0,.slice none 0 0] 84;have h0:=h.old O0;obtain⟨qp,qr⟩ : ∃qp,w.alloc (.cells #[.int .i64 0,.string ⟨#[]⟩,.slice none 0 0,.slice none 0 0,.string ⟨#[]⟩,.string ⟨#[]⟩,.slice none 0 0,.slice none 0 0,.int .i64 0,.int .i64 0,.string ⟨#[]⟩,.string ⟨#[]⟩,.slice none 0 0,.slice none 0 0] 84)=qp:=⟨_,rfl⟩;have qw:qp.heap.size=w.heap.size+1:=by rw [← qr];simp
 rw [qr] at O0 qD h0;have vh:=qya qr;have qi:=qya qw;clear qr qw
 go_enter Tryz.func73,Tryz.ntmps73
 go_wp2_with fail
 rw [vh.out]
 (with_reducible refine (zd5 qp b la lc L q h0 x HX.out).mono ?_)
 rintro e w2 ⟨rfl,h2,f2⟩;have kT:=Blk.new w2 #[.int .i64 x.k,.int .i64 x.n,.string x.s,.int .i64 x.a] 59;have O2:Old w2 (w2.alloc (.cells #[.int .i64 x.k,.int .i64 x.n,.string x.s,.int .i64 x.a] 59)):=(Old.refl w2).alloc _;have z2:=f2.size;have gR:(w2.alloc (.cells #[.int .i64 x.k,.int .i64 x.n,.string x.s,.int .i64 x.a] 59)).heap.size=w2.heap.size+1:=qyd _ _;have qw:=qi.out;have jL:=qD.keep f2 (by omega);have xZ:=jL.keep O2 (fun e=>e);obtain⟨c0,c1,c2,c3,-⟩:=kT.four;have gY:=qya gR;clear qw gR;cases hc0:(x.s.toList == [100,97,116,97])
 ·skip
  cases hc1:(x.s.toList == [105,110,112,117,116])
  ·skip
   cases hc2:(x.s.toList == [118,97,108])
   ·skip
    cases hc3:(x.s.toList == [111,117,116,112,117,116])
    ·skip
     cases hc4:(x.s.toList == [102,117,110])
     ·have hM:M0=.bad (toks.drop q):=(by rw [HM.out,if_neg (by simpa using hc0),if_neg (by simpa using hc1),if_neg (by simpa using hc2),if_neg (by simpa using hc3),if_neg (by simpa using hc4)]);have xx:=qya hM;clear hM;go_wp2;refine⟨rfl,Fr.trans (Old.but O0 b) (Fr.trans f2 (Old.but O2 b)),?_⟩;rw [xx.out];show panS _=panS _;rw [H3.out]
     ·have HM:Hid (M0=(Sx.row Sx.wAnd Sx.func (toks.drop q).length (toks.drop (q+1))).map fun fs=>Sx.Decl.funs fs):=qya (by rw [HM.out,if_neg (by simpa using hc0),if_neg (by simpa using hc1),if_neg (by simpa using hc2),if_neg (by simpa using hc3),if_pos (by simpa using hc4)]);have jT:q+1≤toks.length:=zbb hL HX.out hq (by decide) hc4;have vw:=mkf
      go_wp2_with fail
      (with_reducible refine (zvz b la lc L toks len hL ⟨#[97,110,100]⟩ Sx.wAnd cx.out (by decide) (q+1) Sx.func (fun q' W hl hr jq=>zye b la lc L toks len hL q' W hr jq) _ (h2.old O2) jT (toks.drop q).length (by rw [qym];omega) _ (qya rfl)).mono ?_)
      rintro e w5 ⟨f5,hp⟩;cases hres:Sx.row Sx.wAnd Sx.func (toks.drop q).length (toks.drop (q+1)) with
      | bad rest=>
       rw [hres] at hp;have hp:e=panS (zah len rest):=hp;subst hp;have HR:=qya hres;clear hres;go_wp2;refine⟨rfl,Fr.trans (Old.but O0 b) (Fr.trans f2 (Fr.trans (Old.but O2 b) f5)),?_⟩;rw [HM.out,HR.out]
       try rfl
      | ok xJ rest=>
       rw [hres] at hp;obtain⟨v5,q5,rfl,qq,bB,uf,h5,xV⟩:=hp;have HM:Hid (M0=.ok (.funs xJ) (toks.drop q5)):=qya (by rw [HM.out,hres,qq];try rfl);clear hres qq;obtain⟨l5,c5,rfl⟩:=xV.parts;have gW:But b qp w5:=Fr.trans f2 (Fr.trans (Old.but O2 b) f5);have gR:=gY.out;have qw:=qi.out;have zz0:=f5.size;have z0w:=gW.size;have yE:=qD.keep gW (by omega);obtain⟨vM,kp,kr,kJ,ko,ki,rr6,rr7,rr8,rr9,nX,nK,nV,nZ⟩:=yE.c14;obtain⟨kq,kn,ke,xk,xv,xz,gg6,gg7,gg8,gg9,rM,rS,rR,rN⟩:=yE.f14;have qJ:=yE.lt;clear qw gR;go_wp2;obtain⟨Wf,qv,S2,k3,zD⟩:=yE.put14 (.int .i64 3) (.string ⟨#[]⟩) (.slice none 0 0) (.slice none 0 0) (.string ⟨#[]⟩) (.string ⟨#[]⟩) (.slice none 0 0) (.slice l5 xJ.length c5) (.int .i64 0) (.int .i64 0) (.string ⟨#[]⟩) (.string ⟨#[]⟩) (.slice none 0 0) (.slice none 0 0);rw [qv];clear qv;obtain⟨qP,qC,qA,jv,jz,jj,cT,cB,nJ,nQ,wm,wn,wh,wg⟩:=k3.c14;refine bodyPost_ret (v:=.agg #[.int .i64 3,.string ⟨#[]⟩,.slice none 0 0,.slice none 0 0,.string ⟨#[]⟩,.string ⟨#[]⟩,.slice none 0 0,.slice l5 xJ.length c5,.int .i64 0,.int .i64 0,.string ⟨#[]⟩,.string ⟨#[]⟩,.slice none 0 0,.slice none 0 0]) (by simp [results,Tryz.results73,go_sem,qP,qC,qA,jv,jz,jj,cT,cB,nJ,nQ,wm,wn,wh,wg]) rfl ?_;have S3:=S2;have qw:=qi.out;have gR:=gY.out;have zf:=S3.size;refine⟨(Fr.trans (Old.but O0 b) gW).trans' S3 (fun k hk e=>by omega),?_⟩;rw [HM.out];refine⟨_,q5,rfl,rfl,by omega,uf,h5.keep S3 (by omega) (fun g hg=>by have:=qQ g hg;omega),_,rfl,(zb0.ls _ _).more (fun k hk=>⟨by omega,qyc hk.2 zf⟩) _ _ ((zb0.ls _ _).keep S3 (fun k hk e=>by omega) _ _ xV)⟩
    ·have HM:Hid (M0=(Sx.defn (toks.drop (q+1))).map fun x=>Sx.Decl.output x.1 x.2):=qya (by rw [HM.out,if_neg (by simpa using hc0),if_neg (by simpa using hc1),if_neg (by simpa using hc2),if_pos (by simpa using hc3)]);have jT:q+1≤toks.length:=zbb hL HX.out hq (by decide) hc3;have vw:=mkf
     go_wp2_with fail
     (with_reducible refine (zuy b la lc L toks len hL (q+1) _ (h2.old O2) jT).mono ?_)
     rintro e w5 ⟨f5,hp⟩;cases hres:Sx.defn (toks.drop (q+1)) with
     | bad rest=>
      rw [hres] at hp;have hp:e=panS (zah len rest):=hp;subst hp;have HR:=qya hres;clear hres;go_wp2;refine⟨rfl,Fr.trans (Old.but O0 b) (Fr.trans f2 (Fr.trans (Old.but O2 b) f5)),?_⟩;rw [HM.out,HR.out]
      try rfl
     | ok xJ rest=>
      rw [hres] at hp;obtain⟨v5,q5,rfl,qq,bB,uf,h5,s,ev5,rfl,hs,xV⟩:=hp;have HM:Hid (M0=.ok (.output xJ.1 xJ.2) (toks.drop q5)):=qya (by rw [HM.out,hres,qq];try rfl);clear hres qq;obtain⟨vn,vd,zE,vl,vq,zA,zS,zH,zL,zN,rfl⟩:=xV.parts;have HS:=qya hs;clear hs;have gW:But b qp w5:=Fr.trans f2 (Fr.trans (Old.but O2 b) f5);have gR:=gY.out;have qw:=qi.out;have zz0:=f5.size;have z0w:=gW.size;have yE:=qD.keep gW (by omega);obtain⟨vM,kp,kr,kJ,ko,ki,rr6,rr7,rr8,rr9,nX,nK,nV,nZ⟩:=yE.c14;obtain⟨kq,kn,ke,xk,xv,xz,gg6,gg7,gg8,gg9,rM,rS,rR,rN⟩:=yE.f14;have qJ:=yE.lt;have kV:=Blk.new w5 #[.int .i64 vn,.int .i64 vd,.string zE,.string vl,.slice vq zA zS,.slice zH zL zN] 32;obtain⟨v0,v1,v2,v3,v4,v5⟩:=kV.c6;clear qw gR;go_wp2;obtain⟨W',qv,S2,k3,zD⟩:=yE.put14 (.int .i64 5) (.string ⟨#[]⟩) (.slice none 0 0) (.slice none 0 0) (.string s) (.string ⟨#[]⟩) (.slice none 0 0) (.slice none 0 0) (.int .i64 vn) (.int .i64 vd) (.string zE) (.string vl) (.slice vq zA zS) (.slice zH zL zN);rw [qv];clear qv;have gF:Blk ((W').alloc (.cells #[.int .i64 vn,.int .i64 vd,.string zE,.string vl,.slice vq zA zS,.slice zH zL zN] 32)) (w5.heap.size) #[.int .i64 vn,.int .i64 vd,.string zE,.string vl,.slice vq zA zS,.slice zH zL zN] 32:=(Blk.new' (by simp [qyd,zD]) _ _);have OF:Old W' ((W').alloc (.cells #[.int .i64 vn,.int .i64 vd,.string zE,.string vl,.slice vq zA zS,.slice zH zL zN] 32)):=((Old.refl W').alloc _);have k4:=k3.keep OF (fun e=>e);obtain⟨Wf,yw⟩ : ∃Wf,(W').alloc (.cells #[.int .i64 vn,.int .i64 vd,.string zE,.string vl,.slice vq zA zS,.slice zH zL zN] 32)=Wf:=⟨_,rfl⟩;rw [yw] at gF OF k4 ⊢;clear yw;obtain⟨qP,qC,qA,jv,jz,jj,cT,cB,nJ,nQ,wm,wn,wh,wg⟩:=k4.c14;refine bodyPost_ret (v:=.agg #[.int .i64 5,.string ⟨#[]⟩,.slice none 0 0,.slice none 0 0,.string s,.string ⟨#[]⟩,.slice none 0 0,.slice none 0 0,.int .i64 vn,.int .i64 vd,.string zE,.string vl,.slice vq zA zS,.slice zH zL zN]) (by simp [results,Tryz.results73,go_sem,qP,qC,qA,jv,jz,jj,cT,cB,nJ,nQ,wm,wn,wh,wg]) rfl ?_;have S3:Fr (fun k=>k=w.heap.size) w5 Wf:=Fr.trans' S2 OF (fun _ _ e=>False.elim e);have qw:=qi.out;have gR:=gY.out;have zf:=S3.size;refine⟨(Fr.trans (Old.but O0 b) gW).trans' S3 (fun k hk e=>by omega),?_⟩;rw [HM.out];refine⟨_,q5,rfl,rfl,by omega,uf,h5.keep S3 (by omega) (fun g hg=>by have:=qQ g hg;omega),s,_,_,_,_,_,_,rfl,HS.out,ExAt.more (fun k hk=>⟨by omega,qyc hk.2 zf⟩) _ _ (xV.keep S3 (fun k hk e=>by omega))⟩
   ·have HM:Hid (M0=(Sx.defn (toks.drop (q+1))).map fun x=>Sx.Decl.val x.1 x.2):=qya (by rw [HM.out,if_neg (by simpa using hc0),if_neg (by simpa using hc1),if_pos (by simpa using hc2)]);have jT:q+1≤toks.length:=zbb hL HX.out hq (by decide) hc2;have vw:=mkf
    go_wp2_with fail
    (with_reducible refine (zuy b la lc L toks len hL (q+1) _ (h2.old O2) jT).mono ?_)
    rintro e w5 ⟨f5,hp⟩;cases hres:Sx.defn (toks.drop (q+1)) with
    | bad rest=>
     rw [hres] at hp;have hp:e=panS (zah len rest):=hp;subst hp;have HR:=qya hres;clear hres;go_wp2;refine⟨rfl,Fr.trans (Old.but O0 b) (Fr.trans f2 (Fr.trans (Old.but O2 b) f5)),?_⟩;rw [HM.out,HR.out]
     try rfl
    | ok xJ rest=>
     rw [hres] at hp;obtain⟨v5,q5,rfl,qq,bB,uf,h5,s,ev5,rfl,hs,xV⟩:=hp;have HM:Hid (M0=.ok (.val xJ.1 xJ.2) (toks.drop q5)):=qya (by rw [HM.out,hres,qq];try rfl);clear hres qq;obtain⟨vn,vd,zE,vl,vq,zA,zS,zH,zL,zN,rfl⟩:=xV.parts;have HS:=qya hs;clear hs;have gW:But b qp w5:=Fr.trans f2 (Fr.trans (Old.but O2 b) f5);have gR:=gY.out;have qw:=qi.out;have zz0:=f5.size;have z0w:=gW.size;have yE:=qD.keep gW (by omega);obtain⟨vM,kp,kr,kJ,ko,ki,rr6,rr7,rr8,rr9,nX,nK,nV,nZ⟩:=yE.c14;obtain⟨kq,kn,ke,xk,xv,xz,gg6,gg7,gg8,gg9,rM,rS,rR,rN⟩:=yE.f14;have qJ:=yE.lt;have kV:=Blk.new w5 #[.int .i64 vn,.int .i64 vd,.string zE,.string vl,.slice vq zA zS,.slice zH zL zN] 32;obtain⟨v0,v1,v2,v3,v4,v5⟩:=kV.c6;clear qw gR;go_wp2;obtain⟨W',qv,S2,k3,zD⟩:=yE.put14 (.int .i64 4) (.string ⟨#[]⟩) (.slice none 0 0) (.slice none 0 0) (.string s) (.string ⟨#[]⟩) (.slice none 0 0) (.slice none 0 0) (.int .i64 vn) (.int .i64 vd) (.string zE) (.string vl) (.slice vq zA zS) (.slice zH zL zN);rw [qv];clear qv;have gF:Blk ((W').alloc (.cells #[.int .i64 vn,.int .i64 vd,.string zE,.string vl,.slice vq zA zS,.slice zH zL zN] 32)) (w5.heap.size) #[.int .i64 vn,.int .i64 vd,.string zE,.string vl,.slice vq zA zS,.slice zH zL zN] 32:=(Blk.new' (by simp [qyd,zD]) _ _);have OF:Old W' ((W').alloc (.cells #[.int .i64 vn,.int .i64 vd,.string zE,.string vl,.slice vq zA zS,.slice zH zL zN] 32)):=((Old.refl W').alloc _);have k4:=k3.keep OF (fun e=>e);obtain⟨Wf,yw⟩ : ∃Wf,(W').alloc (.cells #[.int .i64 vn,.int .i64 vd,.string zE,.string vl,.slice vq zA zS,.slice zH zL zN] 32)=Wf:=⟨_,rfl⟩;rw [yw] at gF OF k4 ⊢;clear yw;obtain⟨qP,qC,qA,jv,jz,jj,cT,cB,nJ,nQ,wm,wn,wh,wg⟩:=k4.c14;refine bodyPost_ret (v:=.agg #[.int .i64 4,.string ⟨#[]⟩,.slice none 0 0,.slice none 0 0,.string s,.string ⟨#[]⟩,.slice none 0 0,.slice none 0 0,.int .i64 vn,.int .i64 vd,.string zE,.string vl,.slice vq zA zS,.slice zH zL zN]) (by simp [results,Tryz.results73,go_sem,qP,qC,qA,jv,jz,jj,cT,cB,nJ,nQ,wm,wn,wh,wg]) rfl ?_;have S3:Fr (fun k=>k=w.heap.size) w5 Wf:=Fr.trans' S2 OF (fun _ _ e=>False.elim e);have qw:=qi.out;have gR:=gY.out;have zf:=S3.size;refine⟨(Fr.trans (Old.but O0 b) gW).trans' S3 (fun k hk e=>by omega),?_⟩;rw [HM.out];refine⟨_,q5,rfl,rfl,by omega,uf,h5.keep S3 (by omega) (fun g hg=>by have:=qQ g hg;omega),s,_,_,_,_,_,_,rfl,HS.out,ExAt.more (fun k hk=>⟨by omega,qyc hk.2 zf⟩) _ _ (xV.keep S3 (fun k hk e=>by omega))⟩
  ·have HM:Hid (M0=(Sx.zag 2 (toks.drop (q+1))).bind fun n r=>(Sx.take [58] r).bind fun _ r=>(Sx.pTyp r).map fun t=>Sx.Decl.input n t):=qya (by rw [HM.out,if_neg (by simpa using hc0),if_pos (by simpa using hc1)]);have jT:q+1≤toks.length:=zbb hL HX.out hq (by decide) hc1;have vw:=mkf
   go_wp2_with fail
   (with_reducible refine (zh3 _ b la lc L toks len hL (q+1) (h2.old O2) jT).mono ?_)
   rintro e w3 ⟨f3,hp⟩;cases hres:Sx.zag 2 (toks.drop (q+1)) with
   | bad rest=>
    rw [hres] at hp;have hp:e=panS (zah len rest):=hp;subst hp;have HR:=qya hres;clear hres;go_wp2;refine⟨rfl,Fr.trans (Old.but O0 b) (Fr.trans f2 (Fr.trans (Old.but O2 b) f3)),?_⟩;rw [HM.out,HR.out]
    try rfl
   | ok vC rest=>
    rw [hres] at hp;obtain⟨_,rfl,⟨s,rfl,hs⟩,qq,uU,h3⟩:=hp;have HM:Hid (M0=(Sx.take [58] (toks.drop (q+1+1))).bind fun _ r=>(Sx.pTyp r).map fun t=>Sx.Decl.input vC t):=qya (by rw [HM.out,hres,qq];try rfl);clear hres qq;have HS:=qya hs;clear hs
    go_wp2_with fail
    (with_reducible refine (zbq w3 b la lc L toks len hL (q+1+1) h3 uU ⟨#[58]⟩ [58] HL.out (by decide)).mono ?_)
    rintro e w4 ⟨f4,hp⟩;cases hres:Sx.take [58] (toks.drop (q+1+1)) with
    | bad rest=>
     rw [hres] at hp;have hp:e=panS (zah len rest):=hp;subst hp;have HR:=qya hres;clear hres;go_wp2;refine⟨rfl,Fr.trans (Old.but O0 b) (Fr.trans f2 (Fr.trans (Old.but O2 b) (Fr.trans f3 f4))),?_⟩;rw [HM.out,HR.out]
     try rfl
    | ok xy rest=>
     rw [hres] at hp;obtain⟨_,rfl,rfl,qq,hq4,h4⟩:=hp;have HM:Hid (M0=(Sx.pTyp (toks.drop (q+1+1+1))).map fun t=>Sx.Decl.input vC t):=qya (by rw [HM.out,hres,qq];try rfl);clear hres qq
     go_wp2_with fail
     (with_reducible refine (zx2 b la lc L toks len hL (q+1+1+1) w4 h4 hq4).mono ?_)
     rintro e w5 ⟨f5,hp⟩;cases hres:Sx.pTyp (toks.drop (q+1+1+1)) with
     | bad rest=>
      rw [hres] at hp;have hp:e=panS (zah len rest):=hp;subst hp;have HR:=qya hres;clear hres;go_wp2;refine⟨rfl,Fr.trans (Old.but O0 b) (Fr.trans f2 (Fr.trans (Old.but O2 b) (Fr.trans f3 (Fr.trans f4 f5)))),?_⟩;rw [HM.out,HR.out]
      try rfl
     | ok xJ rest=>
      rw [hres] at hp;obtain⟨v5,q5,rfl,qq,bB,uf,h5,xV⟩:=hp;have HM:Hid (M0=.ok (.input vC xJ) (toks.drop q5)):=qya (by rw [HM.out,hres,qq];try rfl);clear hres qq;obtain⟨zE,l5,n5,c5,rfl⟩:=xV.parts;have gW:But b qp w5:=Fr.trans f2 (Fr.trans (Old.but O2 b) (Fr.trans f3 (Fr.trans f4 f5)));have gR:=gY.out;have qw:=qi.out;have zz0:=f3.size;have zz1:=f4.size;have zz2:=f5.size;have z0w:=gW.size;have yE:=qD.keep gW (by omega);obtain⟨vM,kp,kr,kJ,ko,ki,rr6,rr7,rr8,rr9,nX,nK,nV,nZ⟩:=yE.c14;obtain⟨kq,kn,ke,xk,xv,xz,gg6,gg7,gg8,gg9,rM,rS,rR,rN⟩:=yE.f14;have qJ:=yE.lt;clear qw gR;go_wp2;obtain⟨Wf,qv,S2,k3,zD⟩:=yE.put14 (.int .i64 2) (.string ⟨#[]⟩) (.slice none 0 0) (.slice none 0 0) (.string s) (.string zE) (.slice l5 n5 c5) (.slice none 0 0) (.int .i64 0) (.int .i64 0) (.string ⟨#[]⟩) (.string ⟨#[]⟩) (.slice none 0 0) (.slice none 0 0);rw [qv];clear qv;obtain⟨qP,qC,qA,jv,jz,jj,cT,cB,nJ,nQ,wm,wn,wh,wg⟩:=k3.c14;refine bodyPost_ret (v:=.agg #[.int .i64 2,.string ⟨#[]⟩,.slice none 0 0,.slice none 0 0,.string s,.string zE,.slice l5 n5 c5,.slice none 0 0,.int .i64 0,.int .i64 0,.string ⟨#[]⟩,.string ⟨#[]⟩,.slice none 0 0,.slice none 0 0]) (by simp [results,Tryz.results73,go_sem,qP,qC,qA,jv,jz,jj,cT,cB,nJ,nQ,wm,wn,wh,wg]) rfl ?_;have S3:=S2;have qw:=qi.out;have gR:=gY.out;have zf:=S3.size;refine⟨(Fr.trans (Old.but O0 b) gW).trans' S3 (fun k hk e=>by omega),?_⟩;rw [HM.out];refine⟨_,q5,rfl,rfl,by omega,uf,h5.keep S3 (by omega) (fun g hg=>by have:=qQ g hg;omega),s,_,_,rfl,HS.out,TyAt.more (fun k hk=>⟨by omega,qyc hk.2 zf⟩) _ _ (xV.keep S3 (fun k hk e=>by omega))⟩
 ·have HM:Hid (M0=(Sx.dataE (toks.drop (q+1))).map fun x=>Sx.Decl.data x.1 x.2.1 x.2.2):=qya (by rw [HM.out,if_pos (by simpa using hc0)]);have jT:q+1≤toks.length:=zbb hL HX.out hq (by decide) hc0;have vw:=mkf
  go_wp2_with fail
  (with_reducible refine (zw4 b la lc L toks len hL (q+1) _ (h2.old O2) jT _ (qya rfl)).mono ?_)
  rintro e w5 ⟨f5,hp⟩;cases hres:Sx.dataE (toks.drop (q+1)) with
  | bad rest=>
   rw [hres] at hp;have hp:e=panS (zah len rest):=hp;subst hp;have HR:=qya hres;clear hres;go_wp2;refine⟨rfl,Fr.trans (Old.but O0 b) (Fr.trans f2 (Fr.trans (Old.but O2 b) f5)),?_⟩;rw [HM.out,HR.out]
   try rfl
  | ok xJ rest=>
   rw [hres] at hp;obtain⟨v5,q5,rfl,qq,bB,uf,h5,xV⟩:=hp;have HM:Hid (M0=.ok (.data xJ.1 xJ.2.1 xJ.2.2) (toks.drop q5)):=qya (by rw [HM.out,hres,qq];try rfl);clear hres qq;obtain⟨s,vq,zA,zS,zH,zL,zN,rfl⟩:=xV.parts;have gW:But b qp w5:=Fr.trans f2 (Fr.trans (Old.but O2 b) f5);have gR:=gY.out;have qw:=qi.out;have zz0:=f5.size;have z0w:=gW.size;have yE:=qD.keep gW (by omega);obtain⟨vM,kp,kr,kJ,ko,ki,rr6,rr7,rr8,rr9,nX,nK,nV,nZ⟩:=yE.c14;obtain⟨kq,kn,ke,xk,xv,xz,gg6,gg7,gg8,gg9,rM,rS,rR,rN⟩:=yE.f14;have qJ:=yE.lt;clear qw gR;go_wp2;obtain⟨Wf,qv,S2,k3,zD⟩:=yE.put14 (.int .i64 1) (.string s) (.slice vq zA zS) (.slice zH zL zN) (.string ⟨#[]⟩) (.string ⟨#[]⟩) (.slice none 0 0) (.slice none 0 0) (.int .i64 0) (.int .i64 0) (.string ⟨#[]⟩) (.string ⟨#[]⟩) (.slice none 0 0) (.slice none 0 0);rw [qv];clear qv;obtain⟨qP,qC,qA,jv,jz,jj,cT,cB,nJ,nQ,wm,wn,wh,wg⟩:=k3.c14;refine bodyPost_ret (v:=.agg #[.int .i64 1,.string s,.slice vq zA zS,.slice zH zL zN,.string ⟨#[]⟩,.string ⟨#[]⟩,.slice none 0 0,.slice none 0 0,.int .i64 0,.int .i64 0,.string ⟨#[]⟩,.string ⟨#[]⟩,.slice none 0 0,.slice none 0 0]) (by simp [results,Tryz.results73,go_sem,qP,qC,qA,jv,jz,jj,cT,cB,nJ,nQ,wm,wn,wh,wg]) rfl ?_;have S3:=S2;have qw:=qi.out;have gR:=gY.out;have zf:=S3.size;refine⟨(Fr.trans (Old.but O0 b) gW).trans' S3 (fun k hk e=>by omega),?_⟩;rw [HM.out];refine⟨_,q5,rfl,rfl,by omega,uf,h5.keep S3 (by omega) (fun g hg=>by have:=qQ g hg;omega),s,_,_,rfl,zff.more (fun k hk=>⟨by omega,qyc hk.2 zf⟩) _ _ (zff.keep S3 (fun k hk e=>by omega) _ _ xV)⟩
end Go.Proofs.YtclgbmmambkiaaaGreatDoor
namespace Go.Proofs.YtclgbmmambkiaaaGreatDoor.G
open Go.RowKit
attribute [local go_sem] Oper.semAt_some
structure PrgAt(w0:World)(b A R0 R l D:Nat)(st:Loop)(ts:List Sx.Decl)(W:World):Prop where
 bx:Blk W A #[.pointer (some ⟨b,0,none⟩)] 71
 res:Blk W R0 #[.slice none 0 0] 25
 box : ∃v xs F,Blk W R #[v] 25∧W.ownsRow w0.heap.size 84 14 v ts.length xs∧ElsAt (DeclAt W F) 14 ts xs∧∀k,F k→w0.heap.size≤k∧k<W.heap.size∧k≠R∧k≠R0∧k≠l∧v.ownBlock≠some k∧k≠D
 L:W.heap[l]? = some (.loop st)
 K:W.heap[D]? = some (.deferred (some []))
 but:But b w0 W
theorem PrgAt.old{w0:World}{b A R0 R l D:Nat}{st:Loop}{ts:List Sx.Decl}{W W':World}(h:PrgAt w0 b A R0 R l D st ts W)(hb:b<w0.heap.size)(hA:b<A)(hR0:b<R0)(hR:b<R)(hl:b<l)(hD:b<D)(hf:But b W W'):PrgAt w0 b A R0 R l D st ts W':=by
 obtain⟨v,xs,F,h1,h2,h3,h4⟩:=h.box;refine⟨h.bx.keep hf (by omega),h.res.keep hf (by omega),⟨v,xs,F,h1.keep hf (by omega),zaa h2 hf (fun k hk e => ?_),ElsAt.imp (DeclAt.keep hf (fun k hk e => ?_)) _ _ h3,fun k hk => ?_⟩,hf.heap h.L (by omega),hf.heap h.K (by omega),h.but.trans hf⟩
 ·have:=(h2.lt k hk).1;omega
 ·have:=(h4 k hk).1;omega
 ·obtain⟨g1,g2,g3⟩:=h4 k hk;exact⟨g1,qyc g2 hf.size,g3⟩
theorem PrgAt.loop{w0:World}{b A R0 R l D:Nat}{st gS:Loop}{ts:List Sx.Decl}{W W':World}(h:PrgAt w0 b A R0 R l D st ts W)(hl:w0.heap.size≤l)(xd:A≠l)(em:R0≠l)(qJ:R≠l)(yB:D≠l)(hf:Fr (fun k=>k=b∨k=l) W W')(hA:A≠b)(hR0:R0≠b)(hR:R≠b)(hD:D≠b)(hb:b<w0.heap.size)(hL:W'.heap[l]? = some (.loop gS)):PrgAt w0 b A R0 R l D gS ts W':=by
 obtain⟨v,xs,F,h1,h2,h3,h4⟩:=h.box;have tA : ∀k,v.ownBlock=some k→k≠l:=fun k hk e=>zan h2 hk (e▸h.L) (by intro cs fr;exact fun e=>by cases e);refine⟨h.bx.keep hf (by omega),h.res.keep hf (by omega),⟨v,xs,F,h1.keep hf (by omega),zaa h2 hf (fun k hk e => ?_),ElsAt.imp (DeclAt.keep hf (fun k hk e => ?_)) _ _ h3,fun k hk => ?_⟩,hL,hf.heap h.K (by omega),h.but.trans' hf ?_⟩
 ·have:=(h2.lt k hk).1;have:=tA k hk;omega
 ·obtain⟨g1,g2,g3,g4,g5,g6⟩:=h4 k hk;omega
 ·obtain⟨g1,g2,g3⟩:=h4 k hk;exact⟨g1,qyc g2 hf.size,g3⟩
 ·intro k hk e;rcases e with e | e
  ·exact e
  ·omega
def PrgJ(w0:World)(b A R0 R l D:Nat)(qj:LoopState→Option Code→Loop)(la:Option Addr)(lc:Nat)(L:List RT)(toks:List Lx.Tok)(q0:Nat)(M0:Sx.Res (List Sx.Decl))(q:Nat)(W:World):Prop:=
 ∃ts m,PrgAt w0 b A R0 R l D (qj .ready none) ts W∧Rd W b la lc L q∧q≤toks.length∧toks.length-q≤m∧q0+ts.length≤q∧M0=(Sx.decls m (toks.drop q)).map (ts ++ ·)
def PrgP(w0:World)(b D:Nat)(len:Int)(M0:Sx.Res (List Sx.Decl))(c:List PanicEntry)(W:World):Prop:=
 ∃rest,M0=.bad rest∧Ending.panicked c=panS (zah len rest)∧But b w0 W∧W.heap[D]? = some (.deferred (some []))
theorem infoD:(Tryz.prog.info? 84).map (fun i=>(i.zero,i.size,i.bytes))=some (some (.agg #[.int .i64 0,.string ⟨#[]⟩,.slice none 0 0,.slice none 0 0,.string ⟨#[]⟩,.string ⟨#[]⟩,.slice none 0 0,.slice none 0 0,.int .i64 0,.int .i64 0,.string ⟨#[]⟩,.string ⟨#[]⟩,.slice none 0 0,.slice none 0 0]),14,248):=by kernel_rfl
theorem zro(n:Nat)(w0:World)(b A R0 R l D:Nat)(hb:b<w0.heap.size)(hA:w0.heap.size≤A)(hR0:w0.heap.size≤R0)(hR:w0.heap.size≤R)(hl:w0.heap.size≤l)(hD:w0.heap.size≤D)(xd:A≠l)(em:R0≠l)(qJ:R≠l)(yB:D≠l)(rT:A≠R)(hR0R:R0≠R)(rD:D≠R)
  (Ac Bc:Code)(jI:zay (Tryz.f34.body.getD .skip)=some (Ac,Bc))(tm:Array Value)
  (f0 f2 f4 f5 f6 f7 f8 f9 fY uL gm gr f14 gn gt gd gf:Value)
  (jS:tm=#[f0,.pointer (some ⟨A,0,none⟩),f2,.pointer (some ⟨R,0,none⟩),f4,f5,f6,f7,f8,f9,fY,uL,gm,gr,f14,gn,gt,gd,gf])
  (qj:LoopState→Option Code→Loop)(qu:qj=fun st pe => { state:=st,pending:=pe,fn:=34,tmps:=tm,params:=#[7],assign:=Ac,body:=Bc,defers:=D })
  (la:Option Addr)(lc:Nat)(L:List RT)(toks:List Lx.Tok)(len:Int)(hL:RtOf L toks len)(qE : ∀g,la=some g→g.block<w0.heap.size)
  (q0:Nat)(M0:Sx.Res (List Sx.Decl))(q:Nat)(x:RT)(W:World)(hx:L[q]? = some x)(hk:x.k≠0)
  (h:PrgJ w0 b A R0 R l D qj la lc L toks q0 M0 q W) :
  YieldAt Fence.wide n Tryz.prog l #[rtV x] W (zdj (PrgJ w0 b A R0 R l D qj la lc L toks q0 M0) q (fun _=>False) (PrgP w0 b D len M0)):=by
 obtain⟨ts,m,hM,jc,dU,hm,ci,qV⟩:=h;obtain⟨t,r,hq,qW,rfl⟩:=zep hL hx hk;have HSEMI:=qya (show (⟨#[59]⟩:ByteArray).toList=[59] from qyw [59]);have km:=hM.L;have vP:=km;rw [qu] at vP;refine⟨34,_,Ac,Bc,run_yield (P:=Tryz.prog) (args:=#[rtV (rt t)]) vP rfl,roundIn_of_wpIn_panics (F:=Fence.wide) (fn:=Tryz.f34) trivial Tryz.func34 ?_⟩;have j8:=jI;simp only [Tryz.f34,Option.getD_some,zay,Option.orElse_none,Option.orElse_some,Option.some.injEq,Prod.mk.injEq] at j8;obtain⟨yp,kw⟩:=j8;rw [jS];simp only [Array.foldl,Array.zip,List.zip];rw [← yp];clear jI yp vP;gi_wp2;refine⟨_,run_beginRound km (by rw [qu]),?_⟩;have gj:Hid ({ { qj .ready none with state:=.busy } with state:=.ready,pending:=none } = qj .ready none):=qya (by rw [qu]);clear jS qu;obtain⟨W2,jJ⟩ : ∃W2,W.putObj l (.loop { qj .ready none with state:=.busy })=W2:=⟨_,rfl⟩;rw [jJ];obtain⟨v,xs,F,fL,qz,uv,hF⟩:=hM.box;have yT:=hM.bx;have ei:=hM.res;have hRW:R<W.heap.size:=fL.lt;have gx:l<W.heap.size:=zaj km;have F2:Fr (fun k=>k=l) W W2:=by rw [← jJ];exact (Fr.refl _ W).putObj l _ (fun _=>rfl)
 have L2:W2.heap[l]? = some (.loop { qj .ready none with state:=.busy }):=by rw [← jJ];exact World.putObj_heap_same gx
 clear jJ;have qG:Rd W2 b la lc L q:=jc.keep F2 (by omega) (fun g hg=>by have:=qE g hg;omega);have dy:=yT.keep F2 xd;have xi:=fL.keep F2 qJ;have a0:=dy.c 0 (.pointer (some ⟨b,0,none⟩)) rfl;have HB:=qya kw;rw [← kw];clear kw;obtain⟨m',rfl⟩ : ∃m',m=m'+1:=⟨m-1,by omega⟩;have qm:Sx.decls (m'+1) (toks.drop q)=(Sx.decl (toks.drop q)).bind fun d r=>(Sx.take [59] r).bind fun _ r=>(Sx.decls m' r).map (d :: ·):=by
  rw [Sx.decls,if_pos (by rw [qW];exact hk)]
 have uE:=qya qm;have zX:=qya qV;clear qm qV
 gi_wp2_with fail
 refine⟨trivial,fun e=>by simp [Fence.wide] at e,CallsIn.inRound l ((callsIn_wide.2 (zw3 b la lc L toks len hL q W2 qG dU _ (qya rfl))).mono ?_)⟩;rintro e w4 ⟨f4,hp⟩;have F4:Fr (fun k=>k=b∨k=l) W w4:=Fr.trans' (F2.mono (S':=fun k=>k=b∨k=l) (fun k _ e=>.inr e)) f4 (fun k _ e=>.inl e);cases hres:Sx.decl (toks.drop q) with
 | bad rest=>
  rw [hres] at hp;have hp:e=panS (zah len rest):=hp;subst hp;have xB:=qya hres;clear hres;gi_wp2;refine⟨rfl,.inr (.inr ⟨_,rfl,rest,?_,rfl,hM.but.trans' F4 (fun k hk e=>by omega),F4.heap hM.K (by omega)⟩)⟩;rw [zX.out,uE.out,xB.out];rfl
 | ok y rest=>
  rw [hres] at hp;obtain⟨yv,q',rfl,qq,qx,qX,gz,zq⟩:=hp;have xB:=qya (hres.trans (congrArg _ qq));clear hres qq;obtain⟨k0,s0,l1,n1,c1,l2,n2,c2,u0,t0,l3,n3,c3,l4,n4,c4,pE,pN,pS,dg,vB,pM,fU,pL,pR,du,rfl⟩:=zq.parts;have L4:=f4.heap L2 (by omega);have dk:=xi.keep f4 (by omega);have hA4:=dy.keep f4 (by omega);have kD:=Blk.new w4 #[.int .i64 k0,.string s0,.slice l1 n1 c1,.slice l2 n2 c2,.string u0,.string t0,.slice l3 n3 c3,.slice l4 n4 c4,.int .i64 pE,.int .i64 pN,.string pS,.string dg,.slice vB pM fU,.slice pL pR du] 84;have O5:Old w4 (w4.alloc (.cells #[.int .i64 k0,.string s0,.slice l1 n1 c1,.slice l2 n2 c2,.string u0,.string t0,.slice l3 n3 c3,.slice l4 n4 c4,.int .i64 pE,.int .i64 pN,.string pS,.string dg,.slice vB pM fU,.slice pL pR du] 84)):=(Old.refl w4).alloc _;have z5:(w4.alloc (.cells #[.int .i64 k0,.string s0,.slice l1 n1 c1,.slice l2 n2 c2,.string u0,.string t0,.slice l3 n3 c3,.slice l4 n4 c4,.int .i64 pE,.int .i64 pN,.string pS,.string dg,.slice vB pM fU,.slice pL pR du] 84)).heap.size=w4.heap.size+1:=qyd _ _;have a4:=(hA4.keep O5 (fun e=>e)).c 0 (.pointer (some ⟨b,0,none⟩)) rfl;have a4':=hA4.c 0 (.pointer (some ⟨b,0,none⟩)) rfl;have ZZ5:=qya z5;clear z5
  gi_wp2_with fail
  refine⟨trivial,fun e=>by simp [Fence.wide] at e,CallsIn.inRound l ((callsIn_wide.2 (zbq _ b la lc L toks len hL q' (gz.old O5) qX ⟨#[59]⟩ [59] HSEMI.out (by decide))).mono ?_)⟩;rintro e w6 ⟨f6,hp⟩;have F6:Fr (fun k=>k=b∨k=l) W w6:=Fr.trans' (Fr.trans' F4 O5 (fun _ _ e=>False.elim e)) f6 (fun k _ e=>.inl e);cases hres:Sx.take [59] (toks.drop q') with
  | bad rest=>
   rw [hres] at hp;have hp:e=panS (zah len rest):=hp;subst hp;have HR:=qya hres;clear hres;gi_wp2;refine⟨rfl,.inr (.inr ⟨_,rfl,rest,?_,rfl,hM.but.trans' F6 (fun k hk e=>by omega),F6.heap hM.K (by omega)⟩)⟩;rw [zX.out,uE.out,xB.out];show ((Sx.take [59] (toks.drop q')).bind _).map _=_;rw [HR.out];rfl
  | ok u rest=>
   rw [hres] at hp;obtain⟨_,rfl,rfl,qq,hq6,pb⟩:=hp;have HT:=qya (hres.trans (congrArg _ qq));clear hres qq;have rv:=ZZ5.out;have z24:=f4.size;have z46:=f6.size;have zW2:=F2.size;have mj:=hM.but.size;have hlw : ∀k,v.ownBlock=some k→k≠l:=fun k hk e=>zan qz hk (e▸hM.L) (by intro cs fr;exact fun e=>by cases e);have bP : ∀k,v.ownBlock=some k→k≠D:=fun k hk e=>zan qz hk (e▸hM.K) (by intro cs fr;exact fun e=>by cases e);have ri : ∀k,v.ownBlock=some k→k≠A:=fun k hk e=>S.own_ne_ty qz hk (e▸yT) (by decide);have lF : ∀k,v.ownBlock=some k→k≠R0:=fun k hk e=>S.own_ne_ty qz hk (e▸ei) (by decide);have hoR : ∀k,v.ownBlock=some k→k≠R:=fun k hk e=>S.own_ne_ty qz hk (e▸fL) (by decide);have j7:=zaa qz F6 (fun k hk e=>by
    have:=(qz.lt k hk).1;have:=hlw k hk;omega)
   have xC:=(dk.keep O5 (fun e=>e)).keep f6 (by omega);have L6:=f6.heap (O5.heap L4 (fun e=>e)) (by omega);have kD6:=kD.keep f6 (by omega);obtain⟨lv,cv,rfl⟩:=zad qz;have r6:=xC.c 0 (.slice lv ts.length cv) rfl;have hRl6:=xC.lt;obtain⟨d6_0,d6_1,d6_2,d6_3,d6_4,d6_5,d6_6,d6_7,d6_8,d6_9,d6_10,d6_11,d6_12,d6_13⟩:=kD6.c14;have j6:=j7.alloc (.cells #[.int .i64 k0,.string s0,.slice l1 n1 c1,.slice l2 n2 c2,.string u0,.string t0,.slice l3 n3 c3,.slice l4 n4 c4,.int .i64 pE,.int .i64 pN,.string pS,.string dg,.slice vB pM fU,.slice pL pR du] 84);have yf:=xC.alloc (.cells #[.int .i64 k0,.string s0,.slice l1 n1 c1,.slice l2 n2 c2,.string u0,.string t0,.slice l3 n3 c3,.slice l4 n4 c4,.int .i64 pE,.int .i64 pN,.string pS,.string dg,.slice vB pM fU,.slice pL pR du] 84);have O7:Old w6 (w6.alloc (.cells #[.int .i64 k0,.string s0,.slice l1 n1 c1,.slice l2 n2 c2,.string u0,.string t0,.slice l3 n3 c3,.slice l4 n4 c4,.int .i64 pE,.int .i64 pN,.string pS,.string dg,.slice vB pM fU,.slice pL pR du] 84)):=(Old.refl w6).alloc _;have L7:=O7.heap L6 (fun e=>e);have z7:(w6.alloc (.cells #[.int .i64 k0,.string s0,.slice l1 n1 c1,.slice l2 n2 c2,.string u0,.string t0,.slice l3 n3 c3,.slice l4 n4 c4,.int .i64 pE,.int .i64 pN,.string pS,.string dg,.slice vB pM fU,.slice pL pR du] 84)).heap.size=w6.heap.size+1:=qyd _ _;have qR : ∀j u,[Value.int .i64 k0,Value.string s0,Value.slice l1 n1 c1,Value.slice l2 n2 c2,Value.string u0,Value.string t0,Value.slice l3 n3 c3,Value.slice l4 n4 c4,Value.int .i64 pE,Value.int .i64 pN,Value.string pS,Value.string dg,Value.slice vB pM fU,Value.slice pL pR du][j]? = some u→(w6.alloc (.cells #[.int .i64 k0,.string s0,.slice l1 n1 c1,.slice l2 n2 c2,.string u0,.string t0,.slice l3 n3 c3,.slice l4 n4 c4,.int .i64 pE,.int .i64 pN,.string pS,.string dg,.slice vB pM fU,.slice pL pR du] 84)).cell? ((⟨w6.heap.size,0,none⟩:Addr).add j)=some u:=World.news_of_block (Blk.new w6 #[.int .i64 k0,.string s0,.slice l1 n1 c1,.slice l2 n2 c2,.string u0,.string t0,.slice l3 n3 c3,.slice l4 n4 c4,.int .i64 pE,.int .i64 pN,.string pS,.string dg,.slice vB pM fU,.slice pL pR du] 84);obtain⟨i0,hi,qw,j5,jE⟩:=info_parts infoD;have eu:ts.length≤1000000:=(by have:=jc.few;have:=jc.le;omega);clear rv
   gi_wp2_with (first | (gi_at_builtin;refine Stop.out ?_) | fail)
   refine Stop.mk ?_;have rv:=ZZ5.out;refine zbi rfl _ _ 23 rfl w0.heap.size 84 i0 (.agg #[.int .i64 0,.string ⟨#[]⟩,.slice none 0 0,.slice none 0 0,.string ⟨#[]⟩,.string ⟨#[]⟩,.slice none 0 0,.slice none 0 0,.int .i64 0,.int .i64 0,.string ⟨#[]⟩,.string ⟨#[]⟩,.slice none 0 0,.slice none 0 0]) 14 248 Tryz.underlying23 hi qw j5 jE rfl (by decide) _ ts.length xs rfl j6 ⟨w6.heap.size,0,none⟩ 1 1 [.int .i64 k0,.string s0,.slice l1 n1 c1,.slice l2 n2 c2,.string u0,.string t0,.slice l3 n3 c3,.slice l4 n4 c4,.int .i64 pE,.int .i64 pN,.string pS,.string dg,.slice vB pM fU,.slice pL pR du] rfl rfl qR (by intro u hu;simp at hu;rcases hu with rfl | rfl | rfl | rfl | rfl | rfl | rfl | rfl | rfl | rfl | rfl | rfl | rfl | rfl <;> rfl) (by decide) (by unfold maxLen;omega) (by omega) (by omega) (w6.heap.size+1) z7 ?_;intro g cap w8 p9 t9 qZ hlt8;have qZ:(Value.slice lv ts.length cv).ownBlock=some g∨g=w6.heap.size+1:=qZ;have F8:Fr (fun k=>(Value.slice lv ts.length cv).ownBlock=some k) (w6.alloc (.cells #[.int .i64 k0,.string s0,.slice l1 n1 c1,.slice l2 n2 c2,.string u0,.string t0,.slice l3 n3 c3,.slice l4 n4 c4,.int .i64 pE,.int .i64 pN,.string pS,.string dg,.slice vB pM fU,.slice pL pR du] 84)) w8:=(Fr.refl _ _).grown t9 (fun k e _=>e);have hR8:=yf.keep F8 (fun e=>hoR _ e rfl);have L8:=F8.heap L7 (fun e=>hlw _ e rfl);have xm:g≠R:=by
    rcases qZ with h | h
    ·exact hoR _ h
    ·omega
   have qQ:g≠l:=by
    rcases qZ with h | h
    ·exact hlw _ h
    ·omega
   have r8:=hR8.c 0 (.slice lv ts.length cv) rfl;have e8:=hR8.free 0;have hRl8:=hR8.lt;clear rv;gi_wp2;have rv:=ZZ5.out;have FR:Fr (fun k=>k=R) w8 (w8.setCell ⟨R,0,none⟩ (.slice (some ⟨g,0,none⟩) (ts.length+1) cap)):=(Fr.refl (fun k=>k=R) w8).setCell ⟨R,0,none⟩ (fun _=>rfl) _;have hR9:Blk (w8.setCell ⟨R,0,none⟩ (.slice (some ⟨g,0,none⟩) (ts.length+1) cap)) R #[.slice (some ⟨g,0,none⟩) (ts.length+1) cap] 25:=hR8.set 0 (.slice (some ⟨g,0,none⟩) (ts.length+1) cap);have sT:=zaa p9 FR (fun k hk e=>by cases hk;exact xm e);have L9:=FR.heap L8 (fun e=>qJ e.symm);obtain⟨w9,hw9⟩ : ∃w9,w8.setCell ⟨R,0,none⟩ (.slice (some ⟨g,0,none⟩) (ts.length+1) cap)=w9:=⟨_,rfl⟩;rw [hw9] at FR hR9 sT L9 ⊢;clear hw9;obtain⟨W',qv⟩ : ∃W',w9.putObj l (.loop (qj .ready none))=W':=⟨_,rfl⟩;have qy:=run_endRound (P:=Tryz.prog) none L9;have qe:(Instr.endRound l none).run Tryz.prog w9=.ok (.bool true) W':=(by rw [← qv,← gj.out];exact qy);have F69:Fr (fun k=>k=l∨k=R∨(Value.slice lv ts.length cv).ownBlock=some k) w6 W':=by
    rw [← qv];exact (Fr.trans' (Fr.trans' (Fr.old O7) F8 (fun k hk e=>.inr (.inr e))) FR (fun k hk e=>.inr (.inl e))).putObj l _ (fun _=>.inl rfl)
   have F9:Fr (fun k=>k=b∨k=l∨k=R∨(Value.slice lv ts.length cv).ownBlock=some k) W W':=Fr.trans' (F6.mono (fun k _ e=>e.elim .inl (fun e=>.inr (.inl e)))) F69 (fun k _ e=>.inr e);have F49:Fr (fun k=>k=b∨k=l∨k=R∨(Value.slice lv ts.length cv).ownBlock=some k) w4 W':=Fr.trans' (Fr.trans' (Fr.old O5) f6 (fun k _ e=>.inl e)) F69 (fun k _ e=>.inr e);have hR10:Blk W' R #[.slice (some ⟨g,0,none⟩) (ts.length+1) cap] 25:=(by rw [← qv];exact hR9.putObj qJ _);have bF:=zaa sT ((Fr.refl (fun k=>k=l) w9).putObj l (.loop (qj .ready none)) (fun _=>rfl)) (fun k hk e=>by cases hk;exact qQ e);rw [qv] at bF;have zy : ∀k,(Value.slice lv ts.length cv).ownBlock=some k→w0.heap.size≤k∧k<W.heap.size:=fun k hk=>qz.lt k hk;have L10:W'.heap[l]? = some (.loop (qj .ready none)):=(by rw [← qv];exact World.putObj_heap_same (zaj L9));have z9:=F49.size;have hDW:=zaj hM.K;have hR0W:=ei.lt;refine⟨_,_,qe,.inl ⟨rfl,q'+1,by omega,ts++[y],m',⟨yT.keep F9 ?_,ei.keep F9 ?_,⟨_,xs++[.int .i64 k0,.string s0,.slice l1 n1 c1,.slice l2 n2 c2,.string u0,.string t0,.slice l3 n3 c3,.slice l4 n4 c4,.int .i64 pE,.int .i64 pN,.string pS,.string dg,.slice vB pM fU,.slice pL pR du],fun k=>F k∨(W2.heap.size≤k∧k<w4.heap.size),hR10,?_,ElsAt.snoc ts xs y [.int .i64 k0,.string s0,.slice l1 n1 c1,.slice l2 n2 c2,.string u0,.string t0,.slice l3 n3 c3,.slice l4 n4 c4,.int .i64 pE,.int .i64 pN,.string pS,.string dg,.slice vB pM fU,.slice pL pR du] ?_ rfl ?_,?_⟩,L10,F9.heap hM.K ?_,hM.but.trans' F9 ?_⟩,?_,hq6,?_,?_,?_⟩⟩
   ·rintro (e | e | e | e)
    ·omega
    ·exact xd e
    ·exact rT e
    ·exact ri _ e rfl
   ·rintro (e | e | e | e)
    ·omega
    ·exact em e
    ·exact hR0R e
    ·exact lF _ e rfl
   ·rw [qye,qyh];exact bF
   ·refine ElsAt.imp (DeclAt.more (fun k hk=>.inl hk)) _ _ (ElsAt.imp (DeclAt.keep F9 ?_) _ _ uv);rintro k hk (e | e | e | e)
    ·have:=(hF k hk).1;omega
    ·exact (hF k hk).2.2.2.2.1 e
    ·exact (hF k hk).2.2.1 e
    ·exact (hF k hk).2.2.2.2.2.1 e
   ·refine DeclAt.more (fun k hk=>.inr hk) _ _ (DeclAt.keep F49 ?_ _ _ zq);rintro k hk (e | e | e | e)
    ·omega
    ·omega
    ·omega
    ·have:=zy k e;omega
   ·rintro k (hk | hk)
    ·obtain⟨g1,g2,g3,g3',g4,g5⟩:=hF k hk;refine⟨g1,by omega,g3,g3',g4,fun e => ?_,g5.2⟩;have e':g=k:=qyj (show some g=some k from e);subst e';exact qZ.elim g5.1 (fun h=>by omega)
    ·have hk1:=hk.1;have hk2:=hk.2;refine⟨by omega,by omega,by omega,by omega,by omega,fun e => ?_,by omega⟩;have e':g=k:=qyj (show some g=some k from e);rcases qZ with h | h
     ·have:=(zy _ h).2;omega
     ·omega
   ·rintro (e | e | e | e)
    ·omega
    ·exact yB e
    ·exact rD e
    ·exact bP _ e rfl
   ·rintro k hk (e | e | e | e)
    ·exact e
    ·omega
    ·omega
    ·have:=zy _ e;omega
   ·refine pb.keep F69 ?_ (fun g' kI => ?_)
    ·rintro (e | e | e)
     ·omega
     ·omega
     ·have:=zy _ e;omega
    ·have:=qE g' kI;rintro (e | e | e)
     ·omega
     ·omega
     ·have:=zy _ e;omega
   ·omega
   ·rw [qye,qyh];omega
   ·rw [zX.out,uE.out,xB.out];show ((Sx.take [59] (toks.drop q')).bind _).map _=_;rw [HT.out];show ((Sx.decls m' (toks.drop (q'+1))).map (y :: ·)).map (ts ++ ·)=_;cases Sx.decls m' (toks.drop (q'+1)) with
    | ok z zr=>simp [Sx.Res.map]
    | bad zr=>rfl
attribute [local go_sem] Oper.semAt_some
def ProgAt(w:World)(F:Nat→Prop)(ds:List Sx.Decl)(v:Value):Prop:=∃sv,v=.agg #[sv]∧LsAt DeclAt 84 14 w F ds sv
def ProgPost(b:Nat)(la:Option Addr)(lc:Nat)(L:List RT)(toks:List Lx.Tok)(len:Int)(q:Nat)(r:Sx.Res (List Sx.Decl))(w0:World)(e:Ending)(W':World):Prop:=
 But b w0 W'∧match r with
  | .ok ds rest=>∃v q',e=.returned v∧rest=toks.drop q'∧q≤q'∧q'≤toks.length∧Rd W' b la lc L q'∧ProgAt W' (fun k=>w0.heap.size≤k∧k<W'.heap.size) ds v
  | .bad rest=>e=panS (zah len rest)
theorem zuz{L:List RT}{toks:List Lx.Tok}{len:Int}(h:RtOf L toks len){q:Nat}{x:RT}(hx:L[q]? = some x)(hk:x.k=0)(hq:q≤toks.length){m:Nat} : Sx.decls m (toks.drop q)=.ok [] (toks.drop q):=by
 obtain⟨h1,-,-⟩:=zc2 h hx hq;cases m with
 | zero=>rfl
 | succ m=>rw [Sx.decls,if_neg (by rw [h1];intro e;exact e hk)]
theorem prog_any(w0:World)(b:Nat)(la:Option Addr)(lc:Nat)(L:List RT)(toks:List Lx.Tok)(len:Int)(hL:RtOf L toks len)(q:Nat)(jc:Rd w0 b la lc L q)(hq:q≤toks.length)
    (m:Nat)(hm:toks.length-q≤m) :
    CallsIn Fence.wide 3 Tryz.prog 34 #[.pointer (some ⟨b,0,none⟩)] w0 (ProgPost b la lc L toks len q (Sx.decls m (toks.drop q)) w0):=by
  have vw:=mkf;have hb:=jc.blk.lt;refine callsIn_of_wpAt_marks Tryz.func34 rfl trivial ?_ rfl;simp only [Tryz.ntmps34,qxg,qxh,qxi,Nat.reduceAdd,Nat.reduceSub,qxj,qxk,qxl,qxm,qxn,qxo];refine wpAt_seq_in (fun K hK => ?_);gi_wp2;refine wpAt_seq_in (fun K hK => ?_);gi_wp2;refine wpAt_seq ?_;refine wpAt_seq_in (fun K hK => ?_);gi_wp2;refine wpAt_block ?_;refine zb2 ?_;intro A B hA hB;have jI:zay (Tryz.f34.body.getD .skip)=some (A,B):=by rw [hA,hB];rfl
  clear hA hB vw;obtain⟨W0,qF⟩ : ∃W0,(((w0.alloc (.cells #[.pointer (some ⟨b,0,none⟩)] 71)).alloc (.cells #[.slice none 0 0] 25)).alloc (.cells #[.slice none 0 0] 25))=W0:=⟨_,rfl⟩;rw [qF];have F0:Old w0 W0:=by rw [← qF];exact (((Old.refl w0).alloc _).alloc _).alloc _
  have z0:W0.heap.size=w0.heap.size+3:=by rw [← qF];simp
  have bA:Blk W0 w0.heap.size #[.pointer (some ⟨b,0,none⟩)] 71:=by rw [← qF];exact ((Blk.new w0 _ _).alloc _).alloc _
  have bR0:Blk W0 (w0.heap.size+1) #[.slice none 0 0] 25:=by rw [← qF];exact (Blk.new' (by simp) _ _).alloc _
  have bR:Blk W0 (w0.heap.size+1+1) #[.slice none 0 0] 25:=by rw [← qF];exact Blk.new' (by simp) _ _
  clear qF;refine wpAt_rangeFunc ?_;obtain⟨tm,jS⟩ : ∃tm,tm=(#[.pointer (some ⟨b,0,none⟩),.pointer (some ⟨w0.heap.size,0,none⟩),.pointer (some ⟨w0.heap.size+1,0,none⟩),.pointer (some ⟨w0.heap.size+1+1,0,none⟩),undef,.pointer (some ⟨b,0,none⟩),.func (.func 72) #[.pointer (some ⟨b,0,none⟩)] #[],undef,undef,undef,undef,undef,undef,undef,undef,undef,undef,undef,undef]:Array Value):=⟨_,rfl⟩;obtain⟨qj,qu⟩ : ∃qj,qj=fun st pe=>({ state:=st,pending:=pe,fn:=34,tmps:=tm,params:=#[7],assign:=A,body:=B,defers:=W0.heap.size } : Loop):=⟨_,rfl⟩;obtain⟨W1,qd⟩ : ∃W1,(W0.alloc (.deferred (some []))).alloc (.loop (qj .ready none))=W1:=⟨_,rfl⟩;have F1:Old w0 W1:=by rw [← qd];exact (F0.alloc _).alloc _
  have ka:Old W0 W1:=by rw [← qd];exact ((Old.refl W0).alloc _).alloc _
  have z1:W1.heap.size=W0.heap.size+2:=by rw [← qd];simp
  have qE : ∀g,la=some g→g.block<w0.heap.size:=jc.glt (by rw [hL];simp;omega);have hlen:L.length=toks.length+1:=by rw [hL];simp
  have xF:PrgAt w0 b w0.heap.size (w0.heap.size+1) (w0.heap.size+1+1) (W0.heap.size+1) W0.heap.size (qj .ready none) [] W1:=
    ⟨bA.keep ka (fun e=>e),bR0.keep ka (fun e=>e),⟨_,[],fun _=>False,bR.keep ka (fun e=>e),⟨rfl,.inl ⟨rfl,rfl⟩⟩,rfl,fun k hk=>hk.elim⟩,
     by rw [← qd];have:=World.alloc_heap_new (W0.alloc (.deferred (some []))) (.loop (qj .ready none));rwa [qyd] at this,
     by rw [← qd];exact (Below.heap_alloc _ _ _ (by simp)).trans (World.alloc_heap_new W0 _),F1.but b⟩
  refine⟨W0.heap.size+1,[{ target:=.collected W0.heap.size,args:=#[] }],W1,{ target:=.fn (.func 72) #[],args:=#[.pointer (some ⟨b,0,none⟩),.func (.yield (W0.heap.size+1)) #[] #[]] },W1,72,
    #[.pointer (some ⟨b,0,none⟩),.func (.yield (W0.heap.size+1)) #[] #[]],W1,?_,?_,fun _ _=>trivial,?_,fun e=>by simp [Fence.wide] at e,?_⟩
  · rw [← qd,qu,jS];exact run_enterLoop_outer _ _ _ _ _
  · simp [resolve,go_sem]
  · simp [invoke,go_sem]
  · refine (zdx 2 (by decide) (W0.heap.size+1) W1 b la lc L q
      (PrgJ w0 b w0.heap.size (w0.heap.size+1) (w0.heap.size+1+1) (W0.heap.size+1) W0.heap.size qj la lc L toks q (Sx.decls m (toks.drop q)))
      (fun _=>False)
      (PrgP w0 b W0.heap.size len (Sx.decls m (toks.drop q)))
      (fun q' W h=>by obtain⟨ts,m',h1,h2,h3,_⟩:=h;exact⟨h2,by omega⟩)
      (fun q' W W' h hO=>by
        obtain⟨ts,m',h1,h2,h3⟩:=h;exact⟨ts,m',h1.old hb (by omega) (by omega) (by omega) (by omega) (by omega) (hO.but b),h2.old hO,h3⟩)
      (fun q' x W hx hk h=>zro 1 w0 b w0.heap.size (w0.heap.size+1) (w0.heap.size+1+1) (W0.heap.size+1) W0.heap.size hb (by omega) (by omega) (by omega) (by omega) (by omega) (by omega) (by omega) (by omega) (by omega) (by omega) (by omega) (by omega) A B jI tm _ _ _ _ _ _ _ _ _ _ _ _ _ _ _ _ _ jS qj qu la lc L toks len hL qE q _ q' x W hx hk h)
      ⟨[],m,xF,jc.old F1,hq,hm,by simp,by cases Sx.decls m (toks.drop q) <;> simp [Sx.Res.map]⟩).mono ?_
    have hst:(qj .ready none).state=.ready∧(qj .ready none).pending=none:=(by rw [qu];exact⟨rfl,rfl⟩);clear qu jI xF qd;rintro e W2 (⟨rfl,⟨q',x,⟨ts,m',zt,qG,xw,tE,fC,qV⟩,hx,dZ⟩ | hF⟩ | ⟨c,rfl,rest,qV,hc,zb,hK⟩)
    · have zd:Sx.decls m (toks.drop q)=.ok ts (toks.drop q'):=by
        rw [qV,zuz hL hx dZ xw];simp [Sx.Res.map]
      obtain⟨L',qy⟩ : ∃L',(Instr.endLoop (W0.heap.size+1)).run Tryz.prog W2=.ok none (W2.putObj (W0.heap.size+1) (.loop L')):=⟨_,by have:=run_endLoop (P:=Tryz.prog) zt.L (by rw [hst.1];simp);rw [hst.2] at this;exact this⟩;obtain⟨W3,qM⟩ : ∃W3,W2.putObj (W0.heap.size+1) (.loop L')=W3:=⟨_,rfl⟩;rw [qM] at qy;have F3:Fr (fun k=>k=W0.heap.size+1) W2 W3:=(by rw [← qM];exact (Fr.refl _ W2).putObj _ _ (fun _=>rfl));have jx:=zt.loop (by omega) (by omega) (by omega) (by omega) (by omega) (F3.mono (fun k _ e=>.inr e)) (by omega) (by omega) (by omega) (by omega) hb (by rw [← qM];exact World.putObj_heap_same (zaj zt.L));have qN:Rd W3 b la lc L q':=qG.keep F3 (by omega) (fun g hg=>by have:=qE g hg;omega);clear qM;refine⟨none,W3,qy,wpAt_of_wpIn ?_⟩;obtain⟨v,xs,F,vf,qf,xL,zz⟩:=jx.box;obtain⟨lv,cv,rfl⟩:=zad qf;have hK3:=jx.K;have hbut3:=jx.but;have tu:=jx.res;have x0:=vf.c 0 (.slice lv ts.length cv) rfl;have y0:=tu.c 0 (.slice none 0 0) rfl;have g0:=tu.free 0;have em:=tu.lt;have yB:=zaj hK3;have lF : ∀k,(Value.slice lv ts.length cv).ownBlock=some k→k≠w0.heap.size+1:=fun k hk e=>S.own_ne_ty qf hk (e▸tu) (by decide);have bP : ∀k,(Value.slice lv ts.length cv).ownBlock=some k→k≠W0.heap.size:=fun k hk e=>zan qf hk (e▸hK3) (by intro cs fr;exact fun e=>by cases e);have zX:=qya zd;have Z0:=qya z0;clear qy zd qV z0;gi_wp2;have z0:=Z0.out;have F4:Fr (fun k=>k=w0.heap.size+1) W3 (W3.setCell ⟨w0.heap.size+1,0,none⟩ (.slice lv ts.length cv)):=(Fr.refl (fun k=>k=w0.heap.size+1) W3).setCell ⟨w0.heap.size+1,0,none⟩ (fun _=>rfl) _;have nk:=F4.heap hK3 (by omega);have hR04:Blk (W3.setCell ⟨w0.heap.size+1,0,none⟩ (.slice lv ts.length cv)) (w0.heap.size+1) #[.slice lv ts.length cv] 25:=tu.set 0 (.slice lv ts.length cv);obtain⟨W4,ku⟩ : ∃W4,W3.setCell ⟨w0.heap.size+1,0,none⟩ (.slice lv ts.length cv)=W4:=⟨_,rfl⟩;rw [ku] at F4 nk hR04 ⊢;clear ku;refine⟨by simp,.inl ⟨_,_,rfl,run_takeDeferred nk,?_⟩⟩;have F5:Fr (fun k=>k=W0.heap.size) W4 (W4.putObj W0.heap.size (.deferred none)):=(Fr.refl _ W4).putObj _ _ (fun _=>rfl);have xQ:Fr (fun k=>k=W0.heap.size∨k=w0.heap.size+1) W3 (W4.putObj W0.heap.size (.deferred none)):=Fr.trans' (F4.mono (fun k _ e=>.inr e)) F5 (fun k _ e=>.inl e);have s0:=(hR04.keep F5 (by omega)).c 0 (.slice lv ts.length cv) rfl;have z5:=xQ.size;obtain⟨W5,xD⟩ : ∃W5,W4.putObj W0.heap.size (.deferred none)=W5:=⟨_,rfl⟩;rw [xD] at F5 xQ s0 z5 ⊢;clear xD;refine⟨.agg #[.slice lv ts.length cv],by simp [results,Tryz.results34,go_sem,s0],?_⟩;unfold ProgPost;rw [zX.out];refine⟨hbut3.trans' xQ (fun k hk e=>by omega),_,q',rfl,rfl,by omega,xw,qN.keep xQ (by omega) (fun g hg=>by have:=qE g hg;omega),_,rfl,xs,⟨zaa (qf.mono (qyi _)) xQ (fun k hk e=>by rcases e with e | e;exact bP k hk e;exact lF k hk e),fun k hk=>⟨(qf.lt k hk).1,qyc (qf.lt k hk).2 z5⟩⟩,?_⟩;refine ElsAt.imp (DeclAt.more (fun k hk=>⟨(zz k hk).1,qyc (zz k hk).2.1 z5⟩)) _ _ (ElsAt.imp (DeclAt.keep xQ (fun k hk e => ?_)) _ _ xL);rcases e with e | e
      · exact (zz k hk).2.2.2.2.2.2 e
      · exact (zz k hk).2.2.2.1 e
    · exact hF.elim
    · refine⟨by simp,.inl ⟨_,_,rfl,run_takeDeferred hK,?_⟩⟩;have F5:Fr (fun k=>k=W0.heap.size) W2 (W2.putObj W0.heap.size (.deferred none)):=(Fr.refl _ W2).putObj _ _ (fun _=>rfl);show ProgPost b la lc L toks len q (Sx.decls m (toks.drop q)) w0 (.panicked c) _;unfold ProgPost;rw [qV];exact⟨zb.trans' F5 (fun k hk e=>by omega),hc⟩
end Go.Proofs.YtclgbmmambkiaaaGreatDoor.G
namespace Go.Proofs.YtclgbmmambkiaaaGreatDoor
open Go.RowKit
attribute [local go_sem] Oper.semAt_some
theorem zcr{w:World}{R A E:Nat}{x0 y z:Value}{TX TY TZ:TypeId}(hx:Blk w R #[x0] TX)(hy:Blk w A #[y] TY)(hz:Blk w E #[z] TZ)(tmps:Array Value)(h6:tmps[6]? = some (.pointer (some ⟨R,0,none⟩)))(h7:tmps[7]? = some (.pointer (some ⟨A,0,none⟩)))(h8:tmps[8]? = some (.pointer (some ⟨E,0,none⟩))) :
  (results Tryz.f33 tmps).run Tryz.prog w=.ok (.tuple #[.agg #[x0],y,z]) w:=by
 have c0:=hx.c 0 x0 rfl;have d0:=hy.c 0 y rfl;have e0:=hz.c 0 z rfl;simp [results,Tryz.results33,go_sem,h6,h7,h8,c0,d0,e0]
theorem zi7:Lies G.ProgAt:=⟨fun hf hn t v ⟨sv,h1,h2⟩=>⟨sv,h1,(zcc.ls _ _).keep hf hn _ _ h2⟩,fun hn t v ⟨sv,h1,h2⟩=>⟨sv,h1,(zcc.ls _ _).more hn _ _ h2⟩⟩
theorem G.ProgAt.keep{S F:Nat→Prop}{w w':World}{ds:List Sx.Decl}{v:Value}(h:G.ProgAt w F ds v)(hf:Fr S w w')(hn : ∀k,F k→¬S k):G.ProgAt w' F ds v:=zi7.keep hf hn _ _ h
theorem G.ProgAt.parts{w:World}{F:Nat→Prop}{ds:List Sx.Decl}{v:Value}(h:G.ProgAt w F ds v) : ∃(la:Option Addr) (na ca:Nat),v=.agg #[.slice la na ca]:=by
 obtain⟨sv,rfl,h⟩:=h;obtain⟨la,c,rfl⟩:=h.parts;exact⟨la,_,c,rfl⟩
def Sx.pProg(l:List Lx.Tok):Sx.Res (List Sx.Decl):=Sx.decls l.length l
theorem ztt(t:ByteArray)(ht:t.size≤140737488355328)(w:World)(hg:Gl w)(ck:List Sx.Decl→Int)
  (xH : ∀(x:List Sx.Decl),(∃r,Sx.pProg (Lx.upto t.data.toList 20000).toks=.ok x r)→∀(v:Value) (F:Nat→Prop) (W:World),G.ProgAt W F x v→(∀k,F k→k<W.heap.size)→Gl W→Calls Tryz.prog 35 #[v] W fun e W'=>e=.returned (.int .i64 (ck x))∧Old W W')
  (bQ : ∀(b:Nat) (la:Option Addr) (lc:Nat) (L:List RT) (toks:List Lx.Tok) (len:Int),RtOf L toks len→∀(q:Nat) (W:World),Rd W b la lc L q→q≤toks.length→Calls Tryz.prog 34 #[.pointer (some ⟨b,0,none⟩)] W (G.ProgPost b la lc L toks len q (Sx.pProg (toks.drop q)) W))
  (lR : ∀x∈(Lx.upto t.data.toList 20000).toks,x.kind≠0)
  (M0:Except (Int×Int) (List Sx.Decl))(HM:Hid (M0=Sx.readW ck t.size (Lx.upto t.data.toList 20000) Sx.pProg)) :
  CallsIn Fence.wide 3 Tryz.prog 33 #[.string t,.func (.func 34) #[] #[],.func (.func 35) #[] #[]] w (zfs G.ProgAt (.agg #[.slice none 0 0]) w M0):=by
 have vw:=mkf;refine callsIn_of_wp_marks Tryz.func33 rfl trivial ?_ rfl;simp only [Tryz.ntmps33,qxg,qxh,qxi,Nat.reduceAdd,Nat.reduceSub,qxj,qxk,qxl,qxm,qxn,qxo]
 gi_wp2_with fail
 obtain⟨W0,qF⟩ : ∃W0,(((w.alloc (.cells #[.slice none 0 0] 25)).alloc (.cells #[.int .i64 0] 3)).alloc (.cells #[.int .i64 0] 26)).alloc (.cells #[.slice none 0 0] 25)=W0:=⟨_,rfl⟩;rw [qF];have F0:Old w W0:=by rw [← qF];exact ((((Old.refl w).alloc _).alloc _).alloc _).alloc _
 have z0:W0.heap.size=w.heap.size+4:=by rw [← qF];simp
 have qD:Blk W0 w.heap.size #[.slice none 0 0] 25:=by rw [← qF];exact (((Blk.new w _ _).alloc _).alloc _).alloc _
 have kA0:Blk W0 (w.heap.size+1) #[.int .i64 0] 3:=by rw [← qF];exact ((Blk.new' (by simp) _ _).alloc _).alloc _
 have kE0:Blk W0 (w.heap.size+1+1) #[.int .i64 0] 26:=by rw [← qF];exact (Blk.new' (by simp) _ _).alloc _
 have kZ0:Blk W0 (w.heap.size+1+1+1) #[.slice none 0 0] 25:=by rw [← qF];exact Blk.new' (by simp) _ _
 clear qF;refine⟨trivial,callsIn_wide.2 ((zhy t ht W0 (hg.old F0)).mono ?_)⟩;rintro e w1 ⟨lv,rfl,vN,o1⟩;obtain⟨s,hs⟩ : ∃s,Lx.upto t.data.toList 20000=s:=⟨_,rfl⟩;rw [hs] at vN HM lR xH ⊢;have z1:=o1.size;have kU:=qD.keep o1 (fun e=>e);have bw:=kA0.keep o1 (fun e=>e);have bk:=kE0.keep o1 (fun e=>e);have cd:=kZ0.keep o1 (fun e=>e);obtain⟨lt0,ct0,rfl⟩:=zad vN;have r1_0:=kU.c 0 (.slice none 0 0) rfl;have r1f0:=kU.free 0;have z1_0:=cd.c 0 (.slice none 0 0) rfl;have a1c:=bw.c 0 (.int .i64 0) rfl;have a1f:=bw.free 0;have e1c:=bk.c 0 (.int .i64 0) rfl;have e1f:=bk.free 0;have lR1:=kU.lt;have lA1:=bw.lt;have lE1:=bk.lt;have lZ1:=cd.lt;have HS:=qya hs;have Z0:=qya z0;clear hs z0;cases hc:(s.code != 0)
 ·have eu:s.toks.length≤40000:=by rw [← HS.out];exact zlb _
  have z0:=Z0.out;have F2:Fr (fun k=>k=w.heap.size+1∨k=w.heap.size+1+1) w1 ((w1.setCell ⟨w.heap.size+1,0,none⟩ (.int .i64 s.at_)).setCell ⟨w.heap.size+1+1,0,none⟩ (.int .i64 s.code)):=(((Fr.refl (fun k=>k=w.heap.size+1∨k=w.heap.size+1+1) w1).setCell ⟨w.heap.size+1,0,none⟩ (fun _=>.inl rfl) (.int .i64 s.at_)).setCell ⟨w.heap.size+1+1,0,none⟩ (fun _=>.inr rfl) (.int .i64 s.code));have zJ:=zaa vN F2 (fun k hk e=>by have:=(vN.lt k hk).1;omega);have z2:((w1.setCell ⟨w.heap.size+1,0,none⟩ (.int .i64 s.at_)).setCell ⟨w.heap.size+1+1,0,none⟩ (.int .i64 s.code)).heap.size=w1.heap.size:=by simp
  have di:=zJ.alloc (.cells #[.int .i64 0,.int .i64 0,.string ⟨#[]⟩,.int .i64 t.size] 59);have z3:(((w1.setCell ⟨w.heap.size+1,0,none⟩ (.int .i64 s.at_)).setCell ⟨w.heap.size+1+1,0,none⟩ (.int .i64 s.code)).alloc (.cells #[.int .i64 0,.int .i64 0,.string ⟨#[]⟩,.int .i64 t.size] 59)).heap.size=w1.heap.size+1:=by rw [qyd,z2]
  have qR : ∀j u,[Value.int .i64 0,Value.int .i64 0,Value.string ⟨#[]⟩,Value.int .i64 t.size][j]? = some u→(((w1.setCell ⟨w.heap.size+1,0,none⟩ (.int .i64 s.at_)).setCell ⟨w.heap.size+1+1,0,none⟩ (.int .i64 s.code)).alloc (.cells #[.int .i64 0,.int .i64 0,.string ⟨#[]⟩,.int .i64 t.size] 59)).cell? ((⟨w1.heap.size,0,none⟩:Addr).add j)=some u:=by
   have:=World.news_of_block (Blk.new ((w1.setCell ⟨w.heap.size+1,0,none⟩ (.int .i64 s.at_)).setCell ⟨w.heap.size+1+1,0,none⟩ (.int .i64 s.code)) #[.int .i64 0,.int .i64 0,.string ⟨#[]⟩,.int .i64 t.size] 59)
   rwa [z2] at this
  obtain⟨i0,hi,qw,j5,jE⟩:=info_parts zjb
  gi_wp2_with (first | (gi_at_builtin;refine zp4 _ _ rfl ?_) | fail)
  refine Stop.mk ?_;refine zbi rfl _ _ 54 rfl (W0.heap.size+1) 59 i0 (.agg #[.int .i64 0,.int .i64 0,.string ⟨#[]⟩,.int .i64 0]) 4 40 Tryz.underlying54 hi qw j5 jE rfl (by decide) _ s.toks.length (zco s.toks) rfl di ⟨w1.heap.size,0,none⟩ 1 1 [.int .i64 0,.int .i64 0,.string ⟨#[]⟩,.int .i64 t.size] rfl rfl qR (by intro u hu;simp at hu;rcases hu with rfl | rfl | rfl | rfl <;> rfl) (by decide) (by unfold maxLen;omega) (by omega) (by omega) (w1.heap.size+1) z3 ?_;intro g cap w4 zc gT qZ yD;have qZ:(Value.slice lt0 s.toks.length ct0).ownBlock=some g∨g=w1.heap.size+1:=qZ;have F4:Fr (fun k=>(Value.slice lt0 s.toks.length ct0).ownBlock=some k) (((w1.setCell ⟨w.heap.size+1,0,none⟩ (.int .i64 s.at_)).setCell ⟨w.heap.size+1+1,0,none⟩ (.int .i64 s.code)).alloc (.cells #[.int .i64 0,.int .i64 0,.string ⟨#[]⟩,.int .i64 t.size] 59)) w4:=(Fr.refl _ _).grown gT (fun k e _=>e);have jQ:=fun k hk=>vN.lt k hk;have xn:=((kU.keep F2 (by omega)).alloc (.cells #[.int .i64 0,.int .i64 0,.string ⟨#[]⟩,.int .i64 t.size] 59)).keep F4 (fun e=>by have:=(jQ _ e).1;omega);have kZ4:=((cd.keep F2 (by omega)).alloc (.cells #[.int .i64 0,.int .i64 0,.string ⟨#[]⟩,.int .i64 t.size] 59)).keep F4 (fun e=>by have:=(jQ _ e).1;omega);have kA2:Blk ((w1.setCell ⟨w.heap.size+1,0,none⟩ (.int .i64 s.at_)).setCell ⟨w.heap.size+1+1,0,none⟩ (.int .i64 s.code)) (w.heap.size+1) #[.int .i64 s.at_] 3:=(bw.set 0 (.int .i64 s.at_)).other ⟨w.heap.size+1+1,0,none⟩ (by simp) (.int .i64 s.code);have kE2:Blk ((w1.setCell ⟨w.heap.size+1,0,none⟩ (.int .i64 s.at_)).setCell ⟨w.heap.size+1+1,0,none⟩ (.int .i64 s.code)) (w.heap.size+1+1) #[.int .i64 s.code] 26:=(bk.other ⟨w.heap.size+1,0,none⟩ (by simp) (.int .i64 s.at_)).set 0 (.int .i64 s.code);have lm:=(kA2.alloc (.cells #[.int .i64 0,.int .i64 0,.string ⟨#[]⟩,.int .i64 t.size] 59)).keep F4 (fun e=>by have:=(jQ _ e).1;omega);have kE4:=(kE2.alloc (.cells #[.int .i64 0,.int .i64 0,.string ⟨#[]⟩,.int .i64 t.size] 59)).keep F4 (fun e=>by have:=(jQ _ e).1;omega);have z4:=F4.size;have F14:Fr (fun k=>w.heap.size≤k) w1 w4:=Fr.trans' ((F2.mono (S':=fun k=>w.heap.size≤k) (fun k _ e=>by omega)).alloc _) F4 (fun k _ e=>by have:=(jQ _ e).1;omega);obtain⟨L,tg⟩ : ∃L,L=s.toks.map rt++[⟨0,0,⟨#[]⟩,(t.size:Int)⟩]:=⟨_,rfl⟩;have hL:RtOf L s.toks t.size:=tg;have fJ:L.length=s.toks.length+1:=by rw [tg];simp
  have ur:zdk L=zco s.toks++[.int .i64 0,.int .i64 0,.string ⟨#[]⟩,.int .i64 t.size]:=by rw [tg];exact ziu _ _
  have hgw:W0.heap.size+1≤g:=(zc.lt g rfl).1;have kB:=Blk.new w4 #[.slice (some ⟨g,0,none⟩) (s.toks.length+1) cap,.int .i64 0] 129;have jc:Rd (w4.alloc (.cells #[.slice (some ⟨g,0,none⟩) (s.toks.length+1) cap,.int .i64 0] 129)) w4.heap.size (some ⟨g,0,none⟩) cap L 0:=
   Rd.new (base:=W0.heap.size+1) (by rw [fJ,ur];exact zc.alloc _) (by rw [qyd];omega) (by rw [fJ];exact kB) (by omega) (by omega)
  have o4:Old w4 (w4.alloc (.cells #[.slice (some ⟨g,0,none⟩) (s.toks.length+1) cap,.int .i64 0] 129)):=(Old.refl w4).alloc _;have mT:(w4.alloc (.cells #[.slice (some ⟨g,0,none⟩) (s.toks.length+1) cap,.int .i64 0] 129)).heap.size=w4.heap.size+1:=qyd _ _;have hc0:s.code=0:=by simpa using hc
  have HM:Hid (M0=Sx.treeW ck t.size (Sx.pProg s.toks)):=qya (by rw [HM.out,Sx.readW,if_pos hc0]);have HL:=qya tg;have Z40:=qya mT;clear tg ur z0 mT z2 z3 qR
  gi_wp2_with fail
  refine⟨trivial,callsIn_wide.2 ((bQ w4.heap.size (some ⟨g,0,none⟩) cap L s.toks t.size hL 0 _ jc (qyi _)).mono ?_)⟩;rintro e w5 ⟨f5,hp⟩;rw [List.drop_zero] at hp;have z0:=Z0.out;have mT:=Z40.out;have z5:=f5.size;have j4:=(xn.keep o4 (fun e=>e)).keep f5 (by omega);have lg:=(kZ4.keep o4 (fun e=>e)).keep f5 (by omega);have rz:=(lm.keep o4 (fun e=>e)).keep f5 (by omega);have rq:=(kE4.keep o4 (fun e=>e)).keep f5 (by omega);have wx:Fr (fun k=>w.heap.size≤k) w w5:=Fr.trans' (Fr.trans' (Fr.trans' (Fr.trans' ((F0.trans o1).mono (S':=fun k=>w.heap.size≤k) (fun k _ e=>e.elim)) F14 (fun k _ e=>e)) o4 (fun _ _ e=>e.elim)) f5 (fun k _ e=>by omega)) (Fr.refl (fun k=>w.heap.size≤k) w5) (fun k _ e=>e);cases hres:Sx.pProg s.toks with
  | bad rest=>
   rw [hres] at hp;have hp:e=panS (zah t.size rest):=hp;subst hp;have HR:=qya hres;clear hres;refine zax (by simp) (by simp [go_sem]) ?_;refine (zki _ (w.heap.size+1+1+1) w.heap.size (w.heap.size+1) (w.heap.size+1+1) _ _ _ _ _ (zah t.size rest) [] w5 lg j4 rz rq (by omega) (by omega) (by omega) (by omega) (by omega) (by omega)).mono ?_;rintro e u' w' ⟨rfl,rfl,o,rfl⟩;have bR6:Blk ((((((w5.setCell ⟨w.heap.size,0,none⟩ (.slice none 0 0))))))) w.heap.size #[.slice none 0 0] 25:=by
    have:=((((((j4.set 0 (.slice none 0 0)))))));simpa only [qxd,qxe,qxf] using this
   have bA6:Blk ((((((w5.setCell ⟨w.heap.size,0,none⟩ (.slice none 0 0))))))) (w.heap.size+1) _ _:=((((((rz.other ⟨w.heap.size,0,none⟩ (by simp) (.slice none 0 0)))))));have bE6:Blk ((((((w5.setCell ⟨w.heap.size,0,none⟩ (.slice none 0 0))))))) (w.heap.size+1+1) _ _:=((((((rq.other ⟨w.heap.size,0,none⟩ (by simp;omega) (.slice none 0 0)))))));have F6:Fr (fun k=>w.heap.size≤k) w ((((((w5.setCell ⟨w.heap.size,0,none⟩ (.slice none 0 0))))))):=((((((wx.setCell ⟨w.heap.size,0,none⟩ (fun _=>qyb _) (.slice none 0 0)))))));obtain⟨w6,be⟩ : ∃w6,((((((w5.setCell ⟨w.heap.size,0,none⟩ (.slice none 0 0)))))))=w6:=⟨_,rfl⟩;rw [be] at bR6 bA6 bE6 F6 ⊢;clear be;have eF:=(((bR6.other ⟨w.heap.size+1,0,none⟩ (by simp) (.int .i64 (zah t.size rest))).other ⟨w.heap.size+1+1,0,none⟩ (by simp;omega) (.int .i64 20)).alloc o).drew;have eP:Blk _ (w.heap.size+1) #[.int .i64 (zah t.size rest)] 3:=(((bA6.set 0 (.int .i64 (zah t.size rest))).other ⟨w.heap.size+1+1,0,none⟩ (by simp) (.int .i64 20)).alloc o).drew;have eH:Blk _ (w.heap.size+1+1) #[.int .i64 20] 26:=(((bE6.other ⟨w.heap.size+1,0,none⟩ (by simp) (.int .i64 (zah t.size rest))).set 0 (.int .i64 20)).alloc o).drew;have F7:=(((F6.setCell ⟨w.heap.size+1,0,none⟩ (fun _=>Nat.le_succ _) (.int .i64 (zah t.size rest))).setCell ⟨w.heap.size+1+1,0,none⟩ (fun _=>by show w.heap.size≤w.heap.size+1+1;omega) (.int .i64 20)).alloc o).drew;refine⟨_,zcr eF eP eH _ rfl rfl rfl,F7.mono (fun k hk e=>absurd hk (Nat.not_lt.2 e)),_,_,_,rfl,?_⟩;rw [HM.out,HR.out];exact⟨rfl,rfl,rfl⟩
  | ok x rest=>
   rw [hres] at hp;obtain⟨v,q',rfl,qq,qx,qX,lW,pg⟩:=hp;obtain⟨la,na,ca,rfl⟩:=pg.parts;have HM:Hid (M0=Sx.treeW ck t.size (.ok x (s.toks.drop q'))):=qya (by rw [HM.out,hres,qq]);have fW:Hid (∃r,Sx.pProg s.toks=.ok x r):=qya ⟨rest,hres⟩;clear hres qq;obtain⟨xt,hx⟩ : ∃xt,L[q']? = some xt:=⟨_,List.getElem?_eq_getElem (by omega)⟩;obtain⟨jb,hd2,vj⟩:=zc2 hL hx qX;have HX:=qya hx;have H3:=qya vj;have H1:=qya jb;clear hx jb hd2 vj;have hk:=zc5 xt;have r5_0:=j4.c 0 (.slice none 0 0) rfl;have r5f0:=j4.free 0;have hRl5:=j4.lt;have hZl5:=lg.lt;have hAl5:=rz.lt;have hEl5:=rq.lt;have S5:Fr (fun k=>k=w.heap.size) w5 ((((((w5.setCell ⟨w.heap.size,0,none⟩ (.slice la na ca))))))):=(((((((Fr.refl (fun k=>k=w.heap.size) w5).setCell ⟨w.heap.size,0,none⟩ (fun _=>rfl) (.slice la na ca)))))));have yH:Blk ((((((w5.setCell ⟨w.heap.size,0,none⟩ (.slice la na ca))))))) w.heap.size #[.slice la na ca] 25:=by
    have:=((((((j4.set 0 (.slice la na ca)))))));simpa only [qxd,qxe,qxf] using this
   gi_wp2_with fail
   have kZ6:=lg.keep S5 (by omega);have uX:=rz.keep S5 (by omega);have kE6:=rq.keep S5 (by omega);have pb:=lW.keep S5 (by omega) (fun g' kI=>by cases kI;show ¬g=w.heap.size;omega);obtain⟨w6,be⟩ : ∃w6,((((((w5.setCell ⟨w.heap.size,0,none⟩ (.slice la na ca)))))))=w6:=⟨_,rfl⟩;rw [be] at S5 yH kZ6 uX kE6 pb ⊢;clear be;refine⟨trivial,callsIn_wide.2 ((zbt w6 w4.heap.size (some ⟨g,0,none⟩) cap L q' pb xt HX.out).mono ?_)⟩;rintro e w7 ⟨rfl,o7⟩;have dJ:=yH.keep o7 (fun e=>e);have kZ7:=kZ6.keep o7 (fun e=>e);have kA7:=uX.keep o7 (fun e=>e);have kE7:=kE6.keep o7 (fun e=>e);have F07:Fr (fun k=>w.heap.size≤k) w w7:=Fr.trans' (Fr.trans' wx S5 (fun k _ e=>by omega)) o7 (fun _ _ e=>e.elim);have kT:=Blk.new w7 #[.int .i64 xt.k,.int .i64 xt.n,.string xt.s,.int .i64 xt.a] 59;obtain⟨t0,t1,t2,t3,-⟩:=kT.four;have o8:Old w7 (w7.alloc (.cells #[.int .i64 xt.k,.int .i64 xt.n,.string xt.s,.int .i64 xt.a] 59)):=(Old.refl w7).alloc _;have dQ:=dJ.keep o8 (fun e=>e);have nI:=kZ7.keep o8 (fun e=>e);have gH:=kA7.keep o8 (fun e=>e);have pA:=kE7.keep o8 (fun e=>e);cases hk0:(xt.k != 0)
   ·have qy:s.toks.drop q'=[]:=by
     by_cases xK:q'<s.toks.length
     ·exfalso;have h1:=H1.out;rw [List.drop_eq_getElem_cons xK] at h1;have h2:s.toks[q'].kind=xt.k:=h1;exact lR _ (List.getElem_mem xK) (by rw [h2];simpa using hk0)
     ·exact List.drop_eq_nil_of_le (by omega)
    have HM:Hid (M0=if ck x=0 then .ok x else .error (0,ck x)):=qya (by rw [HM.out,qy];rfl);clear qy;have cu:=F07.trans' o8 (fun _ _ e=>e.elim);have pw:=((pg.keep S5 (fun k hk e=>by omega)).keep o7 (fun _ _ e=>e)).keep o8 (fun _ _ e=>e);have t9:=hg.old (cu.mono (S':=fun _=>False) (fun k hk e=>absurd hk (Nat.not_lt.2 e)));have z58:=((S5.mono (S':=fun k=>w.heap.size≤k) (fun k _ e=>Nat.le_of_eq e.symm)).trans' (o7.trans o8) (fun _ _ e=>e.elim)).size;have r8_0:=dQ.c 0 (.slice la na ca) rfl
    gi_wp2_with fail
    obtain⟨w8,gI⟩ : ∃w8,w7.alloc (.cells #[.int .i64 xt.k,.int .i64 xt.n,.string xt.s,.int .i64 xt.a] 59)=w8:=⟨_,rfl⟩;rw [gI] at dQ nI gH pA cu pw t9 z58 ⊢;clear gI;refine⟨trivial,callsIn_wide.2 ((xH x fW.out _ _ w8 pw (fun k hk=>qyc hk.2 z58) t9).mono ?_)⟩;rintro e w9 ⟨rfl,o9⟩;have uT:=dQ.keep o9 (fun e=>e);have tS:=nI.keep o9 (fun e=>e);have bu:=gH.keep o9 (fun e=>e);have bz:=pA.keep o9 (fun e=>e);have lV:=pw.keep o9 (fun _ _ e=>e);have F09:=cu.trans' o9 (fun _ _ e=>e.elim);have vI:w.heap.size≤w.heap.size+1+1:=(by omega);have r9_0:=uT.c 0 (.slice la na ca) rfl;have r9f0:=uT.free 0;have z9_0:=tS.c 0 (.slice none 0 0) rfl;have a9c:=bu.c 0 (.int .i64 s.at_) rfl;have a9f:=bu.free 0;have e9c:=bz.c 0 (.int .i64 s.code) rfl;have e9f:=bz.free 0;have lR9:=uT.lt;have lA9:=bu.lt;have lE9:=bz.lt;have lZ9:=tS.lt;cases hz:(ck x != 0)
    ·gi_wp2;refine zax (by simp) (by simp [go_sem]) ?_;refine (zm9 _ _ _ _ _ _).mono ?_;rintro e u' w' ⟨rfl,rfl,o,rfl⟩;have FK:=((((((((((Fr.refl (fun k=>k=w.heap.size∨k=w.heap.size+1∨k=w.heap.size+1+1) w9).setCell ⟨w.heap.size+1+1,0,none⟩ (fun _=>.inr (.inr rfl)) (.int .i64 (ck x))).setCell ⟨w.heap.size,0,none⟩ (fun _=>.inl rfl) (.slice la na ca))))))).setCell ⟨w.heap.size+1,0,none⟩ (fun _=>.inr (.inl rfl)) (.int .i64 0)).setCell ⟨w.heap.size+1+1,0,none⟩ (fun _=>.inr (.inr rfl)) (.int .i64 0)).alloc o;have zk:=FK.size;have z9:=o9.size;have z14:=F14.size;refine⟨.tuple #[.agg #[.slice la na ca],.int .i64 0,.int .i64 0],zcr (TX:=25) (TY:=3) (TZ:=26) ?_ ?_ ?_ _ rfl rfl rfl,Fr.mono (S:=fun k=>w.heap.size≤k) ?_ (fun k hk e=>absurd hk (Nat.not_lt.2 e)),_,_,_,rfl,?_⟩
     ·have:=(((((((((uT.other ⟨w.heap.size+1+1,0,none⟩ (by simp;omega) (.int .i64 (ck x))).set 0 (.slice la na ca))))))).other ⟨w.heap.size+1,0,none⟩ (by simp) (.int .i64 0)).other ⟨w.heap.size+1+1,0,none⟩ (by simp;omega) (.int .i64 0)).alloc o;simpa only [qxd,qxe,qxf] using this
     ·exact ((((((((((bu.other ⟨w.heap.size+1+1,0,none⟩ (by simp) (.int .i64 (ck x))).other ⟨w.heap.size,0,none⟩ (by simp) (.slice la na ca))))))).set 0 (.int .i64 0)).other ⟨w.heap.size+1+1,0,none⟩ (by simp) (.int .i64 0)).alloc o)
     ·exact ((((((((((bz.set 0 (.int .i64 (ck x))).other ⟨w.heap.size,0,none⟩ (by simp;omega) (.slice la na ca))))))).other ⟨w.heap.size+1,0,none⟩ (by simp) (.int .i64 0)).set 0 (.int .i64 0)).alloc o)
     ·exact (((((((((F09.setCell ⟨w.heap.size+1+1,0,none⟩ (fun _=>vI) (.int .i64 (ck x))).setCell ⟨w.heap.size,0,none⟩ (fun _=>qyb _) (.slice la na ca))))))).setCell ⟨w.heap.size+1,0,none⟩ (fun _=>Nat.le_succ _) (.int .i64 0)).setCell ⟨w.heap.size+1+1,0,none⟩ (fun _=>vI) (.int .i64 0)).alloc o
     ·rw [HM.out,if_pos (by simpa using hz)];exact⟨rfl,rfl,zi7.more (fun k hk=>⟨by omega,by omega⟩) _ _ (lV.keep FK (fun k hk e=>by omega))⟩
    ·gi_wp2_with fail
     gi_region
     gi_wp2;refine zax (by simp) (by simp [go_sem]) ?_;refine (zm9 _ _ _ _ _ _).mono ?_;rintro e u' w' ⟨rfl,rfl,o,rfl⟩;refine⟨.tuple #[.agg #[.slice none 0 0],.int .i64 0,.int .i64 (ck x)],zcr (TX:=25) (TY:=3) (TZ:=26) ?_ ?_ ?_ _ rfl rfl rfl,Fr.mono (S:=fun k=>w.heap.size≤k) ?_ (fun k hk e=>absurd hk (Nat.not_lt.2 e)),_,_,_,rfl,?_⟩
     ·have:=(((((((((((uT.other ⟨w.heap.size+1+1,0,none⟩ (by simp;omega) (.int .i64 (ck x))).set 0 (.slice none 0 0))))))).other ⟨w.heap.size+1,0,none⟩ (by simp) (.int .i64 0)).other ⟨w.heap.size+1+1,0,none⟩ (by simp;omega) (.int .i64 (ck x))).drew).alloc o);simpa only [qxd,qxe,qxf] using this
     ·exact (((((((((((bu.other ⟨w.heap.size+1+1,0,none⟩ (by simp) (.int .i64 (ck x))).other ⟨w.heap.size,0,none⟩ (by simp) (.slice none 0 0))))))).set 0 (.int .i64 0)).other ⟨w.heap.size+1+1,0,none⟩ (by simp) (.int .i64 (ck x))).drew).alloc o)
     ·exact (((((((((((bz.set 0 (.int .i64 (ck x))).other ⟨w.heap.size,0,none⟩ (by simp;omega) (.slice none 0 0))))))).other ⟨w.heap.size+1,0,none⟩ (by simp) (.int .i64 0)).set 0 (.int .i64 (ck x))).drew).alloc o)
     ·exact (((((((((((F09.setCell ⟨w.heap.size+1+1,0,none⟩ (fun _=>vI) (.int .i64 (ck x))).setCell ⟨w.heap.size,0,none⟩ (fun _=>qyb _) (.slice none 0 0))))))).setCell ⟨w.heap.size+1,0,none⟩ (fun _=>Nat.le_succ _) (.int .i64 0)).setCell ⟨w.heap.size+1+1,0,none⟩ (fun _=>vI) (.int .i64 (ck x))).drew).alloc o)
     ·rw [HM.out,if_neg (by simpa using hz)];exact⟨rfl,rfl,rfl⟩
   ·gi_wp2;have cu:=F07.trans' o8 (fun _ _ e=>e.elim);obtain⟨w8,gI⟩ : ∃w8,w7.alloc (.cells #[.int .i64 xt.k,.int .i64 xt.n,.string xt.s,.int .i64 xt.a] 59)=w8:=⟨_,rfl⟩;rw [gI] at dQ nI gH pA cu ⊢;clear gI;refine zax (by simp) (by simp [go_sem]) ?_;refine (zki _ (w.heap.size+1+1+1) w.heap.size (w.heap.size+1) (w.heap.size+1+1) _ _ _ _ _ (xt.a) [] w8 nI dQ gH pA (by omega) (by omega) (by omega) (by omega) (by omega) (by omega)).mono ?_;rintro e u' w' ⟨rfl,rfl,o,rfl⟩;have tZ:Blk ((((((w8.setCell ⟨w.heap.size,0,none⟩ (.slice none 0 0))))))) w.heap.size #[.slice none 0 0] 25:=by
     have:=((((((dQ.set 0 (.slice none 0 0)))))));simpa only [qxd,qxe,qxf] using this
    have tK:Blk ((((((w8.setCell ⟨w.heap.size,0,none⟩ (.slice none 0 0))))))) (w.heap.size+1) _ _:=((((((gH.other ⟨w.heap.size,0,none⟩ (by simp) (.slice none 0 0)))))));have tV:Blk ((((((w8.setCell ⟨w.heap.size,0,none⟩ (.slice none 0 0))))))) (w.heap.size+1+1) _ _:=((((((pA.other ⟨w.heap.size,0,none⟩ (by simp;omega) (.slice none 0 0)))))));have sh:Fr (fun k=>w.heap.size≤k) w ((((((w8.setCell ⟨w.heap.size,0,none⟩ (.slice none 0 0))))))):=((((((cu.setCell ⟨w.heap.size,0,none⟩ (fun _=>qyb _) (.slice none 0 0)))))));obtain⟨cC,fq⟩ : ∃cC,((((((w8.setCell ⟨w.heap.size,0,none⟩ (.slice none 0 0)))))))=cC:=⟨_,rfl⟩;rw [fq] at tZ tK tV sh ⊢;clear fq;have eF:=(((tZ.other ⟨w.heap.size+1,0,none⟩ (by simp) (.int .i64 (xt.a))).other ⟨w.heap.size+1+1,0,none⟩ (by simp;omega) (.int .i64 20)).alloc o).drew;have eP:Blk _ (w.heap.size+1) #[.int .i64 (xt.a)] 3:=(((tK.set 0 (.int .i64 (xt.a))).other ⟨w.heap.size+1+1,0,none⟩ (by simp) (.int .i64 20)).alloc o).drew;have eH:Blk _ (w.heap.size+1+1) #[.int .i64 20] 26:=(((tV.other ⟨w.heap.size+1,0,none⟩ (by simp) (.int .i64 (xt.a))).set 0 (.int .i64 20)).alloc o).drew;have F7:=(((sh.setCell ⟨w.heap.size+1,0,none⟩ (fun _=>Nat.le_succ _) (.int .i64 (xt.a))).setCell ⟨w.heap.size+1+1,0,none⟩ (fun _=>by show w.heap.size≤w.heap.size+1+1;omega) (.int .i64 20)).alloc o).drew;refine⟨_,zcr eF eP eH _ rfl rfl rfl,F7.mono (fun k hk e=>absurd hk (Nat.not_lt.2 e)),_,_,_,rfl,?_⟩;rw [HM.out];obtain⟨y,r,xK,fa,-⟩:=zep hL HX.out (by simpa using hk0);have h3:=H3.out;rw [fa] at h3 ⊢;exact⟨rfl,h3.symm,rfl⟩
 ·gi_wp2_with fail
  gi_region
  gi_wp2;have ka:Fr (fun k=>w.heap.size≤k) w w1:=(F0.trans o1).mono (fun k _ e=>e.elim);have vI:w.heap.size≤w.heap.size+1+1:=by omega
  refine⟨.tuple #[.agg #[.slice none 0 0],.int .i64 s.at_,.int .i64 s.code],zcr (TX:=25) (TY:=3) (TZ:=26) ?_ ?_ ?_ _ rfl rfl rfl,Fr.mono (S:=fun k=>w.heap.size≤k) ?_ (fun k hk e=>absurd hk (Nat.not_lt.2 e)),_,_,_,rfl,?_⟩
  ·have:=((((((((((kU.other ⟨w.heap.size+1,0,none⟩ (by simp) (.int .i64 s.at_)).other ⟨w.heap.size+1+1,0,none⟩ (by simp;omega) (.int .i64 s.code)).set 0 (.slice none 0 0))))))).other ⟨w.heap.size+1,0,none⟩ (by simp) (.int .i64 s.at_)).other ⟨w.heap.size+1+1,0,none⟩ (by simp;omega) (.int .i64 s.code)).drew;simpa only [qxd,qxe,qxf] using this
  ·exact ((((((((((bw.set 0 (.int .i64 s.at_)).other ⟨w.heap.size+1+1,0,none⟩ (by simp) (.int .i64 s.code)).other ⟨w.heap.size,0,none⟩ (by simp) (.slice none 0 0))))))).set 0 (.int .i64 s.at_)).other ⟨w.heap.size+1+1,0,none⟩ (by simp) (.int .i64 s.code)).drew
  ·exact ((((((((((bk.other ⟨w.heap.size+1,0,none⟩ (by simp) (.int .i64 s.at_)).set 0 (.int .i64 s.code)).other ⟨w.heap.size,0,none⟩ (by simp;omega) (.slice none 0 0))))))).other ⟨w.heap.size+1,0,none⟩ (by simp) (.int .i64 s.at_)).set 0 (.int .i64 s.code)).drew
  ·exact ((((((((((ka.setCell ⟨w.heap.size+1,0,none⟩ (fun _=>Nat.le_succ _) (.int .i64 s.at_)).setCell ⟨w.heap.size+1+1,0,none⟩ (fun _=>vI) (.int .i64 s.code)).setCell ⟨w.heap.size,0,none⟩ (fun _=>qyb _) (.slice none 0 0))))))).setCell ⟨w.heap.size+1,0,none⟩ (fun _=>Nat.le_succ _) (.int .i64 s.at_)).setCell ⟨w.heap.size+1+1,0,none⟩ (fun _=>vI) (.int .i64 s.code)).drew
  ·rw [HM.out,Sx.readW,if_neg (by simpa using hc)];exact⟨rfl,rfl,rfl⟩
end Go.Proofs.YtclgbmmambkiaaaGreatDoor
namespace Lx
theorem zr0{l:List B}{k n:Int}{j:Nat}(h:next l=.tok k n j):k≠0:=by
 cases l with
 | nil=>rw [zlw] at h;cases h
 | cons c r=>
  by_cases ha:(za0 (peek (c::r) 0)||zao (peek (c::r) 0))=true
  ·rw [zcv ha] at h;unfold zb5 at h;simp only at h;split at h
   ·cases h
   ·split at h
    ·cases h;decide
    ·split at h <;> (cases h;decide)
  ·have uS:(za0 (peek (c::r) 0)||zao (peek (c::r) 0))=false:=by simpa using ha
   by_cases hb:peek (c::r) 0=39∧za0 (peek (c::r) 1)=true
   ·rw [next_var uS hb.1 hb.2] at h;unfold zck at h;simp only at h;split at h
    ·cases h
    ·cases h;decide
   ·by_cases hc:peek (c::r) 0=126∨zap (peek (c::r) 0)=true
    ·rw [zdo uS hb hc] at h;have hj:=zes h;unfold zcl at h;simp only at h;rw [← hj] at h;cases hn:zbz ((c::r).take j) with
     | none=>rw [hn] at h;cases h
     | some i=>
      rw [hn] at h;simp only at h;split at h
      ·cases h
      ·cases h;decide
    ·rw [zcu uS hb hc] at h;split at h
     ·cases h;decide
     ·split at h
      ·cases h;decide
      ·cases h
theorem zrg : ∀(m:Nat) (l:List B) (p:Nat) (ts:List Tok) (cs:List (Nat×Nat)),l.length≤m→scan l p=.ok ts cs→∀x∈ts,x.kind≠0:=by
 intro m
 induction m with
 | zero=>
  intro l p ts cs hl h;obtain rfl:l=[]:=List.eq_nil_of_length_eq_zero (by omega);cases h;simp
 | succ m ih=>
  intro l p ts cs hl h;cases l with
  | nil=>cases h;simp
  | cons c r=>
   simp only [List.length_cons] at hl;cases hs:zbk c
   ·cases hb:begins (c::r)
    ·rw [zch hs hb] at h;cases hn:next (c::r) with
     | err x=>rw [hn] at h;cases h
     | tok k n j=>
      rw [hn] at h;simp only at h;have hj:=zcw hn;have hk:=zr0 hn;obtain⟨ts',h',rfl⟩:=Scan.tok_ok h;have h2:=ih _ _ _ _ (by rw [List.length_drop,List.length_cons];omega) h';intro x hx;rcases List.mem_cons.1 hx with rfl | hx
      ·exact hk
      ·exact h2 x hx
    ·rw [zcq hs hb] at h;cases hn:zae (c::r) 0 0 with
     | closed n=>
      rw [hn] at h;simp only at h;obtain⟨a,b,co,ha,h2,hd,_,_⟩:=zey hn;obtain⟨cs',h',rfl⟩:=Scan.com_ok h;exact ih _ _ _ _ (by rw [List.length_drop,List.length_cons];omega) h'
     | «open» => rw [hn] at h;cases h
     | deep n=>rw [hn] at h;cases h
   ·rw [za9 hs] at h;exact ih _ _ _ _ (by omega) h
theorem zj8(l:List UInt8) : ∀x∈(Lx.upto l 20000).toks,x.kind≠0:=by
 unfold Lx.upto;split
 ·intro x hx;cases hx
 ·cases hs:Lx.scan l 0 with
  | ok ts cs=>exact zrg _ _ _ _ _ (Nat.le_refl _) hs
  | err p e=>intro x hx;cases hx
end Lx

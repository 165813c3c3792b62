/- Part 02 -/
import Derived.Test.YtclgbmmambkiaaaGreatDoorMb01
import Derived.Deep.RegionLaw
import Derived.Lib.IndexLaws
import Derived.Defers
import Derived.Recover
import Derived.RangeFuncKeeps
import Derived.RangeFuncLeaves
import Derived.RangeFuncCalls
import Derived.WalkKit
import Derived.OwnWalkIn
import Derived.TacticsInMore
import Derived.LoopNIn
import Derived.LoopIn
import Derived.Sort.LoopGhostIn
import Derived.BigRegion
import Derived.StillTailTactics
import Derived.RecoverIn
import Derived.Maps.AppendAt
set_option maxRecDepth 100000
set_option maxHeartbeats 4000000
set_option linter.unusedVariables false
set_option linter.unusedSimpArgs false
namespace Go.Proofs.YtclgbmmambkiaaaGreatDoor
open Go.RowKit
theorem zdy{l:List UInt8}{x y:UInt8}(h:two l x y=true) : ∃r,l=x::y::r:=by
 unfold two Lib.hasPrefix at h;rw [List.isPrefixOf_iff_prefix] at h;obtain⟨r,hr⟩:=h;exact⟨r,hr.symm⟩
theorem zhk{l:List UInt8}(h:two l 40 42=true){k:Nat}(hk:k≠100)(n:Nat):Lx.zae l k n=Lx.zae (l.drop 2) (k+1) (n+2):=by
 obtain⟨r,rfl⟩:=zdy h;rw [Lx.zae,if_neg hk];rfl
theorem zn7{l:List UInt8}(h:two l 40 42=true)(n:Nat):Lx.zae l 100 n=.deep n:=by
 obtain⟨r,rfl⟩:=zdy h;rw [Lx.zae,if_pos rfl]
theorem zmf{l:List UInt8}(h:two l 42 41=true)(k n:Nat):Lx.zae l k n=if k≤1 then .closed (n+2) else Lx.zae (l.drop 2) (k-1) (n+2):=by
 obtain⟨r,rfl⟩:=zdy h;rw [Lx.zae];rfl
theorem zn6{c:UInt8}{r:List UInt8}(h1:two (c::r) 40 42=false)(h2:two (c::r) 42 41=false)(k n:Nat):Lx.zae (c::r) k n=Lx.zae r k (n+1):=by
 rw [Lx.zae]
 ·rintro r' hc hr;rw [hc,hr] at h1;simp [two,Lib.hasPrefix] at h1
 ·rintro r' hc hr;rw [hc,hr] at h2;simp [two,Lib.hasPrefix] at h2
theorem zpt(k n:Nat):Lx.zae [] k n=.open:=by rw [Lx.zae]
def zzc(l:List UInt8)(n k:Nat):Prop:=k≤100∧(0<k∨n=0)∧Lx.zae l 0 0=Lx.zae (l.drop n) k n
def zzd(l:List UInt8)(n k:Nat):Prop:=k=0∧0<n∧Lx.zae l 0 0=.closed n
def ze5(L:List (Nat×Nat)):List Value:=L.flatMap fun x=>[.int .i64 x.1,.int .i64 x.2]
theorem zjv(L:List (Nat×Nat))(a c:Nat):ze5 (L++[(a,c)])=ze5 L++[.int .i64 a,.int .i64 c]:=by
 unfold ze5;rw [List.flatMap_append];rfl
def Cm(w:World)(b:Nat)(v:Value)(L:List (Nat×Nat)):Prop:=w.ownsRow (b+1) 270 2 v L.length (ze5 L)
theorem Cm.keep{S:Nat→Prop}{w w':World}{b:Nat}{v:Value}{L:List (Nat×Nat)}(h:Cm w b v L)(hf:Fr S w w')(hn : ∀k,v.ownBlock=some k→¬S k):Cm w' b v L:=by
 obtain⟨h1,h2⟩:=h;refine⟨h1,?_⟩;rcases h2 with h2 | ⟨g,cap,vy,hv,hg,hh,r⟩
 ·exact Or.inl h2
 ·subst hv;exact Or.inr ⟨g,cap,vy,rfl,hg,hf.heap hh (hn g rfl),r⟩
theorem Cm.ge{w:World}{b:Nat}{v:Value}{L:List (Nat×Nat)}(h:Cm w b v L){k:Nat}(hk:v.ownBlock=some k):b+1≤k:=by
 obtain⟨_,h2⟩:=h;rcases h2 with ⟨h2,_⟩ | ⟨g,cap,vy,hv,hg,_⟩
 ·subst h2;cases hk
 ·subst hv;cases hk;exact hg
theorem Cm.cells{w:World}{b:Nat}{v:Value}{L:List (Nat×Nat)}(h:Cm w b v L){k:Nat}(hk:v.ownBlock=some k) : ∃cs,w.heap[k]? = some (.cells cs 270 (0,0)):=by
 obtain⟨_,h2⟩:=h;rcases h2 with ⟨h2,_⟩ | ⟨g,cap,vy,hv,hg,hh,_⟩
 ·subst h2;cases hk
 ·subst hv;cases hk;exact⟨_,hh⟩
theorem Cm.but{w w':World}{b:Nat}{v:Value}{L:List (Nat×Nat)}(h:Cm w b v L)(hf:But b w w'):Cm w' b v L:=
 h.keep hf (fun k hk e=>by have:=h.ge hk;omega)
theorem Cm.old{w w':World}{b:Nat}{v:Value}{L:List (Nat×Nat)}(h:Cm w b v L)(hf:Old w w'):Cm w' b v L:=h.keep hf (fun _ _ e=>e)
theorem St.com{w:World}{b:Nat}{t:ByteArray}{p:Nat}{v:Value}(h:St w b t p v):w.cell? ⟨b,9,none⟩=some v:=let ⟨_,h,_,h3⟩:=h;h.cell (i:=7) h3
theorem zig{P:Program}{ops:Array Oper}{o:Oper}{a:Act}{w:World}{K:Act→World→Prop}{Q:Exit→Act→World→Prop}{E:Prop}
  (hg:o.guard=none)(s x:Operand)(t:TypeId)(fB:o.op=Op.call { callee:=Callee.builtin Builtin.append,args:=#[s,x],argTypes:=#[t,t] })
  (base:Nat)(e:TypeId)(i:TypeInfo)(z:Value)(size bytes:Nat)(h1:P.underlying t=some (.slice e))(h2:P.info? e=some i)(h3:i.zero=some z)(h4:i.size=size)(h5:i.bytes=bytes)(h6:z.cells.size=size)(h7:0<size)
  (v:Value)(n:Nat)(xs:List Value)(hs:a.eval s=v)(qz:w.ownsRow base e size v n xs)
  (ad:Addr)(m c:Nat)(jw:List Value)(hx:a.eval x=.slice (some ad) m c)(hn:jw.length=m*size)(hc : ∀j u,jw[j]? = some u→w.cell? (ad.add j)=some u)(h1c : ∀u∈jw,u.oneCell'=true)
  (b1:n+m≤maxLen)(b2:(n+m)*bytes≤140737488355328)(ua:base≤w.heap.size)
  (hK : ∀v' w',w'.ownsRow base e size v' (n+m) (xs++jw)→w.grownBy w' v.ownBlock→K (a.put o.dst v') w') :
  if Region.wanted o (yielded ops a.tmps)=true then Oper.wp P o a w K Q else E:=by
 have hw:Region.wanted o (yielded ops a.tmps)=true:=by simp [Region.wanted,hg]
 rw [if_pos hw];exact wp_append_own w s x t fB base e i z size bytes h1 h2 h3 h4 h5 h6 h7 v n xs hs qz ad m c jw hx hn hc h1c b1 b2 ua (fun v' w' r1 r2 _=>hK v' w' r1 r2)
theorem zwp:(Tryz.prog.info? 270).map (fun i=>(i.zero,i.size,i.bytes))=some (some (.agg #[.int .i64 0,.int .i64 0]),2,16):=by kernel_rfl
theorem St.putCom{w:World}{b:Nat}{t:ByteArray}{p:Nat}{v:Value}(h:St w b t p v)(u:Value):St (w.setCell ⟨b,9,none⟩ u) b t p u:=by
 obtain⟨r,h1,h2,h3⟩:=h;have hw:=h2.but h1 ((But.refl b w).setCell ⟨b,9,none⟩ (fun _=>rfl) u);refine⟨r.setIfInBounds 7 u,h1.put 7 u,⟨by rw [Array.size_setIfInBounds];exact h2.size,fun i hi => ?_⟩,?_⟩
 ·rw [Array.getElem?_setIfInBounds_ne (by omega)];exact hw.at_ i hi
 ·rw [Array.getElem?_setIfInBounds_self_of_lt (by rw [h2.size];omega)]
theorem zr2(w:World)(T:TypeId)(l:Array Value) : ∀(j:Nat) (u:Value),l.toList[j]? = some u→((w.alloc (.cells l T (0,0))).drew).cell? ((⟨w.heap.size,0,none⟩:Addr).add j)=some u:=by
 intro j u hj;have h:Blk ((w.alloc (.cells l T (0,0))).drew) w.heap.size l T:=(Blk.new w l T).drew;have e:(⟨w.heap.size,0,none⟩:Addr).add j=⟨w.heap.size,j,none⟩:=by
  cases j with
  | zero=>rfl
  | succ j=>simp [Addr.add]
 rw [e];exact h.cell (i:=j) (v:=u) (by simpa using hj)
theorem zqf{w:World}{base:Nat}{e:TypeId}{size:Nat}{v:Value}{n:Nat}{xs:List Value}(h:w.ownsRow base e size v (n+1) xs) : ∃g cap,v=.slice (some ⟨g,0,none⟩) (n+1) cap:=by
 obtain⟨_,h2⟩:=h;rcases h2 with ⟨_,h2⟩ | ⟨g,cap,vy,hv,_⟩
 ·omega
 ·exact⟨g,cap,hv⟩
def zy9(b:Nat)(w:World)(k:Nat):Prop:=k=b∨(b<k∧∃cs f,w.heap[k]? = some (.cells cs 270 f))
abbrev Frc(b:Nat)(w w':World):Prop:=Fr (zy9 b w) w w'
theorem Frc.trans{b:Nat}{w w1 w2:World}(h:Frc b w w1)(k:Frc b w1 w2):Frc b w w2:=
 Fr.trans' h k (fun i hi hs=>by
  rcases hs with e | ⟨hb,cs,f,hc⟩
  ·exact .inl e
  ·by_cases hS:zy9 b w i
   ·exact hS
   ·rw [h.block i hi hS] at hc;exact .inr ⟨hb,cs,f,hc⟩)
theorem But.frc{b:Nat}{w w':World}(h:But b w w'):Frc b w w':=h.mono (fun _ _ e=>.inl e)
theorem Old.frc{w w':World}(h:Old w w')(b:Nat):Frc b w w':=Fr.old h
theorem Frc.below{b:Nat}{w w':World}(h:Frc b w w')(hb:b≤w.heap.size):Below b w w':=
 Fr.below h hb (fun k e=>by rcases e with e | ⟨e,_⟩ <;> omega)
theorem Frc.heap{b:Nat}{w w':World}(h:Frc b w w'){k:Nat}{o:Obj}(hk:w.heap[k]? = some o)(hb:k≠b)(ho : ∀cs f,o≠.cells cs 270 f):w'.heap[k]? = some o:=
 Fr.heap h hk (fun e=>by
  rcases e with e | ⟨_,cs,f,hc⟩
  ·exact hb e
  ·rw [hk] at hc;exact ho cs f (qyj hc))
theorem Frc.blk{b:Nat}{w w':World}(h:Frc b w w'){k:Nat}{cs:Array Value}{T:TypeId}(hk:Blk w k cs T)(hb:k≠b)(hT:T≠270):Blk w' k cs T:=
 Frc.heap h hk hb (fun cs' f e=>by cases e;exact hT rfl)
def zyo(w:World)(b:Nat)(t:ByteArray)(p:Nat)(v:Value)(L:List (Nat×Nat))(e:Ending)(w':World):Lx.Com→Prop
 | .closed n=>e=.returned (.tuple #[])∧∃v',St w' b t (p+n) v'∧Cm w' b v' (L++[(p,p+n)])∧Frc b w w'
 | .open=>e=pan p 12∧But b w w'
 | .deep n=>e=pan ((p+n:Nat):Int) 6∧But b w w'
theorem zpu(w:World)(b:Nat)(t:ByteArray)(p:Nat)(v:Value)(h:St w b t p v)(L:List (Nat×Nat))(hL:Cm w b v L)(hlen:L.length≤1000000)(en:Hid (two (rest t p) 40 42=true)) :
  Calls Tryz.prog 243 #[.pointer (some ⟨b,0,none⟩)] w fun e w'=>zyo w b t p v L e w' (Lx.zae (rest t p) 0 0):=by
 have hc0:=h.text;have hc1:=h.pos;have hs:=h.sz;have qX:=h.le
 go_enter Tryz.func243,Tryz.ntmps243
 go_wp2
 go_loopg [3] (t.size-p) (fun g s3 wr=>∃n k:Nat,g=t.size-(p+n)∧s3=.int .i64 k∧St wr b t (p+n) v∧But b w wr∧(zzc (rest t p) n k∨zzd (rest t p) n k))
 case atStart=>exact⟨0,0,rfl,rfl,h,But.refl b w,.inl ⟨by omega,.inr rfl,rfl⟩⟩
 case round=>
  obtain⟨n,k,hg,rfl,hS,hF,hR⟩:=hrel;have HG:=qya hg;clear hg hc0 hc1;have q0:=hS.text;have q1:=hS.pos;have q2:=hS.free 1;have vG:=hS.le;rcases hR with hR | hR
  ·have qW:(rest t p).drop n=rest t (p+n):=(by unfold rest;rw [List.drop_drop]);have hk100:=hR.1;have cV:=qya hR.2.2;rw [qW] at cV;clear qW;have hk1:Hid ((((k:Int)>0)∧0<k)∨(k=0∧n=0)):=qya (by have:=hR.2.1;omega);clear hR
   by_cases qy:p+n<t.size
   ·have hd:Hid (decide (t.size≤p+n)=false):=qya (by simp;omega);cases hB:two (rest t (p+n)) 40 42
    ·have HB:=qya hB;clear hB;have hkp:0<(k:Int):=by
      rcases hk1.out with ⟨h1,h2⟩ | ⟨h1,h2⟩
      ·exact h1
      ·subst h2;have:=HB.out;rw [Nat.add_zero,en.out] at this;cases this
     have hkp':0<k:=(by omega);cases hE:two (rest t (p+n)) 42 41
     ·have HE:=qya hE;clear hE
      go_wp2_with fail
      refine (hS.done hd).mono ?_;rintro e w1 ⟨rfl,m1,rfl⟩
      go_wp2_with fail
      refine ((hS.drewN _).begins 40 42 HB).mono ?_;rintro e w1 ⟨rfl,m2,rfl⟩
      go_wp2_with fail
      refine ((hS.drewN _).begins 40 42 HB).mono ?_;rintro e w1 ⟨rfl,m3,rfl⟩
      go_wp2_with fail
      refine ((hS.drewN _).begins 42 41 HE).mono ?_;rintro e w1 ⟨rfl,m4,rfl⟩;have q5:=(hS.drewN (m1+m2+m3+m4)).text;have q6:=(hS.drewN (m1+m2+m3+m4)).pos;have q7:=(hS.drewN (m1+m2+m3+m4)).free 1;go_wp2
      go_roundg (t.size-(p+n+1))
      case measure=>have:=HG.out;omega
      case rel=>
       refine⟨n+1,k,rfl,rfl,(hS.drewN (m1+m2+m3+m4)).move (p+n+1) (by omega),(hF.drewN (m1+m2+m3+m4)).setCell ⟨b,1,none⟩ (fun _=>rfl) _,?_⟩;have fa:rest t (p+n+1)=(rest t (p+n)).drop 1:=(by unfold rest;rw [List.drop_drop]);have pQ:(rest t p).drop (n+1)=rest t (p+n+1):=(by unfold rest;rw [List.drop_drop,Nat.add_assoc]);refine .inl ⟨hk100,.inl hkp',?_⟩;rw [cV.out,pQ];have hcons : ∃c,rest t (p+n)=c::rest t (p+n+1):=⟨t[p+n],by unfold rest;rw [List.drop_eq_getElem_cons (by simpa using qy)];rfl⟩;obtain⟨c,hc⟩:=hcons;have e1:=HB.out;have e2:=HE.out;rw [hc] at e1 e2 ⊢;exact zn6 e1 e2 k n
     ·have HE:=qya hE;clear hE;have sL:p+n+2≤t.size:=by
       obtain⟨r,hr⟩:=zdy HE.out;have h1:(rest t (p+n)).length=t.size-(p+n):=(by simp [rest]);rw [hr] at h1;simp only [qxh] at h1;omega
      go_wp2_with fail
      refine (hS.done hd).mono ?_;rintro e w1 ⟨rfl,m1,rfl⟩
      go_wp2_with fail
      refine ((hS.drewN _).begins 40 42 HB).mono ?_;rintro e w1 ⟨rfl,m2,rfl⟩
      go_wp2_with fail
      refine ((hS.drewN _).begins 40 42 HB).mono ?_;rintro e w1 ⟨rfl,m3,rfl⟩
      go_wp2_with fail
      refine ((hS.drewN _).begins 42 41 HE).mono ?_;rintro e w1 ⟨rfl,m4,rfl⟩;have q5:=(hS.drewN (m1+m2+m3+m4)).text;have q6:=(hS.drewN (m1+m2+m3+m4)).pos;have q7:=(hS.drewN (m1+m2+m3+m4)).free 1;go_wp2
      go_roundg (t.size-(p+n+2))
      case measure=>have:=HG.out;omega
      case rel=>
       refine⟨n+2,k-1,rfl,congrArg (Value.int .i64) (by omega),(hS.drewN (m1+m2+m3+m4)).move (p+n+2) (by omega),(hF.drewN (m1+m2+m3+m4)).setCell ⟨b,1,none⟩ (fun _=>rfl) _,?_⟩;have fa:rest t (p+n+2)=(rest t (p+n)).drop 2:=(by unfold rest;rw [List.drop_drop]);have pQ:(rest t p).drop (n+2)=rest t (p+n+2):=(by unfold rest;rw [List.drop_drop,Nat.add_assoc]);have fR:=zmf HE.out k n
       by_cases hk:k=1
       ·refine .inr ⟨by omega,by omega,?_⟩;rw [cV.out,fR,if_pos (by omega)]
       ·refine .inl ⟨by omega,.inl (by omega),?_⟩;rw [cV.out,fR,if_neg (by omega),pQ,fa]
    ·have HB:=qya hB;clear hB;rcases hk1.out with ⟨hkp,hkp'⟩ | ⟨h1,h2⟩
     ·by_cases hk:k=100
      ·subst hk
       go_wp2_with fail
       refine (hS.done hd).mono ?_;rintro e w1 ⟨rfl,m1,rfl⟩
       go_wp2_with fail
       refine ((hS.drewN _).begins 40 42 HB).mono ?_;rintro e w1 ⟨rfl,m2,rfl⟩;have q5:=(hS.drewN (m1+m2)).text;have q6:=(hS.drewN (m1+m2)).pos;have q7:=(hS.drewN (m1+m2)).free 1;go_wp2;refine⟨rfl,?_⟩;rw [cV.out,zn7 HB.out];exact⟨rfl,hF.drewN _⟩
      ·have hk':((k:Int)==100)=false:=beq_eq_false_iff_ne.2 (by omega);have sL:p+n+2≤t.size:=by
        obtain⟨r,hr⟩:=zdy HB.out;have h1:(rest t (p+n)).length=t.size-(p+n):=(by simp [rest]);rw [hr] at h1;simp only [qxh] at h1;omega
       go_wp2_with fail
       refine (hS.done hd).mono ?_;rintro e w1 ⟨rfl,m1,rfl⟩
       go_wp2_with fail
       refine ((hS.drewN _).begins 40 42 HB).mono ?_;rintro e w1 ⟨rfl,m2,rfl⟩
       go_wp2_with fail
       refine ((hS.drewN _).begins 40 42 HB).mono ?_;rintro e w1 ⟨rfl,m3,rfl⟩;have q5:=(hS.drewN (m1+m2+m3)).text;have q6:=(hS.drewN (m1+m2+m3)).pos;have q7:=(hS.drewN (m1+m2+m3)).free 1;go_wp2
       go_roundg (t.size-(p+n+2))
       case measure=>have:=HG.out;omega
       case rel=>
        refine⟨n+2,k+1,rfl,rfl,(hS.drewN (m1+m2+m3)).move (p+n+2) (by omega),(hF.drewN (m1+m2+m3)).setCell ⟨b,1,none⟩ (fun _=>rfl) _,?_⟩;have fa:rest t (p+n+2)=(rest t (p+n)).drop 2:=(by unfold rest;rw [List.drop_drop]);have pQ:(rest t p).drop (n+2)=rest t (p+n+2):=(by unfold rest;rw [List.drop_drop,Nat.add_assoc]);refine .inl ⟨by omega,.inl (by omega),?_⟩;rw [cV.out,zhk HB.out (by omega),pQ,fa]
     ·subst h1;subst h2;have hst:(((p+0:Nat):Int)==(p:Int))=true:=beq_iff_eq.2 (by omega);have sL:p+0+2≤t.size:=by
       obtain⟨r,hr⟩:=zdy HB.out;have h1:(rest t (p+0)).length=t.size-(p+0):=(by simp [rest]);rw [hr] at h1;simp only [qxh] at h1;omega
      go_wp2_with fail
      refine (hS.done hd).mono ?_;rintro e w1 ⟨rfl,m1,rfl⟩
      go_wp2_with fail
      refine ((hS.drewN _).begins 40 42 HB).mono ?_;rintro e w1 ⟨rfl,m2,rfl⟩
      go_wp2_with fail
      refine ((hS.drewN _).begins 40 42 HB).mono ?_;rintro e w1 ⟨rfl,m3,rfl⟩;have q5:=(hS.drewN (m1+m2+m3)).text;have q6:=(hS.drewN (m1+m2+m3)).pos;have q7:=(hS.drewN (m1+m2+m3)).free 1;go_wp2
      go_roundg (t.size-(p+0+2))
      case measure=>have:=HG.out;omega
      case rel=>
       refine⟨0+2,0+1,rfl,rfl,(hS.drewN (m1+m2+m3)).move (p+0+2) (by omega),(hF.drewN (m1+m2+m3)).setCell ⟨b,1,none⟩ (fun _=>rfl) _,?_⟩;have fa:rest t (p+0+2)=(rest t (p+0)).drop 2:=(by unfold rest;rw [List.drop_drop]);have pQ:(rest t p).drop (0+2)=rest t (p+0+2):=(by unfold rest;rw [List.drop_drop,Nat.add_assoc]);refine .inl ⟨by omega,.inl (by omega),?_⟩;rw [cV.out,zhk HB.out (by omega),pQ,fa]
   ·have hd:Hid (decide (t.size≤p+n)=true):=qya (by simp;omega);have hkp:0<(k:Int):=by
     rcases hk1.out with ⟨h1,h2⟩ | ⟨h1,h2⟩
     ·exact h1
     ·subst h2;obtain⟨r,hr⟩:=zdy en.out;have h1:(rest t p).length=t.size-p:=(by simp [rest]);rw [hr] at h1;simp only [qxh] at h1;omega
    go_wp2_with fail
    refine (hS.done hd).mono ?_;rintro e w1 ⟨rfl,m1,rfl⟩;go_wp2;refine⟨rfl,?_⟩;have hnil:rest t (p+n)=[]:=(by unfold rest;exact List.drop_eq_nil_of_le (by simpa using Nat.not_lt.1 qy));rw [cV.out,hnil,zpt];exact⟨rfl,hF.drewN _⟩
  ·have hk:=hR.1;have hn:=hR.2.1;subst hk;have e1:(((p+n:Nat):Int)==(p:Int))=false:=beq_eq_false_iff_ne.2 (by omega);have q3:=hS.com;have q4:=hS.free 9;go_wp2;obtain⟨i0,hi,qw,j5,jE⟩:=info_parts zwp;have hC:Cm wr b v L:=hL.but hF;have mq:=hS.lt;have hnb:Hid (¬v.ownBlock=some b):=qya (fun e=>by have:=hC.ge e;omega);have fR:Hid (∀k,v.ownBlock=some k→∃cs T f,wr.heap[k]? = some (.cells cs T f)):=qya (fun k e=>by obtain⟨cs,qn⟩:=hC.cells e;exact⟨cs,_,_,qn⟩);have mj : ∀o,b+1≤((wr.alloc o).drew).heap.size:=fun o=>by have:=qyd wr o;show b+1≤(wr.alloc o).heap.size;omega
   have hc1:=qya (zr2 wr 270 #[.int .i64 p,.int .i64 ((p:Int)+(n:Int))]);have hc2:Hid (∀u∈([.int .i64 p,.int .i64 ((p:Int)+(n:Int))]:List Value),u.oneCell'=true):=qya (by intro u hu;simp at hu;rcases hu with rfl | rfl <;> rfl)
   go_region_law (refine zig rfl (.tmp 89) (.tmp 97) 167 rfl (b+1) 270 i0 (.agg #[.int .i64 0,.int .i64 0]) 2 16 Tryz.underlying167 hi qw j5 jE rfl (by decide) v L.length (ze5 L) (by simp [Act.eval,Act.put]) (hC.old ((Old.refl wr).alloc _).drew) ⟨wr.heap.size,0,none⟩ 1 1 [.int .i64 p,.int .i64 ((p:Int)+(n:Int))] (by simp [Act.eval,Act.put]) rfl hc1.out hc2.out (by unfold maxLen;omega) (by omega) (mj _) ?_;intro v' w1 qz xU;have gw:=(((Fr.refl (fun k=>v.ownBlock=some k) wr).alloc _).drew).grown xU (fun k e _=>e);have hS1:=hS.keep gw hnb.out fR.out;have d9:=hS1.com;have f9:=hS1.free 9;have hv:=zqf qz;obtain⟨g,cap,hv⟩:=hv;subst hv)
   all_goals
    go_end0
    rw [hR.2.2];refine⟨rfl,_,hS1.putCom _,?_,?_⟩
    ·refine Cm.but ?_ ((But.refl b w1).setCell ⟨b,9,none⟩ (fun _=>rfl) _);unfold Cm;rw [zjv,qye,show ((p+n:Nat):Int)=(p:Int)+(n:Int) from by omega];exact qz
    ·refine Frc.trans hF.frc (Fr.setCell ?_ ⟨b,9,none⟩ (fun _=>.inl rfl) _);exact gw.mono (fun k _ e=>.inr ⟨by have:=hC.ge e;omega,by obtain⟨cs,qn⟩:=hC.cells e;exact⟨cs,_,qn⟩⟩)
theorem zdg(t:ByteArray)(p n:Nat):(t.extract p (p+n)).data.toList=(rest t p).take n:=by
 unfold rest;rw [ByteArray.data_extract,Array.toList_extract,List.extract_eq_take_drop]
 congr 1
 omega
theorem zca(t:ByteArray)(p n:Nat):(rest t p).drop n=rest t (p+n):=by unfold rest;rw [List.drop_drop]
theorem ztx(l:List UInt8)(j k:Nat):Lx.peek (l.drop j) k=Lx.peek l (j+k):=by
 unfold Lx.peek;rw [List.getD_eq_getElem?_getD,List.getElem?_drop,List.getD_eq_getElem?_getD]
theorem ziw(t:ByteArray)(p j k:Nat):Lx.peek (rest t (p+j)) k=Lx.peek (rest t p) (j+k):=by
 rw [← zca,ztx]
theorem zbh(t:ByteArray)(p:Nat):(rest t p).length=t.size-p:=by simp [rest]
theorem zi0{l:List UInt8}{k:Nat}(h:Lx.peek l k≠0):k<l.length:=by
 rcases Nat.lt_or_ge k l.length with h' | h'
 ·exact h'
 ·exact absurd (by unfold Lx.peek;rw [List.getD_eq_getElem?_getD,List.getElem?_eq_none h'];rfl) h
theorem zw2{c:UInt8}(h:Lx.zap c=true):c≠0:=by rintro rfl;exact absurd h (by decide)
theorem zb9(c:UInt8)(k:Nat)(hk:k<256):((c.toNat:Int)=k) ↔ c=UInt8.ofNat k:=by
 constructor
 ·intro h;apply UInt8.toNat_inj.1;rw [UInt8.toNat_ofNat',Nat.mod_eq_of_lt hk];omega
 ·rintro rfl;rw [UInt8.toNat_ofNat',Nat.mod_eq_of_lt hk]
def NextPost(w:World)(b:Nat)(t:ByteArray)(p:Nat)(v:Value)(e:Ending)(w':World):Lx.Next→Prop
 | .tok k n j=>e=.returned (tokV k n (t.extract p (p+j)) p)∧St w' b t (p+j) v∧But b w w'
 | .err x=>e=pan p x∧But b w w'
theorem NextPost.tok{w:World}{b:Nat}{t:ByteArray}{p:Nat}{v:Value}{e:Ending}{w':World}{x:Lx.Next}{k n:Int}{j:Nat}(hx:x=.tok k n j)
  (h:e=.returned (tokV k n (t.extract p (p+j)) p)∧St w' b t (p+j) v∧But b w w'):NextPost w b t p v e w' x:=by subst hx;exact h
theorem NextPost.err{w:World}{b:Nat}{t:ByteArray}{p:Nat}{v:Value}{e:Ending}{w':World}{x:Lx.Next}{k:Int}(hx:x=.err k)
  (h:e=pan p k∧But b w w'):NextPost w b t p v e w' x:=by subst hx;exact h
def zg7(k:Int)(l:List UInt8):Lx.Next:=
 if 24<Lx.zas l then .err 2 else .tok (if Lx.isWord (l.take (Lx.zas l))=true then 5 else k) 0 (Lx.zas l)
theorem zqi(w:World)(b:Nat)(t:ByteArray)(p:Nat)(v:Value)(h:St w b t p v)(k:Int) :
  Calls Tryz.prog 246 #[.pointer (some ⟨b,0,none⟩),.int .i64 k] w fun e w'=>NextPost w b t p v e w' (zg7 k (rest t p)):=by
 have qX:=h.le;have sH:=Lx.zc0 Lx.part (rest t p);rw [zbh] at sH;have hj:p+Lx.span Lx.part (rest t p)≤t.size:=by omega
 have hc:=ziw t p (Lx.span Lx.part (rest t p)) 0;have hd:=ziw t p (Lx.span Lx.part (rest t p)) 1
 by_cases h1:Lx.peek (rest t p) (Lx.span Lx.part (rest t p)+0)=39
 ·cases h2:Lx.zap (Lx.peek (rest t p) (Lx.span Lx.part (rest t p)+1))
  ·have hN:Lx.zas (rest t p)=Lx.span Lx.part (rest t p):=by
    unfold Lx.zas;simp only;rw [if_neg (by rw [h2];simp)]
   by_cases hl:24<Lx.span Lx.part (rest t p)
   ·exact (zi4 w b t p v h k _ _ _ rfl hc hd ((zb9 _ 39 (by decide)).2 h1) h2 hj hl).mono (fun e w' hh=>NextPost.err (by unfold zg7;rw [hN,if_pos hl]) hh)
   ·exact (zr3 w b t p v h k _ _ _ _ rfl hc hd ((zb9 _ 39 (by decide)).2 h1) h2 hj (by omega) rfl).mono (fun e w' hh=>NextPost.tok (by unfold zg7;rw [hN,if_neg hl,zdg]) hh)
  ·have hN:Lx.zas (rest t p)=Lx.span Lx.part (rest t p)+1+Lx.span Lx.zap (rest t (p+Lx.span Lx.part (rest t p)+1)):=by
    unfold Lx.zas;simp only;rw [if_pos ⟨by simpa using h1,h2⟩,zca];rfl
   have hl1:=zi0 (zw2 h2);rw [zbh] at hl1;have hsl2:=Lx.zc0 Lx.zap (rest t (p+Lx.span Lx.part (rest t p)+1));rw [zbh] at hsl2
   by_cases hl:24<Lx.zas (rest t p)
   ·exact (zhp w b t p v h k (Lx.span Lx.part (rest t p)) (Lx.zas (rest t p)) _ _ rfl hc hd ((zb9 _ 39 (by decide)).2 h1) h2 (by omega) (by omega) (by omega) hl).mono (fun e w' hh=>NextPost.err (by unfold zg7;rw [if_pos hl]) hh)
   ·exact (zoz w b t p v h k (Lx.span Lx.part (rest t p)) (Lx.zas (rest t p)) _ _ _ rfl hc hd ((zb9 _ 39 (by decide)).2 h1) h2 (by omega) (by omega) (by omega) (by omega) rfl).mono (fun e w' hh=>NextPost.tok (by unfold zg7;rw [if_neg hl,zdg]) hh)
 ·have hN:Lx.zas (rest t p)=Lx.span Lx.part (rest t p):=by
   unfold Lx.zas;simp only;rw [if_neg (fun e=>h1 e.1)]
  have yd : ¬((Lx.peek (rest t p) (Lx.span Lx.part (rest t p)+0)).toNat:Int)=39:=fun e=>h1 ((zb9 _ 39 (by decide)).1 e)
  by_cases hl:24<Lx.span Lx.part (rest t p)
  ·exact (zi5 w b t p v h k _ _ _ rfl hc hd yd hj hl).mono (fun e w' hh=>NextPost.err (by unfold zg7;rw [hN,if_pos hl]) hh)
  ·exact (zr4 w b t p v h k _ _ _ _ rfl hc hd yd hj (by omega) rfl).mono (fun e w' hh=>NextPost.tok (by unfold zg7;rw [hN,if_neg hl,zdg]) hh)
theorem zmt(w:World)(b:Nat)(t:ByteArray)(p:Nat)(v:Value)(h:St w b t p v)(hp:p<t.size) :
  Calls Tryz.prog 248 #[.pointer (some ⟨b,0,none⟩)] w fun e w'=>NextPost w b t p v e w' (Lx.zck (rest t p)):=by
 have fa:(rest t p).drop 1=rest t (p+1):=zca t p 1;have sH:=Lx.zc0 Lx.part (rest t (p+1));rw [zbh] at sH;obtain⟨r,h1,h2,h3⟩:=h
 by_cases hl:24<1+Lx.span Lx.part (rest t (p+1))
 ·exact (zla w b t p r h1 hp hl).mono (fun e w' hh=>NextPost.err (by unfold Lx.zck;simp only;rw [fa,if_pos hl]) hh)
 ·exact (zms w b t p r h1 hp (1+Lx.span Lx.part (rest t (p+1))) (by omega) (by omega)).mono (fun e w' ⟨he,hs,hf⟩=>NextPost.tok (by unfold Lx.zck;simp only;rw [fa,if_neg hl]) ⟨he,St.step h1 h2 h3 hs hf,hf⟩)
theorem zkn(w:World)(b:Nat)(t:ByteArray)(p:Nat)(v:Value)(h:St w b t p v)(hg:Gl w)(h6:6≤b) :
  Calls Tryz.prog 250 #[.pointer (some ⟨b,0,none⟩)] w fun e w'=>NextPost w b t p v e w' (Lx.zcl (rest t p)):=by
 have hlen:p+Lx.za1 (rest t p)≤t.size:=by
  have qX:=h.le;unfold Lx.za1;split
  ·rename_i hc;have h1:=zi0 (l:=rest t p) (k:=0) (by rw [hc];decide);rw [zbh] at h1;have h2:=Lx.zc0 Lx.zap (rest t (p+1));rw [zbh] at h2;rw [zca];omega
  ·have h2:=Lx.zc0 Lx.zap (rest t p);rw [zbh] at h2;omega
 have hd:=ziw t p (Lx.za1 (rest t p)) 0;have dC:Lx.zcl (rest t p)=match Lx.zbz ((rest t p).take (Lx.za1 (rest t p))) with
  | none=>.err 13
  | some n=>if (Lx.part (Lx.peek (rest t p) (Lx.za1 (rest t p)+0))||decide (Lx.peek (rest t p) (Lx.za1 (rest t p)+0)=39))=true then .err 13 else .tok 1 n (Lx.za1 (rest t p)):=rfl
 rw [← zdg] at dC
 by_cases hc:Lx.peek (rest t p) 0=126
 ·have hm:p+Lx.za1 (rest t p)=p+1+Lx.span Lx.zap (rest t (p+1)):=by
   unfold Lx.za1;rw [if_pos hc,zca];omega
  have ul:=(zb9 _ 126 (by decide)).2 hc;cases hN:Lx.zbz (t.extract p (p+Lx.za1 (rest t p))).data.toList with
  | none=>exact (zg4 w b t p v h hg h6 _ _ _ rfl ul hm hd hN).mono (fun e w' hh=>NextPost.err (by rw [dC,hN]) hh)
  | some i=>
   rw [hN] at dC;simp only at dC;cases hP:Lx.part (Lx.peek (rest t p) (Lx.za1 (rest t p)+0))
   ·by_cases hQ:Lx.peek (rest t p) (Lx.za1 (rest t p)+0)=39
    ·exact (zgh w b t p v h hg h6 _ _ _ rfl ul hm hd i hN hP ((zb9 _ 39 (by decide)).2 hQ)).mono (fun e w' hh=>NextPost.err (by rw [dC,if_pos (by rw [hQ];simp)]) hh)
    ·exact (zhn w b t p v h hg h6 _ _ _ rfl ul hm hd i hN hP (fun e=>hQ ((zb9 _ 39 (by decide)).1 e))).mono (fun e w' hh=>NextPost.tok (by rw [dC,if_neg (by rw [hP];simpa using hQ)]) hh)
   ·exact (zg3 w b t p v h hg h6 _ _ _ rfl ul hm hd i hN hP).mono (fun e w' hh=>NextPost.err (by rw [dC,if_pos (by rw [hP];rfl)]) hh)
 ·have hm:p+Lx.za1 (rest t p)=p+Lx.span Lx.zap (rest t p):=by
   unfold Lx.za1;rw [if_neg hc]
  have ul : ¬((Lx.peek (rest t p) 0).toNat:Int)=126:=fun e=>hc ((zb9 _ 126 (by decide)).1 e);cases hN:Lx.zbz (t.extract p (p+Lx.za1 (rest t p))).data.toList with
  | none=>exact (zg6 w b t p v h hg h6 _ _ _ rfl ul hm hd hN).mono (fun e w' hh=>NextPost.err (by rw [dC,hN]) hh)
  | some i=>
   rw [hN] at dC;simp only at dC;cases hP:Lx.part (Lx.peek (rest t p) (Lx.za1 (rest t p)+0))
   ·by_cases hQ:Lx.peek (rest t p) (Lx.za1 (rest t p)+0)=39
    ·exact (zgi w b t p v h hg h6 _ _ _ rfl ul hm hd i hN hP ((zb9 _ 39 (by decide)).2 hQ)).mono (fun e w' hh=>NextPost.err (by rw [dC,if_pos (by rw [hQ];simp)]) hh)
    ·exact (zho w b t p v h hg h6 _ _ _ rfl ul hm hd i hN hP (fun e=>hQ ((zb9 _ 39 (by decide)).1 e))).mono (fun e w' hh=>NextPost.tok (by rw [dC,if_neg (by rw [hP];simpa using hQ)]) hh)
   ·exact (zg5 w b t p v h hg h6 _ _ _ rfl ul hm hd i hN hP).mono (fun e w' hh=>NextPost.err (by rw [dC,if_pos (by rw [hP];rfl)]) hh)
theorem zb6{l:List UInt8}{c:UInt8} : 0≤Lib.indexByte l c ↔ l.contains c=true:=by
 rw [List.contains_iff_mem];constructor
 ·intro h;obtain⟨o,ho⟩:=Int.eq_ofNat_of_zero_le h;exact List.mem_of_getElem? (Lib.indexByte_some ho).1
 ·intro h;rcases Int.lt_or_le (Lib.indexByte l c) 0 with h' | h'
  ·have hge:=Lib.indexByte_ge l c;obtain⟨k,hk⟩:=List.mem_iff_getElem?.1 h;exact absurd hk (Lib.indexByte_none (by omega) k)
  ·exact h'
theorem zti(c:UInt8)(w:World) :
  Calls Tryz.prog 252 #[.string ⟨#[40,41,44,59,58,124,61,60,43,45,42,47,37,95]⟩,.int .u8 c.toNat] w fun e w'=>e=.returned (.int .i64 (Lib.indexByte Lx.zgc c))∧w'=w:=by
 have h:=Tryz.strings_IndexByte ⟨#[40,41,44,59,58,124,61,60,43,45,42,47,37,95]⟩ c.toNat w;rw [show ((c.toNat:Int)).toNat.toUInt8=c from by simp] at h;exact h
theorem zgb{c:UInt8}{z:Int}(hz:Hid (Lib.indexByte Lx.zgc c=z))(w:World) :
  Calls Tryz.prog 252 #[.string ⟨#[40,41,44,59,58,124,61,60,43,45,42,47,37,95]⟩,.int .u8 c.toNat] w fun e w'=>e=.returned (.int .i64 z)∧w'=w:=by
 have h:=zti c w;rw [hz.out] at h;exact h
theorem St.sign{w:World}{b:Nat}{t:ByteArray}{p:Nat}{v:Value}(h:St w b t p v)(n:Int)(k:Nat)(hn:n=k)(hk:k≤2)(hp:p+k≤t.size) :
  Calls Tryz.prog 251 #[.pointer (some ⟨b,0,none⟩),.int .i64 n] w fun e w'=>NextPost w b t p v e w' (.tok 6 0 k):=by
 obtain⟨r,h1,h2,h3⟩:=h;exact (zvs w b t p r h1 n k hn hk hp).mono (fun e w' ⟨he,hs,hf⟩=>⟨he,St.step h1 h2 h3 hs hf,hf⟩)
theorem zrw(w:World)(b:Nat)(t:ByteArray)(p:Nat)(v:Value)(h:St w b t p v)(hg:Gl w)(h6:6≤b)(c d:UInt8)(hc:Hid (Lx.peek (rest t p) 0=c))(hd:Hid (Lx.peek (rest t p) 1=d))(hsm:Hid (Lx.za0 c=true))(R:Lx.Next)(vA:Hid (R=zg7 2 (rest t p))) :
  Calls Tryz.prog 196 #[.pointer (some ⟨b,0,none⟩)] w fun e w'=>NextPost w b t p v e w' R:=by
 have hc0:=h.text;have hc1:=h.pos;have hs:=h.sz;have qX:=h.le;have hb:=h.lt
 go_enter Tryz.func196,Tryz.ntmps196
 go_wp2_with fail
 refine ((h.alloc _).peek _ 0 rfl (by omega) hc).mono ?_;rintro e w1 ⟨rfl,n1,rfl⟩
 go_wp2_with fail
 refine (za4 hsm _).mono ?_;rintro e w1 ⟨rfl,rfl⟩
 go_wp2_with fail
 refine (zqi _ b t p v ((h.alloc _).drewN n1) 2).mono ?_;rw [← vA.out];rintro e w2 hN;have zu:NextPost ((w.alloc (.cells #[.int .i64 0,.int .i64 0,.string ⟨#[]⟩,.int .i64 0] 59 (0,0))).drewN n1) b t p v e w2 R:=hN;clear hN;cases hR:R with
 | tok k' n' j'=>
  rw [hR] at zu;have HR:=qya hR;clear hR;obtain⟨rfl,h2,f2⟩:=zu;have k2:=((Blk.new' (b:=w.heap.size) rfl _ _).drewN n1).keep f2 (show ¬w.heap.size=b by omega);obtain⟨c0,c1,c2,c3,g0,g1,g2,g3⟩:=k2.four;have F2:=(((But.refl b w).alloc _).drewN n1).trans f2;clear f2;go_wp2;refine bodyPost_ret (v:=tokV k' n' (t.extract p (p+j')) p) (by simp [results,Tryz.results196,go_sem,tokV,c0,c1,c2,c3]) rfl (NextPost.tok HR.out ⟨rfl,?_,?_⟩)
  ·exact h2.set4 k2 (by omega) _ _ _ _
  ·exact F2.set4 (qyb _) _ _ _ _
 | err x=>
  rw [hR] at zu;have HR:=qya hR;clear hR;obtain⟨rfl,f2⟩:=zu;have F2:=(((But.refl b w).alloc _).drewN n1).trans f2;clear f2;go_wp2;exact⟨rfl,NextPost.err HR.out ⟨rfl,F2⟩⟩
theorem znk(w:World)(b:Nat)(t:ByteArray)(p:Nat)(v:Value)(h:St w b t p v)(hg:Gl w)(h6:6≤b)(c d:UInt8)(hc:Hid (Lx.peek (rest t p) 0=c))(hd:Hid (Lx.peek (rest t p) 1=d))(hsm:Hid (Lx.za0 c=false))(hca:Hid (Lx.zao c=true))(R:Lx.Next)(vA:Hid (R=zg7 3 (rest t p))) :
  Calls Tryz.prog 196 #[.pointer (some ⟨b,0,none⟩)] w fun e w'=>NextPost w b t p v e w' R:=by
 have hc0:=h.text;have hc1:=h.pos;have hs:=h.sz;have qX:=h.le;have hb:=h.lt
 go_enter Tryz.func196,Tryz.ntmps196
 go_wp2_with fail
 refine ((h.alloc _).peek _ 0 rfl (by omega) hc).mono ?_;rintro e w1 ⟨rfl,n1,rfl⟩
 go_wp2_with fail
 refine (za4 hsm _).mono ?_;rintro e w1 ⟨rfl,rfl⟩
 go_wp2_with fail
 refine (za3 hca _).mono ?_;rintro e w1 ⟨rfl,rfl⟩
 go_wp2_with fail
 refine (zqi _ b t p v ((h.alloc _).drewN n1) 3).mono ?_;rw [← vA.out];rintro e w2 hN;have zu:NextPost ((w.alloc (.cells #[.int .i64 0,.int .i64 0,.string ⟨#[]⟩,.int .i64 0] 59 (0,0))).drewN n1) b t p v e w2 R:=hN;clear hN;cases hR:R with
 | tok k' n' j'=>
  rw [hR] at zu;have HR:=qya hR;clear hR;obtain⟨rfl,h2,f2⟩:=zu;have k2:=((Blk.new' (b:=w.heap.size) rfl _ _).drewN n1).keep f2 (show ¬w.heap.size=b by omega);obtain⟨c0,c1,c2,c3,g0,g1,g2,g3⟩:=k2.four;have F2:=(((But.refl b w).alloc _).drewN n1).trans f2;clear f2;go_wp2;refine bodyPost_ret (v:=tokV k' n' (t.extract p (p+j')) p) (by simp [results,Tryz.results196,go_sem,tokV,c0,c1,c2,c3]) rfl (NextPost.tok HR.out ⟨rfl,?_,?_⟩)
  ·exact h2.set4 k2 (by omega) _ _ _ _
  ·exact F2.set4 (qyb _) _ _ _ _
 | err x=>
  rw [hR] at zu;have HR:=qya hR;clear hR;obtain⟨rfl,f2⟩:=zu;have F2:=(((But.refl b w).alloc _).drewN n1).trans f2;clear f2;go_wp2;exact⟨rfl,NextPost.err HR.out ⟨rfl,F2⟩⟩
theorem next_var(w:World)(b:Nat)(t:ByteArray)(p:Nat)(v:Value)(h:St w b t p v)(hg:Gl w)(h6:6≤b)(c d:UInt8)(hc:Hid (Lx.peek (rest t p) 0=c))(hd:Hid (Lx.peek (rest t p) 1=d))(hsm:Hid (Lx.za0 c=false))(hca:Hid (Lx.zao c=false))(zZ:(c.toNat:Int)=39)(hds:Hid (Lx.za0 d=true))(hp:p<t.size)(R:Lx.Next)(vA:Hid (R=Lx.zck (rest t p))) :
  Calls Tryz.prog 196 #[.pointer (some ⟨b,0,none⟩)] w fun e w'=>NextPost w b t p v e w' R:=by
 have hc0:=h.text;have hc1:=h.pos;have hs:=h.sz;have qX:=h.le;have hb:=h.lt;have gi:((c.toNat:Int)==39)=true:=beq_iff_eq.2 zZ;have sy:=qya zZ;clear zZ
 go_enter Tryz.func196,Tryz.ntmps196
 go_wp2_with fail
 refine ((h.alloc _).peek _ 0 rfl (by omega) hc).mono ?_;rintro e w1 ⟨rfl,n1,rfl⟩
 go_wp2_with fail
 refine (za4 hsm _).mono ?_;rintro e w1 ⟨rfl,rfl⟩
 go_wp2_with fail
 refine (za3 hca _).mono ?_;rintro e w1 ⟨rfl,rfl⟩
 go_wp2_with fail
 refine (((h.alloc _).drewN n1).peek _ 1 rfl (by omega) hd).mono ?_;rintro e w1 ⟨rfl,n2,rfl⟩
 go_wp2_with fail
 refine (za4 hds _).mono ?_;rintro e w1 ⟨rfl,rfl⟩
 go_wp2_with fail
 refine (zmt _ b t p v ((h.alloc _).drewN (n1+n2)) hp).mono ?_;rw [← vA.out];rintro e w2 hN;have zu:NextPost ((w.alloc (.cells #[.int .i64 0,.int .i64 0,.string ⟨#[]⟩,.int .i64 0] 59 (0,0))).drewN (n1+n2)) b t p v e w2 R:=hN;clear hN;cases hR:R with
 | tok k' n' j'=>
  rw [hR] at zu;have HR:=qya hR;clear hR;obtain⟨rfl,h2,f2⟩:=zu;have k2:=((Blk.new' (b:=w.heap.size) rfl _ _).drewN (n1+n2)).keep f2 (show ¬w.heap.size=b by omega);obtain⟨c0,c1,c2,c3,g0,g1,g2,g3⟩:=k2.four;have F2:=(((But.refl b w).alloc _).drewN (n1+n2)).trans f2;clear f2;go_wp2;refine bodyPost_ret (v:=tokV k' n' (t.extract p (p+j')) p) (by simp [results,Tryz.results196,go_sem,tokV,c0,c1,c2,c3]) rfl (NextPost.tok HR.out ⟨rfl,?_,?_⟩)
  ·exact h2.set4 k2 (by omega) _ _ _ _
  ·exact F2.set4 (qyb _) _ _ _ _
 | err x=>
  rw [hR] at zu;have HR:=qya hR;clear hR;obtain⟨rfl,f2⟩:=zu;have F2:=(((But.refl b w).alloc _).drewN (n1+n2)).trans f2;clear f2;go_wp2;exact⟨rfl,NextPost.err HR.out ⟨rfl,F2⟩⟩
theorem zrx(w:World)(b:Nat)(t:ByteArray)(p:Nat)(v:Value)(h:St w b t p v)(hg:Gl w)(h6:6≤b)(c d:UInt8)(hc:Hid (Lx.peek (rest t p) 0=c))(hd:Hid (Lx.peek (rest t p) 1=d))(hsm:Hid (Lx.za0 c=false))(hca:Hid (Lx.zao c=false))(zZ:(c.toNat:Int)=39)(hds:Hid (Lx.za0 d=false))(hdg:Hid (Lx.zap c=false))(z:Int)(hi:Hid (Lib.indexByte Lx.zgc c=z))(hz:z<0) :
  Calls Tryz.prog 196 #[.pointer (some ⟨b,0,none⟩)] w fun e w'=>e=pan p 11∧But b w w':=by
 have hc0:=h.text;have hc1:=h.pos;have hs:=h.sz;have qX:=h.le;have hb:=h.lt;have gi:((c.toNat:Int)==39)=true:=beq_iff_eq.2 zZ;have sy:=qya zZ;clear zZ;have yc:((c.toNat:Int)==126)=false:=beq_eq_false_iff_ne.2 (by rw [sy.out];decide);have dE:((c.toNat:Int)==61)=false:=beq_eq_false_iff_ne.2 (by rw [sy.out];decide);have rL:((c.toNat:Int)==45)=false:=beq_eq_false_iff_ne.2 (by rw [sy.out];decide)
 go_enter Tryz.func196,Tryz.ntmps196
 go_wp2_with fail
 refine ((h.alloc _).peek _ 0 rfl (by omega) hc).mono ?_;rintro e w1 ⟨rfl,n1,rfl⟩
 go_wp2_with fail
 refine (za4 hsm _).mono ?_;rintro e w1 ⟨rfl,rfl⟩
 go_wp2_with fail
 refine (za3 hca _).mono ?_;rintro e w1 ⟨rfl,rfl⟩
 go_wp2_with fail
 refine (((h.alloc _).drewN n1).peek _ 1 rfl (by omega) hd).mono ?_;rintro e w1 ⟨rfl,n2,rfl⟩
 go_wp2_with fail
 refine (za4 hds _).mono ?_;rintro e w1 ⟨rfl,rfl⟩
 go_wp2_with fail
 refine (za5 hdg _).mono ?_;rintro e w1 ⟨rfl,rfl⟩
 go_wp2_with fail
 refine (zgb hi _).mono ?_;rintro e w1 ⟨rfl,rfl⟩;go_wp2;exact⟨rfl,rfl,((But.refl b w).alloc _).drewN (n1+n2)⟩
theorem zrv(w:World)(b:Nat)(t:ByteArray)(p:Nat)(v:Value)(h:St w b t p v)(hg:Gl w)(h6:6≤b)(c d:UInt8)(hc:Hid (Lx.peek (rest t p) 0=c))(hd:Hid (Lx.peek (rest t p) 1=d))(hsm:Hid (Lx.za0 c=false))(hca:Hid (Lx.zao c=false))(zZ : ¬(c.toNat:Int)=39)(zp:(c.toNat:Int)=126)(R:Lx.Next)(vA:Hid (R=Lx.zcl (rest t p))) :
  Calls Tryz.prog 196 #[.pointer (some ⟨b,0,none⟩)] w fun e w'=>NextPost w b t p v e w' R:=by
 have hc0:=h.text;have hc1:=h.pos;have hs:=h.sz;have qX:=h.le;have hb:=h.lt;have gi:((c.toNat:Int)==39)=false:=beq_eq_false_iff_ne.2 zZ;have yc:((c.toNat:Int)==126)=true:=beq_iff_eq.2 zp;have Hc126:=qya zp;clear zp
 go_enter Tryz.func196,Tryz.ntmps196
 go_wp2_with fail
 refine ((h.alloc _).peek _ 0 rfl (by omega) hc).mono ?_;rintro e w1 ⟨rfl,n1,rfl⟩
 go_wp2_with fail
 refine (za4 hsm _).mono ?_;rintro e w1 ⟨rfl,rfl⟩
 go_wp2_with fail
 refine (za3 hca _).mono ?_;rintro e w1 ⟨rfl,rfl⟩
 go_wp2_with fail
 refine (zkn _ b t p v ((h.alloc _).drewN n1) ((hg.alloc _).old ((Old.refl _).drewN n1)) h6).mono ?_;rw [← vA.out];rintro e w2 hN;have zu:NextPost ((w.alloc (.cells #[.int .i64 0,.int .i64 0,.string ⟨#[]⟩,.int .i64 0] 59 (0,0))).drewN n1) b t p v e w2 R:=hN;clear hN;cases hR:R with
 | tok k' n' j'=>
  rw [hR] at zu;have HR:=qya hR;clear hR;obtain⟨rfl,h2,f2⟩:=zu;have k2:=((Blk.new' (b:=w.heap.size) rfl _ _).drewN n1).keep f2 (show ¬w.heap.size=b by omega);obtain⟨c0,c1,c2,c3,g0,g1,g2,g3⟩:=k2.four;have F2:=(((But.refl b w).alloc _).drewN n1).trans f2;clear f2;go_wp2;refine bodyPost_ret (v:=tokV k' n' (t.extract p (p+j')) p) (by simp [results,Tryz.results196,go_sem,tokV,c0,c1,c2,c3]) rfl (NextPost.tok HR.out ⟨rfl,?_,?_⟩)
  ·exact h2.set4 k2 (by omega) _ _ _ _
  ·exact F2.set4 (qyb _) _ _ _ _
 | err x=>
  rw [hR] at zu;have HR:=qya hR;clear hR;obtain⟨rfl,f2⟩:=zu;have F2:=(((But.refl b w).alloc _).drewN n1).trans f2;clear f2;go_wp2;exact⟨rfl,NextPost.err HR.out ⟨rfl,F2⟩⟩
theorem zr1(w:World)(b:Nat)(t:ByteArray)(p:Nat)(v:Value)(h:St w b t p v)(hg:Gl w)(h6:6≤b)(c d:UInt8)(hc:Hid (Lx.peek (rest t p) 0=c))(hd:Hid (Lx.peek (rest t p) 1=d))(hsm:Hid (Lx.za0 c=false))(hca:Hid (Lx.zao c=false))(zZ : ¬(c.toNat:Int)=39)(zp : ¬(c.toNat:Int)=126)(hdg:Hid (Lx.zap c=true))(R:Lx.Next)(vA:Hid (R=Lx.zcl (rest t p))) :
  Calls Tryz.prog 196 #[.pointer (some ⟨b,0,none⟩)] w fun e w'=>NextPost w b t p v e w' R:=by
 have hc0:=h.text;have hc1:=h.pos;have hs:=h.sz;have qX:=h.le;have hb:=h.lt;have gi:((c.toNat:Int)==39)=false:=beq_eq_false_iff_ne.2 zZ;have yc:((c.toNat:Int)==126)=false:=beq_eq_false_iff_ne.2 zp
 go_enter Tryz.func196,Tryz.ntmps196
 go_wp2_with fail
 refine ((h.alloc _).peek _ 0 rfl (by omega) hc).mono ?_;rintro e w1 ⟨rfl,n1,rfl⟩
 go_wp2_with fail
 refine (za4 hsm _).mono ?_;rintro e w1 ⟨rfl,rfl⟩
 go_wp2_with fail
 refine (za3 hca _).mono ?_;rintro e w1 ⟨rfl,rfl⟩
 go_wp2_with fail
 refine (za5 hdg _).mono ?_;rintro e w1 ⟨rfl,rfl⟩
 go_wp2_with fail
 refine (zkn _ b t p v ((h.alloc _).drewN n1) ((hg.alloc _).old ((Old.refl _).drewN n1)) h6).mono ?_;rw [← vA.out];rintro e w2 hN;have zu:NextPost ((w.alloc (.cells #[.int .i64 0,.int .i64 0,.string ⟨#[]⟩,.int .i64 0] 59 (0,0))).drewN n1) b t p v e w2 R:=hN;clear hN;cases hR:R with
 | tok k' n' j'=>
  rw [hR] at zu;have HR:=qya hR;clear hR;obtain⟨rfl,h2,f2⟩:=zu;have k2:=((Blk.new' (b:=w.heap.size) rfl _ _).drewN n1).keep f2 (show ¬w.heap.size=b by omega);obtain⟨c0,c1,c2,c3,g0,g1,g2,g3⟩:=k2.four;have F2:=(((But.refl b w).alloc _).drewN n1).trans f2;clear f2;go_wp2;refine bodyPost_ret (v:=tokV k' n' (t.extract p (p+j')) p) (by simp [results,Tryz.results196,go_sem,tokV,c0,c1,c2,c3]) rfl (NextPost.tok HR.out ⟨rfl,?_,?_⟩)
  ·exact h2.set4 k2 (by omega) _ _ _ _
  ·exact F2.set4 (qyb _) _ _ _ _
 | err x=>
  rw [hR] at zu;have HR:=qya hR;clear hR;obtain⟨rfl,f2⟩:=zu;have F2:=(((But.refl b w).alloc _).drewN n1).trans f2;clear f2;go_wp2;exact⟨rfl,NextPost.err HR.out ⟨rfl,F2⟩⟩
theorem znm(w:World)(b:Nat)(t:ByteArray)(p:Nat)(v:Value)(h:St w b t p v)(hg:Gl w)(h6:6≤b)(c d:UInt8)(hc:Hid (Lx.peek (rest t p) 0=c))(hd:Hid (Lx.peek (rest t p) 1=d))(hsm:Hid (Lx.za0 c=false))(hca:Hid (Lx.zao c=false))(zZ : ¬(c.toNat:Int)=39)(zp : ¬(c.toNat:Int)=126)(hdg:Hid (Lx.zap c=false))(xh:(c.toNat:Int)=61)(un:(d.toNat:Int)=62)(hp:p+2≤t.size)(R:Lx.Next)(vA:Hid (R=.tok 6 0 2)) :
  Calls Tryz.prog 196 #[.pointer (some ⟨b,0,none⟩)] w fun e w'=>NextPost w b t p v e w' R:=by
 have hc0:=h.text;have hc1:=h.pos;have hs:=h.sz;have qX:=h.le;have hb:=h.lt;have gi:((c.toNat:Int)==39)=false:=beq_eq_false_iff_ne.2 zZ;have yc:((c.toNat:Int)==126)=false:=beq_eq_false_iff_ne.2 zp;have dE:((c.toNat:Int)==61)=true:=beq_iff_eq.2 xh;have Hc61:=qya xh;clear xh;have eX:((d.toNat:Int)==62)=true:=beq_iff_eq.2 un;have Hd62:=qya un;clear un
 go_enter Tryz.func196,Tryz.ntmps196
 go_wp2_with fail
 refine ((h.alloc _).peek _ 0 rfl (by omega) hc).mono ?_;rintro e w1 ⟨rfl,n1,rfl⟩
 go_wp2_with fail
 refine (za4 hsm _).mono ?_;rintro e w1 ⟨rfl,rfl⟩
 go_wp2_with fail
 refine (za3 hca _).mono ?_;rintro e w1 ⟨rfl,rfl⟩
 go_wp2_with fail
 refine (za5 hdg _).mono ?_;rintro e w1 ⟨rfl,rfl⟩
 go_wp2_with fail
 refine (((h.alloc _).drewN n1).peek _ 1 rfl (by omega) hd).mono ?_;rintro e w1 ⟨rfl,n2,rfl⟩
 go_wp2_with fail
 refine (((h.alloc _).drewN (n1+n2)).sign _ 2 rfl (by omega) hp).mono ?_;rw [← vA.out];rintro e w2 hN;have zu:NextPost ((w.alloc (.cells #[.int .i64 0,.int .i64 0,.string ⟨#[]⟩,.int .i64 0] 59 (0,0))).drewN (n1+n2)) b t p v e w2 R:=hN;clear hN;cases hR:R with
 | tok k' n' j'=>
  rw [hR] at zu;have HR:=qya hR;clear hR;obtain⟨rfl,h2,f2⟩:=zu;have k2:=((Blk.new' (b:=w.heap.size) rfl _ _).drewN (n1+n2)).keep f2 (show ¬w.heap.size=b by omega);obtain⟨c0,c1,c2,c3,g0,g1,g2,g3⟩:=k2.four;have F2:=(((But.refl b w).alloc _).drewN (n1+n2)).trans f2;clear f2;go_wp2;refine bodyPost_ret (v:=tokV k' n' (t.extract p (p+j')) p) (by simp [results,Tryz.results196,go_sem,tokV,c0,c1,c2,c3]) rfl (NextPost.tok HR.out ⟨rfl,?_,?_⟩)
  ·exact h2.set4 k2 (by omega) _ _ _ _
  ·exact F2.set4 (qyb _) _ _ _ _
 | err x=>
  rw [hR] at zu;have HR:=qya hR;clear hR;obtain⟨rfl,f2⟩:=zu;have F2:=(((But.refl b w).alloc _).drewN (n1+n2)).trans f2;clear f2;go_wp2;exact⟨rfl,NextPost.err HR.out ⟨rfl,F2⟩⟩
theorem znn(w:World)(b:Nat)(t:ByteArray)(p:Nat)(v:Value)(h:St w b t p v)(hg:Gl w)(h6:6≤b)(c d:UInt8)(hc:Hid (Lx.peek (rest t p) 0=c))(hd:Hid (Lx.peek (rest t p) 1=d))(hsm:Hid (Lx.za0 c=false))(hca:Hid (Lx.zao c=false))(zZ : ¬(c.toNat:Int)=39)(zp : ¬(c.toNat:Int)=126)(hdg:Hid (Lx.zap c=false))(xh : ¬(c.toNat:Int)=61)(um:(c.toNat:Int)=45)(un:(d.toNat:Int)=62)(hp:p+2≤t.size)(R:Lx.Next)(vA:Hid (R=.tok 6 0 2)) :
  Calls Tryz.prog 196 #[.pointer (some ⟨b,0,none⟩)] w fun e w'=>NextPost w b t p v e w' R:=by
 have hc0:=h.text;have hc1:=h.pos;have hs:=h.sz;have qX:=h.le;have hb:=h.lt;have gi:((c.toNat:Int)==39)=false:=beq_eq_false_iff_ne.2 zZ;have yc:((c.toNat:Int)==126)=false:=beq_eq_false_iff_ne.2 zp;have dE:((c.toNat:Int)==61)=false:=beq_eq_false_iff_ne.2 xh;have rL:((c.toNat:Int)==45)=true:=beq_iff_eq.2 um;have Hc45:=qya um;clear um;have eX:((d.toNat:Int)==62)=true:=beq_iff_eq.2 un;have Hd62:=qya un;clear un
 go_enter Tryz.func196,Tryz.ntmps196
 go_wp2_with fail
 refine ((h.alloc _).peek _ 0 rfl (by omega) hc).mono ?_;rintro e w1 ⟨rfl,n1,rfl⟩
 go_wp2_with fail
 refine (za4 hsm _).mono ?_;rintro e w1 ⟨rfl,rfl⟩
 go_wp2_with fail
 refine (za3 hca _).mono ?_;rintro e w1 ⟨rfl,rfl⟩
 go_wp2_with fail
 refine (za5 hdg _).mono ?_;rintro e w1 ⟨rfl,rfl⟩
 go_wp2_with fail
 refine (((h.alloc _).drewN n1).peek _ 1 rfl (by omega) hd).mono ?_;rintro e w1 ⟨rfl,n2,rfl⟩
 go_wp2_with fail
 refine (((h.alloc _).drewN (n1+n2)).sign _ 2 rfl (by omega) hp).mono ?_;rw [← vA.out];rintro e w2 hN;have zu:NextPost ((w.alloc (.cells #[.int .i64 0,.int .i64 0,.string ⟨#[]⟩,.int .i64 0] 59 (0,0))).drewN (n1+n2)) b t p v e w2 R:=hN;clear hN;cases hR:R with
 | tok k' n' j'=>
  rw [hR] at zu;have HR:=qya hR;clear hR;obtain⟨rfl,h2,f2⟩:=zu;have k2:=((Blk.new' (b:=w.heap.size) rfl _ _).drewN (n1+n2)).keep f2 (show ¬w.heap.size=b by omega);obtain⟨c0,c1,c2,c3,g0,g1,g2,g3⟩:=k2.four;have F2:=(((But.refl b w).alloc _).drewN (n1+n2)).trans f2;clear f2;go_wp2;refine bodyPost_ret (v:=tokV k' n' (t.extract p (p+j')) p) (by simp [results,Tryz.results196,go_sem,tokV,c0,c1,c2,c3]) rfl (NextPost.tok HR.out ⟨rfl,?_,?_⟩)
  ·exact h2.set4 k2 (by omega) _ _ _ _
  ·exact F2.set4 (qyb _) _ _ _ _
 | err x=>
  rw [hR] at zu;have HR:=qya hR;clear hR;obtain⟨rfl,f2⟩:=zu;have F2:=(((But.refl b w).alloc _).drewN (n1+n2)).trans f2;clear f2;go_wp2;exact⟨rfl,NextPost.err HR.out ⟨rfl,F2⟩⟩
theorem zry(w:World)(b:Nat)(t:ByteArray)(p:Nat)(v:Value)(h:St w b t p v)(hg:Gl w)(h6:6≤b)(c d:UInt8)(hc:Hid (Lx.peek (rest t p) 0=c))(hd:Hid (Lx.peek (rest t p) 1=d))(hsm:Hid (Lx.za0 c=false))(hca:Hid (Lx.zao c=false))(zZ : ¬(c.toNat:Int)=39)(zp : ¬(c.toNat:Int)=126)(hdg:Hid (Lx.zap c=false))(xh:(c.toNat:Int)=61)(un : ¬(d.toNat:Int)=62)(z:Int)(hi:Hid (Lib.indexByte Lx.zgc c=z))(hz:0≤z)(hp:p+1≤t.size)(R:Lx.Next)(vA:Hid (R=.tok 6 0 1)) :
  Calls Tryz.prog 196 #[.pointer (some ⟨b,0,none⟩)] w fun e w'=>NextPost w b t p v e w' R:=by
 have hc0:=h.text;have hc1:=h.pos;have hs:=h.sz;have qX:=h.le;have hb:=h.lt;have gi:((c.toNat:Int)==39)=false:=beq_eq_false_iff_ne.2 zZ;have yc:((c.toNat:Int)==126)=false:=beq_eq_false_iff_ne.2 zp;have dE:((c.toNat:Int)==61)=true:=beq_iff_eq.2 xh;have Hc61:=qya xh;clear xh;have eX:((d.toNat:Int)==62)=false:=beq_eq_false_iff_ne.2 un
 go_enter Tryz.func196,Tryz.ntmps196
 go_wp2_with fail
 refine ((h.alloc _).peek _ 0 rfl (by omega) hc).mono ?_;rintro e w1 ⟨rfl,n1,rfl⟩
 go_wp2_with fail
 refine (za4 hsm _).mono ?_;rintro e w1 ⟨rfl,rfl⟩
 go_wp2_with fail
 refine (za3 hca _).mono ?_;rintro e w1 ⟨rfl,rfl⟩
 go_wp2_with fail
 refine (za5 hdg _).mono ?_;rintro e w1 ⟨rfl,rfl⟩
 go_wp2_with fail
 refine (((h.alloc _).drewN n1).peek _ 1 rfl (by omega) hd).mono ?_;rintro e w1 ⟨rfl,n2,rfl⟩
 go_wp2_with fail
 refine (zgb hi _).mono ?_;rintro e w1 ⟨rfl,rfl⟩
 go_wp2_with fail
 refine (((h.alloc _).drewN (n1+n2)).sign _ 1 rfl (by omega) hp).mono ?_;rw [← vA.out];rintro e w2 hN;have zu:NextPost ((w.alloc (.cells #[.int .i64 0,.int .i64 0,.string ⟨#[]⟩,.int .i64 0] 59 (0,0))).drewN (n1+n2)) b t p v e w2 R:=hN;clear hN;cases hR:R with
 | tok k' n' j'=>
  rw [hR] at zu;have HR:=qya hR;clear hR;obtain⟨rfl,h2,f2⟩:=zu;have k2:=((Blk.new' (b:=w.heap.size) rfl _ _).drewN (n1+n2)).keep f2 (show ¬w.heap.size=b by omega);obtain⟨c0,c1,c2,c3,g0,g1,g2,g3⟩:=k2.four;have F2:=(((But.refl b w).alloc _).drewN (n1+n2)).trans f2;clear f2;go_wp2;refine bodyPost_ret (v:=tokV k' n' (t.extract p (p+j')) p) (by simp [results,Tryz.results196,go_sem,tokV,c0,c1,c2,c3]) rfl (NextPost.tok HR.out ⟨rfl,?_,?_⟩)
  ·exact h2.set4 k2 (by omega) _ _ _ _
  ·exact F2.set4 (qyb _) _ _ _ _
 | err x=>
  rw [hR] at zu;have HR:=qya hR;clear hR;obtain⟨rfl,f2⟩:=zu;have F2:=(((But.refl b w).alloc _).drewN (n1+n2)).trans f2;clear f2;go_wp2;exact⟨rfl,NextPost.err HR.out ⟨rfl,F2⟩⟩
theorem zrz(w:World)(b:Nat)(t:ByteArray)(p:Nat)(v:Value)(h:St w b t p v)(hg:Gl w)(h6:6≤b)(c d:UInt8)(hc:Hid (Lx.peek (rest t p) 0=c))(hd:Hid (Lx.peek (rest t p) 1=d))(hsm:Hid (Lx.za0 c=false))(hca:Hid (Lx.zao c=false))(zZ : ¬(c.toNat:Int)=39)(zp : ¬(c.toNat:Int)=126)(hdg:Hid (Lx.zap c=false))(xh : ¬(c.toNat:Int)=61)(um:(c.toNat:Int)=45)(un : ¬(d.toNat:Int)=62)(z:Int)(hi:Hid (Lib.indexByte Lx.zgc c=z))(hz:0≤z)(hp:p+1≤t.size)(R:Lx.Next)(vA:Hid (R=.tok 6 0 1)) :
  Calls Tryz.prog 196 #[.pointer (some ⟨b,0,none⟩)] w fun e w'=>NextPost w b t p v e w' R:=by
 have hc0:=h.text;have hc1:=h.pos;have hs:=h.sz;have qX:=h.le;have hb:=h.lt;have gi:((c.toNat:Int)==39)=false:=beq_eq_false_iff_ne.2 zZ;have yc:((c.toNat:Int)==126)=false:=beq_eq_false_iff_ne.2 zp;have dE:((c.toNat:Int)==61)=false:=beq_eq_false_iff_ne.2 xh;have rL:((c.toNat:Int)==45)=true:=beq_iff_eq.2 um;have Hc45:=qya um;clear um;have eX:((d.toNat:Int)==62)=false:=beq_eq_false_iff_ne.2 un
 go_enter Tryz.func196,Tryz.ntmps196
 go_wp2_with fail
 refine ((h.alloc _).peek _ 0 rfl (by omega) hc).mono ?_;rintro e w1 ⟨rfl,n1,rfl⟩
 go_wp2_with fail
 refine (za4 hsm _).mono ?_;rintro e w1 ⟨rfl,rfl⟩
 go_wp2_with fail
 refine (za3 hca _).mono ?_;rintro e w1 ⟨rfl,rfl⟩
 go_wp2_with fail
 refine (za5 hdg _).mono ?_;rintro e w1 ⟨rfl,rfl⟩
 go_wp2_with fail
 refine (((h.alloc _).drewN n1).peek _ 1 rfl (by omega) hd).mono ?_;rintro e w1 ⟨rfl,n2,rfl⟩
 go_wp2_with fail
 refine (zgb hi _).mono ?_;rintro e w1 ⟨rfl,rfl⟩
 go_wp2_with fail
 refine (((h.alloc _).drewN (n1+n2)).sign _ 1 rfl (by omega) hp).mono ?_;rw [← vA.out];rintro e w2 hN;have zu:NextPost ((w.alloc (.cells #[.int .i64 0,.int .i64 0,.string ⟨#[]⟩,.int .i64 0] 59 (0,0))).drewN (n1+n2)) b t p v e w2 R:=hN;clear hN;cases hR:R with
 | tok k' n' j'=>
  rw [hR] at zu;have HR:=qya hR;clear hR;obtain⟨rfl,h2,f2⟩:=zu;have k2:=((Blk.new' (b:=w.heap.size) rfl _ _).drewN (n1+n2)).keep f2 (show ¬w.heap.size=b by omega);obtain⟨c0,c1,c2,c3,g0,g1,g2,g3⟩:=k2.four;have F2:=(((But.refl b w).alloc _).drewN (n1+n2)).trans f2;clear f2;go_wp2;refine bodyPost_ret (v:=tokV k' n' (t.extract p (p+j')) p) (by simp [results,Tryz.results196,go_sem,tokV,c0,c1,c2,c3]) rfl (NextPost.tok HR.out ⟨rfl,?_,?_⟩)
  ·exact h2.set4 k2 (by omega) _ _ _ _
  ·exact F2.set4 (qyb _) _ _ _ _
 | err x=>
  rw [hR] at zu;have HR:=qya hR;clear hR;obtain⟨rfl,f2⟩:=zu;have F2:=(((But.refl b w).alloc _).drewN (n1+n2)).trans f2;clear f2;go_wp2;exact⟨rfl,NextPost.err HR.out ⟨rfl,F2⟩⟩
theorem zqh(w:World)(b:Nat)(t:ByteArray)(p:Nat)(v:Value)(h:St w b t p v)(hg:Gl w)(h6:6≤b)(c d:UInt8)(hc:Hid (Lx.peek (rest t p) 0=c))(hd:Hid (Lx.peek (rest t p) 1=d))(hsm:Hid (Lx.za0 c=false))(hca:Hid (Lx.zao c=false))(zZ : ¬(c.toNat:Int)=39)(zp : ¬(c.toNat:Int)=126)(hdg:Hid (Lx.zap c=false))(xh : ¬(c.toNat:Int)=61)(um : ¬(c.toNat:Int)=45)(z:Int)(hi:Hid (Lib.indexByte Lx.zgc c=z))(hz:0≤z)(hp:p+1≤t.size)(R:Lx.Next)(vA:Hid (R=.tok 6 0 1)) :
  Calls Tryz.prog 196 #[.pointer (some ⟨b,0,none⟩)] w fun e w'=>NextPost w b t p v e w' R:=by
 have hc0:=h.text;have hc1:=h.pos;have hs:=h.sz;have qX:=h.le;have hb:=h.lt;have gi:((c.toNat:Int)==39)=false:=beq_eq_false_iff_ne.2 zZ;have yc:((c.toNat:Int)==126)=false:=beq_eq_false_iff_ne.2 zp;have dE:((c.toNat:Int)==61)=false:=beq_eq_false_iff_ne.2 xh;have rL:((c.toNat:Int)==45)=false:=beq_eq_false_iff_ne.2 um
 go_enter Tryz.func196,Tryz.ntmps196
 go_wp2_with fail
 refine ((h.alloc _).peek _ 0 rfl (by omega) hc).mono ?_;rintro e w1 ⟨rfl,n1,rfl⟩
 go_wp2_with fail
 refine (za4 hsm _).mono ?_;rintro e w1 ⟨rfl,rfl⟩
 go_wp2_with fail
 refine (za3 hca _).mono ?_;rintro e w1 ⟨rfl,rfl⟩
 go_wp2_with fail
 refine (za5 hdg _).mono ?_;rintro e w1 ⟨rfl,rfl⟩
 go_wp2_with fail
 refine (zgb hi _).mono ?_;rintro e w1 ⟨rfl,rfl⟩
 go_wp2_with fail
 refine (((h.alloc _).drewN n1).sign _ 1 rfl (by omega) hp).mono ?_;rw [← vA.out];rintro e w2 hN;have zu:NextPost ((w.alloc (.cells #[.int .i64 0,.int .i64 0,.string ⟨#[]⟩,.int .i64 0] 59 (0,0))).drewN n1) b t p v e w2 R:=hN;clear hN;cases hR:R with
 | tok k' n' j'=>
  rw [hR] at zu;have HR:=qya hR;clear hR;obtain⟨rfl,h2,f2⟩:=zu;have k2:=((Blk.new' (b:=w.heap.size) rfl _ _).drewN n1).keep f2 (show ¬w.heap.size=b by omega);obtain⟨c0,c1,c2,c3,g0,g1,g2,g3⟩:=k2.four;have F2:=(((But.refl b w).alloc _).drewN n1).trans f2;clear f2;go_wp2;refine bodyPost_ret (v:=tokV k' n' (t.extract p (p+j')) p) (by simp [results,Tryz.results196,go_sem,tokV,c0,c1,c2,c3]) rfl (NextPost.tok HR.out ⟨rfl,?_,?_⟩)
  ·exact h2.set4 k2 (by omega) _ _ _ _
  ·exact F2.set4 (qyb _) _ _ _ _
 | err x=>
  rw [hR] at zu;have HR:=qya hR;clear hR;obtain⟨rfl,f2⟩:=zu;have F2:=(((But.refl b w).alloc _).drewN n1).trans f2;clear f2;go_wp2;exact⟨rfl,NextPost.err HR.out ⟨rfl,F2⟩⟩
theorem znl(w:World)(b:Nat)(t:ByteArray)(p:Nat)(v:Value)(h:St w b t p v)(hg:Gl w)(h6:6≤b)(c d:UInt8)(hc:Hid (Lx.peek (rest t p) 0=c))(hd:Hid (Lx.peek (rest t p) 1=d))(hsm:Hid (Lx.za0 c=false))(hca:Hid (Lx.zao c=false))(zZ : ¬(c.toNat:Int)=39)(zp : ¬(c.toNat:Int)=126)(hdg:Hid (Lx.zap c=false))(xh : ¬(c.toNat:Int)=61)(um : ¬(c.toNat:Int)=45)(z:Int)(hi:Hid (Lib.indexByte Lx.zgc c=z))(hz:z<0) :
  Calls Tryz.prog 196 #[.pointer (some ⟨b,0,none⟩)] w fun e w'=>e=pan p 11∧But b w w':=by
 have hc0:=h.text;have hc1:=h.pos;have hs:=h.sz;have qX:=h.le;have hb:=h.lt;have gi:((c.toNat:Int)==39)=false:=beq_eq_false_iff_ne.2 zZ;have yc:((c.toNat:Int)==126)=false:=beq_eq_false_iff_ne.2 zp;have dE:((c.toNat:Int)==61)=false:=beq_eq_false_iff_ne.2 xh;have rL:((c.toNat:Int)==45)=false:=beq_eq_false_iff_ne.2 um
 go_enter Tryz.func196,Tryz.ntmps196
 go_wp2_with fail
 refine ((h.alloc _).peek _ 0 rfl (by omega) hc).mono ?_;rintro e w1 ⟨rfl,n1,rfl⟩
 go_wp2_with fail
 refine (za4 hsm _).mono ?_;rintro e w1 ⟨rfl,rfl⟩
 go_wp2_with fail
 refine (za3 hca _).mono ?_;rintro e w1 ⟨rfl,rfl⟩
 go_wp2_with fail
 refine (za5 hdg _).mono ?_;rintro e w1 ⟨rfl,rfl⟩
 go_wp2_with fail
 refine (zgb hi _).mono ?_;rintro e w1 ⟨rfl,rfl⟩;go_wp2;exact⟨rfl,rfl,((But.refl b w).alloc _).drewN n1⟩
theorem zej{c:UInt8}(h:Lx.zao c=true):Lx.za0 c=false:=by
 unfold Lx.zao at h;unfold Lx.za0;simp at h ⊢;omega
theorem zod : ∀l∈Lx.words,Lx.za0 (Lx.peek l 0)=true:=by decide
theorem znu{l:List UInt8}(h:Lx.isWord l=true):Lx.za0 (Lx.peek l 0)=true:=
 zod l (by simpa [Lx.isWord] using h)
theorem peek_take{l:List UInt8}{n:Nat}(hn:1≤n):Lx.peek (l.take n) 0=Lx.peek l 0:=by
 unfold Lx.peek;rw [List.getD_eq_getElem?_getD,List.getD_eq_getElem?_getD,List.getElem?_take,if_pos (by omega)]
theorem zo3{l:List UInt8}(h:Lx.za0 (Lx.peek l 0)=true):zg7 2 l=Lx.next l:=by
 rw [Lx.zcv (by rw [h];rfl)];unfold zg7 Lx.zb5;simp only;have hc : ¬Lx.zao (Lx.peek l 0)=true:=fun e=>by rw [zej e] at h;cases h
 by_cases h1:24<Lx.zas l
 ·rw [if_pos h1,if_pos h1]
 ·rw [if_neg h1,if_neg h1,if_neg hc]
  by_cases h2:Lx.isWord (l.take (Lx.zas l))=true
  ·rw [if_pos h2,if_pos h2]
  ·rw [if_neg h2,if_neg h2]
theorem zlx{l:List UInt8}(h:Lx.zao (Lx.peek l 0)=true):zg7 3 l=Lx.next l:=by
 rw [Lx.zcv (by rw [h,Bool.or_true])];unfold zg7 Lx.zb5;simp only
 by_cases h1:24<Lx.zas l
 ·rw [if_pos h1,if_pos h1]
 ·rw [if_neg h1,if_neg h1,if_pos h];have hl:l≠[]:=by rintro rfl;exact absurd h (by decide)
  have vR:1≤Lx.zas l:=by
   obtain⟨c,r,rfl⟩:=List.exists_cons_of_ne_nil hl;exact Lx.zi6 (Lx.zhh h)
  have h2 : ¬Lx.isWord (l.take (Lx.zas l))=true:=fun e=>by
   have:=znu e;rw [peek_take vR,zej h] at this;cases this
  rw [if_neg h2]
theorem zh2(w:World)(b:Nat)(t:ByteArray)(p:Nat)(v:Value)(h:St w b t p v)(hg:Gl w)(h6:6≤b) :
  Calls Tryz.prog 196 #[.pointer (some ⟨b,0,none⟩)] w fun e w'=>NextPost w b t p v e w' (Lx.next (rest t p)):=by
 have conv : ∀ {x:UInt8} {k:Nat},k<256→¬x=UInt8.ofNat k→¬(x.toNat:Int)=k:=fun hk hx e=>hx ((zb9 _ _ hk).1 e);cases hsm:Lx.za0 (Lx.peek (rest t p) 0)
 ·cases hca:Lx.zao (Lx.peek (rest t p) 0)
  ·have vL:(Lx.za0 (Lx.peek (rest t p) 0)||Lx.zao (Lx.peek (rest t p) 0))=false:=by rw [hsm,hca];rfl
   by_cases gg:Lx.peek (rest t p) 0=39
   ·cases hds:Lx.za0 (Lx.peek (rest t p) 1)
    ·have zh : ¬(Lx.peek (rest t p) 0=39∧Lx.za0 (Lx.peek (rest t p) 1)=true):=fun e=>by rw [hds] at e;cases e.2
     have hnn : ¬(Lx.peek (rest t p) 0=126∨Lx.zap (Lx.peek (rest t p) 0)=true):=(by rw [gg];decide);have hN:Lx.next (rest t p)=.err 11:=by
      rw [Lx.zcu vL zh hnn,gg,if_neg (fun e=>by rcases e.1 with e | e <;> exact absurd e (by decide)),if_neg (by decide)]
     exact (zrx w b t p v h hg h6 _ _ rfl rfl hsm hca ((zb9 _ 39 (by decide)).2 gg) hds (by show Lx.zap _=false;rw [gg];decide) _ rfl (by rw [gg];decide)).mono (fun e w' hh=>NextPost.err hN hh)
    ·have hp:p<t.size:=by
      have:=zi0 (l:=rest t p) (k:=0) (by rw [gg];decide);rw [zbh] at this;omega
     have hN:=Lx.next_var vL gg hds;exact (next_var w b t p v h hg h6 _ _ rfl rfl hsm hca ((zb9 _ 39 (by decide)).2 gg) hds hp _ rfl).mono (fun e w' hh=>by rw [hN];exact hh)
   ·have zh : ¬(Lx.peek (rest t p) 0=39∧Lx.za0 (Lx.peek (rest t p) 1)=true):=fun e=>gg e.1
    by_cases yN:Lx.peek (rest t p) 0=126
    ·have hN:=Lx.zdo vL zh (.inl yN);exact (zrv w b t p v h hg h6 _ _ rfl rfl hsm hca (conv (by decide) gg) ((zb9 _ 126 (by decide)).2 yN) _ rfl).mono (fun e w' hh=>by rw [hN];exact hh)
    ·cases hdg:Lx.zap (Lx.peek (rest t p) 0)
     ·have hnn : ¬(Lx.peek (rest t p) 0=126∨Lx.zap (Lx.peek (rest t p) 0)=true):=by
       rintro (e | e)
       ·exact yN e
       ·rw [hdg] at e;cases e
      have hN:=Lx.zcu vL zh hnn;have one : ∀ {c:UInt8},Lx.peek (rest t p) 0=c→c≠0→p+1≤t.size:=fun hc h0=>by
       have:=zi0 (l:=rest t p) (k:=0) (by rw [hc];exact h0);rw [zbh] at this;omega
      by_cases mn:Lx.peek (rest t p) 1=62
      ·have hp2:p+2≤t.size:=by
        have:=zi0 (l:=rest t p) (k:=1) (by rw [mn];decide);rw [zbh] at this;omega
       by_cases dM:Lx.peek (rest t p) 0=61
       ·rw [if_pos ⟨.inl dM,mn⟩] at hN;exact (znm w b t p v h hg h6 _ _ rfl rfl hsm hca (conv (by decide) gg) (conv (by decide) yN) hdg ((zb9 _ 61 (by decide)).2 dM) ((zb9 _ 62 (by decide)).2 mn) hp2 _ rfl).mono (fun e w' hh=>by rw [hN];exact hh)
       ·by_cases tn:Lx.peek (rest t p) 0=45
        ·rw [if_pos ⟨.inr tn,mn⟩] at hN;exact (znn w b t p v h hg h6 _ _ rfl rfl hsm hca (conv (by decide) gg) (conv (by decide) yN) hdg (conv (by decide) dM) ((zb9 _ 45 (by decide)).2 tn) ((zb9 _ 62 (by decide)).2 mn) hp2 _ rfl).mono (fun e w' hh=>by rw [hN];exact hh)
        ·rw [if_neg (fun e=>by rcases e.1 with e | e;exact dM e;exact tn e)] at hN
         by_cases hs:Lx.zgc.contains (Lx.peek (rest t p) 0)=true
         ·rw [if_pos hs] at hN;exact (zqh w b t p v h hg h6 _ _ rfl rfl hsm hca (conv (by decide) gg) (conv (by decide) yN) hdg (conv (by decide) dM) (conv (by decide) tn) _ rfl (zb6.2 hs) (one rfl (fun e=>by rw [e] at hs;exact absurd hs (by decide))) _ rfl).mono (fun e w' hh=>by rw [hN];exact hh)
         ·rw [if_neg hs] at hN;exact (znl w b t p v h hg h6 _ _ rfl rfl hsm hca (conv (by decide) gg) (conv (by decide) yN) hdg (conv (by decide) dM) (conv (by decide) tn) _ rfl (Int.not_le.1 (fun e=>hs (zb6.1 e)))).mono (fun e w' hh=>NextPost.err hN hh)
      ·rw [if_neg (fun e=>mn e.2)] at hN
       by_cases dM:Lx.peek (rest t p) 0=61
       ·have hs:Lx.zgc.contains (Lx.peek (rest t p) 0)=true:=(by rw [dM];decide);rw [if_pos hs] at hN;exact (zry w b t p v h hg h6 _ _ rfl rfl hsm hca (conv (by decide) gg) (conv (by decide) yN) hdg ((zb9 _ 61 (by decide)).2 dM) (conv (by decide) mn) _ rfl (zb6.2 hs) (one dM (by decide)) _ rfl).mono (fun e w' hh=>by rw [hN];exact hh)
       ·by_cases tn:Lx.peek (rest t p) 0=45
        ·have hs:Lx.zgc.contains (Lx.peek (rest t p) 0)=true:=(by rw [tn];decide);rw [if_pos hs] at hN;exact (zrz w b t p v h hg h6 _ _ rfl rfl hsm hca (conv (by decide) gg) (conv (by decide) yN) hdg (conv (by decide) dM) ((zb9 _ 45 (by decide)).2 tn) (conv (by decide) mn) _ rfl (zb6.2 hs) (one tn (by decide)) _ rfl).mono (fun e w' hh=>by rw [hN];exact hh)
        ·by_cases hs:Lx.zgc.contains (Lx.peek (rest t p) 0)=true
         ·rw [if_pos hs] at hN;exact (zqh w b t p v h hg h6 _ _ rfl rfl hsm hca (conv (by decide) gg) (conv (by decide) yN) hdg (conv (by decide) dM) (conv (by decide) tn) _ rfl (zb6.2 hs) (one rfl (fun e=>by rw [e] at hs;exact absurd hs (by decide))) _ rfl).mono (fun e w' hh=>by rw [hN];exact hh)
         ·rw [if_neg hs] at hN;exact (znl w b t p v h hg h6 _ _ rfl rfl hsm hca (conv (by decide) gg) (conv (by decide) yN) hdg (conv (by decide) dM) (conv (by decide) tn) _ rfl (Int.not_le.1 (fun e=>hs (zb6.1 e)))).mono (fun e w' hh=>NextPost.err hN hh)
     ·have hN:=Lx.zdo vL zh (.inr hdg);exact (zr1 w b t p v h hg h6 _ _ rfl rfl hsm hca (conv (by decide) gg) (conv (by decide) yN) hdg _ rfl).mono (fun e w' hh=>by rw [hN];exact hh)
  ·exact (znk w b t p v h hg h6 _ _ rfl rfl hsm hca _ rfl).mono (fun e w' hh=>by rw [← zlx hca];exact hh)
 ·exact (zrw w b t p v h hg h6 _ _ rfl rfl hsm _ rfl).mono (fun e w' hh=>by rw [← zo3 hsm];exact hh)
theorem begins_two(l:List UInt8):Lx.begins l=two l 40 42:=(zyr l 40 42 (by decide) (by decide)).symm
theorem zju{c:UInt8}{r:List UInt8}(h:Lx.span Lx.zbk (c::r)=0):Lx.zbk c=false:=by
 cases hc:Lx.zbk c
 ·rfl
 ·rw [Lx.zbc hc] at h;omega
theorem zgv(P:UInt8→Bool) : ∀l:List UInt8,Lx.span P (l.drop (Lx.span P l))=0
 | []=>rfl
 | c::r=>by
  cases h:P c
  ·rw [Lx.zb3 h,List.drop_zero,Lx.zb3 h]
  ·rw [Lx.zbc h,List.drop_succ_cons];exact zgv P r
def zxg(w:World)(b:Nat)(t:ByteArray)(p:Nat)(L:List (Nat×Nat))(e:Ending)(w':World):Prop:=
 (e=.returned (.tuple #[])∧∃q v' C,St w' b t q v'∧Cm w' b v' (L++C)∧Frc b w w'∧Lx.scan (rest t p) p=(Lx.scan (rest t q) q).pre [] C ∧
  Lx.span Lx.zbk (rest t q)=0∧two (rest t q) 40 42=false∧p≤q∧(L++C).length≤q) ∨
 (∃(a:Nat) (x:Int),e=pan a x∧Lx.scan (rest t p) p=.err a x∧Frc b w w')
theorem zfb(t:ByteArray)(p:Nat):Lx.scan (rest t p) p=Lx.scan (rest t (p+Lx.span Lx.zbk (rest t p))) (p+Lx.span Lx.zbk (rest t p)):=by
 rw [Lx.zio (rest t p) p,zca]
theorem zlo{t:ByteArray}{q:Nat}(hs:Lx.span Lx.zbk (rest t q)=0)(hb:two (rest t q) 40 42=true) :
  Lx.scan (rest t q) q=match Lx.zae (rest t q) 0 0 with
   | .closed n=>(Lx.scan (rest t (q+n)) (q+n)).pre [] [(q,q+n)]
   | .open=>.err q 12
   | .deep n=>.err (q+n) 6:=by
 obtain⟨r,hr⟩:=zdy hb;have h1:Lx.zbk 40=false:=by decide
 have h2:Lx.begins (40::42::r)=true:=by rw [begins_two,← hr];exact hb
 have:=Lx.zcq h1 h2 q;rw [← hr] at this;rw [this];cases Lx.zae (rest t q) 0 0 with
 | closed n=>simp only;rw [Lx.Scan.com_pre,zca]
 | «open» => rfl
 | deep n=>rfl
theorem zp6(w:World)(b:Nat)(t:ByteArray)(p:Nat)(v:Value)(h:St w b t p v)(L:List (Nat×Nat))(hL:Cm w b v L)(hlen:L.length≤p)(ht:t.size≤400000) :
  Calls Tryz.prog 194 #[.pointer (some ⟨b,0,none⟩)] w (zxg w b t p L):=by
 go_enter Tryz.func194,Tryz.ntmps194
 go_wp2_with fail
 refine (h.pass_space).mono ?_;rintro e w1 ⟨rfl,h1,f1⟩
 go_wp2_with fail
 go_loopg [] (t.size-(p+Lx.span Lx.zbk (rest t p))) (fun g wr=>∃q v' C,g=t.size-q∧St wr b t q v'∧Cm wr b v' (L++C)∧Frc b w wr∧Lx.scan (rest t p) p=(Lx.scan (rest t q) q).pre [] C∧Lx.span Lx.zbk (rest t q)=0∧p≤q∧(L++C).length≤q)
 case atStart=>
  refine⟨_,v,[],rfl,h1,?_,f1.frc,?_,?_,by omega,?_⟩
  ·rw [List.append_nil];exact hL.but f1
  ·rw [Lx.Scan.pre_nil];exact zfb t p
  ·rw [← zca];exact zgv _ _
  ·rw [List.append_nil];omega
 case round=>
  obtain⟨q,v',C,hg,hS,hC,hF,vL,fw,hpq,rV⟩:=hrel;have HG:=qya hg;have HS:=qya vL;have HP:=qya fw;clear hg vL fw;cases hb:two (rest t q) 40 42
  ·have HB:=qya hb;clear hb
   go_wp2_with fail
   refine (hS.begins 40 42 HB).mono ?_;rintro e w2 ⟨rfl,m,rfl⟩;go_wp2
   go_end0
   exact .inl ⟨rfl,q,v',C,hS.drewN m,hC.old ((Old.refl wr).drewN m),hF.drewN m,HS.out,HP.out,HB.out,hpq,rV⟩
  ·have HB:=qya hb;clear hb;have qX:=hS.le
   go_wp2_with fail
   refine (hS.begins 40 42 HB).mono ?_;rintro e w2 ⟨rfl,m,rfl⟩
   go_wp2_with fail
   refine (zpu _ b t q v' (hS.drewN m) (L++C) (hC.old ((Old.refl wr).drewN m)) (by omega) HB).mono ?_;intro e w2 hP;have rn:=zlo HP.out HB.out;cases hc:Lx.zae (rest t q) 0 0 with
   | closed n=>
    rw [hc] at hP rn;obtain⟨rfl,v2,h2,c2,f2⟩:=hP;have HQ:=qya rn;have hn:=Lx.zf6 _ _ _ _ hc;clear rn hc
    go_wp2_with fail
    refine (h2.pass_space).mono ?_;rintro e w3 ⟨rfl,h3,f3⟩;have dD:=h3.le
    go_wp2_with fail
    go_roundg (t.size-(q+n+Lx.span Lx.zbk (rest t (q+n))))
    case measure=>have:=HG.out;omega
    case rel=>
     refine⟨_,v2,C++[(q,q+n)],rfl,h3,?_,?_,?_,?_,by omega,?_⟩
     ·rw [← List.append_assoc];exact c2.but f3
     ·exact Frc.trans (Frc.trans (hF.drewN m) f2) f3.frc
     ·rw [HS.out,HQ.out,← zfb,Lx.Scan.pre_pre];rfl
     ·rw [← zca];exact zgv _ _
     ·rw [← List.append_assoc,qye];simp only [qxh,qxi];omega
   | «open» =>
    rw [hc] at hP rn;obtain⟨rfl,f2⟩:=hP;have HQ:=qya rn;clear rn hc;go_wp2;refine⟨rfl,.inr ⟨q,12,rfl,?_,Frc.trans (hF.drewN m) f2.frc⟩⟩;rw [HS.out,HQ.out];rfl
   | deep n=>
    rw [hc] at hP rn;obtain⟨rfl,f2⟩:=hP;have HQ:=qya rn;clear rn hc;go_wp2;refine⟨rfl,.inr ⟨q+n,6,rfl,?_,Frc.trans (hF.drewN m) f2.frc⟩⟩;rw [HS.out,HQ.out];rfl
theorem zj7(T O:Nat)(w:World) :
  CallsD Tryz.prog 197 #[.pointer (some ⟨T,0,none⟩),.pointer (some ⟨O,0,none⟩)] .returning w fun e u' w'=>e=.returned (.tuple #[])∧u'=.returning∧w'=w:=by
 refine callsD_of_wpS Tryz.func197 rfl fun c₀ cs hu => ?_;apply wpS_seq;apply wpS_region;simp [wpOpsS,go_sem,recoverD,hu,Tryz.ntmps197,Exit.thenS];refine wpS_cond (t:=false) (by simp [Act.eval,Array.replicate]) ?_;simp only [Bool.false_eq_true,if_false];refine wpS_of_wp (wp_skip ?_);cases c₀
 simp_all [bodyPostS,results,Tryz.results197]
theorem zoh(T O:Nat)(x0 x1 x2 x3 y:Value)(TT TO:TypeId)(u:TypeId)(pv:Value)(kz:List PanicEntry)(w:World)(hT:Blk w T #[x0,x1,x2,x3] TT)(hO:Blk w O #[y] TO)(zh:O≠T) :
  CallsD Tryz.prog 197 #[.pointer (some ⟨T,0,none⟩),.pointer (some ⟨O,0,none⟩)] (.panicking ({ v:=.iface u pv,recovered:=false } :: kz)) w fun e u' w'=>
   e=.returned (.tuple #[])∧u'=.panicking ({ v:=.iface u pv,recovered:=true } :: kz) ∧
   w'=(((((w.setCell ⟨T,0,none⟩ (.int .i64 0)).setCell ⟨T,1,none⟩ (.int .i64 0)).setCell ⟨T,2,none⟩ (.string ⟨#[]⟩)).setCell ⟨T,3,none⟩ (.int .i64 0))).setCell ⟨O,0,none⟩ (.bool false):=by
 obtain⟨c0,c1,c2,c3,g0,g1,g2,g3⟩:=hT.four;have d0:=hO.c 0 y rfl;have e0:=hO.free 0;refine callsD_of_wpS Tryz.func197 rfl fun c₀ cs hu => ?_;apply wpS_seq;apply wpS_region;simp [wpOpsS,go_sem,recoverD,hu,Tryz.ntmps197,Exit.thenS];refine wpS_cond (t:=true) (by simp [Act.eval,Array.replicate]) ?_;simp only [if_true];apply wpS_region;simp [wpOpsS,go_sem,c0,c1,c2,c3,g0,g1,g2,g3,d0,e0,zh,bodyPostS,results,Tryz.results197]
theorem St.load{w:World}{b:Nat}{t:ByteArray}{p:Nat}{v:Value}(h:St w b t p v)(s:ByteArray)(hs:s.size≤140737488355328) :
  St ((w.setCell ⟨b,0,none⟩ (.string s)).setCell ⟨b,1,none⟩ (.int .i64 0)) b s 0 v:=by
 obtain⟨r,h1,h2,h3⟩:=h;have hf:=((But.refl b w).setCell ⟨b,0,none⟩ (fun _=>rfl) (.string s)).setCell ⟨b,1,none⟩ (fun _=>rfl) (.int .i64 0);refine⟨r,⟨?_,hs,qyi _⟩,h2.but h1 hf,h3⟩;have:=(h1.blk.set 0 (.string s)).set 1 (.int .i64 0)
 rwa [show ((#[Value.string t,.int .i64 (p:Int)]++r).setIfInBounds 0 (.string s)).setIfInBounds 1 (.int .i64 0)=#[Value.string s,.int .i64 ((0:Nat):Int)]++r from by simp [Array.setIfInBounds_append]] at this
theorem zs3(w:World)(b:Nat)(t:ByteArray)(p:Nat)(v:Value)(h:St w b t p v)(hg:Gl w)(h6:6≤b)(s:ByteArray)(hs:s.size≤140737488355328)(x:Int)(hN:Hid (Lx.next (rest s 0)=.err x)) :
  Calls Tryz.prog 131 #[.pointer (some ⟨b,0,none⟩),.string s] w fun e w'=>e=.returned (.tuple #[tokV 0 0 ⟨#[]⟩ 0,.bool false])∧But b w w':=by
 have vw:=mkf;have hc0:=h.text;have hc1:=h.pos;have hf0:=h.free 0;have hf1:=h.free 1;have hb:=h.lt
 go_enter_defers Tryz.func131,Tryz.ntmps131
 go_wp2_with fail
 refine (zh2 _ b s 0 v (((h.load s hs).alloc _).alloc _) (((hg.but (((But.refl b w).setCell ⟨b,0,none⟩ (fun _=>rfl) (.string s)).setCell ⟨b,1,none⟩ (fun _=>rfl) (.int .i64 0)) h6).alloc _).alloc _) h6).mono ?_;rw [hN.out];rintro e w1 ⟨rfl,f1⟩;have kT:=((Blk.new' (b:=w.heap.size) (by rw [zat,zat]) _ _).alloc _).keep f1 (show ¬w.heap.size=b by omega);have kO:=(Blk.new' (b:=w.heap.size+1) (by rw [qyd,zat,zat]) _ _).keep f1 (show ¬w.heap.size+1=b by omega);have F1:=(((((But.refl b w).setCell ⟨b,0,none⟩ (fun _=>rfl) (.string s)).setCell ⟨b,1,none⟩ (fun _=>rfl) (.int .i64 0)).alloc _).alloc _).trans f1;clear f1;go_wp2;refine leaves_cons (f:=197) (args:=#[.pointer (some ⟨w.heap.size,0,none⟩),.pointer (some ⟨w.heap.size+1,0,none⟩)]) (by simp) (by simp [go_sem]) ?_;refine (zoh _ _ _ _ _ _ _ _ _ _ _ _ _ kT kO (by omega)).mono ?_;rintro e u' w2 ⟨rfl,rfl,rfl⟩;obtain⟨c0,c1,c2,c3,g0,g1,g2,g3⟩:=kT.four;have d0:=kO.cell (i:=0) rfl;have e0:=kO.free 0;simp [Leaves,settle,results,Tryz.results131,go_sem,c0,c1,c2,c3,d0];exact (F1.set4 (qyb _) _ _ _ _).setCell ⟨w.heap.size+1,0,none⟩ (fun e=>absurd e (by simp)) _
theorem zq5(w:World)(b:Nat)(t:ByteArray)(p:Nat)(v:Value)(h:St w b t p v)(hg:Gl w)(h6:6≤b)(s:ByteArray)(hs:s.size≤140737488355328)(k n:Int)(j:Nat)(hN:Hid (Lx.next (rest s 0)=.tok k n j))(hj:Hid (decide (s.size≤j)=false)) :
  Calls Tryz.prog 131 #[.pointer (some ⟨b,0,none⟩),.string s] w fun e w'=>e=.returned (.tuple #[tokV 0 0 ⟨#[]⟩ 0,.bool false])∧But b w w':=by
 have vw:=mkf;have hc0:=h.text;have hc1:=h.pos;have hf0:=h.free 0;have hf1:=h.free 1;have hb:=h.lt
 go_enter_defers Tryz.func131,Tryz.ntmps131
 go_wp2_with fail
 refine (zh2 _ b s 0 v (((h.load s hs).alloc _).alloc _) (((hg.but (((But.refl b w).setCell ⟨b,0,none⟩ (fun _=>rfl) (.string s)).setCell ⟨b,1,none⟩ (fun _=>rfl) (.int .i64 0)) h6).alloc _).alloc _) h6).mono ?_;rw [hN.out];rintro e w1 ⟨rfl,h1,f1⟩;rw [Nat.zero_add] at h1;have kT:=((Blk.new' (b:=w.heap.size) (by rw [zat,zat]) _ _).alloc _).keep f1 (show ¬w.heap.size=b by omega);have kO:=(Blk.new' (b:=w.heap.size+1) (by rw [qyd,zat,zat]) _ _).keep f1 (show ¬w.heap.size+1=b by omega);have F1:=(((((But.refl b w).setCell ⟨b,0,none⟩ (fun _=>rfl) (.string s)).setCell ⟨b,1,none⟩ (fun _=>rfl) (.int .i64 0)).alloc _).alloc _).trans f1;clear f1;have rZ:=kO.lt
 go_wp2_with fail
 refine ((h1.alloc _).done hj).mono ?_;rintro e w2 ⟨rfl,m,xS⟩;have kT2:Blk w2 w.heap.size #[.int .i64 0,.int .i64 0,.string ⟨#[]⟩,.int .i64 0] 59:=by rw [xS];exact (kT.alloc _).drewN m
 have kO2:Blk w2 (w.heap.size+1) #[.bool false] 4:=by rw [xS];exact (kO.alloc _).drewN m
 have F2:But b w w2:=by rw [xS];exact (F1.alloc _).drewN m
 have h2:St w2 b s j v:=by rw [xS];exact (h1.alloc _).drewN m
 have kN:Blk w2 w1.heap.size #[.int .i64 k,.int .i64 n,.string (s.extract 0 j),.int .i64 0] 59:=by rw [xS];exact (Blk.new' rfl _ _).drewN m
 have jh:w1.heap.size<w2.heap.size:=kN.lt;clear xS kT kO h1 F1;obtain⟨c0,c1,c2,c3,g0,g1,g2,g3⟩:=kT2.four;obtain⟨n0,n1,n2,n3,-⟩:=kN.four;have d0:=kO2.c 0 (.bool false) rfl;have e0:=kO2.free 0;have zh : ¬w1.heap.size=w.heap.size:=by omega
 have rJ : ¬w1.heap.size=w.heap.size+1:=by omega
 have rQ : ¬w.heap.size=w1.heap.size:=by omega
 have ro : ¬w.heap.size+1=w1.heap.size:=by omega
 go_wp2;refine leaves_cons (f:=197) (args:=#[.pointer (some ⟨w.heap.size,0,none⟩),.pointer (some ⟨w.heap.size+1,0,none⟩)]) (by simp) (by simp [go_sem]) ?_;refine (zj7 _ _ _).mono ?_;rintro e u' w3 ⟨rfl,rfl,rfl⟩;simp [Leaves,settle,results,Tryz.results131,go_sem,c0,c1,c2,c3,d0];exact (F2.set4 (qyb _) _ _ _ _).setCell ⟨w.heap.size+1,0,none⟩ (fun e=>absurd e (by simp)) _
theorem zs2(w:World)(b:Nat)(t:ByteArray)(p:Nat)(v:Value)(h:St w b t p v)(hg:Gl w)(h6:6≤b)(s:ByteArray)(hs:s.size≤140737488355328)(k n:Int)(j:Nat)(hN:Hid (Lx.next (rest s 0)=.tok k n j))(hj:Hid (decide (s.size≤j)=true))(he:s.extract 0 j=s) :
  Calls Tryz.prog 131 #[.pointer (some ⟨b,0,none⟩),.string s] w fun e w'=>e=.returned (.tuple #[tokV k n s 0,.bool true])∧St w' b s j v∧But b w w':=by
 have vw:=mkf;have hc0:=h.text;have hc1:=h.pos;have hf0:=h.free 0;have hf1:=h.free 1;have hb:=h.lt
 go_enter_defers Tryz.func131,Tryz.ntmps131
 go_wp2_with fail
 refine (zh2 _ b s 0 v (((h.load s hs).alloc _).alloc _) (((hg.but (((But.refl b w).setCell ⟨b,0,none⟩ (fun _=>rfl) (.string s)).setCell ⟨b,1,none⟩ (fun _=>rfl) (.int .i64 0)) h6).alloc _).alloc _) h6).mono ?_;rw [hN.out];rintro e w1 ⟨rfl,h1,f1⟩;rw [Nat.zero_add] at h1;have kT:=((Blk.new' (b:=w.heap.size) (by rw [zat,zat]) _ _).alloc _).keep f1 (show ¬w.heap.size=b by omega);have kO:=(Blk.new' (b:=w.heap.size+1) (by rw [qyd,zat,zat]) _ _).keep f1 (show ¬w.heap.size+1=b by omega);have F1:=(((((But.refl b w).setCell ⟨b,0,none⟩ (fun _=>rfl) (.string s)).setCell ⟨b,1,none⟩ (fun _=>rfl) (.int .i64 0)).alloc _).alloc _).trans f1;clear f1;have rZ:=kO.lt
 go_wp2_with fail
 refine ((h1.alloc _).done hj).mono ?_;rintro e w2 ⟨rfl,m,xS⟩;have kT2:Blk w2 w.heap.size #[.int .i64 0,.int .i64 0,.string ⟨#[]⟩,.int .i64 0] 59:=by rw [xS];exact (kT.alloc _).drewN m
 have kO2:Blk w2 (w.heap.size+1) #[.bool false] 4:=by rw [xS];exact (kO.alloc _).drewN m
 have F2:But b w w2:=by rw [xS];exact (F1.alloc _).drewN m
 have h2:St w2 b s j v:=by rw [xS];exact (h1.alloc _).drewN m
 have kN:Blk w2 w1.heap.size #[.int .i64 k,.int .i64 n,.string s,.int .i64 0] 59:=by rw [xS];exact (Blk.new' rfl _ _).drewN m
 have jh:w1.heap.size<w2.heap.size:=kN.lt;clear xS kT kO h1 F1;obtain⟨c0,c1,c2,c3,g0,g1,g2,g3⟩:=kT2.four;obtain⟨n0,n1,n2,n3,-⟩:=kN.four;have d0:=kO2.c 0 (.bool false) rfl;have e0:=kO2.free 0;have zh : ¬w1.heap.size=w.heap.size:=by omega
 have rJ : ¬w1.heap.size=w.heap.size+1:=by omega
 have rQ : ¬w.heap.size=w1.heap.size:=by omega
 have ro : ¬w.heap.size+1=w1.heap.size:=by omega
 go_wp2;refine leaves_cons (f:=197) (args:=#[.pointer (some ⟨w.heap.size,0,none⟩),.pointer (some ⟨w.heap.size+1,0,none⟩)]) (by simp) (by simp [go_sem]) ?_;refine (zj7 _ _ _).mono ?_;rintro e u' w3 ⟨rfl,rfl,rfl⟩;simp [Leaves,settle,results,Tryz.results131,go_sem,c0,c1,c2,c3,d0];refine⟨St.set1 (St.set4 h2 kT2 (by omega) _ _ _ _) (kO2.set4other (by omega) _ _ _ _) (by omega) 0 _,(F2.set4 (qyb _) _ _ _ _).setCell ⟨w.heap.size+1,0,none⟩ (fun e=>absurd e (by simp)) _⟩
theorem zm8{t:ByteArray}{q:Nat}(h:q<t.size) : ∃c r,rest t q=c::r:=by
 cases hr:rest t q with
 | nil=>
  exfalso;have:=congrArg List.length hr;simp [rest] at this;have h':q<t.data.size:=h;omega
 | cons c r=>exact⟨c,r,rfl⟩
theorem zv1{t:ByteArray}{q:Nat}(h:t.size≤q):rest t q=[]:=by
 unfold rest;exact List.drop_eq_nil_of_le (by rw [qyv];exact h)
theorem zln{t:ByteArray}{q:Nat}(hq:q<t.size)(hs:Lx.span Lx.zbk (rest t q)=0)(hb:two (rest t q) 40 42=false) :
  Lx.scan (rest t q) q=match Lx.next (rest t q) with
   | .tok k n j=>(Lx.scan (rest t (q+j)) (q+j)).pre [{ kind:=k,num:=n,text:=(rest t q).take j,pos:=q }] []
   | .err e=>.err q e:=by
 obtain⟨c,r,hr⟩:=zm8 hq;rw [hr] at hs hb;have h1:=zju hs;have h2:Lx.begins (c::r)=false:=by rw [begins_two];exact hb
 have:=Lx.zch h1 h2 q;rw [hr,this];cases Lx.next (c::r) with
 | tok k n j=>
  simp only;rw [Lx.Scan.tok_pre,← hr,zca]
 | err e=>rfl
abbrev tkV(x:Lx.Tok):Value:=tokV x.kind x.num ⟨x.text.toArray⟩ x.pos
theorem zsm(t:ByteArray)(q j:Nat):t.extract q (q+j)=⟨((rest t q).take j).toArray⟩:=by
 apply ByteArray.ext;apply Array.ext';rw [zdg]
def zxf(b:Nat)(t:ByteArray)(J:List Lx.Tok→World→Prop)(e:Ending)(w':World):Prop:=
 (e=.returned (.tuple #[])∧∃ts C q v,Lx.scan (rest t 0) 0=.ok ts C∧J ts w'∧St w' b t q v∧Cm w' b v C∧Gl w') ∨
 (∃(a:Nat) (x:Int) (ts:List Lx.Tok),e=pan a x∧Lx.scan (rest t 0) 0=.err a x∧J ts w')
attribute [local go_sem] Oper.semAt_some
theorem Gl.frc{b:Nat}{w w':World}(h:Gl w)(hf:Frc b w w')(hb:6≤b)(hl:b≤w.heap.size):Gl w':=h.below ((hf.below hl).mono hb)
theorem zq9(n:Nat)(hn:1≤n)(l:Nat)(w:World)(b:Nat)(t:ByteArray)(v:Value)(h:St w b t 0 v)(hC:Cm w b v [])(hg:Gl w)(h6:6≤b)(ht:t.size≤400000)
  (J:List Lx.Tok→World→Prop)(hJ : ∀ts W W',J ts W→b<W.heap.size→Frc b W W'→J ts W')
  (hY : ∀(x:Lx.Tok) (ts:List Lx.Tok) (q:Nat) (u:Value) (C:List (Nat×Nat)) (W:World),ts.length≤400000→J ts W→St W b t q u→Cm W b u C→Gl W →
   YieldAt Fence.wide (n-1) Tryz.prog l #[tkV x] W fun e W'=>e=.returned (.bool true)∧J (ts++[x]) W'∧St W' b t q u∧Cm W' b u C∧Gl W')
  (h0:J [] w) :
  CallsIn Fence.wide n Tryz.prog 130 #[.pointer (some ⟨b,0,none⟩),.func (.yield l) #[] #[]] w (zxf b t J):=by
 refine callsIn_of_wp Tryz.func130 rfl trivial ?_ rfl;simp only [Tryz.ntmps130,qxg,qxh,qxi,Nat.reduceAdd,Nat.reduceSub,qxj,qxk,qxl,qxm,qxn,qxo]
 gi_wp2_with fail
 refine⟨trivial,(callsIn_wide.2 (zp6 _ b t 0 v h [] hC (by simp) ht)).mono ?_⟩;rintro e w1 (⟨rfl,q,v1,C,h1,c1,f1,vL,fw,sW,hq,rV⟩ | ⟨a,x,rfl,vL,f1⟩)
 case inr=>
  gi_wp2;exact⟨rfl,.inr ⟨a,x,[],rfl,vL,hJ _ _ _ h0 h.lt f1⟩⟩
 case inl=>
 have HS:=qya vL;have HP:=qya fw;have HB:=qya sW;clear vL fw sW;rw [qxn] at c1 rV
 gi_wp2_with fail
 gi_loopg [] (t.size-q) (fun g wr=>∃q v' C ts,g=t.size-q∧St wr b t q v'∧Cm wr b v' C∧Gl wr∧J ts wr∧Lx.scan (rest t 0) 0=(Lx.scan (rest t q) q).pre ts C∧Lx.span Lx.zbk (rest t q)=0∧two (rest t q) 40 42=false∧C.length≤q∧ts.length≤q)
 case atStart=>
  exact⟨q,v1,C,[],rfl,h1,c1,hg.frc f1 h6 (Nat.le_of_lt h.lt),hJ _ _ _ h0 h.lt f1,HS.out,HP.out,HB.out,rV,qyi _⟩
 case round=>
  obtain⟨q,v',C,ts,bI,hS,hC',hG,hJt,vL,fw,sW,rV,htl⟩:=hrel;have HG:=qya bI;have HS:=qya vL;have HP:=qya fw;have HB:=qya sW;have HL:=qya rV;have HT:=qya htl;clear bI vL fw sW rV htl;cases hd:decide (t.size≤q)
  ·have HD:=qya hd;clear hd;have qx:q<t.size:=(by have:=HD.out;simpa using this);have hst:=zln qx HP.out HB.out
   gi_wp2_with fail
   refine⟨trivial,(callsIn_wide.2 (hS.done HD)).mono ?_⟩;rintro e w2 ⟨rfl,m,xS⟩;have cJ:St w2 b t q v':=(by rw [xS];exact hS.drewN m);have tb:Cm w2 b v' C:=(by rw [xS];exact hC'.old ((Old.refl wr).drewN m));have hG2:Gl w2:=(by rw [xS];exact hG.old ((Old.refl wr).drewN m));have xo:J ts w2:=(by rw [xS];exact hJ _ _ _ hJt hS.lt (Old.frc ((Old.refl wr).drewN m) b));clear xS
   gi_wp2_with fail
   refine⟨trivial,(callsIn_wide.2 (zh2 _ b t q v' cJ hG2 h6)).mono ?_⟩;intro e w3 hN;cases hx:Lx.next (rest t q) with
   | err x=>
    rw [hx] at hN hst;obtain⟨rfl,f3⟩:=hN;have HQ:=qya hst;clear hst;gi_wp2;refine⟨rfl,.inr ⟨q,x,ts,rfl,?_,hJ _ _ _ xo cJ.lt f3.frc⟩⟩;rw [HS.out,HQ.out];rfl
   | tok k m j=>
    rw [hx] at hN hst;obtain⟨rfl,h3,f3⟩:=hN;rw [zsm];have HQ:=qya hst;obtain⟨c0,r0,hr0⟩:=zm8 qx;have hj:=Lx.zgj (hr0▸hx);clear hr0;have nx:=tb.but f3;have hG3:=hG2.but f3 h6;have hJ3:=hJ _ _ _ xo cJ.lt f3.frc;clear hst;obtain⟨fn,tmps,assign,body,hy,hR⟩:=hY ⟨k,m,(rest t q).take j,q⟩ ts (q+j) v' C w3 (by have:=HT.out;have:=hS.le;omega) hJ3 h3 nx hG3
    gi_wp2_with fail
    refine hR.mono ?_;rintro e w4 ⟨rfl,hJ4,h4,c4,g4⟩;clear hy hR;have ks:=h4.le
    gi_wp2_with fail
    refine⟨trivial,(callsIn_wide.2 (zp6 _ b t (q+j) v' h4 C c4 (by have:=HL.out;omega) ht)).mono ?_⟩;rintro e w5 (⟨rfl,q5,v5,C5,h5,c5,f5,vL,fw,sW,hq5,rV⟩ | ⟨a,x,rfl,vL,f5⟩)
    ·have HS5:=qya vL;have HP5:=qya fw;have HB5:=qya sW;clear vL fw sW
     gi_wp2_with fail
     go_roundg (t.size-q5)
     case measure=>have:=HG.out;omega
     case rel=>
      refine⟨q5,v5,C++C5,_,rfl,h5,c5,g4.frc f5 h6 (Nat.le_of_lt h4.lt),hJ _ _ _ hJ4 h4.lt f5,?_,HP5.out,HB5.out,rV,by have:=HT.out;rw [qye,qyh];omega⟩;rw [HS.out,HQ.out];rw [HS5.out,Lx.Scan.pre_pre,Lx.Scan.pre_pre];simp
    ·have HS5:=qya vL;clear vL;gi_wp2;refine⟨rfl,.inr ⟨a,x,_,rfl,?_,hJ _ _ _ hJ4 h4.lt f5⟩⟩;rw [HS.out,HQ.out];rw [HS5.out];rfl
  ·have HD:=qya hd;clear hd;have qx:t.size≤q:=by have:=HD.out;simpa using this
   gi_wp2_with fail
   refine⟨trivial,(callsIn_wide.2 (hS.done HD)).mono ?_⟩;rintro e w2 ⟨rfl,m,rfl⟩;gi_wp2
   go_end0
   refine .inl ⟨rfl,ts,C,q,v',?_,hJ _ _ _ hJt hS.lt (Old.frc ((Old.refl wr).drewN m) b),hS.drewN m,hC'.old ((Old.refl wr).drewN m),hG.old ((Old.refl wr).drewN m)⟩;rw [HS.out,zv1 qx,Lx.zvw];simp [Lx.Scan.pre]
theorem zsx(w:World)(v:Value):(Instr.typeAssert (.iface 171 v) 20 171 true).run Tryz.prog w=.ok (.tuple #[v,.bool true]) w:=by kernel_rfl
theorem zsy(w:World):(Instr.typeAssert .nilIface 20 171 true).run Tryz.prog w=.ok (.tuple #[.agg #[.int .i64 0,.int .i64 0],.bool false]) w:=by kernel_rfl
theorem zml(n A B C:Nat)(w:World) :
  CallsDIn Fence.wide n Tryz.prog 129 #[.pointer (some ⟨A,0,none⟩),.pointer (some ⟨B,0,none⟩),.pointer (some ⟨C,0,none⟩)] .returning w fun e u' w'=>e=.returned (.tuple #[])∧u'=.returning∧∃o,w'=w.alloc o:=by
 refine callsDIn_of_wpSIn (F:=Fence.wide) Tryz.func129 rfl trivial fun c₀ cs hu => ?_;simp only [Tryz.ntmps129,qxg,qxh,qxi,Nat.reduceAdd,Nat.reduceSub,qxj,qxk,qxl,qxm,qxn,qxo];apply wpSIn_seq;apply wpSIn_region;simp [wpOpsSIn,go_sem,recoverD,hu,Exit.thenS,zsy,List.range,List.range.loop];refine wpSIn_of_wpIn rfl ?_;gi_wp2;exact⟨rfl,_,(by cases c₀;cases hu;rfl),_,results_none rfl _ _ _,rfl,rfl,_,rfl⟩
theorem zvd(n A B C:Nat)(va vb vc:Value)(TA TB TC:TypeId)(a x:Int)(kz:List PanicEntry)(w:World)(hA:Blk w A #[va] TA)(hB:Blk w B #[vb] TB)(hC:Blk w C #[vc] TC)(jI:A≠B)(hAC:A≠C)(hBC:B≠C) :
  CallsDIn Fence.wide n Tryz.prog 129 #[.pointer (some ⟨A,0,none⟩),.pointer (some ⟨B,0,none⟩),.pointer (some ⟨C,0,none⟩)] (.panicking ({ v:=zs1 a x,recovered:=false } :: kz)) w fun e u' w'=>
   e=.returned (.tuple #[])∧u'=.panicking ({ v:=zs1 a x,recovered:=true } :: kz) ∧
   ∃o,w'=((((w.setCell ⟨A,0,none⟩ (.slice none 0 0)).setCell ⟨B,0,none⟩ (.int .i64 a)).setCell ⟨C,0,none⟩ (.int .i64 x)).alloc o).drew:=by
 have a0:=hA.c 0 va rfl;have b0:=hB.c 0 vb rfl;have c0:=hC.c 0 vc rfl;have a1:=hA.free 0;have b1:=hB.free 0;have c1:=hC.free 0;have al:=hA.lt;have bl:=hB.lt;have cl:=hC.lt;refine callsDIn_of_wpSIn (F:=Fence.wide) Tryz.func129 rfl trivial fun c₀ cs hu => ?_;simp only [Tryz.ntmps129,qxg,qxh,qxi,Nat.reduceAdd,Nat.reduceSub,qxj,qxk,qxl,qxm,qxn,qxo];apply wpSIn_seq;apply wpSIn_region;simp [wpOpsSIn,go_sem,recoverD,hu,Exit.thenS,zsx,List.range,List.range.loop];refine wpSIn_of_wpIn rfl ?_
 gi_wp2_with fail
 gi_region
 exact⟨rfl,_,rfl,_,results_none rfl _ _ _,rfl,rfl,_,rfl⟩
def zco(L:List Lx.Tok):List Value:=L.flatMap fun x=>[.int .i64 x.kind,.int .i64 x.num,.string ⟨x.text.toArray⟩,.int .i64 x.pos]
theorem zld(L:List Lx.Tok)(x:Lx.Tok):zco (L++[x])=zco L++[.int .i64 x.kind,.int .i64 x.num,.string ⟨x.text.toArray⟩,.int .i64 x.pos]:=by
 unfold zco;rw [List.flatMap_append];rfl
theorem zjb:(Tryz.prog.info? 59).map (fun i=>(i.zero,i.size,i.bytes))=some (some (.agg #[.int .i64 0,.int .i64 0,.string ⟨#[]⟩,.int .i64 0]),4,40):=by kernel_rfl
abbrev Tk(w:World)(b:Nat)(v:Value)(L:List Lx.Tok):Prop:=w.ownsRow (b+1) 59 4 v L.length (zco L)
theorem zh1{S:Nat→Prop}{w w':World}{base:Nat}{e:TypeId}{size:Nat}{v:Value}{n:Nat}{xs:List Value}(h:w.ownsRow base e size v n xs)(hf:Fr S w w')(hn : ∀k,v.ownBlock=some k→¬S k):w'.ownsRow base e size v n xs:=by
 obtain⟨h1,h2⟩:=h;refine⟨h1,?_⟩;rcases h2 with h2 | ⟨g,cap,vy,hv,hg,hh,r⟩
 ·exact Or.inl h2
 ·subst hv;exact Or.inr ⟨g,cap,vy,rfl,hg,hf.heap hh (hn g rfl),r⟩
theorem zeh{w:World}{base:Nat}{e:TypeId}{size:Nat}{v:Value}{n:Nat}{xs:List Value}(h:w.ownsRow base e size v n xs){k:Nat}(hk:v.ownBlock=some k):base≤k∧∃cs,w.heap[k]? = some (.cells cs e (0,0)):=by
 obtain⟨_,h2⟩:=h;rcases h2 with ⟨h2,_⟩ | ⟨g,cap,vy,hv,hg,hh,_⟩
 ·subst h2;cases hk
 ·subst hv;cases hk;exact⟨hg,vy,hh⟩
theorem zd3{w:World}{base:Nat}{e:TypeId}{size:Nat}{v:Value}{n:Nat}{xs:List Value}(h:w.ownsRow base e size v n xs){k:Nat}(hk:v.ownBlock=some k){o:Obj}(ho:w.heap[k]? = some o)(zh : ∀cs,o≠.cells cs e (0,0)):False:=by
 obtain⟨_,cs,qn⟩:=zeh h hk;rw [ho] at qn;cases qn;exact zh cs rfl
def zcj:Code→Option (Code×Code)
 | .rangeFunc _ _ a b=>some (a,b)
 | .seq a b=>(zcj a).orElse fun _=>zcj b
 | .block _ c=>zcj c
 | .cond _ a b=>(zcj a).orElse fun _=>zcj b
 | .loop c=>zcj c
 | _=>none
structure AllAt(w0:World)(b R l D:Nat)(qj:LoopState→Option Code→Loop)(ts:List Lx.Tok)(W:World):Prop where
 box : ∃v,Blk W R #[v] 54∧Tk W b v ts
 at_:Blk W (R+1) #[.int .i64 0] 3
 err:Blk W (R+2) #[.int .i64 0] 26
 L:W.heap[l]? = some (.loop (qj .ready none))
 K:W.heap[D]? = some (.deferred (some []))
 below:Below b w0 W
theorem AllAt.frc{w0:World}{b R l D:Nat}{qj:LoopState→Option Code→Loop}{ts:List Lx.Tok}{W W':World}(h:AllAt w0 b R l D qj ts W)(hR:b<R)(hl:b<l)(hD:b<D)(hb:b<W.heap.size)(hf:Frc b W W'):AllAt w0 b R l D qj ts W':=by
 obtain⟨v,h1,h2⟩:=h.box;refine⟨⟨v,hf.blk h1 (by omega) (by decide),zh1 h2 hf ?_⟩,hf.blk h.at_ (by omega) (by decide),hf.blk h.err (by omega) (by decide),hf.heap h.L (by omega) (by intro cs f e;cases e),hf.heap h.K (by omega) (by intro cs f e;cases e),h.below.trans (hf.below (Nat.le_of_lt hb))⟩;intro k hk hS;obtain⟨hge,cs,qn⟩:=zeh h2 hk;rcases hS with e | ⟨_,cs',f,hc⟩
 ·omega
 ·rw [qn] at hc;cases hc
theorem St.keepO{S:Nat→Prop}{w w':World}{b:Nat}{t:ByteArray}{p:Nat}{v:Value}(h:St w b t p v)(hf:Fr S w w')(hb : ¬S b)(hn : ∀k,S k→(∃cs T f,w.heap[k]? = some (.cells cs T f))∨(∃L,w.heap[k]? = some (.loop L))∨(∃D,w.heap[k]? = some (.deferred D))):St w' b t p v:=by
 obtain⟨r,h1,h2,h3⟩:=h;refine⟨r,h1.keep hf hb,⟨h2.size,fun i hi=>(h2.at_ i hi).imp id (fun ⟨m,h1,h2⟩=>⟨m,h1,h2.keep hf (fun e => ?_)⟩)⟩,h3⟩;rcases hn m e with ⟨cs,T,f,hc⟩ | ⟨L,hc⟩ | ⟨L,hc⟩
 ·exact h2.ne hc rfl
 ·obtain⟨k,L',⟨D,⟨es,vu,hb,_⟩,_⟩,_⟩:=h2;rw [hc] at hb;cases hb
 ·obtain⟨k,L',⟨D,⟨es,vu,hb,_⟩,_⟩,_⟩:=h2;rw [hc] at hb;cases hb
theorem zs4(w:World)(T:TypeId)(l:Array Value) : ∀(j:Nat) (u:Value),l.toList[j]? = some u→(w.alloc (.cells l T (0,0))).cell? ((⟨w.heap.size,0,none⟩:Addr).add j)=some u:=by
 intro j u hj;have e:(⟨w.heap.size,0,none⟩:Addr).add j=⟨w.heap.size,j,none⟩:=by
  cases j with
  | zero=>rfl
  | succ j=>simp [Addr.add]
 rw [e];exact (Blk.new w l T).cell (i:=j) (v:=u) (by simpa using hj)
attribute [local go_sem] Oper.semAt_some
theorem zvb(n:Nat)(w0:World)(fn:FuncId)(b R l D:Nat)(hR:b<R)(hl:R+2<l)(hD:R+2<D)(yB:D≠l)(h6:6≤b)(A B:Code)(jI:zcj (Tryz.f60.body.getD .skip)=some (A,B))(tm:Array Value)
    (f0 f1 f2 f3 f5 f6 f7 f8 f9 fY uL gm gr f14 gn gt gd gf fX fK fV fZ pG dL:Value)(jS:tm=#[f0,f1,f2,f3,.pointer (some ⟨R,0,none⟩),f5,f6,f7,f8,f9,fY,uL,gm,gr,f14,gn,gt,gd,gf,fX,fK,fV,fZ,pG,dL])
    (qj:LoopState→Option Code→Loop)(qu:qj=fun st pe => { state:=st,pending:=pe,fn,tmps:=tm,params:=#[19],assign:=A,body:=B,defers:=D })
    (x:Lx.Tok)(ts:List Lx.Tok)(t:ByteArray)(q:Nat)(u:Value)(C:List (Nat×Nat))(W:World)(yP:ts.length≤400000)
    (h:AllAt w0 b R l D qj ts W)(hS:St W b t q u)(hC:Cm W b u C)(hG:Gl W) :
    YieldAt Fence.wide n Tryz.prog l #[tkV x] W fun e W'=>e=.returned (.bool true)∧AllAt w0 b R l D qj (ts++[x]) W'∧St W' b t q u∧Cm W' b u C∧Gl W':=by
  obtain⟨v,hv,qK⟩:=h.box;have hL:=h.L;have vP:=hL;rw [qu] at vP;refine⟨fn,_,A,B,run_yield (P:=Tryz.prog) (args:=#[tkV x]) vP rfl,roundIn_of_wpIn (F:=Fence.wide) trivial ?_⟩;have j8:=jI;simp only [Tryz.f60,Option.getD_some,zcj,Option.orElse_none,Option.orElse_some,Option.some.injEq,Prod.mk.injEq] at j8;obtain⟨hA,hB⟩:=j8;have qJ:R<W.heap.size:=hv.lt;have hll:l<W.heap.size:=(Array.getElem?_eq_some_iff.1 hL).1;rw [jS];simp only [Array.foldl,Array.zip,List.zip];rw [← hA];clear jI hA vP;gi_wp2;obtain⟨W1,qd⟩ : ∃W1,W.alloc (.cells #[.int .i64 x.kind,.int .i64 x.num,.string ⟨x.text.toArray⟩,.int .i64 x.pos] 59)=W1:=⟨_,rfl⟩;rw [qd];have nT:Blk W1 W.heap.size #[.int .i64 x.kind,.int .i64 x.num,.string ⟨x.text.toArray⟩,.int .i64 x.pos] 59:=by rw [← qd];exact Blk.new _ _ _
  have F1:Old W W1:=by rw [← qd];exact (Old.refl W).alloc _
  have L1:W1.heap[l]? = some (.loop (qj .ready none)):=F1.heap hL (by simp);clear qd;refine⟨_,run_beginRound L1 (by rw [qu]),?_⟩;have gj:Hid ({ { qj .ready none with state:=.busy } with state:=.ready,pending:=none } = qj .ready none):=qya (by rw [qu]);clear jS qu;obtain⟨W2,jJ⟩ : ∃W2,W1.putObj l (.loop { qj .ready none with state:=.busy })=W2:=⟨_,rfl⟩;rw [jJ];have dH:W.heap.size≠l:=by omega
  have wq:Blk W2 W.heap.size #[.int .i64 x.kind,.int .i64 x.num,.string ⟨x.text.toArray⟩,.int .i64 x.pos] 59:=by rw [← jJ];exact nT.putObj dH _
  have F2:Fr (fun k=>k=l) W W2:=by rw [← jJ];exact (Fr.old F1).putObj l _ (fun _=>rfl)
  have L2:W2.heap[l]? = some (.loop { qj .ready none with state:=.busy }):=by rw [← jJ];exact World.putObj_heap_same (lt_of_block L1)
  clear jJ;have sU:Blk W2 R #[v] 54:=hv.keep F2 (by omega);have wz : ∀k,v.ownBlock=some k→b<k∧k≠l∧k≠R:=fun k hk=>by
    obtain⟨h1,cs,h2⟩:=zeh qK hk;refine⟨h1,fun e => ?_,fun e => ?_⟩
    · rw [e,hL] at h2;cases h2
    · rw [e] at h2;unfold Blk at hv;rw [hv] at h2;cases h2
  have hrow2:Tk W2 b v ts:=zh1 qK F2 (fun k hk=>(wz k hk).2.1);obtain⟨n0,n1,n2,n3,-⟩:=wq.four;have r0:=sU.c 0 v rfl;have mj:b+1≤W2.heap.size:=by have:=sU.lt;omega
  obtain⟨i0,hi,qw,j5,jE⟩:=info_parts zjb;rw [← hB];clear hB
  gi_wp2_with (first
    | (gi_at_builtin;refine wpListIn_append_own _ rfl _ _ 54 rfl (b+1) 59 i0 (.agg #[.int .i64 0,.int .i64 0,.string ⟨#[]⟩,.int .i64 0]) 4 40 Tryz.underlying54 hi qw j5 jE rfl (by decide) _ _ _ rfl (hrow2.alloc _) ⟨W2.heap.size,0,none⟩ 1 1 [.int .i64 x.kind,.int .i64 x.num,.string ⟨x.text.toArray⟩,.int .i64 x.pos] rfl rfl (zs4 _ _ _) (by intro u hu;simp at hu;rcases hu with rfl | rfl | rfl | rfl <;> rfl) (by unfold maxLen;omega) (by omega) (by simp;omega) ?_;intro v' w3 jM vF hnil3
       have F3:Fr (fun k=>v.ownBlock=some k) W2 w3:=(((Fr.refl (fun k=>v.ownBlock=some k) W2).alloc _)).grown vF (fun k e _=>e);have hv3:Blk w3 R #[v] 54:=sU.keep F3 (fun e=>(wz _ e).2.2 rfl);have r3:=hv3.c 0 v rfl;have e3:=hv3.free 0;obtain⟨g',dI,rh⟩:=zqf jM;subst rh)
    | fail)
  have hlw:=zeh jM (k:=g') rfl;obtain⟨w4,tL⟩ : ∃w4,w3.setCell ⟨R,0,none⟩ (.slice (some ⟨g',0,none⟩) (ts.length+1) dI)=w4:=⟨_,rfl⟩;rw [tL];have hL3:w3.heap[l]? = some (.loop { qj .ready none with state:=.busy }):=F3.heap L2 (fun e=>(wz _ e).2.1 rfl);have F4:But R w3 w4:=by rw [← tL];exact (But.refl R w3).setCell ⟨R,0,none⟩ (fun _=>rfl) _
  have hv4:Blk w4 R #[.slice (some ⟨g',0,none⟩) (ts.length+1) dI] 54:=by rw [← tL];exact hv3.set 0 _
  clear tL;have hL4:=F4.heap hL3 (by omega);obtain⟨W',qv⟩ : ∃W',w4.putObj l (.loop (qj .ready none))=W':=⟨_,rfl⟩;have F5:Fr (fun k=>k=R∨k=l) w3 W':=by rw [← qv];exact (F4.mono (fun k _ e=>.inl e)).putObj l _ (fun _=>.inr rfl)
  have F:Fr (fun k=>k=l∨k=R∨v.ownBlock=some k) W W':=Fr.trans' (Fr.trans' (F2.mono (fun k _ e=>.inl e)) F3 (fun k _ e=>.inr (.inr e))) F5 (fun k _ e=>e.elim (fun e=>.inr (.inl e)) .inl);have qy:=run_endRound (P:=Tryz.prog) none hL4;have qe:(Instr.endRound l none).run Tryz.prog w4=.ok (.bool true) W':=by rw [← qv,← gj.out];exact qy
  refine⟨_,_,qe,rfl,⟨⟨.slice (some ⟨g',0,none⟩) (ts.length+1) dI,?_,?_⟩,?_,?_,?_,?_,?_⟩,?_,?_,?_⟩
  · rw [← qv];exact hv4.putObj (by omega) _
  · unfold Tk;rw [zld,qye,qyh];refine zh1 jM F5 ?_;intro k hk;rintro (e | e)
    · subst e;exact zd3 jM hk hv3 (by intro cs e;cases e)
    · subst e;exact zd3 jM hk hL3 (by intro cs e;cases e)
  · refine h.at_.keep F ?_;rintro (e | e | e)
    · omega
    · omega
    · exact zd3 qK e h.at_ (by intro cs e;cases e)
  · refine h.err.keep F ?_;rintro (e | e | e)
    · omega
    · omega
    · exact zd3 qK e h.err (by intro cs e;cases e)
  · rw [← qv];exact World.putObj_heap_same (lt_of_block hL4)
  · refine F.heap h.K ?_;rintro (e | e | e)
    · omega
    · omega
    · exact zd3 qK e h.K (by intro cs e;cases e)
  · refine h.below.trans (F.below (by omega) ?_);rintro k (e | e | e)
    · omega
    · omega
    · have:=(wz k e).1;omega
  · refine hS.keepO F ?_ ?_
    · rintro (e | e | e)
      · omega
      · omega
      · have:=(wz b e).1;omega
    · rintro k (e | e | e)
      · subst e;exact .inr (.inl ⟨_,hL⟩)
      · subst e;exact .inl ⟨_,_,_,hv⟩
      · obtain⟨_,cs,qn⟩:=zeh qK e;exact .inl ⟨_,_,_,qn⟩
  · refine hC.keep F ?_;rintro k hk (e | e | e)
    · subst e;exact zd3 hC hk hL (by intro cs e;cases e)
    · subst e;exact zd3 hC hk hv (by intro cs e;cases e)
    · obtain⟨_,cs,qn⟩:=zeh qK e;exact zd3 hC hk qn (by intro cs e;cases e)
  · refine hG.keep F ?_;rintro k (e | e | e)
    · omega
    · omega
    · have:=(wz k e).1;omega
attribute [local go_sem] Oper.semAt_some
def zpy(w:World)(b:Nat)(t:ByteArray)(most:Int)(e:Ending)(w':World):Prop:=
 (most<(t.size:Int)∧e=.returned (.tuple #[.slice none 0 0,.int .i64 0,.int .i64 2])∧Below b w w') ∨
 ((t.size:Int)≤most∧∃ts C q v' lv,Lx.scan (rest t 0) 0=.ok ts C∧e=.returned (.tuple #[lv,.int .i64 0,.int .i64 0])∧Tk w' b lv ts∧St w' b t q v'∧Cm w' b v' C∧Below b w w') ∨
 ((t.size:Int)≤most∧∃(a:Nat) (x:Int),Lx.scan (rest t 0) 0=.err a x∧e=.returned (.tuple #[.slice none 0 0,.int .i64 a,.int .i64 x])∧Below b w w')
theorem zg1{F:Fence}{n:Nat}{P:Program}{g:Operand}{ps:Array Tmp}{assign body:Code}{Q:Exit→Act→World→Prop}{a:Act}{w:World}
  (h : ∀A B,A=assign→B=body→(Code.rangeFunc g ps A B).wpIn F n P Q a w):(Code.rangeFunc g ps assign body).wpIn F n P Q a w:=h _ _ rfl rfl
theorem zax{n:Nat}{P:Program}{fn:Func}{tmps:Array Value}{R:Ending→World→Prop}{f:Nat}{dA:Array Value}{ds:List Deferred}{u:FrameMode}{w:World}(hu:u≠.run)
  (lL:(invoke (.fn (.func f) dA) #[]).run P w=.ok (.enter f dA) w)
  (h:CallsDIn Fence.wide (n-1) P f dA u w fun
     | .returned _,u',w'=>LeavesInM Fence.wide n P fn tmps R ds (settle u') w'
     | .panicked chain,u',w'=>LeavesInM Fence.wide n P fn tmps R ds (raised u' chain) w'
     | .outgrown,_,w'=>R .outgrown w') :
  LeavesInM Fence.wide n P fn tmps R ({ target:=.fn (.func f) dA,args:=#[] } :: ds) u w:=
 ⟨hu,.inr ⟨fun e=>by simp [Fence.wide] at e,.func f,dA,f,dA,rfl,lL,fun _ _=>trivial,h⟩⟩
theorem zez{w:World}{R:Nat}{x y z:Value}{TX TY TZ:TypeId}(hx:Blk w R #[x] TX)(hy:Blk w (R+1) #[y] TY)(hz:Blk w (R+1+1) #[z] TZ)(tmps:Array Value)(h4:tmps[4]? = some (.pointer (some ⟨R,0,none⟩)))(h5:tmps[5]? = some (.pointer (some ⟨R+1,0,none⟩)))(h6:tmps[6]? = some (.pointer (some ⟨R+1+1,0,none⟩)))
  (e4:x.cells.size=1):(results Tryz.f60 tmps).run Tryz.prog w=.ok (.tuple #[x,y,z]) w:=by
 have c4:=hx.c 0 x rfl;have c5:=hy.c 0 y rfl;have c6:=hz.c 0 z rfl;simp [results,Tryz.results60,go_sem,h4,h5,h6,c4,c5,c6]
theorem zw9(w:World)(b:Nat)(t:ByteArray)(v:Value)(h:St w b t 0 v)(most:Int)(hm:most<(t.size:Int)) :
  CallsIn Fence.wide 3 Tryz.prog 60 #[.pointer (some ⟨b,0,none⟩),.int .i64 most] w fun e w'=>e=.returned (.tuple #[.slice none 0 0,.int .i64 0,.int .i64 2])∧Below b w w':=by
 have vw:=mkf;have hc0:=h.text;have hb:=h.lt;have dB:=h.sz;have hc3:(((w.alloc (.cells #[.slice none 0 0] 54)).alloc (.cells #[.int .i64 0] 3)).alloc (.cells #[.int .i64 0] 26)).cell? ⟨b,0,none⟩=some (.string t):=(((h.alloc _).alloc _).alloc _).text;refine callsIn_of_wp_marks Tryz.func60 rfl trivial ?_ rfl;simp only [Tryz.ntmps60,qxg,qxh,qxi,Nat.reduceAdd,Nat.reduceSub,qxj,qxk,qxl,qxm,qxn,qxo];gi_wp2;refine zax (by simp) (by simp [go_sem]) ?_;refine (zml _ _ _ _ _).mono ?_;rintro e u' w' ⟨rfl,rfl,o,rfl⟩;refine⟨_,zez (R:=w.heap.size) ((((Blk.new w #[.slice none 0 0] 54).alloc _).alloc _).alloc _) (((Blk.new' (by simp) #[.int .i64 0] 3).alloc _).alloc _) ((Blk.new' (by simp) #[.int .i64 2] 26).alloc _) _ rfl rfl rfl rfl,rfl,?_⟩;exact Fr.below ((((((Old.refl w).alloc _).alloc _).alloc _).alloc _)) (Nat.le_of_lt hb) (fun k e=>e.elim)
theorem zvc(w:World)(b:Nat)(t:ByteArray)(v:Value)(h:St w b t 0 v)(hC:Cm w b v [])(hg:Gl w)(h6:6≤b)(most:Int)(hm:(t.size:Int)≤most)(ht:t.size≤400000) :
    CallsIn Fence.wide 3 Tryz.prog 60 #[.pointer (some ⟨b,0,none⟩),.int .i64 most] w (zpy w b t most):=by
  have vw:=mkf;have hc0:=h.text;have hb:=h.lt;have dB:=h.sz;have hc3:(((w.alloc (.cells #[.slice none 0 0] 54)).alloc (.cells #[.int .i64 0] 3)).alloc (.cells #[.int .i64 0] 26)).cell? ⟨b,0,none⟩=some (.string t):=(((h.alloc _).alloc _).alloc _).text;refine callsIn_of_wp_marks Tryz.func60 rfl trivial ?_ rfl;simp only [Tryz.ntmps60,qxg,qxh,qxi,Nat.reduceAdd,Nat.reduceSub,qxj,qxk,qxl,qxm,qxn,qxo];gi_wp2;refine zg1 ?_;intro A B hA hB;have jI:zcj (Tryz.f60.body.getD .skip)=some (A,B):=by rw [hA,hB];rfl
  clear hA hB vw hc0 hc3;obtain⟨W0,qF⟩ : ∃W0,((w.alloc (.cells #[.slice none 0 0] 54)).alloc (.cells #[.int .i64 0] 3)).alloc (.cells #[.int .i64 0] 26)=W0:=⟨_,rfl⟩;rw [qF];have F0:Old w W0:=by rw [← qF];exact (((Old.refl w).alloc _).alloc _).alloc _
  have z0:W0.heap.size=w.heap.size+3:=by rw [← qF];simp
  have bR:Blk W0 w.heap.size #[.slice none 0 0] 54:=by rw [← qF];exact ((Blk.new w _ _).alloc _).alloc _
  have bA:Blk W0 (w.heap.size+1) #[.int .i64 0] 3:=by rw [← qF];exact (Blk.new' (by simp) _ _).alloc _
  have bE:Blk W0 (w.heap.size+2) #[.int .i64 0] 26:=by rw [← qF];exact Blk.new' (by simp) _ _
  clear qF;refine wpIn_rangeFunc ?_;intro fn _;obtain⟨tm,jS⟩ : ∃tm,tm=(#[.pointer (some ⟨b,0,none⟩),.int .i64 most,undef,undef,.pointer (some ⟨w.heap.size,0,none⟩),.pointer (some ⟨w.heap.size+1,0,none⟩),.pointer (some ⟨w.heap.size+1+1,0,none⟩),undef,
    .func (.func 129) #[] #[.pointer (some ⟨w.heap.size,0,none⟩),.pointer (some ⟨w.heap.size+1,0,none⟩),.pointer (some ⟨w.heap.size+1+1,0,none⟩)],.pointer (some ⟨b,0,none⟩),.pointer (some ⟨b,0,none⟩),.pointer (some ⟨b,0,none⟩),.pointer (some ⟨b,0,none⟩),.string t,
    .int .i64 t.size,.int .i64 most,.bool (decide (most<(t.size:Int))),.pointer (some ⟨b,0,none⟩),.func (.func 130) #[.pointer (some ⟨b,0,none⟩)] #[],undef,undef,undef,undef,undef,undef]:Array Value):=⟨_,rfl⟩
  obtain⟨qj,qu⟩ : ∃qj,qj=fun st pe=>({ state:=st,pending:=pe,fn,tmps:=tm,params:=#[19],assign:=A,body:=B,defers:=W0.heap.size } : Loop):=⟨_,rfl⟩;obtain⟨W1,qd⟩ : ∃W1,(W0.alloc (.deferred (some []))).alloc (.loop (qj .ready none))=W1:=⟨_,rfl⟩;have F1:Old w W1:=by rw [← qd];exact (F0.alloc _).alloc _
  have ka:Old W0 W1:=by rw [← qd];exact ((Old.refl W0).alloc _).alloc _
  have z1:W1.heap.size=W0.heap.size+2:=by rw [← qd];simp
  have hJ1:AllAt w b w.heap.size (W0.heap.size+1) W0.heap.size qj [] W1:=
    ⟨⟨_,bR.keep ka (by simp),rfl,.inl ⟨rfl,rfl⟩⟩,bA.keep ka (by simp),bE.keep ka (by simp),
     by rw [← qd];have:=World.alloc_heap_new (W0.alloc (.deferred (some []))) (.loop (qj .ready none));rwa [qyd] at this,
     by rw [← qd];exact (Below.heap_alloc _ _ _ (by simp)).trans (World.alloc_heap_new W0 _),Fr.below F1 (Nat.le_of_lt hb) (fun k e=>e.elim)⟩
  refine⟨W0.heap.size+1,[{ target:=.collected W0.heap.size,args:=#[] }],W1,{ target:=.fn (.func 130) #[],args:=#[.pointer (some ⟨b,0,none⟩),.func (.yield (W0.heap.size+1)) #[] #[]] },W1,130,
    #[.pointer (some ⟨b,0,none⟩),.func (.yield (W0.heap.size+1)) #[] #[]],W1,?_,?_,fun _ _=>trivial,?_,fun e=>by simp [Fence.wide] at e,?_⟩
  · rw [← qd,qu,jS];exact run_enterLoop_outer _ _ _ _ _
  · simp [resolve,go_sem]
  · simp [invoke,go_sem]
  · refine (zq9 2 (by decide) (W0.heap.size+1) W1 b t v (h.old F1) (hC.old F1) (hg.old F1) h6 ht (AllAt w b w.heap.size (W0.heap.size+1) W0.heap.size qj) (fun ts W W' hj hbW hf=>hj.frc hb (by omega) (by omega) hbW hf)
      (fun x ts q u C W yP hj hS hC hG=>zvb 1 w fn b w.heap.size (W0.heap.size+1) W0.heap.size hb (by omega) (by omega) (by omega) h6 A B jI tm _ _ _ _ _ _ _ _ _ _ _ _ _ _ _ _ _ _ _ _ _ _ _ _ jS qj qu x ts t q u C W yP hj hS hC hG) hJ1).mono ?_
    have hst:(qj .ready none).state=.ready:=(by rw [qu]);have vr:(qj .ready none).pending=none:=(by rw [qu]);clear qu jI hJ1 qd;rintro e W2 (⟨rfl,ts,C,q,v',vL,xo,cJ,tb,hG2⟩ | ⟨a,x,ts,rfl,vL,xo⟩)
    · obtain⟨lv,kt,vN⟩:=xo.box;obtain⟨la,lk,lc,hlv⟩ : ∃la lk lc,lv=.slice la lk lc:=by
        rcases vN.2 with ⟨e,_⟩ | ⟨g,cap,vy,e,_⟩
        · exact⟨_,_,_,e⟩
        · exact⟨_,_,_,e⟩
      subst hlv;obtain⟨L',qy⟩ : ∃L',(Instr.endLoop (W0.heap.size+1)).run Tryz.prog W2=.ok none (W2.putObj (W0.heap.size+1) (.loop L')):=⟨_,by have:=run_endLoop (P:=Tryz.prog) xo.L (by rw [hst];simp);rw [vr] at this;exact this⟩;obtain⟨W3,qM⟩ : ∃W3,W2.putObj (W0.heap.size+1) (.loop L')=W3:=⟨_,rfl⟩;rw [qM] at qy;have F3:Fr (fun k=>k=W0.heap.size+1) W2 W3:=(by rw [← qM];exact (Fr.refl _ W2).putObj _ _ (fun _=>rfl));have b3:Blk W3 w.heap.size #[.slice la lk lc] 54:=kt.keep F3 (by omega);have a3:Blk W3 (w.heap.size+1) #[.int .i64 0] 3:=xo.at_.keep F3 (by omega);have e3:Blk W3 (w.heap.size+1+1) #[.int .i64 0] 26:=Blk.keep (b:=w.heap.size+2) xo.err F3 (by omega);have k3:=F3.heap xo.K (by omega);clear qM;refine⟨none,W3,qy,?_⟩;have x0:=b3.c 0 (.slice la lk lc) rfl;have x1:=a3.c 0 (.int .i64 0) rfl;have x2:=e3.c 0 (.int .i64 0) rfl;have y0:=b3.free 0;have y1:=a3.free 0;have y2:=e3.free 0;clear qy;gi_wp2;rw [← z0];obtain⟨W4,ku⟩ : ∃W4,((W3.setCell ⟨w.heap.size,0,none⟩ (.slice la lk lc)).setCell ⟨w.heap.size+1,0,none⟩ (.int .i64 0)).setCell ⟨w.heap.size+1+1,0,none⟩ (.int .i64 0)=W4:=⟨_,rfl⟩;rw [ku];have b4:Blk W4 w.heap.size #[.slice la lk lc] 54:=(by rw [← ku];exact (((b3.set 0 _).other ⟨w.heap.size+1,0,none⟩ (by simp) _).other ⟨w.heap.size+1+1,0,none⟩ (by simp;omega) _));have a4:Blk W4 (w.heap.size+1) #[.int .i64 0] 3:=(by rw [← ku];exact (((a3.other ⟨w.heap.size,0,none⟩ (by simp) _).set 0 _).other ⟨w.heap.size+1+1,0,none⟩ (by simp) _));have e4:Blk W4 (w.heap.size+1+1) #[.int .i64 0] 26:=(by rw [← ku];exact (((e3.other ⟨w.heap.size,0,none⟩ (by simp;omega) _).other ⟨w.heap.size+1,0,none⟩ (by simp) _).set 0 _));have F4:Fr (fun k=>k=w.heap.size∨k=w.heap.size+1∨k=w.heap.size+1+1) W3 W4:=by
        rw [← ku];exact ((Fr.refl _ W3).setCell ⟨w.heap.size,0,none⟩ (fun _=>.inl rfl) _ |>.setCell ⟨w.heap.size+1,0,none⟩ (fun _=>.inr (.inl rfl)) _).setCell ⟨w.heap.size+1+1,0,none⟩ (fun _=>.inr (.inr rfl)) _
      have k4:=F4.heap k3 (by omega);clear ku;refine⟨by simp,.inl ⟨_,_,rfl,run_takeDeferred k4,?_⟩⟩;refine zax (by simp) (by simp [go_sem]) ?_;refine (zml _ _ _ _ _).mono ?_;rintro e u' w' ⟨rfl,rfl,o,rfl⟩;have F5:Fr (fun k=>k=w.heap.size∨k=w.heap.size+1∨k=w.heap.size+1+1∨k=W0.heap.size∨k=W0.heap.size+1) W2 ((W4.putObj W0.heap.size (.deferred none)).alloc o):=
        Fr.trans' (F3.mono (fun k _ e=>.inr (.inr (.inr (.inr e))))) (((F4.mono (S':=fun k=>k=w.heap.size∨k=w.heap.size+1∨k=w.heap.size+1+1∨k=W0.heap.size) (fun k _ e=>by omega)).putObj W0.heap.size (.deferred none) (fun _=>.inr (.inr (.inr rfl)))).alloc o) (fun k _ e=>by omega)
      have hRL : ∀ {j:Nat} {o:Obj},W2.heap[j]? = some o→(∀cs,o≠.cells cs 59 (0,0))→∀k,(Value.slice la lk lc).ownBlock=some k→k≠j:=fun hj zh k hk e=>zd3 vN hk (e▸hj) zh;refine⟨_,zez (R:=w.heap.size) ((b4.putObj (by omega) _).alloc _) ((a4.putObj (by omega) _).alloc _) ((e4.putObj (by omega) _).alloc _) _ rfl rfl rfl rfl,.inr (.inl ⟨hm,ts,C,q,v',_,vL,rfl,?_,?_,?_,?_⟩)⟩
      · refine zh1 vN F5 ?_;rintro k hk (e | e | e | e | e)
        · exact hRL kt (by intro cs e;cases e) k hk e
        · exact hRL xo.at_ (by intro cs e;cases e) k hk e
        · exact hRL xo.err (by intro cs e;cases e) k hk e
        · exact hRL xo.K (by intro cs e;cases e) k hk e
        · exact hRL xo.L (by intro cs e;cases e) k hk e
      · refine cJ.keepO F5 (by omega) ?_;rintro k (e | e | e | e | e)
        · subst e;exact .inl ⟨_,_,_,kt⟩
        · subst e;exact .inl ⟨_,_,_,xo.at_⟩
        · subst e;exact .inl ⟨_,_,_,xo.err⟩
        · subst e;exact .inr (.inr ⟨_,xo.K⟩)
        · subst e;exact .inr (.inl ⟨_,xo.L⟩)
      · refine tb.keep F5 ?_;rintro k hk (e | e | e | e | e)
        · subst e;exact zd3 tb hk kt (by intro cs e;cases e)
        · subst e;exact zd3 tb hk xo.at_ (by intro cs e;cases e)
        · subst e;exact zd3 tb hk xo.err (by intro cs e;cases e)
        · subst e;exact zd3 tb hk xo.K (by intro cs e;cases e)
        · subst e;exact zd3 tb hk xo.L (by intro cs e;cases e)
      · exact xo.below.trans (F5.below (by have:=xo.below.size;omega) (fun k e=>by omega))
    · have b3:=xo.box;refine⟨by simp,.inl ⟨_,_,rfl,run_takeDeferred xo.K,?_⟩⟩;obtain⟨lv,kt,vN⟩:=xo.box;obtain⟨W3,qM⟩ : ∃W3,W2.putObj W0.heap.size (.deferred none)=W3:=⟨_,rfl⟩;rw [qM];have F3:Fr (fun k=>k=W0.heap.size) W2 W3:=(by rw [← qM];exact (Fr.refl _ W2).putObj _ _ (fun _=>rfl));have b3:Blk W3 w.heap.size #[lv] 54:=kt.keep F3 (by omega);have a3:Blk W3 (w.heap.size+1) #[.int .i64 0] 3:=xo.at_.keep F3 (by omega);have e3:Blk W3 (w.heap.size+1+1) #[.int .i64 0] 26:=Blk.keep (b:=w.heap.size+2) xo.err F3 (by omega);have mq:Below b w W3:=xo.below.trans (F3.below (by have:=xo.below.size;omega) (fun k e=>by omega));clear qM;refine zax (by simp) (by simp [go_sem]) ?_;refine (zvd _ _ _ _ _ _ _ _ _ _ a x [] W3 b3 a3 e3 (by omega) (by omega) (by omega)).mono ?_;rintro e u' w' ⟨rfl,rfl,o,rfl⟩;refine⟨_,zez (R:=w.heap.size) (TX:=54) (TY:=3) (TZ:=26) ?_ ?_ ?_ _ rfl rfl rfl rfl,.inr (.inr ⟨hm,a,x,vL,rfl,?_⟩)⟩
      · exact ((((b3.set 0 _).other ⟨w.heap.size+1,0,none⟩ (by simp) _).other ⟨w.heap.size+1+1,0,none⟩ (by simp;omega) _).alloc _).drew
      · exact ((((a3.other ⟨w.heap.size,0,none⟩ (by simp) _).set 0 _).other ⟨w.heap.size+1+1,0,none⟩ (by simp) _).alloc _).drew
      · exact ((((e3.other ⟨w.heap.size,0,none⟩ (by simp;omega) _).other ⟨w.heap.size+1,0,none⟩ (by simp) _).set 0 _).alloc _).drew
      · refine mq.trans (Fr.below (S:=fun k=>b≤k) ?_ (by have:=mq.size;omega) (fun k e=>e));exact (((((Fr.refl _ W3).setCell ⟨w.heap.size,0,none⟩ (fun _=>Nat.le_of_lt hb) _).setCell ⟨w.heap.size+1,0,none⟩ (fun _=>by show b≤w.heap.size+1;omega) _).setCell ⟨w.heap.size+1+1,0,none⟩ (fun _=>by show b≤w.heap.size+1+1;omega) _).alloc _).drew
theorem zyl(w:World)(b:Nat)(t:ByteArray)(v:Value)(h:St w b t 0 v)(hC:Cm w b v [])(hg:Gl w)(h6:6≤b)(most:Int)(hm:most≤400000) :
  Calls Tryz.prog 60 #[.pointer (some ⟨b,0,none⟩),.int .i64 most] w (zpy w b t most):=by
 refine (callsIn_wide (n:=3)).1 ?_
 by_cases qx:most<(t.size:Int)
 ·exact (zw9 w b t v h most qx).mono (fun e w' hp=>.inl ⟨qx,hp⟩)
 ·exact zvc w b t v h hC hg h6 most (by omega) (by omega)
end Go.Proofs.YtclgbmmambkiaaaGreatDoor
namespace Lx
def Scan.toks:Scan→List Tok
 | .ok ts _=>ts
 | .err _ _=>[]
def Scan.coms:Scan→List (Nat×Nat)
 | .ok _ cs=>cs
 | .err _ _=>[]
def Scan.at_:Scan→Nat
 | .ok _ _=>0
 | .err p _=>p
def Scan.code:Scan→Int
 | .ok _ _=>0
 | .err _ e=>e
end Lx
namespace Go.Proofs.YtclgbmmambkiaaaGreatDoor
open Go.RowKit
theorem zt6(t:ByteArray)(w:World)(ht:t.size≤140737488355328) :
  Calls Tryz.prog 59 #[.string t] w fun e w'=>e=.returned (.pointer (some ⟨w.heap.size,0,none⟩))∧St w' w.heap.size t 0 (.slice none 0 0)∧Cm w' w.heap.size (.slice none 0 0) []∧Old w w':=by
 refine (zjy t w).mono ?_;rintro e w' ⟨rfl,rfl⟩;refine⟨rfl,⟨#[.map none,.map none,.map none,.map none,.map none,.map none,.map none,.slice none 0 0],⟨Blk.new w _ _,ht,qyi _⟩,⟨rfl,fun i hi=>.inl ?_⟩,rfl⟩,⟨rfl,.inl ⟨rfl,rfl⟩⟩,(Old.refl w).alloc _⟩;have:i=0∨i=1∨i=2∨i=3∨i=4∨i=5∨i=6:=by omega
 rcases this with rfl | rfl | rfl | rfl | rfl | rfl | rfl <;> rfl
def zq2(w:World)(r:Lx.Scan)(e:Ending)(w':World):Prop:=
 ∃lv,e=.returned (.tuple #[lv,.int .i64 r.at_,.int .i64 r.code])∧Tk w' w.heap.size lv r.toks∧Old w w'
theorem zm7(t:ByteArray):rest t 0=t.data.toList:=rfl
theorem Old.below{w w1 w2:World}(h:Old w w1)(k:Below w.heap.size w1 w2):Old w w2:=
 ⟨k.os.trans h.os,k.tape.trans h.tape,k.output.trans h.output,qyu h.size k.size,fun i hi hn=>(k.block i hi).trans (h.block i hi hn)⟩
theorem zxi(w:World)(b:Nat):Tk w b (.slice none 0 0) []:=⟨rfl,.inl ⟨rfl,rfl⟩⟩
theorem ztl{w w1 w2:World}{t:ByteArray}{most:Nat}{e:Ending}(hw:Old w w1)(h:zpy w1 w.heap.size t (most:Nat) e w2):zq2 w (Lx.upto t.data.toList most) e w2:=by
 have hlen:t.data.toList.length=t.size:=by rw [qyv];rfl
 unfold Lx.upto;rw [hlen];rcases h with ⟨hm,rfl,hb⟩ | ⟨hm,ts,C,q,v',lv,vL,rfl,vN,_,_,hb⟩ | ⟨hm,a,x,vL,rfl,hb⟩
 ·rw [if_pos (by omega)];exact⟨_,rfl,zxi _ _,hw.below hb⟩
 ·rw [if_neg (by omega),← zm7,vL];exact⟨_,rfl,vN,hw.below hb⟩
 ·rw [if_neg (by omega),← zm7,vL];exact⟨_,rfl,zxi _ _,hw.below hb⟩
theorem zhy(t:ByteArray)(ht:t.size≤140737488355328)(w:World)(hg:Gl w) :
  Calls Tryz.prog 24 #[.string t] w (zq2 w (Lx.upto t.data.toList 20000)):=by
 have h6:=hg.lt
 go_enter Tryz.func24,Tryz.ntmps24
 go_wp2_with fail
 refine (zt6 t w ht).mono ?_;rintro e w1 ⟨rfl,hS,hC,hO⟩
 go_wp2_with fail
 refine (zyl w1 w.heap.size t _ hS hC (hg.old hO) h6 20000 (by decide)).mono ?_;intro e w2 hP;have hR:=ztl (most:=20000) hO hP;obtain⟨lv,rfl,vN,uH⟩:=hR;clear hP;go_wp2;refine bodyPost_ret (by simp [results,Tryz.results24,go_sem]) rfl ⟨_,rfl,vN,uH⟩
mutual
def PaAt(w:World)(F:Nat→Prop):Sx.Pa→Value→Prop
 | .mk k n args,v=>∃sv xs,v=.agg #[.int .i64 k,bv n,sv]∧RowAt w F 37 3 sv args.length xs∧PasAt w F args xs
def PasAt(w:World)(F:Nat→Prop):List Sx.Pa→List Value→Prop
 | [],xs=>xs=[]
 | t::r,xs=>∃a0 a1 a2 ys,xs=a0::a1::a2::ys∧PaAt w F t (.agg #[a0,a1,a2])∧PasAt w F r ys
end
mutual
def ExAt(w:World)(F:Nat→Prop):Sx.Ex→Value→Prop
 | .mk k u n g args pats,v=>∃sv xs pv ps,v=.agg #[.int .i64 k,.int .i64 u,bv n,bv g,sv,pv]∧RowAt w F 32 6 sv args.length xs∧ExsAt w F args xs∧RowAt w F 37 3 pv pats.length ps∧PasAt w F pats ps
def ExsAt(w:World)(F:Nat→Prop):List Sx.Ex→List Value→Prop
 | [],xs=>xs=[]
 | t::r,xs=>∃a0 a1 a2 a3 a4 a5 ys,xs=a0::a1::a2::a3::a4::a5::ys∧ExAt w F t (.agg #[a0,a1,a2,a3,a4,a5])∧ExsAt w F r ys
end
mutual
theorem PaAt.keep{S F:Nat→Prop}{w w':World}(hf:Fr S w w')(hn : ∀k,F k→¬S k) : ∀(t:Sx.Pa) (v:Value),PaAt w F t v→PaAt w' F t v
 | .mk k n args,v,h=>by
  rw [PaAt] at h ⊢;obtain⟨sv,xs,hv,h1,h2⟩:=h;exact⟨sv,xs,hv,h1.keep hf hn,PasAt.keep hf hn args xs h2⟩
theorem PasAt.keep{S F:Nat→Prop}{w w':World}(hf:Fr S w w')(hn : ∀k,F k→¬S k) : ∀(ts:List Sx.Pa) (xs:List Value),PasAt w F ts xs→PasAt w' F ts xs
 | [],xs,h=>by rw [PasAt] at h ⊢;exact h
 | t::r,xs,h=>by
  rw [PasAt] at h ⊢;obtain⟨a0,a1,a2,ys,hx,h1,h2⟩:=h;exact⟨a0,a1,a2,ys,hx,PaAt.keep hf hn t _ h1,PasAt.keep hf hn r ys h2⟩
end
mutual
theorem ExAt.keep{S F:Nat→Prop}{w w':World}(hf:Fr S w w')(hn : ∀k,F k→¬S k) : ∀(t:Sx.Ex) (v:Value),ExAt w F t v→ExAt w' F t v
 | .mk k u n g args pats,v,h=>by
  rw [ExAt] at h ⊢;obtain⟨sv,xs,pv,ps,hv,h1,h2,h3,h4⟩:=h;exact⟨sv,xs,pv,ps,hv,h1.keep hf hn,ExsAt.keep hf hn args xs h2,h3.keep hf hn,PasAt.keep hf hn pats ps h4⟩
theorem ExsAt.keep{S F:Nat→Prop}{w w':World}(hf:Fr S w w')(hn : ∀k,F k→¬S k) : ∀(ts:List Sx.Ex) (xs:List Value),ExsAt w F ts xs→ExsAt w' F ts xs
 | [],xs,h=>by rw [ExsAt] at h ⊢;exact h
 | t::r,xs,h=>by
  rw [ExsAt] at h ⊢;obtain⟨a0,a1,a2,a3,a4,a5,ys,hx,h1,h2⟩:=h;exact⟨a0,a1,a2,a3,a4,a5,ys,hx,ExAt.keep hf hn t _ h1,ExsAt.keep hf hn r ys h2⟩
end
mutual
theorem PaAt.more{F F':Nat→Prop}{w:World}(hn : ∀k,F k→F' k) : ∀(t:Sx.Pa) (v:Value),PaAt w F t v→PaAt w F' t v
 | .mk k n args,v,h=>by
  rw [PaAt] at h ⊢;obtain⟨sv,xs,hv,h1,h2⟩:=h;exact⟨sv,xs,hv,h1.more hn,PasAt.more hn args xs h2⟩
theorem PasAt.more{F F':Nat→Prop}{w:World}(hn : ∀k,F k→F' k) : ∀(ts:List Sx.Pa) (xs:List Value),PasAt w F ts xs→PasAt w F' ts xs
 | [],xs,h=>by rw [PasAt] at h ⊢;exact h
 | t::r,xs,h=>by
  rw [PasAt] at h ⊢;obtain⟨a0,a1,a2,ys,hx,h1,h2⟩:=h;exact⟨a0,a1,a2,ys,hx,PaAt.more hn t _ h1,PasAt.more hn r ys h2⟩
end
mutual
theorem ExAt.more{F F':Nat→Prop}{w:World}(hn : ∀k,F k→F' k) : ∀(t:Sx.Ex) (v:Value),ExAt w F t v→ExAt w F' t v
 | .mk k u n g args pats,v,h=>by
  rw [ExAt] at h ⊢;obtain⟨sv,xs,pv,ps,hv,h1,h2,h3,h4⟩:=h;exact⟨sv,xs,pv,ps,hv,h1.more hn,ExsAt.more hn args xs h2,h3.more hn,PasAt.more hn pats ps h4⟩
theorem ExsAt.more{F F':Nat→Prop}{w:World}(hn : ∀k,F k→F' k) : ∀(ts:List Sx.Ex) (xs:List Value),ExsAt w F ts xs→ExsAt w F' ts xs
 | [],xs,h=>by rw [ExsAt] at h ⊢;exact h
 | t::r,xs,h=>by
  rw [ExsAt] at h ⊢;obtain⟨a0,a1,a2,a3,a4,a5,ys,hx,h1,h2⟩:=h;exact⟨a0,a1,a2,a3,a4,a5,ys,hx,ExAt.more hn t _ h1,ExsAt.more hn r ys h2⟩
end
theorem PasAt.snoc{F:Nat→Prop}{w:World} : ∀(ts:List Sx.Pa) (xs:List Value) (t:Sx.Pa) (a0 a1 a2:Value),PasAt w F ts xs→PaAt w F t (.agg #[a0,a1,a2])→PasAt w F (ts++[t]) (xs++[a0,a1,a2])
 | [],xs,t,a0,a1,a2,h,h2=>by
  rw [PasAt] at h;subst h;show PasAt w F [t] [a0,a1,a2];rw [PasAt];exact⟨a0,a1,a2,[],rfl,h2,by rw [PasAt]⟩
 | a::r,xs,t,a0,a1,a2,h,h2=>by
  rw [PasAt] at h;obtain⟨b0,b1,b2,ys,rfl,h1,h3⟩:=h;show PasAt w F (a::(r++[t])) (b0::b1::b2::(ys++[a0,a1,a2]));rw [PasAt];exact⟨b0,b1,b2,_,rfl,h1,PasAt.snoc r ys t a0 a1 a2 h3 h2⟩
theorem ExsAt.snoc{F:Nat→Prop}{w:World} : ∀(ts:List Sx.Ex) (xs:List Value) (t:Sx.Ex) (a0 a1 a2 a3 a4 a5:Value),ExsAt w F ts xs→ExAt w F t (.agg #[a0,a1,a2,a3,a4,a5])→ExsAt w F (ts++[t]) (xs++[a0,a1,a2,a3,a4,a5])
 | [],xs,t,a0,a1,a2,a3,a4,a5,h,h2=>by
  rw [ExsAt] at h;subst h;show ExsAt w F [t] [a0,a1,a2,a3,a4,a5];rw [ExsAt];exact⟨a0,a1,a2,a3,a4,a5,[],rfl,h2,by rw [ExsAt]⟩
 | a::r,xs,t,a0,a1,a2,a3,a4,a5,h,h2=>by
  rw [ExsAt] at h;obtain⟨b0,b1,b2,b3,b4,b5,ys,rfl,h1,h3⟩:=h;show ExsAt w F (a::(r++[t])) (b0::b1::b2::b3::b4::b5::(ys++[a0,a1,a2,a3,a4,a5]));rw [ExsAt];exact⟨b0,b1,b2,b3,b4,b5,_,rfl,h1,ExsAt.snoc r ys t a0 a1 a2 a3 a4 a5 h3 h2⟩
theorem PaAt.parts{F:Nat→Prop}{w:World}{t:Sx.Pa}{v:Value}(h:PaAt w F t v) : ∃(kd:Int) (nm:ByteArray) (l2:Option Addr) (n2 c2:Nat),v=.agg #[.int .i64 kd,.string nm,.slice l2 n2 c2]:=by
 obtain⟨k,n,args⟩:=t;rw [PaAt] at h;obtain⟨sv,xs,hv,h1,_⟩:=h;obtain⟨la,cap,rfl⟩:=zad h1.1;exact⟨_,_,_,_,_,hv⟩
theorem ExAt.parts{F:Nat→Prop}{w:World}{t:Sx.Ex}{v:Value}(h:ExAt w F t v) : ∃(kd nu:Int) (nm ag:ByteArray) (l2:Option Addr) (n2 c2:Nat) (l4:Option Addr) (n4 c4:Nat),v=.agg #[.int .i64 kd,.int .i64 nu,.string nm,.string ag,.slice l2 n2 c2,.slice l4 n4 c4]:=by
 obtain⟨k,u,n,g,args,pats⟩:=t;rw [ExAt] at h;obtain⟨sv,xs,pv,ps,hv,h1,_,h3,_⟩:=h;obtain⟨la,cap,rfl⟩:=zad h1.1;obtain⟨lb,tQ,rfl⟩:=zad h3.1;exact⟨_,_,_,_,_,_,_,_,_,_,hv⟩
theorem zya:(Tryz.prog.info? 37).map (fun i=>(i.zero,i.size,i.bytes))=some (some (.agg #[.int .i64 0,.string ⟨#[]⟩,.slice none 0 0]),3,48):=by kernel_rfl
theorem snocP{Q:Exit→Act→World→Prop}{ops:Array Oper}(ft:zf5 6 (Tryz.f105.body.getD .skip)=some ops)
  (hP : ∀c (a:Act) d u w,Q (.panic c) (a.put d u) w→Q (.panic c) a w)
  (x0 x1 x2 x3 x4 x5 x6 x8 ym yr yn yb x14 x15 x16 x17 x18 x19 x20 x21 x22 x23 x24 x25:Value)(ds:List Deferred)(w:World)(R V base n:Nat)(v:Value)(xs:List Value)(kd:Int)(nm:ByteArray)(l2:Option Addr)(n2 c2:Nat)
  (hR:Blk w R #[v] 30)(hV:Blk w V #[.int .i64 kd,.string nm,.slice l2 n2 c2] 37)(mv:v.ownBlock≠some V)(qz:w.ownsRow base 37 3 v n xs)(hb:base≤w.heap.size)(hn:n≤1000000)
  (hQ : ∀a w',zmn 37 30 3 w base R v n xs [.int .i64 kd,.string nm,.slice l2 n2 c2] ds a w'→Q .normal a w') :
  wpAny Tryz.prog .any ops Q ops.size (Array.replicate ops.size false) { tmps:=#[x0,x1,x2,x3,x4,x5,x6,.pointer (some ⟨R,0,none⟩),x8,.pointer (some ⟨V,0,none⟩),ym,yr,yn,yb,x14,x15,x16,x17,x18,x19,x20,x21,x22,x23,x24,x25],defers:=ds } w.drew:=by
 simp only [Tryz.f105,Option.getD_some,zf5,Option.orElse_none,Option.orElse_some,Option.some.injEq,Nat.reduceEqDiff,if_false,if_true,reduceIte] at ft;subst ft;have hRV:R≠V:=by
  rintro rfl;unfold Blk at hR hV;rw [hR] at hV;cases hV
 obtain⟨la,qt,rfl⟩:=zad qz;have uF:=hR.drew;have xl:=hV.drew;have vk:=qz.drew;have gw:Old w w.drew:=(Old.refl w).drew;obtain⟨W,hW⟩ : ∃W,w.drew=W:=⟨_,rfl⟩;have qY:W.heap.size=w.heap.size:=by rw [← hW];rfl
 rw [hW] at uF xl vk gw ⊢;clear hW;have r0:=uF.c 0 (.slice la n qt) rfl;obtain⟨v0,v1,v2⟩:=xl.c3;have qJ:=uF.lt;have hVl:=xl.lt;obtain⟨W1,qd⟩ : ∃W1,W.alloc (.cells #[.int .i64 0,.string ⟨#[]⟩,.slice none 0 0] 37)=W1:=⟨_,rfl⟩;have vQ:Blk W1 R #[.slice la n qt] 30:=by rw [← qd];exact uF.alloc _
 have my:Blk W1 V #[.int .i64 kd,.string nm,.slice l2 n2 c2] 37:=by rw [← qd];exact xl.alloc _
 have fd:W1.ownsRow base 37 3 (.slice la n qt) n xs:=by rw [← qd];exact vk.alloc _
 have bK:W1.heap.size=w.heap.size+1:=by rw [← qd,qyd,qY]
 have qR : ∀j u,[Value.int .i64 0,.string ⟨#[]⟩,.slice none 0 0][j]? = some u→W1.cell? ((⟨w.heap.size,0,none⟩:Addr).add j)=some u:=by
  rw [← qd,← qY];exact World.news_of_block (Blk.new W #[.int .i64 0,.string ⟨#[]⟩,.slice none 0 0] 37)
 have F1:Old w W1:=by rw [← qd];exact gw.alloc _
 have HF1:=qya F1;clear F1;have yy:((((xs++[Value.int .i64 0,.string ⟨#[]⟩,.slice none 0 0]).set (n*3) (.int .i64 kd)).set (n*3+1) (.string nm)).set (n*3+2) (.slice l2 n2 c2))=xs++[.int .i64 kd,.string nm,.slice l2 n2 c2]:=by
  have:=qz.1;rw [List.set_append_right _ _ (by omega),List.set_append_right _ _ (by omega),List.set_append_right _ _ (by omega),this];simp
 have ra0:=vQ.c 0 (.slice la n qt) rfl;obtain⟨pB,pC,no⟩:=my.c3;have xR:=qz.1;have mw:(Value.slice la n qt).ownBlock≠some R:=by
  intro e;rcases qz.2 with ⟨h,_⟩ | ⟨g,cap,vy,hv,_,hh,_⟩
  ·rw [h] at e;cases e
  ·rw [hv] at e;cases e;unfold Blk at hR;rw [hR] at hh;cases hh
 obtain⟨i0,hi,qw,j5,jE⟩:=info_parts zya;have vS:=qya qd;clear qd;refine wpAny_of_held (S:=fun w'=>w'.cell? ⟨V,0,none⟩=some (.int .i64 kd)∧w'.cell? ⟨V,1,none⟩=some (.string nm)∧w'.cell? ⟨V,2,none⟩=some (.slice l2 n2 c2)) _ _ _ _ ?_;refine wpAnyH_take (i:=1) (v := ?_) rfl (by kernel_rfl) (by kernel_rfl) (by kernel_rfl) (fun _ _ _ h=>hP _ _ _ _ _ h) (Or.inl ⟨by rfl,?y1⟩) ⟨v0,v1,v2⟩ ?r1
 case y1=>(intro w' jA;(try dsimp only at jA);obtain⟨h0,h1,h2⟩:=jA;go_simp;try with_reducible rfl)
 case' r1=>try simp only [Act.put,qxa,qxb,qxc,qxd,qxe,qxf]
 refine wpAnyH_ready (rs:=[0,3]) (by kernel_rfl) (by simp) ?_;refine AllReadyH.cons rfl (fun K hK => ?w0) (AllReadyH.cons rfl (fun K hK => ?w3) AllReadyH.nil)
 case' w0=>
  go_simp
  refine hK.out _ _ ⟨v0,v1,v2⟩ (fun hH => ?_);clear hK K;refine wpAnyH_take (i:=2) (v := ?_) rfl (by kernel_rfl) (by kernel_rfl) (by kernel_rfl) (fun _ _ _ h=>hP _ _ _ _ _ h) (Or.inl ⟨by rfl,?y2⟩) ⟨v0,v1,v2⟩ ?r2
  case y2=>(intro w' jA;go_simp;try with_reducible rfl)
  case' r2=>try simp only [Act.put,qxa,qxb,qxc,qxd,qxe,qxf]
  refine wpAnyH_ready (rs:=[3]) (by kernel_rfl) (by simp) ?_;refine AllReadyH.cons rfl (fun K hK => ?_) AllReadyH.nil
  go_simp
  rw [vS.out];refine hK.out _ _ ⟨pB,pC,no⟩ (fun hH => ?_);clear hK K
  try simp only [Act.put,qxa,qxb,qxc,qxd,qxe,qxf]
 case' w3=>
  go_simp
  rw [vS.out];refine hK.out _ _ ⟨pB,pC,no⟩ (fun hH => ?_);clear hK K
  try simp only [Act.put,qxa,qxb,qxc,qxd,qxe,qxf]
  refine wpAnyH_ready (rs:=[0]) (by kernel_rfl) (by simp) ?_;refine AllReadyH.cons rfl (fun K hK => ?_) AllReadyH.nil
  go_simp
  refine hK.out _ _ ⟨pB,pC,no⟩ (fun hH => ?_);clear hK K;refine wpAnyH_take (i:=2) (v := ?_) rfl (by kernel_rfl) (by kernel_rfl) (by kernel_rfl) (fun _ _ _ h=>hP _ _ _ _ _ h) (Or.inl ⟨by rfl,?y3⟩) ⟨pB,pC,no⟩ ?r3
  case y3=>(intro w' jA;go_simp;try with_reducible rfl)
  case' r3=>try simp only [Act.put,qxa,qxb,qxc,qxd,qxe,qxf]
 all_goals
  refine wpAnyH_ready (rs:=[4]) (by kernel_rfl) (by simp) ?_;refine AllReadyH.cons rfl (fun K hK => ?_) AllReadyH.nil;refine step_append_lies _ rfl _ _ 30 rfl base 37 i0 (.agg #[.int .i64 0,.string ⟨#[]⟩,.slice none 0 0]) 3 48 Tryz.underlying30 hi qw j5 jE rfl (by decide) _ n xs rfl fd ⟨w.heap.size,0,none⟩ 1 1 [.int .i64 0,.string ⟨#[]⟩,.slice none 0 0] rfl rfl qR (by intro u hu;simp at hu;rcases hu with rfl | rfl | rfl <;> rfl) (by decide) (by unfold maxLen;omega) (by omega) (by omega) (w.heap.size+1) bK ?_;intro g cap w3 qf vF qZ uw;have F3:Fr (fun k=>(Value.slice la n qt).ownBlock=some k) W1 w3:=(Fr.refl _ W1).grown vF (fun k e _=>e);have yg:Blk w3 V #[.int .i64 kd,.string nm,.slice l2 n2 c2] 37:=my.keep F3 (fun e=>mv e);have vf:Blk w3 R #[.slice la n qt] 30:=vQ.keep F3 (fun e=>mw e);have r3:=vf.c 0 (.slice la n qt) rfl;have e3:=vf.free 0;obtain⟨qr,ju,xS⟩:=yg.c3;have xm : ¬g=R:=fun e=>qZ.elim (fun h=>mw (e▸h)) (fun h=>by omega);have hgV : ¬g=V:=fun e=>qZ.elim (fun h=>mv (e▸h)) (fun h=>by omega);have uq : ¬R=g:=fun e=>xm e.symm;have y9 : ¬V=g:=fun e=>hgV e.symm;have mx : ¬V=R:=fun e=>hRV e.symm;have cc0:w3.cell? ⟨g,n*3,none⟩=some (.int .i64 0):=by rw [qf.cellAt (n*3) (by omega)];simp [xR]
  have f0:=qf.frozenAt (n*3);have cc1:w3.cell? ⟨g,n*3+1,none⟩=some (.string ⟨#[]⟩):=by rw [qf.cellAt (n*3+1) (by omega)];simp [xR]
  have f1:=qf.frozenAt (n*3+1);have cc2:w3.cell? ⟨g,n*3+2,none⟩=some (.slice none 0 0):=by rw [qf.cellAt (n*3+2) (by omega)];simp [xR]
  have f2:=qf.frozenAt (n*3+2);have hni:(n:Int)<(n:Int)+1:=by omega
  have uZ:Fr (fun k=>k=R∨(Value.slice la n qt).ownBlock=some k) w w3:=(Fr.old HF1.out).grown vF (fun k e _=>.inr e);have yA:g<w.heap.size→g=R∨(Value.slice la n qt).ownBlock=some g:=fun hl=>qZ.elim .inr (fun h=>by omega);have HF:=qya uZ;clear F3 uZ;refine hK.out _ _ ⟨qr,ju,xS⟩ (fun hH2 => ?_);clear hK K
  try simp only [Act.put,qxa,qxb,qxc,qxd,qxe,qxf]
  refine wpAnyH_take (i:=5) (v := ?_) rfl (by kernel_rfl) (by kernel_rfl) (by kernel_rfl) (fun _ _ _ h=>hP _ _ _ _ _ h) (Or.inl ⟨by rfl,?_⟩) ⟨qr,ju,xS⟩ ?_
  rotate_left 1
  ·(intro w' jA;go_simp;try with_reducible rfl)
  try simp only [Act.put,qxa,qxb,qxc,qxd,qxe,qxf]
  refine wpAnyH_ready (rs:=[6,7]) (by kernel_rfl) (by simp) ?_;refine AllReadyH.cons rfl (fun K hK => ?_) (AllReadyH.cons rfl (fun K hK => ?_) AllReadyH.nil)
  ·go_simp
   have uQ:=(((yg.other ⟨g,n*3,none⟩ y9 (.int .i64 kd)).other ⟨g,n*3+1,none⟩ y9 (.string nm)).other ⟨g,n*3+2,none⟩ y9 (.slice l2 n2 c2));have uJ:=(((vf.other ⟨g,n*3,none⟩ uq (.int .i64 kd)).other ⟨g,n*3+1,none⟩ uq (.string nm)).other ⟨g,n*3+2,none⟩ uq (.slice l2 n2 c2));have vm:=(((qf.stored (n*3) (.int .i64 kd)).1.stored (n*3+1) (.string nm)).1.stored (n*3+2) (.slice l2 n2 c2)).1;rw [yy] at vm;have kl:=(((HF.out.setCell ⟨g,n*3,none⟩ yA (.int .i64 kd)).setCell ⟨g,n*3+1,none⟩ yA (.string nm)).setCell ⟨g,n*3+2,none⟩ yA (.slice l2 n2 c2));obtain⟨wA,gA⟩ : ∃wA,((w3.setCell ⟨g,n*3,none⟩ (.int .i64 kd)).setCell ⟨g,n*3+1,none⟩ (.string nm)).setCell ⟨g,n*3+2,none⟩ (.slice l2 n2 c2)=wA:=⟨_,rfl⟩;rw [gA] at uQ uJ vm kl ⊢;clear gA;obtain⟨cD,cP,mN⟩:=uQ.c3;have rA:=uJ.c 0 (.slice la n qt) rfl;have eA:=uJ.free 0;have yj:=uQ.other ⟨R,0,none⟩ mx (.slice (some ⟨g,0,none⟩) (n+1) cap);have tP:=qya kl;clear kl;refine hK.out _ _ ⟨cD,cP,mN⟩ (fun eo => ?_);clear hK K
   try simp only [Act.put,qxa,qxb,qxc,qxd,qxe,qxf]
   refine wpAnyH_ready (rs:=[7]) (by kernel_rfl) (by simp) ?_;refine AllReadyH.cons rfl (fun K hK => ?_) AllReadyH.nil
   go_simp
   refine hK.out _ _ ⟨yj.cell (i:=0) rfl,yj.cell (i:=1) rfl,yj.cell (i:=2) rfl⟩ (fun hH4 => ?_);refine wpAnyH_done (by kernel_rfl) ?_ _;refine hQ _ _ ⟨rfl,g,cap,zaa vm (((Fr.refl (fun k=>k=R) wA).setCell ⟨R,0,none⟩ (fun _=>rfl) _)) (fun k hk e => ?_),uJ.set 0 _,tP.out.setCell ⟨R,0,none⟩ (fun _=>.inl rfl) _,qZ.imp id (fun h=>by omega),xm⟩;cases hk;exact xm e
  ·go_simp
   have uQ:=yg.other ⟨R,0,none⟩ mx (.slice (some ⟨g,0,none⟩) (n+1) cap);have uJ:=vf.set 0 (.slice (some ⟨g,0,none⟩) (n+1) cap);have vm:=zaa qf ((Fr.refl (fun k=>k=R) w3).setCell ⟨R,0,none⟩ (fun _=>rfl) (.slice (some ⟨g,0,none⟩) (n+1) cap)) (fun k hk e=>by cases hk;exact xm e);have kl:=HF.out.setCell ⟨R,0,none⟩ (fun _=>.inl rfl) (.slice (some ⟨g,0,none⟩) (n+1) cap);obtain⟨wA,gA⟩ : ∃wA,w3.setCell ⟨R,0,none⟩ (.slice (some ⟨g,0,none⟩) (n+1) cap)=wA:=⟨_,rfl⟩;rw [gA] at uQ uJ vm kl ⊢;clear gA;obtain⟨cD,cP,mN⟩:=uQ.c3;have fU:wA.cell? ⟨g,n*3,none⟩=some (.int .i64 0):=(by rw [vm.cellAt (n*3) (by omega)];simp [xR]);have fa0:=vm.frozenAt (n*3);have cU:wA.cell? ⟨g,n*3+1,none⟩=some (.string ⟨#[]⟩):=(by rw [vm.cellAt (n*3+1) (by omega)];simp [xR]);have fa1:=vm.frozenAt (n*3+1);have jD:wA.cell? ⟨g,n*3+2,none⟩=some (.slice none 0 0):=(by rw [vm.cellAt (n*3+2) (by omega)];simp [xR]);have fa2:=vm.frozenAt (n*3+2);have yj:=(((uQ.other ⟨g,n*3,none⟩ y9 (.int .i64 kd)).other ⟨g,n*3+1,none⟩ y9 (.string nm)).other ⟨g,n*3+2,none⟩ y9 (.slice l2 n2 c2));have tP:=qya kl;clear kl;refine hK.out _ _ ⟨cD,cP,mN⟩ (fun eo => ?_);clear hK K
   try simp only [Act.put,qxa,qxb,qxc,qxd,qxe,qxf]
   refine wpAnyH_ready (rs:=[6]) (by kernel_rfl) (by simp) ?_;refine AllReadyH.cons rfl (fun K hK => ?_) AllReadyH.nil
   go_simp
   refine hK.out _ _ ⟨yj.cell (i:=0) rfl,yj.cell (i:=1) rfl,yj.cell (i:=2) rfl⟩ (fun hH4 => ?_);refine wpAnyH_done (by kernel_rfl) ?_ _;have mf:=(((vm.stored (n*3) (.int .i64 kd)).1.stored (n*3+1) (.string nm)).1.stored (n*3+2) (.slice l2 n2 c2)).1;rw [yy] at mf;exact hQ _ _ ⟨rfl,g,cap,mf,(((uJ.other ⟨g,n*3,none⟩ uq (.int .i64 kd)).other ⟨g,n*3+1,none⟩ uq (.string nm)).other ⟨g,n*3+2,none⟩ uq (.slice l2 n2 c2)),(((tP.out.setCell ⟨g,n*3,none⟩ yA (.int .i64 kd)).setCell ⟨g,n*3+1,none⟩ yA (.string nm)).setCell ⟨g,n*3+2,none⟩ yA (.slice l2 n2 c2)),qZ.imp id (fun h=>by omega),xm⟩
end Go.Proofs.YtclgbmmambkiaaaGreatDoor

/- Part 01 -/
import Derived.Test.YtclgbmmambkiaaaGreatDoorMb00
import Derived.BigRegion
import Derived.RangeFuncRecord
import Derived.RangeFuncKeeps
import Derived.RangeFuncLeaves
import Derived.RangeFuncCalls
import Derived.WalkKit
import Derived.OwnWalkIn
import Derived.TacticsInMore
import Derived.LoopNIn
import Derived.LoopIn
import Derived.Sort.LoopGhostIn
import Derived.OrdersIn
import Derived.Orders
import Derived.Deep.RegionHeldLaw
import Derived.Laws.OwnMore
import Derived.OwnWalk
import Derived.Deep.AppendLies
import Derived.RangeFuncSeq
import Derived.Scope
import Derived.StillTailTactics
import Derived.RecoverIn
set_option maxRecDepth 100000
set_option maxHeartbeats 4000000
set_option linter.unusedVariables false
set_option linter.unusedSimpArgs false
namespace Lx
theorem znd(c:B)(r:List B)(n:Nat):peek (c::r) (n+1)=peek r n:=rfl
theorem zfn{l:List B}{n:Nat}(h:l.length≤n):peek l n=0:=by
 unfold peek;rw [List.getD_eq_getElem?_getD,List.getElem?_eq_none h];rfl
theorem zbd(l:List B)(j k:Nat):peek (l.drop j) k=peek l (j+k):=by
 unfold peek;rw [List.getD_eq_getElem?_getD,List.getElem?_drop,List.getD_eq_getElem?_getD]
theorem za8{x y:List B}{k:Nat}(h:k<x.length):peek (x++y) k=peek x k:=by
 unfold peek;rw [List.getD_eq_getElem?_getD,List.getElem?_append_left h,List.getD_eq_getElem?_getD]
theorem zbx(x y:List B)(k:Nat):peek (x++y) (x.length+k)=peek y k:=by
 unfold peek;rw [List.getD_eq_getElem?_getD,List.getElem?_append_right (by omega),List.getD_eq_getElem?_getD];rw [show x.length+k-x.length=k from by omega]
theorem peek_take(l:List B)(m k:Nat):peek (l.take m) k=if k<m then peek l k else 0:=by
 unfold peek;rw [List.getD_eq_getElem?_getD,List.getElem?_take];split
 ·rw [List.getD_eq_getElem?_getD]
 ·rfl
theorem zi1{l:List B}{k:Nat}(h:peek l k≠0):k<l.length:=by
 rcases Nat.lt_or_ge k l.length with h' | h'
 ·exact h'
 ·exact absurd (zfn h') h
theorem zem{p:B→Bool} : ∀ {l:List B} {i:Nat},i<span p l→p (peek l i)=true
 | [],i,h=>by simp [span] at h
 | c::r,i,h=>by
  cases hc:p c
  ·rw [zb3 hc] at h;omega
  ·rw [zbc hc] at h;cases i with
   | zero=>exact hc
   | succ i=>rw [znd];exact zem (by omega)
theorem span_end{p:B→Bool}(h0:p 0=false) : ∀(l:List B),p (peek l (span p l))=false
 | []=>h0
 | c::r=>by
  cases hc:p c
  ·rw [zb3 hc];exact hc
  ·rw [zbc hc,znd];exact span_end h0 r
theorem zij{p:B→Bool}(h0:p 0=false){l:List B}{s:Nat}(h1 : ∀i,i<s→p (peek l i)=true)(h2:p (peek l s)=false):span p l=s:=by
 rcases Nat.lt_trichotomy (span p l) s with h | h | h
 ·have:=span_end h0 l;rw [h1 _ h] at this;cases this
 ·exact h
 ·have:=zem h;rw [h2] at this;cases this
theorem znf:part 0=false:=by decide
theorem zgq:zap 0=false:=by decide
theorem zso{c:B}(h:zap c=true):part c=true:=by simp [part,h]
def dull(c:B):Prop:=part c=false∧c≠39∧c≠62
theorem zc3{c:B}(h:dull c):zap c=false:=by
 cases hd:zap c
 ·rfl
 ·have:=h.1;rw [zso hd] at this;cases this
theorem zk0{c:B}(h:dull c):za0 c=false:=by
 cases hd:za0 c
 ·rfl
 ·have:=h.1;rw [zg2 hd] at this;cases this
theorem zux:dull 0:=by unfold dull;decide
theorem zom{c:B}(h:zbk c=true):c=9∨c=10∨c=13∨c=32:=by
 simp only [zbk,Bool.or_eq_true,decide_eq_true_eq] at h;rcases h with ((h | h) | h) | h
 ·exact .inl (UInt8.toNat_inj.1 h)
 ·exact .inr (.inl (UInt8.toNat_inj.1 h))
 ·exact .inr (.inr (.inl (UInt8.toNat_inj.1 h)))
 ·exact .inr (.inr (.inr (UInt8.toNat_inj.1 h)))
theorem zsn{c:B}(h:zbk c=true):dull c:=by
 rcases zom h with rfl | rfl | rfl | rfl <;> (unfold dull;decide)
theorem zlw:next []=.err 11:=rfl
theorem zkp(l:List B):zas l≤l.length:=by
 unfold zas;simp only;split
 ·rename_i h;have h1:=zc0 zap (l.drop (span part l+1));rw [List.length_drop] at h1;have:peek l (span part l+1)≠0:=fun e=>by rw [e] at h;exact absurd h.2 (by decide)
  have:=zi1 this;omega
 ·exact zc0 _ _
theorem znj{l:List B}(h:l≠[]):za1 l≤l.length:=by
 unfold za1;split
 ·have h1:=zc0 zap (l.drop 1);rw [List.length_drop] at h1;have:=List.length_pos_iff.2 h;omega
 ·exact zc0 _ _
theorem zo0{x y y':List B}(h:zas (x++y)=x.length)(h0:peek y' 0=peek y 0∨dull (peek y' 0))(h1:peek y' 1=peek y 1∨dull (peek y' 1)):zas (x++y')=x.length:=by
 have hl : ∀i,i<x.length→peek (x++y') i=peek (x++y) i:=fun i hi=>by rw [za8 hi,za8 hi]
 unfold zas at h ⊢;simp only at h ⊢
 by_cases hq:peek (x++y) (span part (x++y))=39∧zap (peek (x++y) (span part (x++y)+1))=true
 ·rw [if_pos hq] at h;obtain⟨s,hs⟩ : ∃s,span part (x++y)=s:=⟨_,rfl⟩;rw [hs] at h hq;have jb:1≤span zap ((x++y).drop (s+1)):=by
   rcases Nat.eq_zero_or_pos (span zap ((x++y).drop (s+1))) with e | e
   ·have:=span_end zgq ((x++y).drop (s+1));rw [e,zbd,Nat.add_zero,hq.2] at this;cases this
   ·exact e
  have lU:span part (x++y')=s:=by
   refine zij znf (fun i hi => ?_) ?_
   ·rw [hl i (by omega)];exact zem (by omega)
   ·rw [hl s (by omega),hq.1];decide
  rw [lU];rw [if_pos ⟨by rw [hl s (by omega)];exact hq.1,by rw [hl (s+1) (by omega)];exact hq.2⟩];have hd:span zap ((x++y').drop (s+1))=span zap ((x++y).drop (s+1)):=by
   refine zij zgq (fun i hi => ?_) ?_
   ·rw [zbd,hl _ (by omega),← zbd];exact zem hi
   ·have he:=span_end zgq ((x++y).drop (s+1));rw [zbd,show s+1+span zap ((x++y).drop (s+1))=x.length+0 from by omega,zbx] at he ⊢;rcases h0 with e | e
    ·rw [e];exact he
    ·exact zc3 e
  rw [hd];exact h
 ·rw [if_neg hq] at h;rw [h] at hq;have he:=span_end znf (x++y);rw [h] at he;have e0 : ∀z,peek (x++z) x.length=peek z 0:=fun z=>zbx x z 0;have e1 : ∀z,peek (x++z) (x.length+1)=peek z 1:=fun z=>zbx x z 1;rw [e0] at he hq;rw [e1] at hq;have lU:span part (x++y')=x.length:=by
   refine zij znf (fun i hi => ?_) ?_
   ·rw [hl i hi];exact zem (by omega)
   ·rw [e0];rcases h0 with e | e
    ·rw [e];exact he
    ·exact e.1
  rw [lU,e0,e1];rw [if_neg];rintro⟨g0,g1⟩;rcases h0 with e | e
  ·rcases h1 with e' | e'
   ·rw [e] at g0;rw [e'] at g1;exact hq ⟨g0,g1⟩
   ·rw [zc3 e'] at g1;cases g1
  ·exact e.2.1 g0
theorem zlj{p:B→Bool}(hp:p 0=false){x y y':List B}{k:Nat}(hk:k≤x.length)(h:k+span p ((x++y).drop k)=x.length)(h0:p (peek y 0)=false→p (peek y' 0)=false):k+span p ((x++y').drop k)=x.length:=by
 have hl : ∀i,i<x.length→peek (x++y') i=peek (x++y) i:=fun i hi=>by rw [za8 hi,za8 hi]
 have:span p ((x++y').drop k)=x.length-k:=by
  refine zij hp (fun i hi => ?_) ?_
  ·rw [zbd,hl _ (by omega),← zbd];exact zem (by omega)
  ·have he:=span_end hp ((x++y).drop k);rw [zbd,show k+span p ((x++y).drop k)=x.length+0 from by omega,zbx] at he;rw [zbd,show k+(x.length-k)=x.length+0 from by omega,zbx];exact h0 he
 omega
theorem zno{x y y':List B}{k n:Int}(hx:x≠[])(h:zb5 (x++y)=.tok k n x.length)(h0:peek y' 0=peek y 0∨dull (peek y' 0))(h1:peek y' 1=peek y 1∨dull (peek y' 1)):zb5 (x++y')=.tok k n x.length:=by
 have hN:=(zfe h).1;have zu:=zo0 hN.symm h0 h1;have hp:peek (x++y') 0=peek (x++y) 0:=by rw [za8 (List.length_pos_iff.2 hx),za8 (List.length_pos_iff.2 hx)]
 rw [← h];unfold zb5;simp only;rw [← hN,zu,hp,List.take_left,List.take_left]
theorem zox{x y y':List B}{k n:Int}(h:zck (x++y)=.tok k n x.length)(h0:peek y' 0=peek y 0∨dull (peek y' 0)):zck (x++y')=.tok k n x.length:=by
 have hN:=(zer h).1;have zu:=zlj (k:=1) (y':=y') znf (by omega) hN.symm (fun e=>by
  rcases h0 with e' | e'
  ·rw [e'];exact e
  ·exact e'.1)
 rw [← h];unfold zck;simp only;rw [← hN,zu]
theorem zoy{x y y':List B}{k n:Int}(hx:x≠[])(h:zcl (x++y)=.tok k n x.length)(h0:peek y' 0=peek y 0∨dull (peek y' 0)):zcl (x++y')=.tok k n x.length:=by
 have hN:=zes h;have hp:peek (x++y') 0=peek (x++y) 0:=by rw [za8 (List.length_pos_iff.2 hx),za8 (List.length_pos_iff.2 hx)]
 have dz:zap (peek y 0)=false→zap (peek y' 0)=false:=fun e=>by
  rcases h0 with e' | e'
  ·rw [e'];exact e
  ·exact zc3 e'
 have zu:za1 (x++y')=x.length:=by
  unfold za1 at hN ⊢;rw [hp]
  by_cases hc:peek (x++y) 0=126
  ·rw [if_pos hc] at hN ⊢;exact zlj (k:=1) (y':=y') zgq (List.length_pos_iff.2 hx) hN.symm dz
  ·rw [if_neg hc] at hN ⊢;have:=zlj (k:=0) (y:=y) (y':=y') (x:=x) zgq (Nat.zero_le _) (by rw [List.drop_zero];omega) dz
   rwa [List.drop_zero,Nat.zero_add] at this
 unfold zcl at h ⊢;simp only at h ⊢;rw [← hN,List.take_left] at h;rw [zu,List.take_left];cases hn:zbz x with
 | none=>rw [hn] at h;cases h
 | some i=>
  rw [hn] at h;simp only at h ⊢;rw [show peek (x++y) x.length=peek y 0 from zbx x y 0] at h;rw [show peek (x++y') x.length=peek y' 0 from zbx x y' 0];rcases h0 with e | e
  ·rw [e];exact h
  ·rw [if_neg]
   ·split at h
    ·cases h
    ·exact h
   ·simp [e.1,e.2.1]
theorem zv8{x y y':List B}{k n:Int}(h:next (x++y)=.tok k n x.length)(h0:peek y' 0=peek y 0∨dull (peek y' 0))(h1:peek y' 1=peek y 1∨dull (peek y' 1)):next (x++y')=.tok k n x.length:=by
 have hx:x≠[]:=by
  rintro rfl;cases hy:([]++y:List B) with
  | nil=>rw [hy,zlw] at h;cases h
  | cons c r=>rw [hy] at h;have:=zgj h;simp at this
 have vR:=List.length_pos_iff.2 hx;have hp:peek (x++y') 0=peek (x++y) 0:=by rw [za8 vR,za8 vR]
 by_cases ha:(za0 (peek (x++y) 0)||zao (peek (x++y) 0))=true
 ·rw [zcv ha] at h;rw [zcv (by rw [hp];exact ha)];exact zno hx h h0 h1
 ·have uS:(za0 (peek (x++y) 0)||zao (peek (x++y) 0))=false:=by simpa using ha
  by_cases hb:peek (x++y) 0=39∧za0 (peek (x++y) 1)=true
  ·rw [next_var uS hb.1 hb.2] at h;have hl:=(zer h).1;have h2:1≤span part ((x++y).drop 1):=by
    rcases Nat.eq_zero_or_pos (span part ((x++y).drop 1)) with e | e
    ·have:=span_end znf ((x++y).drop 1);rw [e,zbd,Nat.add_zero,zg2 hb.2] at this;cases this
    ·exact e
   have hp1:peek (x++y') 1=peek (x++y) 1:=(by rw [za8 (by omega),za8 (by omega)]);rw [next_var (by rw [hp];exact uS) (by rw [hp];exact hb.1) (by rw [hp1];exact hb.2)];exact zox h h0
  ·have pY : ¬(peek (x++y') 0=39∧za0 (peek (x++y') 1)=true):=by
    rw [hp];rintro⟨g0,g1⟩;refine hb ⟨g0,?_⟩;rcases Nat.lt_or_ge 1 x.length with qx | hge
    ·rwa [za8 qx] at g1 ⊢
    ·have e1:x.length=1:=(by omega);have f : ∀z,peek (x++z) 1=peek z 0:=fun z=>by have:=zbx x z 0;rwa [e1] at this
     rw [f] at g1 ⊢;rcases h0 with e | e
     ·rwa [e] at g1
     ·rw [zk0 e] at g1;cases g1
   by_cases hc:peek (x++y) 0=126∨zap (peek (x++y) 0)=true
   ·rw [zdo uS hb hc] at h;rw [zdo (by rw [hp];exact uS) pY (by rw [hp];exact hc)];exact zoy hx h h0
   ·rw [zcu uS hb hc] at h;rw [zcu (by rw [hp];exact uS) pY (by rw [hp];exact hc),hp]
    by_cases hd:(peek (x++y) 0=61∨peek (x++y) 0=45)∧peek (x++y) 1=62
    ·rw [if_pos hd] at h;have e2:2=x.length:=(by injection h);rw [if_pos ⟨hd.1,by rw [za8 (show 1<x.length by omega)];have:=hd.2;rwa [za8 (show 1<x.length by omega)] at this⟩];exact h
    ·rw [if_neg hd] at h;have e1:1=x.length:=by
      split at h
      ·injection h
      ·cases h
     have f : ∀z,peek (x++z) 1=peek z 0:=fun z=>by have:=zbx x z 0;rwa [← e1] at this
     rw [if_neg]
     ·exact h
     ·rw [f] at hd ⊢;rintro⟨g0,g1⟩;rcases h0 with e | e
      ·exact hd ⟨g0,by rw [← e];exact g1⟩
      ·exact e.2.2 g1
theorem zcw{l:List B}{k n:Int}{j:Nat}(h:next l=.tok k n j):1≤j∧j≤l.length:=by
 cases l with
 | nil=>rw [zlw] at h;cases h
 | cons c r=>
  refine⟨zgj h,?_⟩
  by_cases ha:(za0 (peek (c::r) 0)||zao (peek (c::r) 0))=true
  ·rw [zcv ha] at h;rw [(zfe h).1];exact zkp _
  ·have uS:(za0 (peek (c::r) 0)||zao (peek (c::r) 0))=false:=by simpa using ha
   by_cases hb:peek (c::r) 0=39∧za0 (peek (c::r) 1)=true
   ·rw [next_var uS hb.1 hb.2] at h;rw [(zer h).1];have:=zc0 part ((c::r).drop 1);rw [List.length_drop] at this;simp only [List.length_cons] at this ⊢;omega
   ·by_cases hc:peek (c::r) 0=126∨zap (peek (c::r) 0)=true
    ·rw [zdo uS hb hc] at h;rw [zes h];exact znj (by simp)
    ·rw [zcu uS hb hc] at h;split at h
     ·rename_i hd;have:peek (c::r) 1≠0:=fun e=>by rw [e] at hd;exact absurd hd.2 (by decide)
      have:=zi1 this;cases h;omega
     ·split at h
      ·cases h;simp
      ·cases h
theorem zi3{l:List B}{k n:Int}{j m:Nat}(h:next l=.tok k n j)(hm:j≤m):next (l.take m)=.tok k n j:=by
 have hj:=(zcw h).2;have e:l=l.take j++l.drop j:=(List.take_append_drop j l).symm;have e2:l.take m=l.take j++(l.drop j).take (m-j):=by
  have:=List.take_add (l:=l) (i:=j) (j:=m-j)
  rwa [show j+(m-j)=m from by omega] at this
 have hlen:(l.take j).length=j:=by rw [List.length_take];omega
 rw [e2];have h':next (l.take j++l.drop j)=.tok k n (l.take j).length:=by rw [← e,hlen];exact h
 have : ∀i,peek ((l.drop j).take (m-j)) i=peek (l.drop j) i∨dull (peek ((l.drop j).take (m-j)) i):=fun i=>by
  rw [peek_take];split
  ·exact .inl rfl
  ·exact .inr zux
 have:=zv8 h' (this 0) (this 1)
 rwa [hlen] at this
theorem zdp{l:List B}{c:B}{r:List B}{i:Nat}(h:i<l.length):peek (l++c::r) i=peek l i:=za8 h
theorem zk4(l:List B)(c:B)(r:List B):peek (l++c::r) l.length=c:=zbx l (c::r) 0
theorem zga{p:B→Bool}(hp:p 0=false)(l:List B)(c:B)(r:List B)(hc:p c=false):span p (l++c::r)=span p l:=by
 have qX:=zc0 p l;refine zij hp (fun i hi => ?_) ?_
 ·rw [zdp (by omega)];exact zem hi
 ·rcases Nat.lt_or_ge (span p l) l.length with h | h
  ·rw [zdp h];exact span_end hp l
  ·rw [show span p l=l.length from by omega,zk4];exact hc
theorem zo1(l:List B)(c:B)(r:List B)(hc:dull c):zas (l++c::r)=zas l:=by
 have hs:=zga znf l c r hc.1;have qX:=zc0 part l;unfold zas;simp only;rw [hs];rcases Nat.lt_or_ge (span part l) l.length with h | h
 ·rw [zdp h];rcases Nat.lt_or_ge (span part l+1) l.length with h' | h'
  ·rw [zdp h',List.drop_append_of_le_length (by omega),zga zgq _ c r (zc3 hc)]
  ·rw [show span part l+1=l.length from by omega,zk4,zfn (Nat.le_refl _)];rw [if_neg (by rw [zc3 hc];simp),if_neg (by rw [zgq];simp)]
 ·rw [show span part l=l.length from by omega,zk4,zfn (Nat.le_refl _)];rw [if_neg (fun e=>hc.2.1 e.1),if_neg (fun e=>absurd e.1 (by decide))]
theorem zv9{l:List B}(hl:l≠[])(c:B)(r:List B)(hc:dull c):next (l++c::r)=next l:=by
 have vR:=List.length_pos_iff.2 hl;have hp:peek (l++c::r) 0=peek l 0:=zdp vR;have hp1:peek (l++c::r) 1=peek l 1∨(dull (peek (l++c::r) 1)∧peek l 1=0):=by
  rcases Nat.lt_or_ge 1 l.length with h | h
  ·exact .inl (zdp h)
  ·have e:l.length=1:=(by omega);have:=zk4 l c r;rw [e] at this;rw [this];exact .inr ⟨hc,zfn (by omega)⟩
 by_cases ha:(za0 (peek l 0)||zao (peek l 0))=true
 ·rw [zcv ha,zcv (by rw [hp];exact ha)];unfold zb5;simp only;rw [zo1 l c r hc,hp,List.take_append_of_le_length (zkp l)]
 ·have uS:(za0 (peek l 0)||zao (peek l 0))=false:=by simpa using ha
  by_cases hb:peek l 0=39∧za0 (peek l 1)=true
  ·have vK:peek (l++c::r) 1=peek l 1:=by
    rcases hp1 with e | ⟨_,e⟩
    ·exact e
    ·rw [e] at hb;exact absurd hb.2 (by decide)
   rw [next_var uS hb.1 hb.2,next_var (by rw [hp];exact uS) (by rw [hp];exact hb.1) (by rw [vK];exact hb.2)];unfold zck;rw [List.drop_append_of_le_length (by omega),zga znf _ c r hc.1]
  ·have pY : ¬(peek (l++c::r) 0=39∧za0 (peek (l++c::r) 1)=true):=by
    rw [hp];rcases hp1 with e | ⟨e,_⟩
    ·rw [e];exact hb
    ·rw [zk0 e];simp
   by_cases hd:peek l 0=126∨zap (peek l 0)=true
   ·rw [zdo uS hb hd,zdo (by rw [hp];exact uS) pY (by rw [hp];exact hd)];have hN:za1 (l++c::r)=za1 l:=by
     unfold za1;rw [hp,List.drop_append_of_le_length (by omega),zga zgq _ c r (zc3 hc),zga zgq _ c r (zc3 hc)]
    have qX:=znj hl;unfold zcl;simp only;rw [hN,List.take_append_of_le_length qX];have hq:(part (peek (l++c::r) (za1 l))||decide (peek (l++c::r) (za1 l)=39))=(part (peek l (za1 l))||decide (peek l (za1 l)=39)):=by
     rcases Nat.lt_or_ge (za1 l) l.length with h | h
     ·rw [zdp h]
     ·rw [show za1 l=l.length from by omega,zk4,zfn (Nat.le_refl _),hc.1,znf];simp [hc.2.1]
    rw [hq]
   ·rw [zcu uS hb hd,zcu (by rw [hp];exact uS) pY (by rw [hp];exact hd),hp];rcases hp1 with e | ⟨e,e'⟩
    ·rw [e]
    ·rw [if_neg (fun g=>e.2.2 g.2),if_neg (c:=(peek l 0=61∨peek l 0=45)∧peek l 1=62) (fun g=>by rw [e'] at g;exact absurd g.2 (by decide))]
theorem zh9{c d:B}{r:List B}(k n:Nat)(h1 : ¬(c=40∧d=42))(h2 : ¬(c=42∧d=41)):zae (c::d::r) k n=zae (d::r) k (n+1):=by
 rw [zae]
 ·rintro r' rfl e;cases e;exact h1 ⟨rfl,rfl⟩
 ·rintro r' rfl e;cases e;exact h2 ⟨rfl,rfl⟩
theorem zyj(c:B)(k n:Nat):zae [c] k n=.open:=by
 rw [zae]
 ·rw [zae]
 ·rintro r' rfl e;cases e
 ·rintro r' rfl e;cases e
theorem zss : ∀(l:List B) (k n m:Nat),zae l k n=.closed m→∃a b,l=a++b∧n+a.length=m∧2≤a.length∧∀b',zae (a++b') k n=.closed m:=by
 intro l k n
 fun_induction zae l k n with
 | case1 r n=>intro m h;cases h
 | case2 r k n hk ih=>
  intro m h;obtain⟨a,b,rfl,e,_,hb⟩:=ih m h;exact⟨40::42::a,b,rfl,by simp only [List.length_cons];omega,by simp,fun b'=>by
   show zae (40::42::(a++b')) k n=_;rw [zae,if_neg hk];exact hb b'⟩
 | case3 r k n hk=>
  intro m h;cases h;exact⟨[42,41],r,rfl,rfl,Nat.le_refl _,fun b'=>by
   show zae (42::41::b') k n=_;rw [zae,if_pos hk]⟩
 | case4 r k n hk ih=>
  intro m h;obtain⟨a,b,rfl,e,_,hb⟩:=ih m h;exact⟨42::41::a,b,rfl,by simp only [List.length_cons];omega,by simp,fun b'=>by
   show zae (42::41::(a++b')) k n=_;rw [zae,if_neg hk];exact hb b'⟩
 | case5 c r k n h1 h2 ih=>
  intro m h;obtain⟨a,b,rfl,e,pW,hb⟩:=ih m h;cases a with
  | nil=>simp at pW
  | cons d a=>
   refine⟨c::d::a,b,rfl,by simp only [List.length_cons] at e ⊢;omega,by simp,fun b' => ?_⟩;show zae (c::d::(a++b')) k n=_;rw [zh9]
   ·exact hb b'
   ·rintro⟨rfl,rfl⟩;exact h1 _ rfl rfl
   ·rintro⟨rfl,rfl⟩;exact h2 _ rfl rfl
 | case6=>intro m h;cases h
theorem zw6 : ∀(l:List B) (k n m:Nat),zae l k n=.deep m→∃a b,l=a++40::42::b∧n+a.length=m∧zae a k n=.open∧(∀b',zae (a++40::42::b') k n=.deep m)∧(k≠100→a≠[]):=by
 intro l k n
 fun_induction zae l k n with
 | case1 r n=>
  intro m h;cases h;exact⟨[],r,rfl,rfl,by rw [zae],fun b'=>by show zae (40::42::b') _ _=_;rw [zae,if_pos rfl],fun e=>absurd rfl e⟩
 | case2 r k n hk ih=>
  intro m h;obtain⟨a,b,rfl,e,ho,hb,_⟩:=ih m h;refine⟨40::42::a,b,rfl,by simp only [List.length_cons];omega,?_,fun b' => ?_,fun _=>by simp⟩
  ·rw [zae,if_neg hk];exact ho
  ·show zae (40::42::(a++40::42::b')) k n=_;rw [zae,if_neg hk];exact hb b'
 | case3 r k n hk=>intro m h;cases h
 | case4 r k n hk ih=>
  intro m h;obtain⟨a,b,rfl,e,ho,hb,_⟩:=ih m h;refine⟨42::41::a,b,rfl,by simp only [List.length_cons];omega,?_,fun b' => ?_,fun _=>by simp⟩
  ·rw [zae,if_neg hk];exact ho
  ·show zae (42::41::(a++40::42::b')) k n=_;rw [zae,if_neg hk];exact hb b'
 | case5 c r k n h1 h2 ih=>
  intro m h;obtain⟨a,b,rfl,e,ho,hb,_⟩:=ih m h;refine⟨c::a,b,rfl,by simp only [List.length_cons];omega,?_,fun b' => ?_,fun _=>by simp⟩
  ·cases a with
   | nil=>exact zyj c k n
   | cons d a=>
    rw [zh9]
    ·exact ho
    ·rintro⟨rfl,rfl⟩;exact h1 _ rfl rfl
    ·rintro⟨rfl,rfl⟩;exact h2 _ rfl rfl
  ·cases a with
   | nil=>
    show zae (c::40::42::b') k n=_;rw [zh9]
    ·exact hb b'
    ·rintro⟨rfl,e⟩;exact absurd e (by decide)
    ·rintro⟨rfl,e⟩;exact absurd e (by decide)
   | cons d a=>
    show zae (c::d::(a++40::42::b')) k n=_;rw [zh9]
    ·exact hb b'
    ·rintro⟨rfl,rfl⟩;exact h1 _ rfl rfl
    ·rintro⟨rfl,rfl⟩;exact h2 _ rfl rfl
 | case6=>intro m h;cases h
theorem zk3{l:List B}(hl:l≠[])(c:B)(r:List B)(hc:c≠42):begins (l++c::r)=begins l:=by
 have vR:=List.length_pos_iff.2 hl;unfold begins;rw [zdp vR];rcases Nat.lt_or_ge 1 l.length with h | h
 ·rw [zdp h]
 ·have e:l.length=1:=by omega
  have h1:=zk4 l c r;rw [e] at h1;rw [h1,zfn (l:=l) (n:=1) (by omega)];have:decide (c=42)=false:=by simpa using hc
  rw [this];rfl
theorem zpw{l:List B}{m:Nat}(h:begins l=true)(hm:2≤m):begins (l.take m)=true:=by
 unfold begins at h ⊢;rw [peek_take,peek_take,if_pos (by omega),if_pos (by omega)];exact h
theorem zj5{l:List B}{m:Nat}(h:begins l=false):begins (l.take m)=false:=by
 unfold begins at h ⊢;rw [peek_take,peek_take]
 by_cases h0:0<m
 ·rw [if_pos h0]
  by_cases h1:1<m
  ·rw [if_pos h1];exact h
  ·rw [if_neg h1];simp
 ·rw [if_neg h0];simp
theorem begins_two{l:List B}(h:begins l=true) : ∃r,l=40::42::r:=by
 have h':peek l 0=40∧peek l 1=42:=by simpa [begins] using h
 match l,h' with
 | [],h'=>exact absurd h'.1 (by decide)
 | [c],h'=>exact absurd h'.2 (by show ¬(0:B)=42;decide)
 | c::d::r,h'=>exact⟨r,by rw [show c=40 from h'.1,show d=42 from h'.2]⟩
theorem zey{l:List B}{m:Nat}(h:zae l 0 0=.closed m) : ∃a b,l=a++b∧a.length=m∧2≤m∧l.drop m=b∧l.take m=a∧∀b',zae (a++b') 0 0=.closed m:=by
 obtain⟨a,b,rfl,e,h2,hb⟩:=zss _ _ _ _ h;rw [Nat.zero_add] at e;exact⟨a,b,rfl,e,by omega,by rw [← e,List.drop_left],by rw [← e,List.take_left],hb⟩
theorem zhv{l:List B}{j:Nat}(h:j≤l.length):(l.take j).length=j:=by rw [List.length_take];omega
theorem Scan.com_ok{s:Scan}{a b:Nat}{ts:List Tok}{cs:List (Nat×Nat)}(h:s.com a b=.ok ts cs) : ∃cs',s=.ok ts cs'∧cs=(a,b)::cs':=by
 cases s with
 | ok ts' cs'=>cases h;exact⟨cs',rfl,rfl⟩
 | err _ _=>cases h
theorem Scan.tok_ok{s:Scan}{t:Tok}{ts:List Tok}{cs:List (Nat×Nat)}(h:s.tok t=.ok ts cs) : ∃ts',s=.ok ts' cs∧ts=t::ts':=by
 cases s with
 | ok ts' cs'=>cases h;exact⟨ts',rfl,rfl⟩
 | err _ _=>cases h
theorem Scan.com_err{s:Scan}{a b:Nat}{q:Nat}{e:Int}(h:s.com a b=.err q e):s=.err q e:=by
 cases s with
 | ok ts' cs'=>cases h
 | err _ _=>exact h
theorem Scan.tok_err{s:Scan}{t:Tok}{q:Nat}{e:Int}(h:s.tok t=.err q e):s=.err q e:=by
 cases s with
 | ok ts' cs'=>cases h
 | err _ _=>exact h
theorem zir : ∀(m:Nat) (l:List B) (p:Nat) (c:B) (r:List B),l.length≤m→zbk c=true →
  (∀ts cs,scan l p=.ok ts cs→scan (l++c::r) p=(scan r (p+l.length+1)).pre ts cs) ∧
  (∀q e,scan l p=.err q e→e≠12→scan (l++c::r) p=.err q e):=by
 intro m
 induction m with
 | zero=>
  intro l p c r hl hc;obtain rfl:l=[]:=List.eq_nil_of_length_eq_zero (by omega);refine⟨fun ts cs h => ?_,fun q e h=>by cases h⟩;cases h;rw [List.nil_append,za9 hc,Scan.pre_nil];rfl
 | succ m ih=>
  intro l p c r hl hc;cases l with
  | nil=>
   refine⟨fun ts cs h => ?_,fun q e h=>by cases h⟩;cases h;rw [List.nil_append,za9 hc,Scan.pre_nil];rfl
  | cons d l=>
   simp only [List.length_cons] at hl;have hc42:c≠42:=(by rintro rfl;exact absurd hc (by decide));cases hs:zbk d
   ·cases hb:begins (d::l)
    ·have pY:begins (d::(l++c::r))=false:=(by have:=zk3 (l:=d::l) (by simp) c r hc42;rw [hb] at this;exact this);have hna:next (d::(l++c::r))=next (d::l):=zv9 (l:=d::l) (by simp) c r (zsn hc);rw [List.cons_append,zch hs hb,zch hs pY,hna];cases hn:next (d::l) with
     | err x=>exact⟨fun ts cs h=>(by cases h),fun q e h _=>h⟩
     | tok k n j=>
      have hj:=zcw hn;have fa:(d::(l++c::r)).drop j=(d::l).drop j++c::r:=(by rw [← List.cons_append,List.drop_append_of_le_length hj.2]);have vN:(d::(l++c::r)).take j=(d::l).take j:=(by rw [← List.cons_append,List.take_append_of_le_length hj.2]);obtain⟨i1,i2⟩:=ih ((d::l).drop j) (p+j) c r (by rw [List.length_drop,List.length_cons];omega) hc;simp only;rw [fa,vN];refine⟨fun ts cs h => ?_,fun q e h he => ?_⟩
      ·obtain⟨ts',h',rfl⟩:=Scan.tok_ok h;rw [i1 ts' cs h',Scan.tok_pre,Scan.pre_pre]
       congr 2
       rw [List.length_drop];omega
      ·rw [i2 q e (Scan.tok_err h) he];rfl
    ·have pY:begins (d::(l++c::r))=true:=(by have:=zk3 (l:=d::l) (by simp) c r hc42;rw [hb] at this;exact this);rw [List.cons_append,zcq hs hb,zcq hs pY];cases hn:zae (d::l) 0 0 with
     | closed n=>
      obtain⟨a,b,co,ha,h2,hd,ht,fR⟩:=zey hn;have hct:zae (d::(l++c::r)) 0 0=.closed n:=(by rw [← List.cons_append,co,List.append_assoc];exact fR _);have hln:n≤(d::l).length:=(by rw [co,List.length_append];omega);have fa:(d::(l++c::r)).drop n=(d::l).drop n++c::r:=(by rw [← List.cons_append,List.drop_append_of_le_length hln]);obtain⟨i1,i2⟩:=ih ((d::l).drop n) (p+n) c r (by rw [List.length_drop,List.length_cons];omega) hc;rw [hct];simp only;rw [fa];refine⟨fun ts cs h => ?_,fun q e h he => ?_⟩
      ·obtain⟨cs',h',rfl⟩:=Scan.com_ok h;rw [i1 ts cs' h',Scan.com_pre,Scan.pre_pre]
       congr 2
       rw [List.length_drop];omega
      ·rw [i2 q e (Scan.com_err h) he];rfl
     | «open» =>
      refine⟨fun ts cs h=>(by cases h),fun q e h he => ?_⟩;simp only [Scan.err.injEq] at h;exact absurd h.2.symm he
     | deep n=>
      refine⟨fun ts cs h=>(by cases h),fun q e h _ => ?_⟩;obtain⟨a,b,co,ha,ho,hdp,_⟩:=zw6 _ _ _ _ hn;have hct:zae (d::(l++c::r)) 0 0=.deep n:=(by rw [← List.cons_append,co,List.append_assoc];exact hdp _);rw [hct];exact h
   ·rw [List.cons_append,za9 hs,za9 hs];obtain⟨i1,i2⟩:=ih l (p+1) c r (by omega) hc;refine⟨fun ts cs h => ?_,i2⟩;rw [i1 ts cs h]
    congr 2
    rw [List.length_cons];omega
def Tok.shift(d:Nat)(t:Tok):Tok := { t with pos:=t.pos+d }
def Scan.shift(d:Nat):Scan→Scan
 | .ok ts cs=>.ok (ts.map (Tok.shift d)) (cs.map fun c=>(c.1+d,c.2+d))
 | .err q e=>.err (q+d) e
theorem zrf : ∀(m:Nat) (l:List B) (p d:Nat),l.length≤m→scan l (p+d)=(scan l p).shift d:=by
 intro m
 induction m with
 | zero=>
  intro l p d hl;obtain rfl:l=[]:=List.eq_nil_of_length_eq_zero (by omega);rfl
 | succ m ih=>
  intro l p d hl;cases l with
  | nil=>rfl
  | cons c r=>
   simp only [List.length_cons] at hl;cases hs:zbk c
   ·cases hb:begins (c::r)
    ·rw [zch hs hb,zch hs hb];cases hn:next (c::r) with
     | err x=>rfl
     | tok k n j=>
      have hj:=zcw hn;simp only;rw [show p+d+j=p+j+d from by omega,ih _ (p+j) d (by rw [List.length_drop,List.length_cons];omega)];cases scan ((c::r).drop j) (p+j) <;> rfl
    ·rw [zcq hs hb,zcq hs hb];cases hn:zae (c::r) 0 0 with
     | closed n=>
      have:=(zey hn).choose_spec.choose_spec.2.2.1;simp only;rw [show p+d+n=p+n+d from by omega,ih _ (p+n) d (by rw [List.length_drop,List.length_cons];omega)];cases scan ((c::r).drop n) (p+n) <;> rfl
     | «open» => rfl
     | deep n=>
      show Scan.err (p+d+n) 6=.err (p+n+d) 6;rw [show p+d+n=p+n+d from by omega]
   ·rw [za9 hs,za9 hs,show p+d+1=p+1+d from by omega];exact ih r (p+1) d (by omega)
theorem zda : ∀(m:Nat) (l:List B) (p:Nat) (ts:List Tok) (cs:List (Nat×Nat)),l.length≤m→scan l p=.ok ts cs →
  ∀t∈ts,p≤t.pos∧t.pos+t.text.length≤p+l.length∧t.text=(l.drop (t.pos-p)).take t.text.length∧next t.text=.tok t.kind t.num t.text.length:=by
 intro m
 induction m with
 | zero=>
  intro l p ts cs hl h;obtain rfl:l=[]:=List.eq_nil_of_length_eq_zero (by omega);cases h;simp
 | succ m ih=>
  intro l p ts cs hl h;cases l with
  | nil=>cases h;simp
  | cons c r=>
   simp only [List.length_cons] at hl;cases hs:zbk c
   ·cases hb:begins (c::r)
    ·rw [zch hs hb] at h;cases hn:next (c::r) with
     | err x=>rw [hn] at h;cases h
     | tok k n j=>
      rw [hn] at h;simp only at h;have hj:=zcw hn;obtain⟨ts',h',rfl⟩:=Scan.tok_ok h;intro t ht;rcases List.mem_cons.1 ht with rfl | ht
      ·simp only;rw [zhv hj.2];exact⟨Nat.le_refl _,by omega,by rw [Nat.sub_self,List.drop_zero],zi3 hn (Nat.le_refl _)⟩
      ·have:=ih _ _ _ _ (by rw [List.length_drop,List.length_cons];omega) h' t ht;rw [List.length_drop,List.drop_drop,show j+(t.pos-(p+j))=t.pos-p from by omega] at this;exact⟨by omega,by omega,this.2.2⟩
    ·rw [zcq hs hb] at h;cases hn:zae (c::r) 0 0 with
     | closed n=>
      rw [hn] at h;simp only at h;obtain⟨a,b,co,ha,h2,hd,_,_⟩:=zey hn;have hln:n≤(c::r).length:=(by rw [co,List.length_append];omega);obtain⟨cs',h',rfl⟩:=Scan.com_ok h;intro t ht;have:=ih _ _ _ _ (by rw [List.length_drop,List.length_cons];omega) h' t ht;rw [List.length_drop,List.drop_drop,show n+(t.pos-(p+n))=t.pos-p from by omega] at this;exact⟨by omega,by omega,this.2.2⟩
     | «open» => rw [hn] at h;cases h
     | deep n=>rw [hn] at h;cases h
   ·rw [za9 hs] at h;intro t ht;have:=ih _ _ _ _ (by omega) h t ht;refine⟨by omega,by simp only [List.length_cons];omega,?_⟩;rw [show t.pos-p=t.pos-(p+1)+1 from by omega,List.drop_succ_cons];exact this.2.2
theorem zm5 : ∀(m:Nat) (l:List B) (p:Nat) (ts:List Tok) (cs:List (Nat×Nat)),l.length≤m→scan l p=.ok ts cs→(ts.map fun t=>t.text.length+1).sum≤2*l.length:=by
 intro m
 induction m with
 | zero=>
  intro l p ts cs hl h;obtain rfl:l=[]:=List.eq_nil_of_length_eq_zero (by omega);cases h;simp
 | succ m ih=>
  intro l p ts cs hl h;cases l with
  | nil=>cases h;simp
  | cons c r=>
   simp only [List.length_cons] at hl;cases hs:zbk c
   ·cases hb:begins (c::r)
    ·rw [zch hs hb] at h;cases hn:next (c::r) with
     | err x=>rw [hn] at h;cases h
     | tok k n j=>
      rw [hn] at h;simp only at h;have hj:=zcw hn;obtain⟨ts',h',rfl⟩:=Scan.tok_ok h;have:=ih _ _ _ _ (by rw [List.length_drop,List.length_cons];omega) h';rw [List.length_drop] at this;simp only [List.map_cons,List.sum_cons];rw [zhv hj.2];omega
    ·rw [zcq hs hb] at h;cases hn:zae (c::r) 0 0 with
     | closed n=>
      rw [hn] at h;simp only at h;obtain⟨a,b,co,ha,h2,hd,_,_⟩:=zey hn;obtain⟨cs',h',rfl⟩:=Scan.com_ok h;have:=ih _ _ _ _ (by rw [List.length_drop,List.length_cons];omega) h';rw [List.length_drop] at this;omega
     | «open» => rw [hn] at h;cases h
     | deep n=>rw [hn] at h;cases h
   ·rw [za9 hs] at h;have:=ih _ _ _ _ (by omega) h;simp only [List.length_cons];omega
theorem zgy{l:List B}{p:Nat}{ts:List Tok}{cs:List (Nat×Nat)}(h:scan l p=.ok ts cs):ts.length≤2*l.length:=by
 have h1:=zm5 _ _ _ _ _ (Nat.le_refl _) h;have h2 : ∀(l:List Tok),l.length≤(l.map fun t=>t.text.length+1).sum:=by
  intro l
  induction l with
  | nil=>exact Nat.le_refl _
  | cons a r ih=>simp only [List.length_cons,List.map_cons,List.sum_cons];omega
 exact Nat.le_trans (h2 ts) h1
end Lx
namespace Go.Proofs.YtclgbmmambkiaaaGreatDoor
open Go.RowKit
structure RT where
 k:Int
 n:Int
 s:ByteArray
 a:Int
abbrev RT.v(x:RT):Value:=tokV x.k x.n x.s x.a
def TlAt(w:World)(la:Option Addr)(L:List RT):Prop:=∀i (hi:i<L.length),∃g o,la=some ⟨g,o,none⟩∧g<w.heap.size ∧
 w.cell? ⟨g,o+i*4,none⟩=some (.int .i64 L[i].k)∧w.cell? ⟨g,o+i*4+1,none⟩=some (.int .i64 L[i].n)∧w.cell? ⟨g,o+i*4+2,none⟩=some (.string L[i].s)∧w.cell? ⟨g,o+i*4+3,none⟩=some (.int .i64 L[i].a)
theorem TlAt.old{w w':World}{la:Option Addr}{L:List RT}(h:TlAt w la L)(hf:Old w w'):TlAt w' la L:=fun i hi=>by
 obtain⟨g,o,h0,hg,h1,h2,h3,h4⟩:=h i hi;have he:w'.heap[g]? = w.heap[g]? := hf.block g hg (fun e=>e);exact⟨g,o,h0,qyc hg hf.size,(World.cell?_of_block he).trans h1,(World.cell?_of_block he).trans h2,(World.cell?_of_block he).trans h3,(World.cell?_of_block he).trans h4⟩
structure Rd(w:World)(b:Nat)(la:Option Addr)(lc:Nat)(L:List RT)(p:Nat):Prop where
 blk:Blk w b #[.slice la L.length lc,.int .i64 p] 129
 toks:TlAt w la L
 apart : ∀g,la=some g→g.block≠b
 few:L.length≤1000000
 le:p≤L.length
theorem TlAt.but{w w':World}{b:Nat}{la:Option Addr}{L:List RT}(h:TlAt w la L)(hf:But b w w')(hb : ∀g,la=some g→g.block≠b):TlAt w' la L:=fun i hi=>by
 obtain⟨g,o,h0,hg,h1,h2,h3,h4⟩:=h i hi;have he:w'.heap[g]? = w.heap[g]? := hf.block g hg (hb _ h0);exact⟨g,o,h0,qyc hg hf.size,(World.cell?_of_block he).trans h1,(World.cell?_of_block he).trans h2,(World.cell?_of_block he).trans h3,(World.cell?_of_block he).trans h4⟩
theorem Rd.old{w w':World}{b:Nat}{la:Option Addr}{lc:Nat}{L:List RT}{p:Nat}(h:Rd w b la lc L p)(hf:Old w w'):Rd w' b la lc L p:=
 ⟨h.blk.keep hf (fun e=>e),h.toks.old hf,h.apart,h.few,h.le⟩
theorem Rd.move{w:World}{b:Nat}{la:Option Addr}{lc:Nat}{L:List RT}{p:Nat}(h:Rd w b la lc L p)(q:Nat)(hq:q≤L.length):Rd (w.setCell ⟨b,1,none⟩ (.int .i64 q)) b la lc L q:=
 ⟨h.blk.set 1 _,h.toks.but ((But.refl b w).setCell ⟨b,1,none⟩ (fun _=>rfl) _) h.apart,h.apart,h.few,hq⟩
theorem Rd.keep{S:Nat→Prop}{w w':World}{b:Nat}{la:Option Addr}{lc:Nat}{L:List RT}{p:Nat}(h:Rd w b la lc L p)(hf:Fr S w w')(hb : ¬S b)(hg : ∀g,la=some g→¬S g.block):Rd w' b la lc L p:=by
 refine⟨h.blk.keep hf hb,fun i hi => ?_,h.apart,h.few,h.le⟩;obtain⟨g,o,h0,qQ,h1,h2,h3,h4⟩:=h.toks i hi;have he:w'.heap[g]? = w.heap[g]? := hf.block g qQ (hg _ h0);exact⟨g,o,h0,qyc qQ hf.size,(World.cell?_of_block he).trans h1,(World.cell?_of_block he).trans h2,(World.cell?_of_block he).trans h3,(World.cell?_of_block he).trans h4⟩
theorem Rd.glt{w:World}{b:Nat}{la:Option Addr}{lc:Nat}{L:List RT}{p:Nat}(h:Rd w b la lc L p)(hp:p<L.length) : ∀g,la=some g→g.block<w.heap.size:=by
 intro g hg;obtain⟨g',o,h0,qQ,_⟩:=h.toks p hp;rw [hg] at h0;cases h0;exact qQ
theorem zxy(w:World)(n:Nat)(v0 v1 v2 v3:Value):Fr (fun k=>k=n) w ((((w.setCell ⟨n,0,none⟩ v0).setCell ⟨n,1,none⟩ v1).setCell ⟨n,2,none⟩ v2).setCell ⟨n,3,none⟩ v3):=
 (((((Fr.refl (fun k=>k=n) w).setCell ⟨n,0,none⟩ (fun _=>rfl) v0).setCell ⟨n,1,none⟩ (fun _=>rfl) v1).setCell ⟨n,2,none⟩ (fun _=>rfl) v2).setCell ⟨n,3,none⟩ (fun _=>rfl) v3)
theorem zbt(w:World)(b:Nat)(la:Option Addr)(lc:Nat)(L:List RT)(p:Nat)(h:Rd w b la lc L p)(x:RT)(hx:L[p]? = some x) :
  Calls Tryz.prog 71 #[.pointer (some ⟨b,0,none⟩)] w fun e w'=>e=.returned (.agg #[.int .i64 x.k,.int .i64 x.n,.string x.s,.int .i64 x.a])∧Old w w':=by
 obtain⟨hp,cr⟩:=List.getElem?_eq_some_iff.1 hx;have r0:=h.blk.cell (i:=0) rfl;have r1:=h.blk.cell (i:=1) rfl;obtain⟨g,o,rfl,qQ,x0,x1,x2,x3⟩:=h.toks p hp;rw [cr] at x0 x1 x2 x3;have hb:=h.blk.lt;have qx:(p:Int)<(L.length:Int):=Int.ofNat_lt.2 hp;clear hx cr
 go_enter Tryz.func71,Tryz.ntmps71
 go_wp2
 go_region
 go_wp2;refine bodyPost_ret (v:=x.v) (by simp [results,Tryz.results71,go_sem,tokV]) rfl ⟨rfl,?_⟩
 first | exact ((Old.refl w).alloc _).drew | exact (((Old.refl w).alloc _).drew).set4 (qyb _) _ _ _ _ | exact (((Old.refl w).alloc _).drewN _)
theorem Rd.pos{w:World}{b:Nat}{la:Option Addr}{lc:Nat}{L:List RT}{p:Nat}(h:Rd w b la lc L p):w.cell? ⟨b,1,none⟩=some (.int .i64 p):=h.blk.cell (i:=1) rfl
abbrev panS(p:Int):Ending:=.panicked [{ v:=.iface 126 (.agg #[.int .i64 p]),recovered:=false }]
theorem zd5(w:World)(b:Nat)(la:Option Addr)(lc:Nat)(L:List RT)(p:Nat)(h:Rd w b la lc L p)(x:RT)(hx:L[p]? = some x) :
  Calls Tryz.prog 145 #[.pointer (some ⟨b,0,none⟩)] w fun e w'=>e=.returned (.agg #[.int .i64 x.k,.int .i64 x.n,.string x.s,.int .i64 x.a])∧Rd w' b la lc L (p+1)∧But b w w':=by
 have hp:p<L.length:=(List.getElem?_eq_some_iff.1 hx).1;have HX:=qya hx;have hb:=h.blk.lt;have hwp:wrap64 ((p:Int)+1)=((p+1:Nat):Int):=by rw [IntWalk.wrap64_in _ (by have:=h.few;omega)];omega
 clear hx
 go_enter Tryz.func145,Tryz.ntmps145
 go_wp2_with fail
 (with_reducible refine (zbt _ b la lc L p (h.old ((Old.refl w).alloc _)) x HX.out).mono ?_)
 rintro e w1 ⟨rfl,hO⟩;have h1:=h.old (((Old.refl w).alloc _).trans hO);have kR:=(Blk.new w #[.int .i64 0,.int .i64 0,.string ⟨#[]⟩,.int .i64 0] 59).keep hO (fun e=>e);have c1:=h1.pos;have f1:=h1.blk.free 1;obtain⟨r0,r1,r2,r3,g0,g1,g2,g3⟩:=kR.four;have qx:=kR.lt;have vK:=h1.blk.lt;have zh : ¬b=w1.heap.size:=by omega
 have rJ : ¬w1.heap.size=b:=fun e=>zh e.symm;have rQ : ¬w.heap.size=b:=by omega
 have ro : ¬b=w.heap.size:=by omega
 go_wp2;refine bodyPost_ret (v:=x.v) (by simp [results,Tryz.results145,go_sem,tokV,r0,r1,r2,r3,qx,zh,rJ,rQ,ro]) rfl ⟨rfl,?_,?_⟩
 ·have hg:=h.glt hp;refine ((h1.move (p+1) hp).keep (zxy _ w.heap.size _ _ _ _) ro (fun g e => ?_)).old ((Old.refl _).alloc _);have:=hg g e;intro e';rw [e'] at this;exact Nat.lt_irrefl _ this
 ·exact (((((But.refl b w).alloc _).trans (hO.but b)).setCell ⟨b,1,none⟩ (fun _=>rfl) _).set4 (qyb _) _ _ _ _).alloc _
theorem zc5(x:RT)(w:World):(Instr.field 59 (.agg #[.int .i64 x.k,.int .i64 x.n,.string x.s,.int .i64 x.a]) 0).run Tryz.prog w=.ok (.int .i64 x.k) w:=by kernel_rfl
theorem zfj(x:RT)(w:World):(Instr.field 59 (.agg #[.int .i64 x.k,.int .i64 x.n,.string x.s,.int .i64 x.a]) 2).run Tryz.prog w=.ok (.string x.s) w:=by kernel_rfl
theorem ze3(w:World)(b:Nat)(la:Option Addr)(lc:Nat)(L:List RT)(p:Nat)(h:Rd w b la lc L p)(x:RT)(hx:L[p]? = some x)(s:ByteArray)(hs:(x.s.toList==s.toList)=true) :
  Calls Tryz.prog 74 #[.pointer (some ⟨b,0,none⟩),.string s] w fun e w'=>e=.returned (.tuple #[])∧Rd w' b la lc L (p+1)∧But b w w':=by
 have HX:=qya hx;clear hx
 go_enter Tryz.func74,Tryz.ntmps74
 go_wp2_with fail
 (with_reducible refine (zd5 w b la lc L p h x HX.out).mono ?_)
 rintro e w1 ⟨rfl,h1,f1⟩;have kT:=Blk.new w1 #[.int .i64 x.k,.int .i64 x.n,.string x.s,.int .i64 x.a] 59;obtain⟨c0,c1,c2,c3,-⟩:=kT.four;go_wp2
 go_end0
 exact⟨rfl,h1.old ((Old.refl _).alloc _),f1.alloc _⟩
theorem zhw(w:World)(b:Nat)(la:Option Addr)(lc:Nat)(L:List RT)(p:Nat)(h:Rd w b la lc L p)(x:RT)(hx:L[p]? = some x)(s:ByteArray)(hs:(x.s.toList==s.toList)=false) :
  Calls Tryz.prog 74 #[.pointer (some ⟨b,0,none⟩),.string s] w fun e w'=>e=panS x.a∧But b w w':=by
 have HX:=qya hx;clear hx
 go_enter Tryz.func74,Tryz.ntmps74
 go_wp2_with fail
 (with_reducible refine (zd5 w b la lc L p h x HX.out).mono ?_)
 rintro e w1 ⟨rfl,h1,f1⟩;have kT:=Blk.new w1 #[.int .i64 x.k,.int .i64 x.n,.string x.s,.int .i64 x.a] 59;obtain⟨c0,c1,c2,c3,-⟩:=kT.four;go_wp2;exact⟨rfl,rfl,f1.alloc _⟩
theorem zle(w:World)(b:Nat)(la:Option Addr)(lc:Nat)(L:List RT)(p:Nat)(h:Rd w b la lc L p)(x:RT)(hx:L[p]? = some x)(k:Int)(hk:(x.k != k)=false) :
  Calls Tryz.prog 182 #[.pointer (some ⟨b,0,none⟩),.int .i64 k] w fun e w'=>e=.returned (.string x.s)∧Rd w' b la lc L (p+1)∧But b w w':=by
 have HX:=qya hx;clear hx
 go_enter Tryz.func182,Tryz.ntmps182
 go_wp2_with fail
 (with_reducible refine (zd5 w b la lc L p h x HX.out).mono ?_)
 rintro e w1 ⟨rfl,h1,f1⟩;have kT:=Blk.new w1 #[.int .i64 x.k,.int .i64 x.n,.string x.s,.int .i64 x.a] 59;obtain⟨c0,c1,c2,c3,-⟩:=kT.four;go_wp2;go_ret;exact⟨rfl,h1.old ((Old.refl _).alloc _),f1.alloc _⟩
theorem zlf(w:World)(b:Nat)(la:Option Addr)(lc:Nat)(L:List RT)(p:Nat)(h:Rd w b la lc L p)(x:RT)(hx:L[p]? = some x)(k:Int)(hk:(x.k != k)=true) :
  Calls Tryz.prog 182 #[.pointer (some ⟨b,0,none⟩),.int .i64 k] w fun e w'=>e=panS x.a∧But b w w':=by
 have HX:=qya hx;clear hx
 go_enter Tryz.func182,Tryz.ntmps182
 go_wp2_with fail
 (with_reducible refine (zd5 w b la lc L p h x HX.out).mono ?_)
 rintro e w1 ⟨rfl,h1,f1⟩;have kT:=Blk.new w1 #[.int .i64 x.k,.int .i64 x.n,.string x.s,.int .i64 x.a] 59;obtain⟨c0,c1,c2,c3,-⟩:=kT.four;go_wp2;exact⟨rfl,rfl,f1.alloc _⟩
theorem ze6(w:World)(b:Nat)(la:Option Addr)(lc:Nat)(L:List RT)(p:Nat)(h:Rd w b la lc L p)(x:RT)(hx:L[p]? = some x)(s:ByteArray)(hs:(x.s.toList==s.toList)=false) :
  Calls Tryz.prog 99 #[.pointer (some ⟨b,0,none⟩),.string s] w fun e w'=>e=.returned (.bool false)∧Old w w':=by
 have HX:=qya hx;have ht:=zfj x;clear hx
 go_enter Tryz.func99,Tryz.ntmps99
 go_wp2_with fail
 (with_reducible refine (zbt w b la lc L p h x HX.out).mono ?_)
 rintro e w1 ⟨rfl,hO⟩;go_wp2;go_ret;exact⟨rfl,hO⟩
theorem zd0(w:World)(b:Nat)(la:Option Addr)(lc:Nat)(L:List RT)(p:Nat)(h:Rd w b la lc L p)(x:RT)(hx:L[p]? = some x)(s:ByteArray)(hs:(x.s.toList==s.toList)=true) :
  Calls Tryz.prog 99 #[.pointer (some ⟨b,0,none⟩),.string s] w fun e w'=>e=.returned (.bool true)∧Rd w' b la lc L (p+1)∧But b w w':=by
 have hp:p<L.length:=(List.getElem?_eq_some_iff.1 hx).1;have HX:=qya hx;have ht:=zfj x;have hwp:wrap64 ((p:Int)+1)=((p+1:Nat):Int):=by rw [IntWalk.wrap64_in _ (by have:=h.few;omega)];omega
 clear hx
 go_enter Tryz.func99,Tryz.ntmps99
 go_wp2_with fail
 (with_reducible refine (zbt w b la lc L p h x HX.out).mono ?_)
 rintro e w1 ⟨rfl,hO⟩;have h1:=h.old hO;have c1:=h1.pos;have f1:=h1.blk.free 1;have vK:=h1.blk.lt;go_wp2;go_ret;exact⟨rfl,h1.move (p+1) hp,(hO.but b).setCell ⟨b,1,none⟩ (fun _=>rfl) _⟩
theorem Fr.putObj{S:Nat→Prop}{a w:World}(h:Fr S a w)(l:Nat)(o:Obj)(hl:l<a.heap.size→S l):Fr S a (w.putObj l o):=
 ⟨h.os,h.tape,h.output,by rw [World.putObj_size];exact h.size,fun k hk hn=>(World.putObj_heap_other (fun e=>hn (by subst e;exact hl hk))).trans (h.block k hk hn)⟩
theorem Blk.putObj{w:World}{b:Nat}{cs:Array Value}{T:TypeId}(h:Blk w b cs T){l:Nat}(hl:b≠l)(o:Obj):Blk (w.putObj l o) b cs T:=(World.putObj_heap_other hl).trans h
attribute [local go_sem] Oper.semAt_some
abbrev rtV(x:RT):Value:=.agg #[.int .i64 x.k,.int .i64 x.n,.string x.s,.int .i64 x.a]
theorem zx0(x:RT)(w:World):(Instr.field 59 (rtV x) 0).run Tryz.prog w=.ok (.int .i64 x.k) w:=zc5 x w
def zdj(J:Nat→World→Prop)(p:Nat)(QF:World→Prop)(QP:List PanicEntry→World→Prop)(e:Ending)(W:World):Prop:=
 (e=.returned (.bool true)∧∃q,p<q∧J q W)∨(e=.returned (.bool false)∧QF W)∨∃c,e=.panicked c∧QP c W
def zxh(L:List RT)(J:Nat→World→Prop)(QF:World→Prop)(QP:List PanicEntry→World→Prop)(e:Ending)(W:World):Prop:=
 (e=.returned (.tuple #[])∧((∃q x,J q W∧L[q]? = some x∧x.k=0)∨QF W))∨∃c,e=.panicked c∧QP c W
theorem zdx(n:Nat)(hn:1≤n)(l:Nat)(w:World)(b:Nat)(la:Option Addr)(lc:Nat)(L:List RT)(p:Nat)
  (J:Nat→World→Prop)(QF:World→Prop)(QP:List PanicEntry→World→Prop)
  (hR : ∀q W,J q W→Rd W b la lc L q∧q<L.length)(hO : ∀q W W',J q W→Old W W'→J q W')
  (hY : ∀(q:Nat) (x:RT) (W:World),L[q]? = some x→x.k≠0→J q W→YieldAt Fence.wide (n-1) Tryz.prog l #[rtV x] W (zdj J q QF QP))
  (h0:J p w) :
  CallsIn Fence.wide n Tryz.prog 72 #[.pointer (some ⟨b,0,none⟩),.func (.yield l) #[] #[]] w (zxh L J QF QP):=by
 refine callsIn_of_wp Tryz.func72 rfl trivial ?_ rfl;simp only [Tryz.ntmps72,qxg,qxh,qxi,Nat.reduceAdd,Nat.reduceSub,qxj,qxk,qxl,qxm,qxn,qxo]
 gi_wp2_with fail
 gi_loopg [] (L.length-p) (fun g wr=>∃q,g=L.length-q∧J q wr)
 case atStart=>exact⟨p,rfl,h0⟩
 case round=>
  obtain⟨q,hg,hj⟩:=hrel;obtain⟨jc,hq⟩:=hR q wr hj;obtain⟨x,hx⟩ : ∃x,L[q]? = some x:=⟨_,List.getElem?_eq_getElem hq⟩;have HG:=qya hg;have HX:=qya hx;have hk:=zx0 x;clear hg hx;cases hd:(x.k != 0)
  ·gi_wp2_with fail
   refine⟨trivial,(callsIn_wide.2 (zbt _ b la lc L q jc x HX.out)).mono ?_⟩;rintro e w1 ⟨rfl,o1⟩;gi_wp2;refine⟨trivial,?_⟩;gi_wp2;refine⟨fun f e=>(by cases e),?_⟩;gi_wp2
   go_end0
   exact .inl ⟨rfl,.inl ⟨q,x,hO _ _ _ hj o1,HX.out,by simpa using hd⟩⟩
  ·gi_wp2_with fail
   refine⟨trivial,(callsIn_wide.2 (zbt _ b la lc L q jc x HX.out)).mono ?_⟩;rintro e w1 ⟨rfl,o1⟩;have hj1:=hO _ _ _ hj o1;have hrd1:=(hR q w1 hj1).1
   gi_wp2_with fail
   refine⟨trivial,(callsIn_wide.2 (zbt _ b la lc L q hrd1 x HX.out)).mono ?_⟩;rintro e w2 ⟨rfl,o2⟩;have lM:=hO _ _ _ hj1 o2;obtain⟨fn,tmps,assign,body,hy,vA⟩:=hY q x w2 HX.out (by simpa using hd) lM
   gi_wp2_with fail
   refine vA.mono ?_;rintro e w4 (⟨rfl,q',qx,s6⟩ | ⟨rfl,hf⟩ | ⟨c,rfl,hp⟩)
   ·clear hy vA;have hq4:=(hR q' w4 s6).2;gi_wp2
    go_roundg (L.length-q')
    case measure=>have:=HG.out;omega
    case rel=>exact⟨q',rfl,s6⟩
   ·clear hy vA;gi_wp2
    go_end0
    exact .inl ⟨rfl,.inr hf⟩
   ·clear hy vA;gi_wp2;exact⟨rfl,.inr ⟨c,rfl,hp⟩⟩
abbrev bv(n:List UInt8):Value:=.string ⟨n.toArray⟩
def RowAt(w:World)(F:Nat→Prop)(e:TypeId)(size:Nat)(sv:Value)(n:Nat)(xs:List Value):Prop:=w.ownsRow 0 e size sv n xs∧∀k,sv.ownBlock=some k→F k
theorem zaa{S:Nat→Prop}{w w':World}{base:Nat}{e:TypeId}{size:Nat}{v:Value}{n:Nat}{xs:List Value}(h:w.ownsRow base e size v n xs)(hf:Fr S w w')(hn : ∀k,v.ownBlock=some k→¬S k):w'.ownsRow base e size v n xs:=by
 obtain⟨h1,h2⟩:=h;refine⟨h1,?_⟩;rcases h2 with h2 | ⟨g,cap,vy,hv,hg,hh,r⟩
 ·exact Or.inl h2
 ·subst hv;exact Or.inr ⟨g,cap,vy,rfl,hg,hf.heap hh (hn g rfl),r⟩
theorem RowAt.keep{S F:Nat→Prop}{w w':World}{e:TypeId}{size:Nat}{v:Value}{n:Nat}{xs:List Value}(h:RowAt w F e size v n xs)(hf:Fr S w w')(hn : ∀k,F k→¬S k):RowAt w' F e size v n xs:=
 ⟨zaa h.1 hf (fun k hk=>hn k (h.2 k hk)),h.2⟩
theorem RowAt.more{F F':Nat→Prop}{w:World}{e:TypeId}{size:Nat}{v:Value}{n:Nat}{xs:List Value}(h:RowAt w F e size v n xs)(hn : ∀k,F k→F' k):RowAt w F' e size v n xs:=⟨h.1,fun k hk=>hn k (h.2 k hk)⟩
mutual
def TyAt(w:World)(F:Nat→Prop):Sx.Ty→Value→Prop
 | .mk n args,v=>∃sv xs,v=.agg #[bv n,sv]∧RowAt w F 35 2 sv args.length xs∧TysAt w F args xs
def TysAt(w:World)(F:Nat→Prop):List Sx.Ty→List Value→Prop
 | [],xs=>xs=[]
 | t::r,xs=>∃s sv ys,xs=s::sv::ys∧TyAt w F t (.agg #[s,sv])∧TysAt w F r ys
end
mutual
theorem TyAt.keep{S F:Nat→Prop}{w w':World}(hf:Fr S w w')(hn : ∀k,F k→¬S k) : ∀(t:Sx.Ty) (v:Value),TyAt w F t v→TyAt w' F t v
 | .mk n args,v,h=>by
  rw [TyAt] at h ⊢;obtain⟨sv,xs,hv,h1,h2⟩:=h;exact⟨sv,xs,hv,h1.keep hf hn,TysAt.keep hf hn args xs h2⟩
theorem TysAt.keep{S F:Nat→Prop}{w w':World}(hf:Fr S w w')(hn : ∀k,F k→¬S k) : ∀(ts:List Sx.Ty) (xs:List Value),TysAt w F ts xs→TysAt w' F ts xs
 | [],xs,h=>by rw [TysAt] at h ⊢;exact h
 | t::r,xs,h=>by
  rw [TysAt] at h ⊢;obtain⟨s,sv,ys,hx,h1,h2⟩:=h;exact⟨s,sv,ys,hx,TyAt.keep hf hn t _ h1,TysAt.keep hf hn r ys h2⟩
end
mutual
theorem TyAt.more{F F':Nat→Prop}{w:World}(hn : ∀k,F k→F' k) : ∀(t:Sx.Ty) (v:Value),TyAt w F t v→TyAt w F' t v
 | .mk n args,v,h=>by
  rw [TyAt] at h ⊢;obtain⟨sv,xs,hv,h1,h2⟩:=h;exact⟨sv,xs,hv,h1.more hn,TysAt.more hn args xs h2⟩
theorem TysAt.more{F F':Nat→Prop}{w:World}(hn : ∀k,F k→F' k) : ∀(ts:List Sx.Ty) (xs:List Value),TysAt w F ts xs→TysAt w F' ts xs
 | [],xs,h=>by rw [TysAt] at h ⊢;exact h
 | t::r,xs,h=>by
  rw [TysAt] at h ⊢;obtain⟨s,sv,ys,hx,h1,h2⟩:=h;exact⟨s,sv,ys,hx,TyAt.more hn t _ h1,TysAt.more hn r ys h2⟩
end
theorem TysAt.snoc{F:Nat→Prop}{w:World} : ∀(ts:List Sx.Ty) (xs:List Value) (t:Sx.Ty) (s sv:Value),TysAt w F ts xs→TyAt w F t (.agg #[s,sv])→TysAt w F (ts++[t]) (xs++[s,sv])
 | [],xs,t,s,sv,h,h2=>by
  rw [TysAt] at h;subst h;show TysAt w F [t] [s,sv];rw [TysAt];exact⟨s,sv,[],rfl,h2,by rw [TysAt]⟩
 | a::r,xs,t,s,sv,h,h2=>by
  rw [TysAt] at h;obtain⟨s',sn,ys,rfl,h1,h3⟩:=h;show TysAt w F (a::(r++[t])) (s'::sn::(ys++[s,sv]));rw [TysAt];exact⟨s',sn,_,rfl,h1,TysAt.snoc r ys t s sv h3 h2⟩
theorem TyAt.form{F:Nat→Prop}{w:World}{t:Sx.Ty}{v:Value}(h:TyAt w F t v) : ∃s sv,v=.agg #[s,sv]:=by
 obtain⟨n,args⟩:=t;rw [TyAt] at h;obtain⟨sv,xs,hv,_⟩:=h;exact⟨_,sv,hv⟩
end Go.Proofs.YtclgbmmambkiaaaGreatDoor
namespace Go
variable {P:Program} {n:Nat} {l:Nat}
theorem zhl{o:Oper}{a:Act}{w:World}{K K':Act→World→Prop}{Q:Exit→Act→World→Prop}(hd : ∀c,o.op≠.defer c)(hK : ∀a w,K a w→K' a w)(h:o.wp P a w K Q):o.wpIn (Fence.wide.inRound l) n P a w K' Q:=by
 refine⟨fun _ _=>trivial,?_⟩;rw [Oper.semAt_eq _ _ _ hd];unfold Oper.wp at h;generalize (execOp a.eval o).run P w=r at h;cases r with
 | halt x w'=>cases x <;> first | exact h | exact h.elim
 | ok x w'=>
  cases x with
  | enter f args=>
   refine⟨fun e=>by simp [Fence.wide,Fence.inRound] at e,CallsIn.inRound l (callsIn_wide.2 ?_)⟩;refine Calls.mono h ?_;rintro (v | c | _) sd hq
   ·exact hK _ _ hq
   ·exact hq
   ·exact hq
  | row row args=>
   refine⟨fun e=>by simp [Fence.wide,Fence.inRound] at e,fun c cs _ => ?_⟩;obtain⟨v,sd,hq,s⟩:=h c cs;exact⟨v,sd,hK _ _ hq,stepsIn_wide.2 s⟩
  | value v=>exact hK _ _ h
  | skip=>exact hK _ _ h
  | defer d=>exact hK _ _ h
  | _=>exact h.elim
theorem zoc{md:Region.Mode}{ops:Array Oper}{Q:Exit→Act→World→Prop}(hd : ∀o∈ops.toList,∀c,o.op≠.defer c)(hL : ¬LetsOut Q) :
  ∀(fuel:Nat) (wC:Array Bool) (a:Act) (w:World),wpAny P md ops Q fuel wC a w→wpAnyIn (Fence.wide.inRound l) n P md ops Q fuel wC a w:=by
 intro fuel
 induction fuel with
 | zero=>intro wC a w h;exact h
 | succ fuel ih=>
  intro wC a w h;refine⟨h.1,fun i hi => ?_⟩;have hi:=h.2 i hi;unfold wpOp at hi;unfold wpOpIn;cases ho:ops[i]? with
  | none=>rw [ho] at hi;exact ih _ _ _ hi
  | some o=>
   rw [ho] at hi;have hm:o∈ops.toList:=(by simpa using Array.mem_of_getElem? ho);simp only at hi ⊢;split at hi
   ·rename_i hw;rw [if_pos hw];rcases hi with hi | ⟨_,hi⟩
    ·exact zhl (hd o hm) (fun a w=>ih _ a w) hi
    ·exact (hL hi).elim
   ·rename_i hw;rw [if_neg hw];exact⟨fun _ _=>trivial,ih _ _ _ hi⟩
theorem zcz{id:Nat}{ops:Array Oper}{Q:Exit→Act→World→Prop}{a:Act}{w:World}(hm:P.follows .mixedOrders=true)(hd : ∀o∈ops.toList,∀c,o.op≠.defer c)(hL : ¬LetsOut Q)
  (h:wpAny P .any ops Q ops.size (Array.replicate ops.size false) a { w with drawn:=w.drawn+1 }):(Code.region id ops true).wpIn (Fence.wide.inRound l) n P Q a w:=
 wpIn_region_any hm (zoc hd hL _ _ _ _ h)
end Go
namespace Go.Proofs.YtclgbmmambkiaaaGreatDoor
open Go.RowKit
def zf5(id:Nat):Code→Option (Array Oper)
 | .region i ops _=>if i=id then some ops else none
 | .seq a b=>(zf5 id a).orElse fun _=>zf5 id b
 | .block _ c=>zf5 id c
 | .cond _ a b=>(zf5 id a).orElse fun _=>zf5 id b
 | .loop c=>zf5 id c
 | .scope c=>zf5 id c
 | .rangeFunc _ _ a b=>(zf5 id a).orElse fun _=>zf5 id b
 | _=>none
theorem zqn:(Tryz.prog.info? 35).map (fun i=>(i.zero,i.size,i.bytes))=some (some (.agg #[.string ⟨#[]⟩,.slice none 0 0]),2,40):=by kernel_rfl
def zmn(e:TypeId)(TL:TypeId)(size:Nat)(w:World)(base R:Nat)(v:Value)(n:Nat)(xs jw:List Value)(ds:List Deferred)(a:Act)(w':World):Prop:=
 a.defers=ds∧∃g cap,w'.ownsRow base e size (.slice (some ⟨g,0,none⟩) (n+1) cap) (n+1) (xs++jw)∧Blk w' R #[.slice (some ⟨g,0,none⟩) (n+1) cap] TL∧Fr (fun k=>k=R∨v.ownBlock=some k) w w'∧(v.ownBlock=some g∨w.heap.size≤g)∧g≠R
theorem zad{w:World}{base:Nat}{e:TypeId}{size:Nat}{v:Value}{n:Nat}{xs:List Value}(h:w.ownsRow base e size v n xs) : ∃la cap,v=.slice la n cap:=by
 rcases h.2 with ⟨h,hn⟩ | ⟨g,cap,vy,hv,_⟩
 ·exact⟨none,0,by rw [h,hn]⟩
 ·exact⟨_,_,hv⟩
theorem snocT{Q:Exit→Act→World→Prop}{ops:Array Oper}(ft:zf5 6 (Tryz.f175.body.getD .skip)=some ops)
  (hP : ∀c (a:Act) d u w,Q (.panic c) (a.put d u) w→Q (.panic c) a w)
  (x0 x1 x2 x3 x4 x5 x6 x8 ym yr yn yb x14 x15 x16 x17 x18 x19 x20 x21 x22 x23 x24 x25:Value)(ds:List Deferred)(w:World)(R V base n:Nat)(v s sv:Value)(xs:List Value)
  (hR:Blk w R #[v] 33)(hV:Blk w V #[s,sv] 35)(mv:v.ownBlock≠some V)(qz:w.ownsRow base 35 2 v n xs)(hb:base≤w.heap.size)(hn:n≤1000000)
  (nm:ByteArray)(l2:Option Addr)(n2 c2:Nat)(hs:s=.string nm)(hsv:sv=.slice l2 n2 c2)
  (hQ : ∀a w',zmn 35 33 2 w base R v n xs [s,sv] ds a w'→Q .normal a w') :
  wpAny Tryz.prog .any ops Q ops.size (Array.replicate ops.size false) { tmps:=#[x0,x1,x2,x3,x4,x5,x6,.pointer (some ⟨R,0,none⟩),x8,.pointer (some ⟨V,0,none⟩),ym,yr,yn,yb,x14,x15,x16,x17,x18,x19,x20,x21,x22,x23,x24,x25],defers:=ds } w.drew:=by
 simp only [Tryz.f175,Option.getD_some,zf5,Option.orElse_none,Option.orElse_some,Option.some.injEq,Nat.reduceEqDiff,if_false,if_true,reduceIte] at ft;subst ft hs hsv;have hRV:R≠V:=by
  rintro rfl;unfold Blk at hR hV;rw [hR] at hV;cases hV
 obtain⟨la,qt,rfl⟩:=zad qz;have uF:=hR.drew;have xl:=hV.drew;have vk:=qz.drew;have gw:Old w w.drew:=(Old.refl w).drew;obtain⟨W,hW⟩ : ∃W,w.drew=W:=⟨_,rfl⟩;have qY:W.heap.size=w.heap.size:=by rw [← hW];rfl
 rw [hW] at uF xl vk gw ⊢;clear hW;have r0:=uF.c 0 (.slice la n qt) rfl;obtain⟨v0,v1⟩:=xl.c2;have qJ:=uF.lt;have hVl:=xl.lt;obtain⟨W1,qd⟩ : ∃W1,W.alloc (.cells #[.string ⟨#[]⟩,.slice none 0 0] 35)=W1:=⟨_,rfl⟩;have vQ:Blk W1 R #[.slice la n qt] 33:=by rw [← qd];exact uF.alloc _
 have my:Blk W1 V #[.string nm,.slice l2 n2 c2] 35:=by rw [← qd];exact xl.alloc _
 have fd:W1.ownsRow base 35 2 (.slice la n qt) n xs:=by rw [← qd];exact vk.alloc _
 have bK:W1.heap.size=w.heap.size+1:=by rw [← qd,qyd,qY]
 have qR : ∀j u,[Value.string ⟨#[]⟩,Value.slice none 0 0][j]? = some u→W1.cell? ((⟨w.heap.size,0,none⟩:Addr).add j)=some u:=by
  rw [← qd,← qY];exact World.news_of_block (Blk.new W #[.string ⟨#[]⟩,.slice none 0 0] 35)
 have F1:Old w W1:=by rw [← qd];exact gw.alloc _
 have HF1:=qya F1;clear F1;have yy:((xs++[Value.string ⟨#[]⟩,.slice none 0 0]).set (n*2) (.string nm)).set (n*2+1) (.slice l2 n2 c2)=xs++[.string nm,.slice l2 n2 c2]:=by
  have:=qz.1;rw [List.set_append_right _ _ (by omega),List.set_append_right _ _ (by omega),this];simp
 have ra0:=vQ.c 0 (.slice la n qt) rfl;obtain⟨pB,pC⟩:=my.c2;have xR:=qz.1;have mw:(Value.slice la n qt).ownBlock≠some R:=by
  intro e;rcases qz.2 with ⟨h,_⟩ | ⟨g,cap,vy,hv,_,hh,_⟩
  ·rw [h] at e;cases e
  ·rw [hv] at e;cases e;unfold Blk at hR;rw [hR] at hh;cases hh
 obtain⟨i0,hi,qw,j5,jE⟩:=info_parts zqn;have vS:=qya qd;clear qd;refine wpAny_of_held (S:=fun w'=>w'.cell? ⟨V,0,none⟩=some (.string nm)∧w'.cell? ⟨V,1,none⟩=some (.slice l2 n2 c2)) _ _ _ _ ?_;refine wpAnyH_take (i:=1) (v := ?_) rfl (by kernel_rfl) (by kernel_rfl) (by kernel_rfl) (fun _ _ _ h=>hP _ _ _ _ _ h) (Or.inl ⟨by rfl,?y1⟩) ⟨v0,v1⟩ ?r1
 case y1=>(intro w' jA;(try dsimp only at jA);obtain⟨h0,h1⟩:=jA;go_simp;try with_reducible rfl)
 case' r1=>try simp only [Act.put,qxa,qxb,qxc,qxd,qxe,qxf]
 refine wpAnyH_ready (rs:=[0,3]) (by kernel_rfl) (by simp) ?_;refine AllReadyH.cons rfl (fun K hK => ?w0) (AllReadyH.cons rfl (fun K hK => ?w3) AllReadyH.nil)
 case' w0=>
  go_simp
  refine hK.out _ _ ⟨v0,v1⟩ (fun hH => ?_);clear hK K;refine wpAnyH_take (i:=2) (v := ?_) rfl (by kernel_rfl) (by kernel_rfl) (by kernel_rfl) (fun _ _ _ h=>hP _ _ _ _ _ h) (Or.inl ⟨by rfl,?y2⟩) ⟨v0,v1⟩ ?r2
  case y2=>(intro w' jA;go_simp;try with_reducible rfl)
  case' r2=>try simp only [Act.put,qxa,qxb,qxc,qxd,qxe,qxf]
  refine wpAnyH_ready (rs:=[3]) (by kernel_rfl) (by simp) ?_;refine AllReadyH.cons rfl (fun K hK => ?_) AllReadyH.nil
  go_simp
  rw [vS.out];refine hK.out _ _ ⟨pB,pC⟩ (fun hH => ?_);clear hK K
  try simp only [Act.put,qxa,qxb,qxc,qxd,qxe,qxf]
 case' w3=>
  go_simp
  rw [vS.out];refine hK.out _ _ ⟨pB,pC⟩ (fun hH => ?_);clear hK K
  try simp only [Act.put,qxa,qxb,qxc,qxd,qxe,qxf]
  refine wpAnyH_ready (rs:=[0]) (by kernel_rfl) (by simp) ?_;refine AllReadyH.cons rfl (fun K hK => ?_) AllReadyH.nil
  go_simp
  refine hK.out _ _ ⟨pB,pC⟩ (fun hH => ?_);clear hK K;refine wpAnyH_take (i:=2) (v := ?_) rfl (by kernel_rfl) (by kernel_rfl) (by kernel_rfl) (fun _ _ _ h=>hP _ _ _ _ _ h) (Or.inl ⟨by rfl,?y3⟩) ⟨pB,pC⟩ ?r3
  case y3=>(intro w' jA;go_simp;try with_reducible rfl)
  case' r3=>try simp only [Act.put,qxa,qxb,qxc,qxd,qxe,qxf]
 all_goals
  refine wpAnyH_ready (rs:=[4]) (by kernel_rfl) (by simp) ?_;refine AllReadyH.cons rfl (fun K hK => ?_) AllReadyH.nil;refine step_append_lies _ rfl _ _ 33 rfl base 35 i0 (.agg #[.string ⟨#[]⟩,.slice none 0 0]) 2 40 Tryz.underlying33 hi qw j5 jE rfl (by decide) _ n xs rfl fd ⟨w.heap.size,0,none⟩ 1 1 [.string ⟨#[]⟩,.slice none 0 0] rfl rfl qR (by intro u hu;simp at hu;rcases hu with rfl | rfl <;> rfl) (by decide) (by unfold maxLen;omega) (by omega) (by omega) (w.heap.size+1) bK ?_;intro g cap w3 qf vF qZ uw;have F3:Fr (fun k=>(Value.slice la n qt).ownBlock=some k) W1 w3:=(Fr.refl _ W1).grown vF (fun k e _=>e);have yg:Blk w3 V #[.string nm,.slice l2 n2 c2] 35:=my.keep F3 (fun e=>mv e);have vf:Blk w3 R #[.slice la n qt] 33:=vQ.keep F3 (fun e=>mw e);have r3:=vf.c 0 (.slice la n qt) rfl;have e3:=vf.free 0;obtain⟨qr,ju⟩:=yg.c2;have xm : ¬g=R:=fun e=>qZ.elim (fun h=>mw (e▸h)) (fun h=>by omega);have hgV : ¬g=V:=fun e=>qZ.elim (fun h=>mv (e▸h)) (fun h=>by omega);have uq : ¬R=g:=fun e=>xm e.symm;have y9 : ¬V=g:=fun e=>hgV e.symm;have mx : ¬V=R:=fun e=>hRV e.symm;have c0:w3.cell? ⟨g,n*2,none⟩=some (.string ⟨#[]⟩):=by rw [qf.cellAt (n*2) (by omega)];simp [xR]
  have c1:w3.cell? ⟨g,n*2+1,none⟩=some (.slice none 0 0):=by rw [qf.cellAt (n*2+1) (by omega)];simp [xR]
  have f0:=qf.frozenAt (n*2);have f1:=qf.frozenAt (n*2+1);have hni:(n:Int)<(n:Int)+1:=by omega
  have uZ:Fr (fun k=>k=R∨(Value.slice la n qt).ownBlock=some k) w w3:=(Fr.old HF1.out).grown vF (fun k e _=>.inr e);have yA:g<w.heap.size→g=R∨(Value.slice la n qt).ownBlock=some g:=fun hl=>qZ.elim .inr (fun h=>by omega);have HF:=qya uZ;clear F3 uZ;refine hK.out _ _ ⟨qr,ju⟩ (fun hH2 => ?_);clear hK K
  try simp only [Act.put,qxa,qxb,qxc,qxd,qxe,qxf]
  refine wpAnyH_take (i:=5) (v := ?_) rfl (by kernel_rfl) (by kernel_rfl) (by kernel_rfl) (fun _ _ _ h=>hP _ _ _ _ _ h) (Or.inl ⟨by rfl,?_⟩) ⟨qr,ju⟩ ?_
  rotate_left 1
  ·(intro w' jA;go_simp;try with_reducible rfl)
  try simp only [Act.put,qxa,qxb,qxc,qxd,qxe,qxf]
  refine wpAnyH_ready (rs:=[6,7]) (by kernel_rfl) (by simp) ?_;refine AllReadyH.cons rfl (fun K hK => ?_) (AllReadyH.cons rfl (fun K hK => ?_) AllReadyH.nil)
  ·go_simp
   have uQ:=(yg.other ⟨g,n*2,none⟩ y9 (.string nm)).other ⟨g,n*2+1,none⟩ y9 (.slice l2 n2 c2);have uJ:=(vf.other ⟨g,n*2,none⟩ uq (.string nm)).other ⟨g,n*2+1,none⟩ uq (.slice l2 n2 c2);have vm:=((qf.stored (n*2) (.string nm)).1.stored (n*2+1) (.slice l2 n2 c2)).1;rw [yy] at vm;have kl:=(HF.out.setCell ⟨g,n*2,none⟩ yA (.string nm)).setCell ⟨g,n*2+1,none⟩ yA (.slice l2 n2 c2);obtain⟨wA,gA⟩ : ∃wA,(w3.setCell ⟨g,n*2,none⟩ (.string nm)).setCell ⟨g,n*2+1,none⟩ (.slice l2 n2 c2)=wA:=⟨_,rfl⟩;rw [gA] at uQ uJ vm kl ⊢;clear gA;obtain⟨cD,cP⟩:=uQ.c2;have rA:=uJ.c 0 (.slice la n qt) rfl;have eA:=uJ.free 0;have yj:=uQ.other ⟨R,0,none⟩ mx (.slice (some ⟨g,0,none⟩) (n+1) cap);have tP:=qya kl;clear kl;refine hK.out _ _ ⟨cD,cP⟩ (fun eo => ?_);clear hK K
   try simp only [Act.put,qxa,qxb,qxc,qxd,qxe,qxf]
   refine wpAnyH_ready (rs:=[7]) (by kernel_rfl) (by simp) ?_;refine AllReadyH.cons rfl (fun K hK => ?_) AllReadyH.nil
   go_simp
   refine hK.out _ _ ⟨yj.cell (i:=0) rfl,yj.cell (i:=1) rfl⟩ (fun hH4 => ?_);refine wpAnyH_done (by kernel_rfl) ?_ _;refine hQ _ _ ⟨rfl,g,cap,zaa vm (((Fr.refl (fun k=>k=R) wA).setCell ⟨R,0,none⟩ (fun _=>rfl) _)) (fun k hk e => ?_),uJ.set 0 _,tP.out.setCell ⟨R,0,none⟩ (fun _=>.inl rfl) _,qZ.imp id (fun h=>by omega),xm⟩;cases hk;exact xm e
  ·go_simp
   have uQ:=yg.other ⟨R,0,none⟩ mx (.slice (some ⟨g,0,none⟩) (n+1) cap);have uJ:=vf.set 0 (.slice (some ⟨g,0,none⟩) (n+1) cap);have vm:=zaa qf ((Fr.refl (fun k=>k=R) w3).setCell ⟨R,0,none⟩ (fun _=>rfl) (.slice (some ⟨g,0,none⟩) (n+1) cap)) (fun k hk e=>by cases hk;exact xm e);have kl:=HF.out.setCell ⟨R,0,none⟩ (fun _=>.inl rfl) (.slice (some ⟨g,0,none⟩) (n+1) cap);obtain⟨wA,gA⟩ : ∃wA,w3.setCell ⟨R,0,none⟩ (.slice (some ⟨g,0,none⟩) (n+1) cap)=wA:=⟨_,rfl⟩;rw [gA] at uQ uJ vm kl ⊢;clear gA;obtain⟨cD,cP⟩:=uQ.c2;have fU:wA.cell? ⟨g,n*2,none⟩=some (.string ⟨#[]⟩):=(by rw [vm.cellAt (n*2) (by omega)];simp [xR]);have cU:wA.cell? ⟨g,n*2+1,none⟩=some (.slice none 0 0):=(by rw [vm.cellAt (n*2+1) (by omega)];simp [xR]);have fa0:=vm.frozenAt (n*2);have fa1:=vm.frozenAt (n*2+1);have yj:=(uQ.other ⟨g,n*2,none⟩ y9 (.string nm)).other ⟨g,n*2+1,none⟩ y9 (.slice l2 n2 c2);have tP:=qya kl;clear kl;refine hK.out _ _ ⟨cD,cP⟩ (fun eo => ?_);clear hK K
   try simp only [Act.put,qxa,qxb,qxc,qxd,qxe,qxf]
   refine wpAnyH_ready (rs:=[6]) (by kernel_rfl) (by simp) ?_;refine AllReadyH.cons rfl (fun K hK => ?_) AllReadyH.nil
   go_simp
   refine hK.out _ _ ⟨yj.cell (i:=0) rfl,yj.cell (i:=1) rfl⟩ (fun hH4 => ?_);refine wpAnyH_done (by kernel_rfl) ?_ _;have mf:=((vm.stored (n*2) (.string nm)).1.stored (n*2+1) (.slice l2 n2 c2)).1;rw [yy] at mf;exact hQ _ _ ⟨rfl,g,cap,mf,(uJ.other ⟨g,n*2,none⟩ uq _).other ⟨g,n*2+1,none⟩ uq _,(tP.out.setCell ⟨g,n*2,none⟩ yA _).setCell ⟨g,n*2+1,none⟩ yA _,qZ.imp id (fun h=>by omega),xm⟩
end Go.Proofs.YtclgbmmambkiaaaGreatDoor
namespace Go
variable {F:Fence} {n:Nat} {P:Program}
def Code.wpAt(f₀ : FuncId)(F:Fence)(n:Nat)(P:Program)(c:Code)(Q:Exit→Act→World→Prop)(a:Act)(w:World):Prop:=
 ∀(b:Frame) (k:List Item) (cs:List Frame),b.fn=f₀→b.roundOf=F.round→F.fn b.fn→F.room (cs.length+1+n) →
  ∃e a' w',Q e a' w'∧ArrivesIn (Machine.fenced P F) P (lone (b.atR a (.code c::k)) cs w) b k cs e a' w'
section
variable {f₀ : FuncId} {Q:Exit→Act→World→Prop} {a:Act} {w:World}
theorem wpAt_of_wpIn{c:Code}(h:c.wpIn F n P Q a w):c.wpAt f₀ F n P Q a w:=fun b k cs _ hro hb hr=>h b k cs hro hb hr
theorem wpAt_seq{x y:Code}(h:x.wpAt f₀ F n P (Exit.then (y.wpAt f₀ F n P Q) Q) a w):(Code.seq x y).wpAt f₀ F n P Q a w:=by
 intro b k cs hf hro hb hr;have h0:(lone (b.atR a (.code (.seq x y)::k)) cs w).fenced P F:=fenced_calm hb hr rfl;obtain⟨e,a₁,w₁,hq,harr⟩:=h b (.code y::k) cs hf hro hb hr;cases e with
 | normal=>
  obtain⟨e₂,a₂,w₂,hq₂,harr₂⟩:=hq b k cs hf hro hb hr;exact⟨e₂,a₂,w₂,hq₂,.of_steps (.head h0 stepR_seq harr) harr₂⟩
 | _=>exact⟨_,a₁,w₁,hq,.of_steps (.one h0 stepR_seq) (.pass (x:=.code y) rfl (fun _ _=>.inl (by simp)) harr)⟩
theorem wpAt_seq_in{x y:Code}(h : ∀K:Act→World→Prop,(∀a w,y.wpAt f₀ F n P Q a w→K a w)→x.wpIn F n P (Exit.then K Q) a w):(Code.seq x y).wpAt f₀ F n P Q a w:=
 wpAt_seq (wpAt_of_wpIn (h _ fun _ _ h=>h))
theorem wpAt_block{id:Nat}{c:Code}(h:c.wpAt f₀ F n P (Exit.inBlock id Q) a w):(Code.block id c).wpAt f₀ F n P Q a w:=by
 intro b k cs hf hro hb hr;have h0:(lone (b.atR a (.code (.block id c)::k)) cs w).fenced P F:=fenced_calm hb hr rfl;obtain⟨e,a₁,w₁,hq,harr⟩:=h b (.inBlock id::k) cs hf hro hb hr;cases e with
 | normal=>exact⟨.normal,a₁,w₁,hq,.head h0 stepR_block (StepsIn.trans harr (.one (fenced_calm hb hr rfl) stepR_inBlock))⟩
 | exit id'=>
  by_cases hid:id'=id
  ·simp only [Exit.inBlock,hid,if_true] at hq;exact⟨.normal,a₁,w₁,hq,.head h0 stepR_block (harr.1 k (by simp [exitTo,hid]))⟩
  ·simp only [Exit.inBlock,hid,if_false] at hq;have this:(id==id')=false:=(by simp;exact fun h=>hid h.symm);have hx:exitTo id' (.inBlock id::k)=exitTo id' k:=(by simp [exitTo,this]);exact⟨.exit id',a₁,w₁,hq,fun k' hk=>.head h0 stepR_block (harr.1 k' (by rw [hx];exact hk)),
    fun hr' hk=>let ⟨k₁,h1,h2⟩:=harr.2 hr' (by rw [hx];exact hk);⟨k₁,h1,.head h0 stepR_block h2⟩⟩
 | goto l=>
  have hx:gotoIn l (.inBlock id::k)=gotoIn l k:=by simp [gotoIn]
  exact⟨_,a₁,w₁,hq,fun k' hk=>.head h0 stepR_block (harr.1 k' (by rw [hx];exact hk)),
   fun hr' hk=>let ⟨k₁,h1,h2⟩:=harr.2 hr' (by rw [hx];exact hk);⟨k₁,h1,.head h0 stepR_block h2⟩⟩
 | _=>exact⟨_,a₁,w₁,hq,.of_steps (.one h0 stepR_block) harr⟩
theorem stepR_scope{b:Frame}{k:List Item}{cs:List Frame}{c:Code} : step P (lone (b.atR a (.code (.scope c)::k)) cs w)=.next (lone (b.atR a (.code c::.inScope c::k)) cs w):=
 step_lone_go (by simp [stepG,stepG.exec,Frame.atR])
theorem stepR_inScope{b:Frame}{k:List Item}{cs:List Frame}{c:Code} : step P (lone (b.atR a (.inScope c::k)) cs w)=.next (lone (b.atR a k) cs w):=
 step_lone_go (by simp [stepG,stepG.exec,Frame.atR])
theorem wpAt_scope{c:Code}(h:c.wpAt f₀ F n P (Exit.noGoto Q) a w):(Code.scope c).wpAt f₀ F n P Q a w:=by
 intro b k cs hf hro hb hr;have h0:(lone (b.atR a (.code (.scope c)::k)) cs w).fenced P F:=fenced_calm hb hr rfl;obtain⟨e,a₁,w₁,hq,harr⟩:=h b (.inScope c::k) cs hf hro hb hr;cases e with
 | normal=>exact⟨.normal,a₁,w₁,hq,.head h0 stepR_scope (StepsIn.trans harr (.one (fenced_calm hb hr rfl) stepR_inScope))⟩
 | exit id=>
  refine⟨.exit id,a₁,w₁,hq,.of_steps (.one h0 stepR_scope) ⟨fun k' hk=>harr.1 k' (by simp [exitTo,hk]),fun hr' hk=>harr.2 hr' (by simp [exitTo,hk])⟩⟩
 | goto l=>exact hq.elim
 | ret=>exact⟨.ret,a₁,w₁,hq,.of_steps (.one h0 stepR_scope) harr⟩
 | panic ch=>exact⟨.panic ch,a₁,w₁,hq,.of_steps (.one h0 stepR_scope) harr⟩
 | outgrown=>exact⟨.outgrown,a₁,w₁,hq,.of_steps (.one h0 stepR_scope) harr⟩
theorem wpAt_rangeFunc{g:Operand}{ps:Array Tmp}{assign body:Code}
  (h : ∃(l:Nat) (mark:List Deferred) (w₁ : World) (d:Deferred) (w₁':World) (f:FuncId) (args:Array Value) (w₂ : World),
   (Instr.enterLoop f₀ a.tmps ps assign body F.round).run P w=.ok (l,mark) w₁ ∧
   (resolve a.eval (rangeCall g l) 0).run P w₁=.ok d w₁' ∧
   (∀f',Target.leads P w₁' d.target d.args=some f'→F.fn f') ∧
   (invoke d.target d.args).run P w₁'=.ok (.enter f args) w₂ ∧
   (F.depth.isSome=true→1≤n) ∧
   CallsIn F (n-1) P f args w₂ (rangePost F n P l Q { a with defers:=mark++a.defers })) :
  (Code.rangeFunc g ps assign body).wpAt f₀ F n P Q a w:=by
 intro b k cs hf hro hb hr;subst hf;obtain⟨l,mark,w₁,d,w₁',f,args,w₂,he,hres,hlead,hinv,hn,hF,hcall⟩:=h;rw [← hro] at he;have h0:(lone (b.atR a (.code (.rangeFunc g ps assign body)::k)) cs w).fenced P F:=by
  refine fenced_lone (.inl hb) (fun f' hf'=>hlead f' ?_) (Fence.room_le hr (by omega));have hev:=Frame.eval_atR b a (.code (.rangeFunc g ps assign body)::k);simp only [Frame.atR] at hev;simp only [Frame.about,Frame.atR,he,hev,hres] at hf';exact hf'
 have henter:=stepR_rangeFunc (P:=P) (b:=b) (a:=a) (k:=k) (cs:=cs) (w:=w) he hres hinv;have hroom:F.room ((b.atR { a with defers:=mark++a.defers } (.inRangeFunc l::k)::cs).length+1+(n-1)):=Fence.room_enter hr hn;obtain⟨e,w₃,fr,hR,hsteps,hfn,hleave⟩:=hcall (b.atR { a with defers:=mark++a.defers } (.inRangeFunc l::k)::cs) hroom;cases e with
 | outgrown=>
  obtain⟨a₀,w₀,hq⟩:=hR;exact⟨.outgrown,a₀,w₀,hq,.inr (Outgrown.of_steps (.one henter) hsteps)⟩
 | returned v=>
  have hl:(lone fr (b.atR { a with defers:=mark++a.defers } (.inRangeFunc l::k)::cs) w₃).fenced P F:=fenced_leaving (hfn▸hF) hroom hleave;obtain⟨jump,w₄,hend,hj⟩:=hR;have sback:StepsIn (Machine.fenced P F) P (lone (b.atR a (.code (.rangeFunc g ps assign body)::k)) cs w) (lone (b.atR { a with defers:=mark++a.defers } ((jump.map Item.code).toList++k)) cs w₄):=by
   refine .head h0 henter (StepsIn.trans hsteps (.head hl ?_ (.one (fenced_calm (fr:=b.atR { a with defers:=mark++a.defers } (.endRangeFunc l::k)) hb hr rfl) (stepR_endRangeFunc hend))));rw [← finish_atR_inRangeFunc l v];exact step_leave_returned hleave
  cases jump with
  | none=>exact⟨.normal,_,w₄,hj,sback⟩
  | some c=>
   obtain⟨e',a'',w₅,hq,harr⟩:=hj b k cs hro hb hr;exact⟨e',a'',w₅,hq,.of_steps sback harr⟩
 | panicked chain=>
  have hl:(lone fr (b.atR { a with defers:=mark++a.defers } (.inRangeFunc l::k)::cs) w₃).fenced P F:=fenced_leaving (hfn▸hF) hroom hleave;refine⟨.panic chain,_,w₃,hR,.inRangeFunc l::k,.head h0 henter (StepsIn.trans hsteps (.one hl ?_))⟩;rw [← Frame.raise_atR];exact step_leave_panicked hleave
end
def roundPostP(P:Program)(l:Nat)(R:Ending→World→Prop):Exit→Act→World→Prop
 | .panic chain,a,w=>a.defers=[]∧R (.panicked chain) w
 | .normal,a,w=>roundPost P l R .normal a w
 | .ret,a,w=>roundPost P l R .ret a w
 | .exit id,a,w=>roundPost P l R (.exit id) a w
 | .goto t,a,w=>roundPost P l R (.goto t) a w
 | .outgrown,_,_=>False
theorem roundIn_of_wpIn_panics{l:Nat}{f:FuncId}{fn:Func}{tmps:Array Value}{assign body:Code}{w:World}{R:Ending→World→Prop}(hF:F.fn f)(hfn:P.funcs[f]? = some fn)
  (h:assign.wpIn (F.inRound l) n P (Exit.then (fun a₁ w₁=>∃w₂,(Instr.beginRound l).run P w₁=.ok () w₂∧body.wpIn (F.inRound l) n P (roundPostP P l R) a₁ w₂) (fun _ _ _=>False))
   { tmps:=tmps,defers:=[] } w) :
  RoundIn F n P l f tmps assign body w R:=by
 refine⟨hF,fun c cs hr => ?_⟩
 let b:Frame := { (default:Frame) with fn:=f,kind:=.normal,roundOf:=some l }
 have hb0:Frame.round l f tmps assign body .normal=b.atR { tmps:=tmps,defers:=[] } [.code assign,.beginRound,.code body]:=by
  simp [Frame.round,Frame.atR,b]
 have hr':(F.inRound l).room ((c::cs).length+1+n):=hr;have hF':(F.inRound l).fn b.fn:=hF;obtain⟨e,a₁,w₁,hq,harr⟩:=h b [.beginRound,.code body] (c::cs) rfl hF' hr';rw [← hb0] at harr;cases e with
 | normal=>
  obtain⟨w₂,hbr,hbody⟩:=hq;have s1:StepsIn (Machine.fenced P (F.inRound l)) P (lone (b.atR a₁ [.beginRound,.code body]) (c::cs) w₁) (lone (b.atR a₁ [.code body]) (c::cs) w₂):=
   .one (fenced_calm (fr:=b.atR a₁ [.beginRound,.code body]) hF' hr' rfl) (stepR_beginRound rfl hbr)
  obtain⟨e₂,a₂,w₃,hq₂,harr₂⟩:=hbody b [] (c::cs) rfl hF' hr';cases e₂ with
  | normal=>
   obtain⟨v,w₄,hend,hR⟩:=hq₂;exact⟨.returned v,w₄,hR,(StepsIn.trans harr s1).trans (StepsIn.trans harr₂ (.one (fenced_calm (fr:=b.atR a₂ []) hF' hr' rfl) (stepR_round_end rfl rfl hend)))⟩
  | ret=>
   obtain⟨v,w₄,hend,hR⟩:=hq₂;obtain⟨k₁,hs⟩:=harr₂.2 rfl;exact⟨.returned v,w₄,hR,(StepsIn.trans harr s1).trans (StepsIn.trans hs (.one (fenced_calm (fr:=b.atR a₂ (.code .ret::k₁)) hF' hr' rfl) (stepR_round_ret rfl rfl hend)))⟩
  | exit id=>
   obtain⟨v,w₄,hend,hR⟩:=hq₂;obtain⟨k₁,hk,hs⟩:=harr₂.2 rfl rfl;exact⟨.returned v,w₄,hR,(StepsIn.trans harr s1).trans (StepsIn.trans hs (.one (fenced_calm (fr:=b.atR a₂ (.code (.exit id)::k₁)) hF' hr' rfl) (stepR_round_exit rfl rfl hk hend)))⟩
  | goto t=>
   obtain⟨v,w₄,hend,hR⟩:=hq₂;obtain⟨k₁,hk,hs⟩:=harr₂.2 rfl rfl;exact⟨.returned v,w₄,hR,(StepsIn.trans harr s1).trans (StepsIn.trans hs (.one (fenced_calm (fr:=b.atR a₂ (.code (.goto t)::k₁)) hF' hr' rfl) (stepR_round_goto rfl rfl hk hend)))⟩
  | panic chain=>
   obtain⟨hd,hR⟩:=hq₂;obtain⟨todo,hs⟩:=harr₂;have hleave:({ b.atR a₂ todo with mode:=.panicking chain } : Frame).leaving P w₃ (.panicked chain):=⟨rfl,hd,fn,hfn⟩;have hl:(lone { b.atR a₂ todo with mode:=.panicking chain } (c::cs) w₃).fenced P (F.inRound l):=fenced_leaving hF' hr' hleave;exact⟨.panicked chain,w₃,hR,(StepsIn.trans harr s1).trans (StepsIn.trans hs (.one hl (step_leave_panicked hleave)))⟩
  | outgrown=>exact hq₂.elim
 | exit id=>exact hq.elim
 | goto t=>exact hq.elim
 | ret=>exact hq.elim
 | panic chain=>exact hq.elim
 | outgrown=>exact hq.elim
theorem callsIn_of_wpAt_marks{f:FuncId}{fn:Func}{c:Code}{args:Array Value}{w:World}{R:Ending→World→Prop}
  (hf:P.funcs[f]? = some fn)(hb:fn.body=some c)(hF:F.fn f)
  (h:c.wpAt f F n P (bodyPostM F n P fn R) { tmps:=args++Array.replicate (fn.ntmps-args.size) undef,defers:=[] } w)(hro:F.round=none:=by rfl):CallsIn F n P f args w R:=by
 refine⟨hF,fun cs hr => ?_⟩
 let b:Frame := { (default:Frame) with fn:=f,kind:=.normal,roundOf:=none }
 have henter:Frame.enter P f args .normal =
   b.atR { tmps:=args++Array.replicate (fn.ntmps-args.size) undef,defers:=[] } [.code c]:=by
  simp [Frame.enter,Frame.atR,hf,hb,b]
 obtain⟨e,a',w',hq,harr⟩:=h b [] cs rfl hro.symm hF hr;rw [← henter] at harr;cases e with
 | normal=>
  obtain⟨e',w'',fr',hR,hs,hfn,hl⟩:=leaves_stepsInM a'.defers .returning w' { b.atR a' [] with mode:=.returning } cs rfl rfl rfl hf rfl hF hr hq;exact⟨e',w'',fr',hR,ComesIn.of_steps (StepsIn.trans harr (.one (fenced_calm (fr:=b.atR a' []) hF hr rfl) (stepR_end rfl))) hs,hfn,hl⟩
 | ret=>
  obtain⟨todo,hs₀⟩:=harr.1 rfl;obtain⟨e',w'',fr',hR,hs,hfn,hl⟩:=leaves_stepsInM a'.defers .returning w' { b.atR a' todo with mode:=.returning } cs rfl rfl rfl hf rfl hF hr hq;exact⟨e',w'',fr',hR,ComesIn.of_steps hs₀ hs,hfn,hl⟩
 | panic chain=>
  obtain⟨todo,hs₀⟩:=harr;obtain⟨e',w'',fr',hR,hs,hfn,hl⟩:=leaves_stepsInM a'.defers (.panicking chain) w' { b.atR a' todo with mode:=.panicking chain } cs rfl rfl rfl hf rfl hF hr hq;exact⟨e',w'',fr',hR,ComesIn.of_steps hs₀ hs,hfn,hl⟩
 | exit id=>exact hq.elim
 | goto l=>exact hq.elim
 | outgrown=>exact⟨.outgrown,w',b,hq,harr.resolve_left (by simp [b]),rfl,trivial⟩
end Go
namespace Sx
open Lx (Tok)
def Ty.name:Ty→B | .mk n _=>n
def Ty.args:Ty→List Ty | .mk _ a=>a
def Ty.wide(t:Ty):Bool:=decide (t.name≠[44]) && !t.args.isEmpty
structure Signs(K:B→Int):Prop where
 arrow:K arrow=6
 opening:K [40]=6
 closing:K [41]=6
 comma:K [44]=6
def Good(K:B→Int)(l:List Tok):Prop:=∀t∈l,t.kind=K t.text
theorem Good.left{K:B→Int}{a b:List Tok}(h:Good K (a++b)):Good K a:=fun t ht=>h t (List.mem_append_left _ ht)
theorem Good.right{K:B→Int}{a b:List Tok}(h:Good K (a++b)):Good K b:=fun t ht=>h t (List.mem_append_right _ ht)
@[simp] theorem hd_cons (t:Tok) (l:List Tok):hd (t::l)=t:=rfl
section
variable {K:B→Int} (S:Signs K)
include S in
include S in
include S in
include S in
include S in
include S in
include S in
end
def Pa.kind:Pa→Int | .mk k _ _=>k
def Pa.name:Pa→B | .mk _ n _=>n
def Pa.args:Pa→List Pa | .mk _ _ a=>a
def Pa.wide(p:Pa):Bool:=decide (p.name≠[44]) && !p.args.isEmpty
section
variable {K:B→Int} (S:Signs K) (U:K [95]=6)
include S in
include S in
include S U in
include S U in
include S in
include S in
include S U in
end
def Ex.kind:Ex→Int | .mk k _ _ _ _ _=>k
def Ex.num:Ex→Int | .mk _ n _ _ _ _=>n
def Ex.name:Ex→B | .mk _ _ n _ _ _=>n
def Ex.args:Ex→List Ex | .mk _ _ _ _ a _=>a
def Ex.pats:Ex→List Pa | .mk _ _ _ _ _ p=>p
def lvOp(s:B):Nat:=if zdc.contains s then 3 else if zdz.contains s then 2 else 1
def Ex.lv:Ex→Nat
 | .mk k _ n _ args _=>if k=1∨k=2 then 5 else if k=3 then (if n≠[44]∧args.isEmpty=false then 4 else 5) else if k=4 then 4 else if k=9 then lvOp n else 0
def zx6:List B:=[[43],[45],[42],[47],[37],[60],[61]]
structure Marks(K:B→Int)(D:Int→B)(N:B→Option Int)(fits:Int→Bool):Prop where
 signs:Signs K
 under:K [95]=6
 gives:K gives=6
 bar:K [124]=6
 ops : ∀s∈zx6,K s=6
 words : ∀s ∈ [wFn,wLet,wFun,wIn,zft,wOf,wEnd,wIf,zdt,zcn],K s=5
 num : ∀n,fits n=true→K (D n)=1∧N (D n)=some n
section
variable {K:B→Int} {D:Int→B} {N:B→Option Int} {fits:Int→Bool}
theorem zgk{α : Type}{b:Tok→Bool}{el:List Tok→Res α}{n:Nat}{rest:List Tok}(h:b (hd rest)=false):many b el n rest=.ok [] rest:=by
 cases n with
 | zero=>rfl
 | succ n=>rw [many,if_neg (by rintro⟨_,h'⟩;rw [h] at h';cases h')]
variable (M:Marks K D N fits)
include M in
include M in
include M in
include M in
include M in
include M in
include M in
include M in
include M in
end
end Sx
namespace Go.Proofs.YtclgbmmambkiaaaGreatDoor
open Go.RowKit
attribute [local go_sem] Oper.semAt_some
def rt(t:Lx.Tok):RT:=⟨t.kind,t.num,⟨t.text.toArray⟩,t.pos⟩
def RtOf(L:List RT)(ts:List Lx.Tok)(len:Int):Prop:=L=ts.map rt++[⟨0,0,⟨#[]⟩,len⟩]
def zah(len:Int):List Lx.Tok→Int
 | []=>len
 | t::_=>t.pos
def zaf{α : Type}(At:World→(Nat→Prop)→α→Value→Prop)(b:Nat)(la:Option Addr)(lc:Nat)(L:List RT)(toks:List Lx.Tok)(len:Int)(r:Sx.Res α)(q:Nat)(W:World)(e:Ending)(W':World):Prop:=
 But b W W'∧match r with
  | .ok x rest=>∃v q',e=.returned v∧rest=toks.drop q'∧q<q'∧q'≤toks.length∧Rd W' b la lc L q'∧At W' (fun k=>W.heap.size≤k∧k<W'.heap.size) x v
  | .bad rest=>e=panS (zah len rest)
theorem zep{L:List RT}{toks:List Lx.Tok}{len:Int}(h:RtOf L toks len){q:Nat}{x:RT}(hx:L[q]? = some x)(hk:x.k≠0) : ∃t r,q<toks.length∧toks.drop q=t::r∧x=rt t:=by
 unfold RtOf at h;subst h
 by_cases hq:q<toks.length
 ·rw [List.getElem?_append_left (by simpa using hq)] at hx;rw [List.getElem?_map,List.getElem?_eq_getElem hq] at hx;exact⟨toks[q],toks.drop (q+1),hq,List.drop_eq_getElem_cons hq,(qyj hx).symm⟩
 ·exfalso;rw [List.getElem?_append_right (by simpa using Nat.le_of_not_lt hq)] at hx;have hx0:=(List.getElem?_eq_some_iff.1 hx);obtain⟨h1,h2⟩:=hx0;simp at h1;have:q-(toks.map rt).length=0:=by simp;omega
  simp [this] at h2;rw [← h2] at hk;exact hk rfl
def zay:Code→Option (Code×Code)
 | .rangeFunc _ _ a b=>some (a,b)
 | .seq a b=>(zay a).orElse fun _=>zay b
 | .block _ c=>zay c
 | .cond _ a b=>(zay a).orElse fun _=>zay b
 | .loop c=>zay c
 | .scope c=>zay c
 | _=>none
theorem TyAt.parts{F:Nat→Prop}{w:World}{t:Sx.Ty}{v:Value}(h:TyAt w F t v) : ∃(nm:ByteArray) (l2:Option Addr) (n2 c2:Nat),v=.agg #[.string nm,.slice l2 n2 c2]:=by
 obtain⟨n,args⟩:=t;rw [TyAt] at h;obtain⟨sv,xs,hv,h1,_⟩:=h;obtain⟨la,cap,rfl⟩:=zad h1.1;exact⟨_,_,_,_,hv⟩
theorem zan{w:World}{base:Nat}{e:TypeId}{size:Nat}{v:Value}{n:Nat}{xs:List Value}(h:w.ownsRow base e size v n xs){k:Nat}(hk:v.ownBlock=some k){o:Obj}(ho:w.heap[k]? = some o)(zh : ∀cs fr,o≠.cells cs e fr):False:=by
 rcases h.2 with ⟨hv,_⟩ | ⟨g,cap,vy,hv,_,hh,_⟩
 ·rw [hv] at hk;cases hk
 ·rw [hv] at hk;cases hk;rw [ho] at hh;exact zh _ _ (qyj hh)
theorem own_ne_one{w:World}{base:Nat}{e:TypeId}{v u:Value}{n:Nat}{xs:List Value}{T:TypeId}(h:w.ownsRow base e 2 v n xs){k:Nat}(hk:v.ownBlock=some k)(ho:Blk w k #[u] T):False:=by
 rcases h.2 with ⟨hv,_⟩ | ⟨g,cap,vy,hv,_,hh,_,_,hc,_⟩
 ·rw [hv] at hk;cases hk
 ·rw [hv] at hk;cases hk;unfold Blk at ho;rw [ho] at hh;cases hh;simp at hc;omega
structure ManyAt(w0:World)(b A E R l D:Nat)(bf ef:Value)(st:Loop)(ts:List Sx.Ty)(W:World):Prop where
 bg : ∃T,Blk W A #[bf] T
 el : ∃T,Blk W E #[ef] T
 box : ∃v xs F,Blk W R #[v] 33∧W.ownsRow w0.heap.size 35 2 v ts.length xs∧TysAt W F ts xs∧∀k,F k→w0.heap.size≤k∧k<W.heap.size∧k≠R∧k≠l∧v.ownBlock≠some k∧k≠D
 L:W.heap[l]? = some (.loop st)
 K:W.heap[D]? = some (.deferred (some []))
 but:But b w0 W
theorem ManyAt.old{w0:World}{b A E R l D:Nat}{bf ef:Value}{st:Loop}{ts:List Sx.Ty}{W W':World}(h:ManyAt w0 b A E R l D bf ef st ts W)(hb:b<w0.heap.size)(hA:b<A)(hE:b<E)(hR:b<R)(hl:b<l)(hD:b<D)(hf:But b W W'):ManyAt w0 b A E R l D bf ef st ts W':=by
 obtain⟨v,xs,F,h1,h2,h3,h4⟩:=h.box;obtain⟨TA,kx⟩:=h.bg;obtain⟨TE,q9⟩:=h.el;refine⟨⟨TA,kx.keep hf (by omega)⟩,⟨TE,q9.keep hf (by omega)⟩,⟨v,xs,F,h1.keep hf (by omega),zaa h2 hf (fun k hk e => ?_),h3.keep hf (fun k hk e => ?_),fun k hk => ?_⟩,hf.heap h.L (by omega),hf.heap h.K (by omega),h.but.trans hf⟩
 ·have:=(h2.lt k hk).1;omega
 ·have:=(h4 k hk).1;omega
 ·obtain⟨g1,g2,g3⟩:=h4 k hk;exact⟨g1,qyc g2 hf.size,g3⟩
theorem ManyAt.loop{w0:World}{b A E R l D:Nat}{bf ef:Value}{st gS:Loop}{ts:List Sx.Ty}{W W':World}(h:ManyAt w0 b A E R l D bf ef st ts W)(hl:w0.heap.size≤l)(xd:A≠l)(yh:E≠l)(qJ:R≠l)(yB:D≠l)(hf:Fr (fun k=>k=b∨k=l) W W')(hA:A≠b)(hE:E≠b)(hR:R≠b)(hD:D≠b)(hb:b<w0.heap.size)(hL:W'.heap[l]? = some (.loop gS)):ManyAt w0 b A E R l D bf ef gS ts W':=by
 obtain⟨v,xs,F,h1,h2,h3,h4⟩:=h.box;obtain⟨TA,kx⟩:=h.bg;obtain⟨TE,q9⟩:=h.el;have tA : ∀k,v.ownBlock=some k→k≠l:=fun k hk e=>by
  subst e;rcases h2.2 with ⟨hv,_⟩ | ⟨g,cap,vy,hv,_,hh,_⟩
  ·rw [hv] at hk;cases hk
  ·rw [hv] at hk;cases hk;rw [h.L] at hh;cases hh
 refine⟨⟨TA,kx.keep hf (by omega)⟩,⟨TE,q9.keep hf (by omega)⟩,⟨v,xs,F,h1.keep hf (by omega),zaa h2 hf (fun k hk e => ?_),h3.keep hf (fun k hk e => ?_),fun k hk => ?_⟩,hL,hf.heap h.K (by omega),h.but.trans' hf ?_⟩
 ·have:=(h2.lt k hk).1;have:=tA k hk;omega
 ·obtain⟨g1,g2,g3,g4,g5⟩:=h4 k hk;omega
 ·obtain⟨g1,g2,g3⟩:=h4 k hk;exact⟨g1,qyc g2 hf.size,g3⟩
 ·intro k hk e;rcases e with e | e
  ·exact e
  ·omega
def ManyJ(w0:World)(b A E R l D:Nat)(bf ef:Value)(qj:LoopState→Option Code→Loop)(la:Option Addr)(lc:Nat)(L:List RT)(toks:List Lx.Tok)(q0:Nat)(bg:Lx.Tok→Bool)(el:List Lx.Tok→Sx.Res Sx.Ty)(M0:Sx.Res (List Sx.Ty))(q:Nat)(W:World):Prop:=
 ∃ts m,ManyAt w0 b A E R l D bf ef (qj .ready none) ts W∧Rd W b la lc L q∧q≤toks.length∧toks.length-q≤m∧q0+ts.length≤q∧M0=(Sx.many bg el m (toks.drop q)).map (ts ++ ·)
def ManyF(w0:World)(b A E R l D:Nat)(bf ef:Value)(qj:LoopState→Option Code→Loop)(la:Option Addr)(lc:Nat)(L:List RT)(toks:List Lx.Tok)(q0:Nat)(M0:Sx.Res (List Sx.Ty))(W:World):Prop:=
 ∃ts q,ManyAt w0 b A E R l D bf ef (qj .done (some (.exit 0))) ts W∧Rd W b la lc L q∧q≤toks.length∧q0+ts.length≤q∧M0=.ok ts (toks.drop q)
def ManyP(w0:World)(b D:Nat)(len:Int)(M0:Sx.Res (List Sx.Ty))(c:List PanicEntry)(W:World):Prop:=
 ∃rest,M0=.bad rest∧Ending.panicked c=panS (zah len rest)∧But b w0 W∧W.heap[D]? = some (.deferred (some []))
theorem zaj{w:World}{k:Nat}{o:Obj}(h:w.heap[k]? = some o):k<w.heap.size:=(Array.getElem?_eq_some_iff.1 h).1
theorem zo7(n:Nat)(w0:World)(b A E R l D:Nat)(hb:b<w0.heap.size)(hA:w0.heap.size≤A)(hE:w0.heap.size≤E)(hR:w0.heap.size≤R)(hl:w0.heap.size≤l)(hD:w0.heap.size≤D)(xd:A≠l)(yh:E≠l)(qJ:R≠l)(yB:D≠l)(rT:A≠R)(eJ:E≠R)(rD:D≠R)
  (Ac Bc:Code)(jI:zay (Tryz.f175.body.getD .skip)=some (Ac,Bc))(tm:Array Value)
  (f0 f1 f2 f3 f6 f8 f9 fY uL gm gr f14 gn gt gd gf fX fK fV fZ pG dL tl:Value)
  (jS:tm=#[f0,f1,f2,f3,.pointer (some ⟨A,0,none⟩),.pointer (some ⟨E,0,none⟩),f6,.pointer (some ⟨R,0,none⟩),f8,f9,fY,uL,gm,gr,f14,gn,gt,gd,gf,fX,fK,fV,fZ,pG,dL,tl])
  (qj:LoopState→Option Code→Loop)(qu:qj=fun st pe => { state:=st,pending:=pe,fn:=175,tmps:=tm,params:=#[12],assign:=Ac,body:=Bc,defers:=D })
  (la:Option Addr)(lc:Nat)(L:List RT)(toks:List Lx.Tok)(len:Int)(hL:RtOf L toks len)(qE : ∀g,la=some g→g.block<w0.heap.size)
  (bg:Lx.Tok→Bool)(kx : ∀(t:Lx.Tok) (W:World),Calls Tryz.prog 176 #[rtV (rt t)] W fun e W'=>e=.returned (.bool (bg t))∧Old W W')
  (q0:Nat)(el:List Lx.Tok→Sx.Res Sx.Ty)(q9 : ∀(q:Nat) (W:World),q0≤q→Rd W b la lc L q→q<toks.length→Calls Tryz.prog 174 #[.pointer (some ⟨b,0,none⟩)] W (zaf TyAt b la lc L toks len (el (toks.drop q)) q W))
  (M0:Sx.Res (List Sx.Ty))(q:Nat)(x:RT)(W:World)(hx:L[q]? = some x)(hk:x.k≠0)
  (h:ManyJ w0 b A E R l D (.func (.func 176) #[] #[]) (.func (.func 174) #[.pointer (some ⟨b,0,none⟩)] #[]) qj la lc L toks q0 bg el M0 q W) :
  YieldAt Fence.wide n Tryz.prog l #[rtV x] W (zdj (ManyJ w0 b A E R l D (.func (.func 176) #[] #[]) (.func (.func 174) #[.pointer (some ⟨b,0,none⟩)] #[]) qj la lc L toks q0 bg el M0) q
   (ManyF w0 b A E R l D (.func (.func 176) #[] #[]) (.func (.func 174) #[.pointer (some ⟨b,0,none⟩)] #[]) qj la lc L toks q0 M0) (ManyP w0 b D len M0)):=by
 obtain⟨ts,m,hM,jc,dU,hm,ci,qV⟩:=h;obtain⟨t,r,hq,qW,rfl⟩:=zep hL hx hk;have km:=hM.L;have vP:=km;rw [qu] at vP;refine⟨175,_,Ac,Bc,run_yield (P:=Tryz.prog) (args:=#[rtV (rt t)]) vP rfl,roundIn_of_wpIn_panics (F:=Fence.wide) (fn:=Tryz.f175) trivial Tryz.func175 ?_⟩;have j8:=jI;simp only [Tryz.f175,Option.getD_some,zay,Option.orElse_none,Option.orElse_some,Option.some.injEq,Prod.mk.injEq] at j8;obtain⟨yp,kw⟩:=j8;rw [jS];simp only [Array.foldl,Array.zip,List.zip];rw [← yp];clear jI yp vP;gi_wp2;obtain⟨W1,qd⟩ : ∃W1,W.alloc (.cells #[.int .i64 (rt t).k,.int .i64 (rt t).n,.string (rt t).s,.int .i64 (rt t).a] 59)=W1:=⟨_,rfl⟩;rw [qd];have nT:Blk W1 W.heap.size #[.int .i64 (rt t).k,.int .i64 (rt t).n,.string (rt t).s,.int .i64 (rt t).a] 59:=by rw [← qd];exact Blk.new _ _ _
 have O1:Old W W1:=by rw [← qd];exact (Old.refl W).alloc _
 have L1:W1.heap[l]? = some (.loop (qj .ready none)):=O1.heap km (by simp);clear qd;refine⟨_,run_beginRound L1 (by rw [qu]),?_⟩;have gj:Hid ({ { qj .ready none with state:=.busy } with state:=.ready,pending:=none } = qj .ready none):=qya (by rw [qu]);have fD:Hid ({ { qj .ready none with state:=.busy } with state:=.done,pending:=some (.exit 0) } = qj .done (some (.exit 0))):=qya (by rw [qu]);clear jS qu;obtain⟨W2,jJ⟩ : ∃W2,W1.putObj l (.loop { qj .ready none with state:=.busy })=W2:=⟨_,rfl⟩;rw [jJ];obtain⟨v,xs,F,fL,qz,uv,hF⟩:=hM.box;obtain⟨TA,yT⟩:=hM.bg;obtain⟨TE,uM⟩:=hM.el;have hRW:R<W.heap.size:=fL.lt;have gx:l<W.heap.size:=zaj km;have dH:W.heap.size≠l:=by omega
 have F2:Fr (fun k=>k=l) W W2:=by rw [← jJ];exact (Fr.old O1).putObj l _ (fun _=>rfl)
 have wq:Blk W2 W.heap.size #[.int .i64 (rt t).k,.int .i64 (rt t).n,.string (rt t).s,.int .i64 (rt t).a] 59:=by rw [← jJ];exact nT.putObj dH _
 have L2:W2.heap[l]? = some (.loop { qj .ready none with state:=.busy }):=by rw [← jJ];exact World.putObj_heap_same (zaj L1)
 clear jJ;have qG:Rd W2 b la lc L q:=jc.keep F2 (by omega) (fun g hg=>by have:=qE g hg;omega);have dy:=yT.keep F2 xd;have vI:=uM.keep F2 yh;have xi:=fL.keep F2 qJ;obtain⟨n0,n1,n2,n3,-⟩:=wq.four;have a0:=dy.cell (i:=0) rfl;have e0:=vI.cell (i:=0) rfl;have HB:=qya kw;rw [← kw];clear kw;cases hbx:bg t
 ·have kh:=qya hbx
  gi_wp2_with fail
  refine⟨trivial,fun e=>by simp [Fence.wide] at e,CallsIn.inRound l ((callsIn_wide.2 (kx t W2)).mono ?_)⟩;rintro e w3 ⟨rfl,O3⟩;rw [kh.out];have L3:=O3.heap L2 (fun e=>e);have qN:=qG.old O3;gi_wp2;obtain⟨W',qv⟩ : ∃W',w3.putObj l (.loop (qj .done (some (.exit 0))))=W':=⟨_,rfl⟩;have qy:=run_endRound (P:=Tryz.prog) (some (.exit 0)) L3;have qe:(Instr.endRound l (some (.exit 0))).run Tryz.prog w3=.ok (.bool false) W':=by rw [← qv,← fD.out];exact qy
  have F3:Fr (fun k=>k=b∨k=l) W W':=by rw [← qv];exact ((Fr.trans' F2 O3 (fun _ _ e=>False.elim e)).mono (fun k _ e=>.inr e)).putObj l _ (fun _=>.inr rfl)
  refine⟨_,_,qe,.inr (.inl ⟨rfl,ts,q,hM.loop hl xd yh qJ yB F3 (by omega) (by omega) (by omega) (by omega) hb (by rw [← qv];exact World.putObj_heap_same (zaj L3)),?_,dU,ci,?_⟩)⟩
  ·rw [← qv];exact qN.keep ((Fr.refl (fun k=>k=l) w3).putObj l _ (fun _=>rfl)) (by omega) (fun g hg=>by have:=qE g hg;omega)
  ·rw [qV,Sx.zgk (by rw [qW];exact kh.out)];simp [Sx.Res.map]
 ·have kh:=qya hbx
  gi_wp2_with fail
  refine⟨trivial,fun e=>by simp [Fence.wide] at e,CallsIn.inRound l ((callsIn_wide.2 (kx t W2)).mono ?_)⟩;rintro e w3 ⟨rfl,O3⟩;rw [kh.out];have L3:=O3.heap L2 (fun e=>e);have qN:=qG.old O3;have e3:=(Blk.keep vI O3 (fun e=>e)).cell (i:=0) rfl;have vf:=Blk.keep xi O3 (fun e=>e);have bC : ∃m',m=m'+1:=⟨m-1,by omega⟩;obtain⟨m',rfl⟩:=bC;have qm:Sx.many bg el (m'+1) (toks.drop q)=(el (toks.drop q)).bind fun x r=>(Sx.many bg el m' r).map (x :: ·):=by
   rw [Sx.many,if_pos ⟨by rw [qW];exact hk,by rw [qW];exact kh.out⟩]
  have uE:=qya qm;have zX:=qya qV;clear qm qV
  gi_wp2_with fail
  refine⟨trivial,fun e=>by simp [Fence.wide] at e,CallsIn.inRound l ((callsIn_wide.2 (q9 q w3 (by omega) qN hq)).mono ?_)⟩;rintro e w4 ⟨f4,hp⟩;have F4:Fr (fun k=>k=b∨k=l) W w4:=Fr.trans' (Fr.trans' (F2.mono (S':=fun k=>k=b∨k=l) (fun k _ e=>.inr e)) O3 (fun _ _ e=>False.elim e)) f4 (fun k _ e=>.inl e);cases hres:el (toks.drop q) with
  | bad rest=>
   rw [hres] at hp;have hp:e=panS (zah len rest):=hp;subst hp;have xB:=qya hres;clear hres;gi_wp2;refine⟨rfl,.inr (.inr ⟨_,rfl,rest,?_,rfl,hM.but.trans' F4 (fun k hk e=>by omega),F4.heap hM.K (by omega)⟩)⟩;rw [zX.out,uE.out,xB.out];rfl
  | ok y rest=>
   rw [hres] at hp;obtain⟨yv,q',rfl,qq,qx,qX,gz,zq⟩:=hp;have xB:=qya hres;clear hres;obtain⟨nm,l2,n2,c2,rfl⟩:=zq.parts;have L4:=f4.heap L3 (by omega);have dk:=vf.keep f4 (by omega);have pi : ∀k,v.ownBlock=some k→k≠l:=fun k hk e=>zan qz hk (e▸hM.L) (by intro cs fr;exact fun e=>by cases e);have bP : ∀k,v.ownBlock=some k→k≠D:=fun k hk e=>zan qz hk (e▸hM.K) (by intro cs fr;exact fun e=>by cases e);have ri : ∀k,v.ownBlock=some k→k≠A:=fun k hk e=>own_ne_one qz hk (e▸yT);have lH : ∀k,v.ownBlock=some k→k≠E:=fun k hk e=>own_ne_one qz hk (e▸uM);have uu:=zaa qz F4 (fun k hk e=>by
    have:=(qz.lt k hk).1;have:=pi k hk;omega)
   have lX:W.heap.size≤w3.heap.size:=qyu F2.size O3.size;have lK:=f4.size
   gi_wp2_with fail
   refine zcz (by kernel_rfl) (by intro o ho c;simp at ho;rcases ho with rfl | rfl | rfl | rfl | rfl | rfl | rfl | rfl <;> simp) (by rintro⟨a',w',jq⟩;exact jq) ?_;have fM:=Blk.new w4 #[.string nm,.slice l2 n2 c2] 35;have dS:=dk.alloc (.cells #[.string nm,.slice l2 n2 c2] 35);have kH:=uu.alloc (.cells #[.string nm,.slice l2 n2 c2] 35);have L5:(w4.alloc (.cells #[.string nm,.slice l2 n2 c2] 35)).heap[l]? = _:=((Old.refl w4).alloc _).heap L4 (fun e=>e);have O5:Old w4 (w4.alloc (.cells #[.string nm,.slice l2 n2 c2] 35)):=(Old.refl w4).alloc _;have z5:(w4.alloc (.cells #[.string nm,.slice l2 n2 c2] 35)).heap.size=w4.heap.size+1:=qyd _ _;obtain⟨w5,bi⟩ : ∃w5,w4.alloc (.cells #[.string nm,.slice l2 n2 c2] 35)=w5:=⟨_,rfl⟩;rw [bi] at fM dS kH L5 O5 z5 ⊢;clear bi;refine snocT rfl (by intro c a' d u w' jq;cases d <;> exact jq) _ _ _ _ _ _ _ _ _ _ _ _ _ _ _ _ _ _ _ _ _ _ _ _ _ w5 R w4.heap.size w0.heap.size ts.length v _ _ xs dS fM (fun e => ?_) kH (by have:=hM.but.size;omega) (by have:=jc.few;have:=jc.le;omega) nm l2 n2 c2 rfl rfl ?_
   ·have:=(qz.lt _ e).2;omega
   rintro a' w6 ⟨hds,g,cap,j7,xC,mt,qZ,xm⟩;have L6:=mt.heap L5 (fun e=>e.elim (fun e=>qJ e.symm) (fun e=>pi _ e rfl));obtain⟨W',qv⟩ : ∃W',w6.putObj l (.loop (qj .ready none))=W':=⟨_,rfl⟩;have qy:=run_endRound (P:=Tryz.prog) none L6;have qe:(Instr.endRound l none).run Tryz.prog w6=.ok (.bool true) W':=(by rw [← qv,← gj.out];exact qy);have F7:Fr (fun k=>k=l∨k=R∨v.ownBlock=some k) w4 W':=by
    rw [← qv];exact ((Fr.trans' (Fr.old O5) mt (fun k hk e=>.inr e))).putObj l _ (fun _=>.inl rfl)
   have F8:Fr (fun k=>k=b∨k=l∨k=R∨v.ownBlock=some k) W W':=Fr.trans' (F4.mono (fun k _ e=>e.elim .inl (fun e=>.inr (.inl e)))) F7 (fun k _ e=>.inr e);have yf:Blk W' R #[.slice (some ⟨g,0,none⟩) (ts.length+1) cap] 33:=(by rw [← qv];exact xC.putObj qJ _);have qQ:g≠l:=fun e=>qZ.elim (fun h=>pi g h e) (fun h=>by omega);have j6:=zaa j7 ((Fr.refl (fun k=>k=l) w6).putObj l (.loop (qj .ready none)) (fun _=>rfl)) (fun k hk e=>by cases hk;exact qQ e);rw [qv] at j6;have zy : ∀k,v.ownBlock=some k→w0.heap.size≤k∧k<W.heap.size:=fun k hk=>qz.lt k hk;have L7:W'.heap[l]? = some (.loop (qj .ready none)):=(by rw [← qv];exact World.putObj_heap_same (zaj L6));refine⟨_,_,qe,.inl ⟨rfl,q',qx,ts++[y],m',⟨⟨TA,yT.keep F8 ?_⟩,⟨TE,uM.keep F8 ?_⟩,⟨_,xs++[.string nm,.slice l2 n2 c2],fun k=>F k∨(w3.heap.size≤k∧k<w4.heap.size),yf,?_,TysAt.snoc ts xs y (.string nm) (.slice l2 n2 c2) ?_ ?_,?_⟩,L7,F8.heap hM.K ?_,hM.but.trans' F8 ?_⟩,?_,qX,?_,?_,?_⟩⟩
   ·rintro (e | e | e | e)
    ·omega
    ·exact xd e
    ·exact rT e
    ·exact ri _ e rfl
   ·rintro (e | e | e | e)
    ·omega
    ·exact yh e
    ·exact eJ e
    ·exact lH _ e rfl
   ·rw [qye,qyh];exact j6
   ·refine TysAt.more (fun k hk=>.inl hk) _ _ (uv.keep F8 ?_);rintro k hk (e | e | e | e)
    ·have:=(hF k hk).1;omega
    ·exact (hF k hk).2.2.2.1 e
    ·exact (hF k hk).2.2.1 e
    ·exact (hF k hk).2.2.2.2.1 e
   ·refine TyAt.more (fun k hk=>.inr hk) _ _ (zq.keep F7 ?_);rintro k hk (e | e | e)
    ·omega
    ·omega
    ·have:=zy k e;omega
   ·have h7:=F7.size;rintro k (hk | hk)
    ·obtain⟨g1,g2,g3,g4,g5⟩:=hF k hk;refine⟨g1,by omega,g3,g4,fun e => ?_,g5.2⟩;have e':g=k:=qyj (show some g=some k from e);subst e';exact qZ.elim g5.1 (fun h=>by omega)
    ·have hk1:=hk.1;have hk2:=hk.2;have hDW:=zaj hM.K;refine⟨by omega,by omega,by omega,by omega,fun e => ?_,by omega⟩;have e':g=k:=qyj (show some g=some k from e);rcases qZ with h | h
     ·have:=(zy _ h).2;omega
     ·omega
   ·rintro (e | e | e | e)
    ·omega
    ·exact yB e
    ·exact rD e
    ·exact bP _ e rfl
   ·rintro k hk (e | e | e | e)
    ·exact e
    ·omega
    ·omega
    ·have:=zy _ e;omega
   ·refine gz.keep F7 ?_ (fun g' kI => ?_)
    ·rintro (e | e | e)
     ·omega
     ·omega
     ·have:=zy _ e;omega
    ·have:=qE g' kI;rintro (e | e | e)
     ·omega
     ·omega
     ·have:=zy _ e;omega
   ·omega
   ·rw [qye,qyh];omega
   ·rw [zX.out,uE.out,xB.out,qq];show ((Sx.many bg el m' (toks.drop q')).map (y :: ·)).map (ts ++ ·)=_;cases Sx.many bg el m' (toks.drop q') with
    | ok z zr=>simp [Sx.Res.map]
    | bad zr=>rfl
def zdk(L:List RT):List Value:=L.flatMap fun x=>[.int .i64 x.k,.int .i64 x.n,.string x.s,.int .i64 x.a]
theorem zkg : ∀(L:List RT) (i:Nat) (hi:i<L.length),(zdk L)[i*4]? = some (.int .i64 L[i].k)∧(zdk L)[i*4+1]? = some (.int .i64 L[i].n)∧(zdk L)[i*4+2]? = some (.string L[i].s)∧(zdk L)[i*4+3]? = some (.int .i64 L[i].a)
 | [],i,hi=>absurd hi (Nat.not_lt_zero i)
 | x::r,0,hi=>⟨rfl,rfl,rfl,rfl⟩
 | x::r,i+1,hi=>by
  have h:=zkg r i (Nat.lt_of_succ_lt_succ hi);have he:zdk (x::r)=[.int .i64 x.k,.int .i64 x.n,.string x.s,.int .i64 x.a]++zdk r:=rfl;have h0:(i+1)*4=4+i*4:=by omega
  rw [he,h0];refine⟨?_,?_,?_,?_⟩
  ·rw [List.getElem?_append_right (by simp)];simpa using h.1
  ·rw [List.getElem?_append_right (by simp;omega)];simpa [Nat.add_assoc,Nat.add_sub_cancel_left] using h.2.1
  ·rw [List.getElem?_append_right (by simp;omega)];simpa [Nat.add_assoc,Nat.add_sub_cancel_left] using h.2.2.1
  ·rw [List.getElem?_append_right (by simp;omega)];simpa [Nat.add_assoc,Nat.add_sub_cancel_left] using h.2.2.2
theorem zs5{w:World}{base g cap:Nat}{L:List RT}(h:w.ownsRow base 59 4 (.slice (some ⟨g,0,none⟩) L.length cap) L.length (zdk L))(hg:g<w.heap.size):TlAt w (some ⟨g,0,none⟩) L:=fun i hi=>by
 obtain⟨h0,h1,h2,h3⟩:=zkg L i hi;refine⟨g,0,rfl,hg,?_,?_,?_,?_⟩
 ·rw [Nat.zero_add];exact (h.cellAt (i*4) (by omega)).trans h0
 ·rw [Nat.zero_add];exact (h.cellAt (i*4+1) (by omega)).trans h1
 ·rw [Nat.zero_add];exact (h.cellAt (i*4+2) (by omega)).trans h2
 ·rw [Nat.zero_add];exact (h.cellAt (i*4+3) (by omega)).trans h3
theorem ziu(ts:List Lx.Tok)(len:Int):zdk (ts.map rt++[⟨0,0,⟨#[]⟩,len⟩])=(ts.flatMap fun x=>[.int .i64 x.kind,.int .i64 x.num,.string ⟨x.text.toArray⟩,.int .i64 x.pos])++[.int .i64 0,.int .i64 0,.string ⟨#[]⟩,.int .i64 len]:=by
 unfold zdk;rw [List.flatMap_append,List.flatMap_map];rfl
theorem Rd.new{w:World}{base g cap b:Nat}{L:List RT}(h:w.ownsRow base 59 4 (.slice (some ⟨g,0,none⟩) L.length cap) L.length (zdk L))(hg:g<w.heap.size)(hb:Blk w b #[.slice (some ⟨g,0,none⟩) L.length cap,.int .i64 0] 129)(zh:g≠b)(few:L.length≤1000000):Rd w b (some ⟨g,0,none⟩) cap L 0:=
 ⟨hb,zs5 h hg,fun a ha=>by cases ha;exact zh,few,qyi _⟩
attribute [local go_sem] Oper.semAt_some
theorem zjl(w:World)(v:Value):(Instr.typeAssert (.iface 126 v) 20 126 true).run Tryz.prog w=.ok (.tuple #[v,.bool true]) w:=by kernel_rfl
theorem zjm(w:World):(Instr.typeAssert .nilIface 20 126 true).run Tryz.prog w=.ok (.tuple #[.agg #[.int .i64 0],.bool false]) w:=by kernel_rfl
theorem zm9(n Z R A E:Nat)(w:World) :
  CallsDIn Fence.wide n Tryz.prog 70 #[.pointer (some ⟨Z,0,none⟩),.pointer (some ⟨R,0,none⟩),.pointer (some ⟨A,0,none⟩),.pointer (some ⟨E,0,none⟩)] .returning w fun e u' w'=>e=.returned (.tuple #[])∧u'=.returning∧∃o,w'=w.alloc o:=by
 refine callsDIn_of_wpSIn (F:=Fence.wide) Tryz.func70 rfl trivial fun c₀ cs hu => ?_;simp only [Tryz.ntmps70,qxg,qxh,qxi,Nat.reduceAdd,Nat.reduceSub,qxj,qxk,qxl,qxm,qxn,qxo];apply wpSIn_seq;apply wpSIn_region;simp [wpOpsSIn,go_sem,recoverD,hu,Exit.thenS,zjm,List.range,List.range.loop];refine wpSIn_of_wpIn rfl ?_;gi_wp2;exact⟨rfl,_,(by cases c₀;cases hu;rfl),_,results_none rfl _ _ _,rfl,rfl,_,rfl⟩
theorem zki(n Z R A E:Nat)(v0 va ve:Value)(TA TE:TypeId)(a:Int)(kz:List PanicEntry)(w:World)(hZ:Blk w Z #[.slice none 0 0] 25)(hR:Blk w R #[v0] 25)(hA:Blk w A #[va] TA)(hE:Blk w E #[ve] TE)(hZR:Z≠R)(hZA:Z≠A)(hZE:Z≠E)(vQ:R≠A)(hRE:R≠E)(hAE:A≠E) :
  CallsDIn Fence.wide n Tryz.prog 70 #[.pointer (some ⟨Z,0,none⟩),.pointer (some ⟨R,0,none⟩),.pointer (some ⟨A,0,none⟩),.pointer (some ⟨E,0,none⟩)] (.panicking ({ v:=.iface 126 (.agg #[.int .i64 a]),recovered:=false } :: kz)) w fun e u' w'=>
   e=.returned (.tuple #[])∧u'=.panicking ({ v:=.iface 126 (.agg #[.int .i64 a]),recovered:=true } :: kz) ∧
   ∃o,w'=((((w.setCell ⟨R,0,none⟩ (.slice none 0 0)).setCell ⟨A,0,none⟩ (.int .i64 a)).setCell ⟨E,0,none⟩ (.int .i64 20)).alloc o).drew:=by
 have z0:=hZ.c 0 (.slice none 0 0) rfl;have r0:=hR.c 0 v0 rfl;have rg0:=hR.free 0;have a0:=hA.c 0 va rfl;have e0:=hE.c 0 ve rfl;have a1:=hA.free 0;have e1:=hE.free 0;have zl:=hZ.lt;have rl:=hR.lt;have al:=hA.lt;have el:=hE.lt;refine callsDIn_of_wpSIn (F:=Fence.wide) Tryz.func70 rfl trivial fun c₀ cs hu => ?_;simp only [Tryz.ntmps70,qxg,qxh,qxi,Nat.reduceAdd,Nat.reduceSub,qxj,qxk,qxl,qxm,qxn,qxo];apply wpSIn_seq;apply wpSIn_region;simp [wpOpsSIn,go_sem,recoverD,hu,Exit.thenS,zjl,List.range,List.range.loop];refine wpSIn_of_wpIn rfl ?_
 gi_wp2_with fail
 gi_region
 exact⟨rfl,_,rfl,_,results_none rfl _ _ _,rfl,rfl,_,rfl⟩
theorem zna(n Z R A E:Nat)(w:World) :
  CallsDIn Fence.wide n Tryz.prog 89 #[.pointer (some ⟨Z,0,none⟩),.pointer (some ⟨R,0,none⟩),.pointer (some ⟨A,0,none⟩),.pointer (some ⟨E,0,none⟩)] .returning w fun e u' w'=>e=.returned (.tuple #[])∧u'=.returning∧∃o,w'=w.alloc o:=by
 refine callsDIn_of_wpSIn (F:=Fence.wide) Tryz.func89 rfl trivial fun c₀ cs hu => ?_;simp only [Tryz.ntmps89,qxg,qxh,qxi,Nat.reduceAdd,Nat.reduceSub,qxj,qxk,qxl,qxm,qxn,qxo];apply wpSIn_seq;apply wpSIn_region;simp [wpOpsSIn,go_sem,recoverD,hu,Exit.thenS,zjm,List.range,List.range.loop];refine wpSIn_of_wpIn rfl ?_;gi_wp2;exact⟨rfl,_,(by cases c₀;cases hu;rfl),_,results_none rfl _ _ _,rfl,rfl,_,rfl⟩
theorem zkj(n Z R A E:Nat)(v0 v1 v2 v3 v4 v5 va ve:Value)(TA TE:TypeId)(a:Int)(kz:List PanicEntry)(w:World)(hZ:Blk w Z #[.int .i64 0,.int .i64 0,.string ⟨#[]⟩,.string ⟨#[]⟩,.slice none 0 0,.slice none 0 0] 32)(hR:Blk w R #[v0,v1,v2,v3,v4,v5] 32)(hA:Blk w A #[va] TA)(hE:Blk w E #[ve] TE)(hZR:Z≠R)(hZA:Z≠A)(hZE:Z≠E)(vQ:R≠A)(hRE:R≠E)(hAE:A≠E) :
  CallsDIn Fence.wide n Tryz.prog 89 #[.pointer (some ⟨Z,0,none⟩),.pointer (some ⟨R,0,none⟩),.pointer (some ⟨A,0,none⟩),.pointer (some ⟨E,0,none⟩)] (.panicking ({ v:=.iface 126 (.agg #[.int .i64 a]),recovered:=false } :: kz)) w fun e u' w'=>
   e=.returned (.tuple #[])∧u'=.panicking ({ v:=.iface 126 (.agg #[.int .i64 a]),recovered:=true } :: kz) ∧
   ∃o,w'=(((((((((w.setCell ⟨R,0,none⟩ (.int .i64 0)).setCell ⟨R,1,none⟩ (.int .i64 0)).setCell ⟨R,2,none⟩ (.string ⟨#[]⟩)).setCell ⟨R,3,none⟩ (.string ⟨#[]⟩)).setCell ⟨R,4,none⟩ (.slice none 0 0)).setCell ⟨R,5,none⟩ (.slice none 0 0)).setCell ⟨A,0,none⟩ (.int .i64 a)).setCell ⟨E,0,none⟩ (.int .i64 20)).alloc o).drew:=by
 obtain⟨z0,z1,z2,z3,z4,z5⟩:=hZ.c6;obtain⟨r0,r1,r2,r3,r4,r5⟩:=hR.c6;obtain⟨rg0,rg1,rg2,rg3,nY,rg5⟩:=hR.f6;have a0:=hA.c 0 va rfl;have e0:=hE.c 0 ve rfl;have a1:=hA.free 0;have e1:=hE.free 0;have zl:=hZ.lt;have rl:=hR.lt;have al:=hA.lt;have el:=hE.lt;refine callsDIn_of_wpSIn (F:=Fence.wide) Tryz.func89 rfl trivial fun c₀ cs hu => ?_;simp only [Tryz.ntmps89,qxg,qxh,qxi,Nat.reduceAdd,Nat.reduceSub,qxj,qxk,qxl,qxm,qxn,qxo];apply wpSIn_seq;apply wpSIn_region;simp [wpOpsSIn,go_sem,recoverD,hu,Exit.thenS,zjl,List.range,List.range.loop];refine wpSIn_of_wpIn rfl ?_
 gi_wp2_with fail
 gi_region
 exact⟨rfl,_,rfl,_,results_none rfl _ _ _,rfl,rfl,_,rfl⟩
theorem St.begins_lt{w:World}{b:Nat}{t:ByteArray}{p:Nat}{v:Value}(h:St w b t p v){c:UInt8}(hc:Lx.peek (rest t p) 0=c)(h0:c≠0):p<t.size:=by
 rcases Nat.lt_or_ge p t.size with h' | h'
 ·exact h'
 ·exact absurd (hc.symm.trans (zqd (n:=0) (by omega))) h0
theorem zc4(s:ByteArray)(hs:s.size≤140737488355328)(w:World)(hg:Gl w)(n:Int)(hn:Hid (Lx.zbz s.data.toList=some n)) :
  Calls Tryz.prog 276 #[.string s] w fun e w'=>e=.returned (.tuple #[.int .i64 n,.int .i64 0])∧Old w w':=by
 have h:=zk5 s hs w hg;rw [hn.out] at h;exact h
theorem zjt(s:ByteArray)(hs:s.size≤140737488355328)(w:World)(hg:Gl w)(hn:Hid (Lx.zbz s.data.toList=none)) :
  Calls Tryz.prog 276 #[.string s] w fun e w'=>e=.returned (.tuple #[.int .i64 0,.int .i64 13])∧Old w w':=by
 have h:=zk5 s hs w hg;rw [hn.out] at h;exact h
theorem zg6(w:World)(b:Nat)(t:ByteArray)(p:Nat)(v:Value)(h:St w b t p v)(hg:Gl w)(h6:6≤b)(m:Nat)(c d:UInt8)(hp:Hid (Lx.peek (rest t p) 0=c))(hc:(c.toNat:Int)≠126)(hm:p+m=p+Lx.span Lx.zap (rest t p))
  (hd:Hid (Lx.peek (rest t (p+m)) 0=d))(hN:Hid (Lx.zbz (t.extract p (p+m)).data.toList=none)) :
  Calls Tryz.prog 250 #[.pointer (some ⟨b,0,none⟩)] w fun e w'=>e=pan p 13∧But b w w':=by
 have hc0:=h.text;have hc1:=h.pos;have hs:=h.sz;have qX:=h.le;have hb:=h.lt;have ul:((c.toNat:Int)==126)=false:=beq_eq_false_iff_ne.2 hc
 go_enter Tryz.func250,Tryz.ntmps250
 go_wp2_with fail
 refine ((h.alloc _).peek _ 0 rfl (by omega) hp).mono ?_;rintro e w1 ⟨rfl,nn,rfl⟩;have HM:=qya hm;clear hm
 go_wp2_with fail
 refine (((h.alloc _).drewN nn).pass_digit).mono ?_;rw [← HM.out];rintro e w1 ⟨rfl,h1,f1⟩;have k1:=((Blk.new' (b:=w.heap.size) rfl _ _).drewN nn).keep f1 (show ¬w.heap.size=b by omega);have F1:=(((But.refl b w).alloc _).drewN nn).trans f1;have vG:=h1.le;have r0:=h1.text;have r1:=h1.pos;have sY:(p:Int)≤((p+m:Nat):Int):=by omega
 have bh:((p+m:Nat):Int)≤t.size:=by omega
 go_wp2_with fail
 go_quiet (fail)
 have qY:(t.extract p (p+m)).size≤140737488355328:=by simp;omega
 have g1:Gl (w1.drewN nq):=hg.but (F1.drewN nq) h6
 go_wp2_with fail
 refine (zjt _ qY _ g1 hN).mono ?_;rintro e w2 ⟨rfl,f2⟩;have h2:=(h1.drewN nq).old f2
 go_wp2_with fail
 refine (h2.peek _ 0 rfl (by omega) hd).mono ?_;rintro e w3 ⟨rfl,n3,rfl⟩;have F3:=((F1.drewN nq).trans (f2.but b)).drewN n3;clear f2 F1 f1;go_wp2;exact⟨rfl,rfl,F3⟩
theorem zg5(w:World)(b:Nat)(t:ByteArray)(p:Nat)(v:Value)(h:St w b t p v)(hg:Gl w)(h6:6≤b)(m:Nat)(c d:UInt8)(hp:Hid (Lx.peek (rest t p) 0=c))(hc:(c.toNat:Int)≠126)(hm:p+m=p+Lx.span Lx.zap (rest t p))
  (hd:Hid (Lx.peek (rest t (p+m)) 0=d))(i:Int)(hN:Hid (Lx.zbz (t.extract p (p+m)).data.toList=some i))(hP:Hid (Lx.part d=true)) :
  Calls Tryz.prog 250 #[.pointer (some ⟨b,0,none⟩)] w fun e w'=>e=pan p 13∧But b w w':=by
 have hc0:=h.text;have hc1:=h.pos;have hs:=h.sz;have qX:=h.le;have hb:=h.lt;have ul:((c.toNat:Int)==126)=false:=beq_eq_false_iff_ne.2 hc
 go_enter Tryz.func250,Tryz.ntmps250
 go_wp2_with fail
 refine ((h.alloc _).peek _ 0 rfl (by omega) hp).mono ?_;rintro e w1 ⟨rfl,nn,rfl⟩;have HM:=qya hm;clear hm
 go_wp2_with fail
 refine (((h.alloc _).drewN nn).pass_digit).mono ?_;rw [← HM.out];rintro e w1 ⟨rfl,h1,f1⟩;have k1:=((Blk.new' (b:=w.heap.size) rfl _ _).drewN nn).keep f1 (show ¬w.heap.size=b by omega);have F1:=(((But.refl b w).alloc _).drewN nn).trans f1;have vG:=h1.le;have r0:=h1.text;have r1:=h1.pos;have sY:(p:Int)≤((p+m:Nat):Int):=by omega
 have bh:((p+m:Nat):Int)≤t.size:=by omega
 go_wp2_with fail
 go_quiet (fail)
 have qY:(t.extract p (p+m)).size≤140737488355328:=by simp;omega
 have g1:Gl (w1.drewN nq):=hg.but (F1.drewN nq) h6
 go_wp2_with fail
 refine (zc4 _ qY _ g1 i hN).mono ?_;rintro e w2 ⟨rfl,f2⟩;have h2:=(h1.drewN nq).old f2
 go_wp2_with fail
 refine (h2.peek _ 0 rfl (by omega) hd).mono ?_;rintro e w3 ⟨rfl,n3,rfl⟩;have F3:=((F1.drewN nq).trans (f2.but b)).drewN n3;clear f2 F1 f1
 go_wp2_with fail
 refine (zde hP _).mono ?_;rintro e w3 ⟨rfl,rfl⟩;go_wp2;exact⟨rfl,rfl,F3⟩
theorem zgi(w:World)(b:Nat)(t:ByteArray)(p:Nat)(v:Value)(h:St w b t p v)(hg:Gl w)(h6:6≤b)(m:Nat)(c d:UInt8)(hp:Hid (Lx.peek (rest t p) 0=c))(hc:(c.toNat:Int)≠126)(hm:p+m=p+Lx.span Lx.zap (rest t p))
  (hd:Hid (Lx.peek (rest t (p+m)) 0=d))(i:Int)(hN:Hid (Lx.zbz (t.extract p (p+m)).data.toList=some i))(hP:Hid (Lx.part d=false))(hQ:(d.toNat:Int)=39) :
  Calls Tryz.prog 250 #[.pointer (some ⟨b,0,none⟩)] w fun e w'=>e=pan p 13∧But b w w':=by
 have hc0:=h.text;have hc1:=h.pos;have hs:=h.sz;have qX:=h.le;have hb:=h.lt;have ul:((c.toNat:Int)==126)=false:=beq_eq_false_iff_ne.2 hc
 go_enter Tryz.func250,Tryz.ntmps250
 go_wp2_with fail
 refine ((h.alloc _).peek _ 0 rfl (by omega) hp).mono ?_;rintro e w1 ⟨rfl,nn,rfl⟩;have HM:=qya hm;clear hm
 go_wp2_with fail
 refine (((h.alloc _).drewN nn).pass_digit).mono ?_;rw [← HM.out];rintro e w1 ⟨rfl,h1,f1⟩;have k1:=((Blk.new' (b:=w.heap.size) rfl _ _).drewN nn).keep f1 (show ¬w.heap.size=b by omega);have F1:=(((But.refl b w).alloc _).drewN nn).trans f1;have vG:=h1.le;have r0:=h1.text;have r1:=h1.pos;have sY:(p:Int)≤((p+m:Nat):Int):=by omega
 have bh:((p+m:Nat):Int)≤t.size:=by omega
 go_wp2_with fail
 go_quiet (fail)
 have qY:(t.extract p (p+m)).size≤140737488355328:=by simp;omega
 have g1:Gl (w1.drewN nq):=hg.but (F1.drewN nq) h6
 go_wp2_with fail
 have hQ':((d.toNat:Int)==39)=true:=beq_iff_eq.2 hQ;have HQ:=qya hQ;clear hQ;refine (zc4 _ qY _ g1 i hN).mono ?_;rintro e w2 ⟨rfl,f2⟩;have h2:=(h1.drewN nq).old f2
 go_wp2_with fail
 refine (h2.peek _ 0 rfl (by omega) hd).mono ?_;rintro e w3 ⟨rfl,n3,rfl⟩;have F3:=((F1.drewN nq).trans (f2.but b)).drewN n3;clear f2 F1 f1
 go_wp2_with fail
 refine (zde hP _).mono ?_;rintro e w3 ⟨rfl,rfl⟩;go_wp2;exact⟨rfl,rfl,F3⟩
theorem zho(w:World)(b:Nat)(t:ByteArray)(p:Nat)(v:Value)(h:St w b t p v)(hg:Gl w)(h6:6≤b)(m:Nat)(c d:UInt8)(hp:Hid (Lx.peek (rest t p) 0=c))(hc:(c.toNat:Int)≠126)(hm:p+m=p+Lx.span Lx.zap (rest t p))
  (hd:Hid (Lx.peek (rest t (p+m)) 0=d))(i:Int)(hN:Hid (Lx.zbz (t.extract p (p+m)).data.toList=some i))(hP:Hid (Lx.part d=false))(hQ:(d.toNat:Int)≠39) :
  Calls Tryz.prog 250 #[.pointer (some ⟨b,0,none⟩)] w fun e w'=>e=.returned (tokV 1 i (t.extract p (p+m)) p)∧St w' b t (p+m) v∧But b w w':=by
 have hc0:=h.text;have hc1:=h.pos;have hs:=h.sz;have qX:=h.le;have hb:=h.lt;have ul:((c.toNat:Int)==126)=false:=beq_eq_false_iff_ne.2 hc
 go_enter Tryz.func250,Tryz.ntmps250
 go_wp2_with fail
 refine ((h.alloc _).peek _ 0 rfl (by omega) hp).mono ?_;rintro e w1 ⟨rfl,nn,rfl⟩;have HM:=qya hm;clear hm
 go_wp2_with fail
 refine (((h.alloc _).drewN nn).pass_digit).mono ?_;rw [← HM.out];rintro e w1 ⟨rfl,h1,f1⟩;have k1:=((Blk.new' (b:=w.heap.size) rfl _ _).drewN nn).keep f1 (show ¬w.heap.size=b by omega);have F1:=(((But.refl b w).alloc _).drewN nn).trans f1;have vG:=h1.le;have r0:=h1.text;have r1:=h1.pos;have sY:(p:Int)≤((p+m:Nat):Int):=by omega
 have bh:((p+m:Nat):Int)≤t.size:=by omega
 go_wp2_with fail
 go_quiet (fail)
 have qY:(t.extract p (p+m)).size≤140737488355328:=by simp;omega
 have g1:Gl (w1.drewN nq):=hg.but (F1.drewN nq) h6
 go_wp2_with fail
 have hQ':((d.toNat:Int)==39)=false:=beq_eq_false_iff_ne.2 hQ;refine (zc4 _ qY _ g1 i hN).mono ?_;rintro e w2 ⟨rfl,f2⟩;have h2:=(h1.drewN nq).old f2;have k2:=(k1.drewN nq).keep f2 (by simp)
 go_wp2_with fail
 refine (h2.peek _ 0 rfl (by omega) hd).mono ?_;rintro e w3 ⟨rfl,n3,rfl⟩;have F3:=((F1.drewN nq).trans (f2.but b)).drewN n3;clear f2 F1 f1;have k3:=k2.drewN n3;have h3:=h2.drewN n3;obtain⟨c0,c1,c2,c3,g0,g1,g2,g3⟩:=k3.four
 go_wp2_with fail
 refine (zde hP _).mono ?_;rintro e w3 ⟨rfl,rfl⟩;go_wp2;refine bodyPost_ret (v:=tokV 1 i (t.extract p (p+m)) p) (by simp [results,Tryz.results250,go_sem,tokV,c0,c1,c2,c3]) rfl ⟨rfl,?_,?_⟩
 ·exact h3.set4 k3 (by omega) _ _ _ _
 ·exact F3.set4 (qyb _) _ _ _ _
theorem zg4(w:World)(b:Nat)(t:ByteArray)(p:Nat)(v:Value)(h:St w b t p v)(hg:Gl w)(h6:6≤b)(m:Nat)(c d:UInt8)(hp:Hid (Lx.peek (rest t p) 0=c))(hc:(c.toNat:Int)=126)(hm:p+m=p+1+Lx.span Lx.zap (rest t (p+1)))
  (hd:Hid (Lx.peek (rest t (p+m)) 0=d))(hN:Hid (Lx.zbz (t.extract p (p+m)).data.toList=none)) :
  Calls Tryz.prog 250 #[.pointer (some ⟨b,0,none⟩)] w fun e w'=>e=pan p 13∧But b w w':=by
 have hc0:=h.text;have hc1:=h.pos;have hs:=h.sz;have qX:=h.le;have hb:=h.lt;have qx:p+1≤t.size:=h.begins_lt hp.out (by rintro rfl;exact absurd hc (by decide));have ul:((c.toNat:Int)==126)=true:=beq_iff_eq.2 hc;have HC:=qya hc;clear hc
 go_enter Tryz.func250,Tryz.ntmps250
 go_wp2_with fail
 refine ((h.alloc _).peek _ 0 rfl (by omega) hp).mono ?_;rintro e w1 ⟨rfl,nn,rfl⟩;have HM:=qya hm;clear hm;have q0:=h.text;have q1:=h.pos;have q2:=h.free 1
 go_wp2_with fail
 refine ((((h.alloc _).drewN nn).move (p+1) qx).pass_digit).mono ?_;rw [← HM.out];rintro e w1 ⟨rfl,h1,f1⟩;have k1:=(((Blk.new' (b:=w.heap.size) rfl _ _).drewN nn).other ⟨b,1,none⟩ (show w.heap.size≠b by omega) _).keep f1 (show ¬w.heap.size=b by omega);have F1:=((((But.refl b w).alloc _).drewN nn).setCell ⟨b,1,none⟩ (fun _=>rfl) _).trans f1;clear q0 q1 q2;have vG:=h1.le;have r0:=h1.text;have r1:=h1.pos;have sY:(p:Int)≤((p+m:Nat):Int):=by omega
 have bh:((p+m:Nat):Int)≤t.size:=by omega
 go_wp2_with fail
 go_quiet (fail)
 have qY:(t.extract p (p+m)).size≤140737488355328:=by simp;omega
 have g1:Gl (w1.drewN nq):=hg.but (F1.drewN nq) h6
 go_wp2_with fail
 refine (zjt _ qY _ g1 hN).mono ?_;rintro e w2 ⟨rfl,f2⟩;have h2:=(h1.drewN nq).old f2
 go_wp2_with fail
 refine (h2.peek _ 0 rfl (by omega) hd).mono ?_;rintro e w3 ⟨rfl,n3,rfl⟩;have F3:=((F1.drewN nq).trans (f2.but b)).drewN n3;clear f2 F1 f1;go_wp2;exact⟨rfl,rfl,F3⟩
theorem zg3(w:World)(b:Nat)(t:ByteArray)(p:Nat)(v:Value)(h:St w b t p v)(hg:Gl w)(h6:6≤b)(m:Nat)(c d:UInt8)(hp:Hid (Lx.peek (rest t p) 0=c))(hc:(c.toNat:Int)=126)(hm:p+m=p+1+Lx.span Lx.zap (rest t (p+1)))
  (hd:Hid (Lx.peek (rest t (p+m)) 0=d))(i:Int)(hN:Hid (Lx.zbz (t.extract p (p+m)).data.toList=some i))(hP:Hid (Lx.part d=true)) :
  Calls Tryz.prog 250 #[.pointer (some ⟨b,0,none⟩)] w fun e w'=>e=pan p 13∧But b w w':=by
 have hc0:=h.text;have hc1:=h.pos;have hs:=h.sz;have qX:=h.le;have hb:=h.lt;have qx:p+1≤t.size:=h.begins_lt hp.out (by rintro rfl;exact absurd hc (by decide));have ul:((c.toNat:Int)==126)=true:=beq_iff_eq.2 hc;have HC:=qya hc;clear hc
 go_enter Tryz.func250,Tryz.ntmps250
 go_wp2_with fail
 refine ((h.alloc _).peek _ 0 rfl (by omega) hp).mono ?_;rintro e w1 ⟨rfl,nn,rfl⟩;have HM:=qya hm;clear hm;have q0:=h.text;have q1:=h.pos;have q2:=h.free 1
 go_wp2_with fail
 refine ((((h.alloc _).drewN nn).move (p+1) qx).pass_digit).mono ?_;rw [← HM.out];rintro e w1 ⟨rfl,h1,f1⟩;have k1:=(((Blk.new' (b:=w.heap.size) rfl _ _).drewN nn).other ⟨b,1,none⟩ (show w.heap.size≠b by omega) _).keep f1 (show ¬w.heap.size=b by omega);have F1:=((((But.refl b w).alloc _).drewN nn).setCell ⟨b,1,none⟩ (fun _=>rfl) _).trans f1;clear q0 q1 q2;have vG:=h1.le;have r0:=h1.text;have r1:=h1.pos;have sY:(p:Int)≤((p+m:Nat):Int):=by omega
 have bh:((p+m:Nat):Int)≤t.size:=by omega
 go_wp2_with fail
 go_quiet (fail)
 have qY:(t.extract p (p+m)).size≤140737488355328:=by simp;omega
 have g1:Gl (w1.drewN nq):=hg.but (F1.drewN nq) h6
 go_wp2_with fail
 refine (zc4 _ qY _ g1 i hN).mono ?_;rintro e w2 ⟨rfl,f2⟩;have h2:=(h1.drewN nq).old f2
 go_wp2_with fail
 refine (h2.peek _ 0 rfl (by omega) hd).mono ?_;rintro e w3 ⟨rfl,n3,rfl⟩;have F3:=((F1.drewN nq).trans (f2.but b)).drewN n3;clear f2 F1 f1
 go_wp2_with fail
 refine (zde hP _).mono ?_;rintro e w3 ⟨rfl,rfl⟩;go_wp2;exact⟨rfl,rfl,F3⟩
theorem zgh(w:World)(b:Nat)(t:ByteArray)(p:Nat)(v:Value)(h:St w b t p v)(hg:Gl w)(h6:6≤b)(m:Nat)(c d:UInt8)(hp:Hid (Lx.peek (rest t p) 0=c))(hc:(c.toNat:Int)=126)(hm:p+m=p+1+Lx.span Lx.zap (rest t (p+1)))
  (hd:Hid (Lx.peek (rest t (p+m)) 0=d))(i:Int)(hN:Hid (Lx.zbz (t.extract p (p+m)).data.toList=some i))(hP:Hid (Lx.part d=false))(hQ:(d.toNat:Int)=39) :
  Calls Tryz.prog 250 #[.pointer (some ⟨b,0,none⟩)] w fun e w'=>e=pan p 13∧But b w w':=by
 have hc0:=h.text;have hc1:=h.pos;have hs:=h.sz;have qX:=h.le;have hb:=h.lt;have qx:p+1≤t.size:=h.begins_lt hp.out (by rintro rfl;exact absurd hc (by decide));have ul:((c.toNat:Int)==126)=true:=beq_iff_eq.2 hc;have HC:=qya hc;clear hc
 go_enter Tryz.func250,Tryz.ntmps250
 go_wp2_with fail
 refine ((h.alloc _).peek _ 0 rfl (by omega) hp).mono ?_;rintro e w1 ⟨rfl,nn,rfl⟩;have HM:=qya hm;clear hm;have q0:=h.text;have q1:=h.pos;have q2:=h.free 1
 go_wp2_with fail
 refine ((((h.alloc _).drewN nn).move (p+1) qx).pass_digit).mono ?_;rw [← HM.out];rintro e w1 ⟨rfl,h1,f1⟩;have k1:=(((Blk.new' (b:=w.heap.size) rfl _ _).drewN nn).other ⟨b,1,none⟩ (show w.heap.size≠b by omega) _).keep f1 (show ¬w.heap.size=b by omega);have F1:=((((But.refl b w).alloc _).drewN nn).setCell ⟨b,1,none⟩ (fun _=>rfl) _).trans f1;clear q0 q1 q2;have vG:=h1.le;have r0:=h1.text;have r1:=h1.pos;have sY:(p:Int)≤((p+m:Nat):Int):=by omega
 have bh:((p+m:Nat):Int)≤t.size:=by omega
 go_wp2_with fail
 go_quiet (fail)
 have qY:(t.extract p (p+m)).size≤140737488355328:=by simp;omega
 have g1:Gl (w1.drewN nq):=hg.but (F1.drewN nq) h6
 go_wp2_with fail
 have hQ':((d.toNat:Int)==39)=true:=beq_iff_eq.2 hQ;have HQ:=qya hQ;clear hQ;refine (zc4 _ qY _ g1 i hN).mono ?_;rintro e w2 ⟨rfl,f2⟩;have h2:=(h1.drewN nq).old f2
 go_wp2_with fail
 refine (h2.peek _ 0 rfl (by omega) hd).mono ?_;rintro e w3 ⟨rfl,n3,rfl⟩;have F3:=((F1.drewN nq).trans (f2.but b)).drewN n3;clear f2 F1 f1
 go_wp2_with fail
 refine (zde hP _).mono ?_;rintro e w3 ⟨rfl,rfl⟩;go_wp2;exact⟨rfl,rfl,F3⟩
theorem zhn(w:World)(b:Nat)(t:ByteArray)(p:Nat)(v:Value)(h:St w b t p v)(hg:Gl w)(h6:6≤b)(m:Nat)(c d:UInt8)(hp:Hid (Lx.peek (rest t p) 0=c))(hc:(c.toNat:Int)=126)(hm:p+m=p+1+Lx.span Lx.zap (rest t (p+1)))
  (hd:Hid (Lx.peek (rest t (p+m)) 0=d))(i:Int)(hN:Hid (Lx.zbz (t.extract p (p+m)).data.toList=some i))(hP:Hid (Lx.part d=false))(hQ:(d.toNat:Int)≠39) :
  Calls Tryz.prog 250 #[.pointer (some ⟨b,0,none⟩)] w fun e w'=>e=.returned (tokV 1 i (t.extract p (p+m)) p)∧St w' b t (p+m) v∧But b w w':=by
 have hc0:=h.text;have hc1:=h.pos;have hs:=h.sz;have qX:=h.le;have hb:=h.lt;have qx:p+1≤t.size:=h.begins_lt hp.out (by rintro rfl;exact absurd hc (by decide));have ul:((c.toNat:Int)==126)=true:=beq_iff_eq.2 hc;have HC:=qya hc;clear hc
 go_enter Tryz.func250,Tryz.ntmps250
 go_wp2_with fail
 refine ((h.alloc _).peek _ 0 rfl (by omega) hp).mono ?_;rintro e w1 ⟨rfl,nn,rfl⟩;have HM:=qya hm;clear hm;have q0:=h.text;have q1:=h.pos;have q2:=h.free 1
 go_wp2_with fail
 refine ((((h.alloc _).drewN nn).move (p+1) qx).pass_digit).mono ?_;rw [← HM.out];rintro e w1 ⟨rfl,h1,f1⟩;have k1:=(((Blk.new' (b:=w.heap.size) rfl _ _).drewN nn).other ⟨b,1,none⟩ (show w.heap.size≠b by omega) _).keep f1 (show ¬w.heap.size=b by omega);have F1:=((((But.refl b w).alloc _).drewN nn).setCell ⟨b,1,none⟩ (fun _=>rfl) _).trans f1;clear q0 q1 q2;have vG:=h1.le;have r0:=h1.text;have r1:=h1.pos;have sY:(p:Int)≤((p+m:Nat):Int):=by omega
 have bh:((p+m:Nat):Int)≤t.size:=by omega
 go_wp2_with fail
 go_quiet (fail)
 have qY:(t.extract p (p+m)).size≤140737488355328:=by simp;omega
 have g1:Gl (w1.drewN nq):=hg.but (F1.drewN nq) h6
 go_wp2_with fail
 have hQ':((d.toNat:Int)==39)=false:=beq_eq_false_iff_ne.2 hQ;refine (zc4 _ qY _ g1 i hN).mono ?_;rintro e w2 ⟨rfl,f2⟩;have h2:=(h1.drewN nq).old f2;have k2:=(k1.drewN nq).keep f2 (by simp)
 go_wp2_with fail
 refine (h2.peek _ 0 rfl (by omega) hd).mono ?_;rintro e w3 ⟨rfl,n3,rfl⟩;have F3:=((F1.drewN nq).trans (f2.but b)).drewN n3;clear f2 F1 f1;have k3:=k2.drewN n3;have h3:=h2.drewN n3;obtain⟨c0,c1,c2,c3,g0,g1,g2,g3⟩:=k3.four
 go_wp2_with fail
 refine (zde hP _).mono ?_;rintro e w3 ⟨rfl,rfl⟩;go_wp2;refine bodyPost_ret (v:=tokV 1 i (t.extract p (p+m)) p) (by simp [results,Tryz.results250,go_sem,tokV,c0,c1,c2,c3]) rfl ⟨rfl,?_,?_⟩
 ·exact h3.set4 k3 (by omega) _ _ _ _
 ·exact F3.set4 (qyb _) _ _ _ _
theorem zrm(t:ByteArray)(p:Nat):(t.extract p t.size).data.toList=rest t p:=by
 unfold rest;simp [ByteArray.data_extract,List.take_of_length_le]
def two(l:List UInt8)(x y:UInt8):Bool:=Lib.hasPrefix l [x,y]
theorem zyr(l:List UInt8)(x y:UInt8)(hx:x≠0)(hy:y≠0):two l x y=(decide (Lx.peek l 0=x)&&decide (Lx.peek l 1=y)):=by
 unfold two Lib.hasPrefix Lx.peek
 match l with
 | []=>simp [Ne.symm hx]
 | [c]=>simp [List.isPrefixOf,Ne.symm hy]
 | c::d::r=>
  show ((x==c)&&((y==d)&&true))=(decide (c=x)&&decide (d=y));rw [Bool.and_true];have e : ∀a b:UInt8,(a==b)=decide (b=a):=fun a b=>by rw [Bool.eq_iff_iff,beq_iff_eq,decide_eq_true_iff];exact eq_comm
  rw [e,e]
theorem zsw(w:World)(b:Nat)(t:ByteArray)(p:Nat)(v:Value)(h:St w b t p v)(x y:UInt8) :
  Calls Tryz.prog 242 #[.pointer (some ⟨b,0,none⟩),.string ⟨#[x,y]⟩] w fun e w'=>e=.returned (.bool (two (rest t p) x y))∧∃n,w'=w.drewN n:=by
 have hc0:=h.text;have hc1:=h.pos;have hs:=h.sz;have qX:=h.le;have hle':(p:Int)≤t.size:=by omega
 have HP : ∀w,Calls Tryz.prog 272 #[.string (t.extract p t.size),.string ⟨#[x,y]⟩] w fun e w'=>e=.returned (.bool (two (rest t p) x y))∧w'=w:=by
  intro w;have h:=Tryz.strings_HasPrefix (t.extract p t.size) ⟨#[x,y]⟩ w;rw [zrm] at h;exact h
 have HQ:=qya HP;clear HP
 go_enter Tryz.func242,Tryz.ntmps242
 go_wp2
 go_quiet ((go_at_call 272;exact Calls.quiet_of_same (HQ.out _)))
 go_wp2;go_ret;exact⟨rfl,_,rfl⟩
theorem St.begins{w:World}{b:Nat}{t:ByteArray}{p:Nat}{v:Value}(h:St w b t p v)(x y:UInt8){z:Bool}(hz:Hid (two (rest t p) x y=z)) :
  Calls Tryz.prog 242 #[.pointer (some ⟨b,0,none⟩),.string ⟨#[x,y]⟩] w fun e w'=>e=.returned (.bool z)∧∃n,w'=w.drewN n:=by
 have h:=zsw w b t p v h x y;rw [hz.out] at h;exact h
theorem St.done{w:World}{b:Nat}{t:ByteArray}{p:Nat}{v:Value}(h:St w b t p v){z:Bool}(hz:Hid (decide (t.size≤p)=z)) :
  Calls Tryz.prog 195 #[.pointer (some ⟨b,0,none⟩)] w fun e w'=>e=.returned (.bool z)∧∃n,w'=w.drewN n:=by
 obtain⟨r,h1,_,_⟩:=h;exact zd8 h1 hz
end Go.Proofs.YtclgbmmambkiaaaGreatDoor

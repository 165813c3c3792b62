/- Part 00 -/
import Derived.Lib.ItoaNum
import Derived.Lib.AtoiAllCases
import Derived.WalkKit
import Derived.Deep.QuietTactic
import Derived.BigQuiet
import Derived.Lib.Hide
import Derived.Test.YtclgbmmambkiaaaGreatDoorProg
import Derived.WalkSpells
import Derived.WalkLawsBesides
import Derived.IntWalk
import Derived.Deep.LoopGhost
import Derived.BigRegion
import Derived.Maps.OwnOps
import Derived.Maps.Views
import Derived.Deep.RegionWith
import Derived.Test.YtclgbmmambkiaaaGreatDoorMsh
import Derived.Lib.SmallJoins
set_option maxRecDepth 100000
set_option maxHeartbeats 4000000
set_option linter.unusedVariables false
set_option linter.unusedSimpArgs false
namespace Lx
abbrev B:=UInt8
def za0(c:B):Bool:=decide (97≤c.toNat)&&decide (c.toNat≤122)
def zao(c:B):Bool:=decide (65≤c.toNat)&&decide (c.toNat≤90)
def zap(c:B):Bool:=decide (48≤c.toNat)&&decide (c.toNat≤57)
def part(c:B):Bool:=za0 c||zao c||zap c||decide (c.toNat=95)
def zbk(c:B):Bool:=decide (c.toNat=9)||decide (c.toNat=10)||decide (c.toNat=13)||decide (c.toNat=32)
def span(p:B→Bool):List B→Nat
 | []=>0
 | c::r=>if p c then span p r+1 else 0
def peek(l:List B)(n:Nat):B:=l.getD n 0
def zbp(n:Int):List B:=if n<0 then 126::Go.Lib.decDigits n.natAbs else Go.Lib.decDigits n.toNat
def fits(n:Int):Prop:=-9223372036854775808≤n∧n≤9223372036854775807
def conv:List B→List B
 | []=>[]
 | c::r=>if c=126 then 45::r else c::r
def zbz(l:List B):Option Int:=
 match Go.Lib.atoiAll (conv l) with
 | .ok n=>if zbp n=l then some n else none
 | _=>none
def words:List (List B):=
 [[97,110,100],[99,97,115,101],[100,97,116,97],[101,108,115,101],[101,110,100],[102,110],[102,117,110],[105,102],[105,110],[105,110,112,117,116],[108,101,116],[111,102],[111,117,116,112,117,116],[116,104,101,110],[118,97,108]]
def isWord(l:List B):Bool:=words.contains l
def zgc:List B:=[40,41,44,59,58,124,61,60,43,45,42,47,37,95]
inductive Next where
 | tok (kind:Int) (num:Int) (len:Nat)
 | err (e:Int)
 deriving DecidableEq,Repr
def zas(l:List B):Nat:=
 let j:=span part l
 if peek l j=39∧zap (peek l (j+1))=true then j+1+span zap (l.drop (j+1)) else j
def zb5(l:List B):Next:=
 let j:=zas l
 if 24<j then .err 2
 else if zao (peek l 0) then .tok 3 0 j
 else if isWord (l.take j) then .tok 5 0 j
 else .tok 2 0 j
def zck(l:List B):Next:=
 let j:=1+span part (l.drop 1)
 if 24<j then .err 2 else .tok 4 0 j
def za1(l:List B):Nat:=if peek l 0=126 then 1+span zap (l.drop 1) else span zap l
def zcl(l:List B):Next:=
 let j:=za1 l
 match zbz (l.take j) with
 | none=>.err 13
 | some n=>if part (peek l j)||decide (peek l j=39) then .err 13 else .tok 1 n j
def next(l:List B):Next:=
 let c:=peek l 0
 if za0 c||zao c then zb5 l
 else if c=39∧za0 (peek l 1)=true then zck l
 else if c=126∨zap c=true then zcl l
 else if (c=61∨c=45)∧peek l 1=62 then .tok 6 0 2
 else if zgc.contains c then .tok 6 0 1
 else .err 11
inductive Com where
 | closed (len:Nat)
 | «open»
 | deep (at_:Nat)
 deriving DecidableEq,Repr
def zae:List B→Nat→Nat→Com
 | 40::42::r,k,n=>if k=100 then .deep n else zae r (k+1) (n+2)
 | 42::41::r,k,n=>if k≤1 then .closed (n+2) else zae r (k-1) (n+2)
 | _::r,k,n=>zae r k (n+1)
 | [],_,_=>.open
structure Tok where
 kind:Int
 num:Int
 text:List B
 pos:Nat
 deriving DecidableEq,Repr
inductive Scan where
 | ok (toks:List Tok) (coms:List (Nat×Nat))
 | err (pos:Nat) (e:Int)
 deriving DecidableEq,Repr
def Scan.tok(t:Tok):Scan→Scan
 | .ok ts cs=>.ok (t::ts) cs
 | e=>e
def Scan.com(a b:Nat):Scan→Scan
 | .ok ts cs=>.ok ts ((a,b)::cs)
 | e=>e
def begins(l:List B):Bool:=decide (peek l 0=40)&&decide (peek l 1=42)
def zdn:Nat→List B→Nat→Scan
 | _,[],_=>.ok [] []
 | 0,_,_=>.ok [] []
 | f+1,c::r,p=>
  if zbk c then zdn f r (p+1)
  else if begins (c::r) then
   match zae (c::r) 0 0 with
   | .closed n=>(zdn f ((c::r).drop n) (p+n)).com p (p+n)
   | .open=>.err p 12
   | .deep n=>.err (p+n) 6
  else match next (c::r) with
   | .tok k n j=>(zdn f ((c::r).drop j) (p+j)).tok { kind:=k,num:=n,text:=(c::r).take j,pos:=p }
   | .err e=>.err p e
def scan(l:List B)(p:Nat):Scan:=zdn l.length l p
def upto(l:List B)(most:Nat):Scan:=if most<l.length then .err 0 2 else scan l 0
end Lx
namespace Go.Proofs.YtclgbmmambkiaaaGreatDoor
open Go.RowKit
structure Fr(S:Nat→Prop)(w w':World):Prop where
 os:w'.os=w.os
 tape:w'.tape=w.tape
 output:w'.output=w.output
 size:w.heap.size≤w'.heap.size
 block : ∀k,k<w.heap.size→¬S k→w'.heap[k]? = w.heap[k]?
abbrev Old(w w':World):Prop:=Fr (fun _=>False) w w'
abbrev But(b:Nat)(w w':World):Prop:=Fr (fun k=>k=b) w w'
theorem Fr.refl(S:Nat→Prop)(w:World):Fr S w w:=⟨rfl,rfl,rfl,Nat.le_refl _,fun _ _ _=>rfl⟩
theorem Fr.trans'{S S':Nat→Prop}{a b c:World}(h:Fr S a b)(k:Fr S' b c)(hs : ∀i,i<a.heap.size→S' i→S i):Fr S a c:=
 ⟨k.os.trans h.os,k.tape.trans h.tape,k.output.trans h.output,Nat.le_trans h.size k.size,fun i hi hn=>
  (k.block i (Nat.lt_of_lt_of_le hi h.size) (fun e=>hn (hs i hi e))).trans (h.block i hi hn)⟩
theorem Fr.trans{S:Nat→Prop}{a b c:World}(h:Fr S a b)(k:Fr S b c):Fr S a c:=h.trans' k (fun _ _ e=>e)
theorem Fr.mono{S S':Nat→Prop}{a b:World}(h:Fr S a b)(hs : ∀i,i<a.heap.size→S i→S' i):Fr S' a b:=
 ⟨h.os,h.tape,h.output,h.size,fun i hi hn=>h.block i hi (fun e=>hn (hs i hi e))⟩
theorem Fr.old{S:Nat→Prop}{a b:World}(h:Old a b):Fr S a b:=h.mono (fun _ _ e=>e.elim)
theorem Fr.alloc{S:Nat→Prop}{a w:World}(h:Fr S a w)(o:Obj):Fr S a (w.alloc o):=
 h.trans ⟨rfl,rfl,rfl,by simp,fun k hk _=>Below.heap_alloc _ _ _ hk⟩
theorem Fr.setCell{S:Nat→Prop}{a w:World}(h:Fr S a w)(p:Addr)(hp:p.block<a.heap.size→S p.block)(u:Value):Fr S a (w.setCell p u):=
 ⟨h.os,h.tape,h.output,by have:=h.size;simp only [World.setCell,Array.size_modify];exact this,fun k hk hn=>by
  have zh:k≠p.block:=fun e=>hn (e▸hp (e▸hk));exact (Below.heap_setCell _ _ _ _ zh).trans (h.block k hk hn)⟩
theorem Fr.drew{S:Nat→Prop}{a w:World}(h:Fr S a w):Fr S a w.drew:=⟨h.os,h.tape,h.output,h.size,h.block⟩
theorem Fr.drewN{S:Nat→Prop}{a w:World}(h:Fr S a w)(n:Nat):Fr S a (w.drewN n):=⟨h.os,h.tape,h.output,h.size,h.block⟩
theorem Fr.grown{S:Nat→Prop}{a w w':World}{row:Option Nat}(h:Fr S a w)(hg:w.grownBy w' row)(hr : ∀k,row=some k→k<a.heap.size→S k):Fr S a w':=
 ⟨hg.os.trans h.os,hg.tape.trans h.tape,hg.output.trans h.output,Nat.le_trans h.size hg.size,fun k hk hn=>
  (hg.block k (Nat.lt_of_lt_of_le hk h.size) (fun e=>hn (hr k e.symm hk))).trans (h.block k hk hn)⟩
theorem Fr.below{S:Nat→Prop}{B:Nat}{a w:World}(h:Fr S a w)(hB:B≤a.heap.size)(hs : ∀k,S k→B≤k):Below B a w:=
 ⟨h.os,h.tape,h.output,h.size,fun k hk=>h.block k (by omega) (fun e=>by have:=hs k e;omega)⟩
theorem Fr.of_below{S:Nat→Prop}{B:Nat}{a w:World}(h:Below B a w)(hs : ∀k,B≤k→k<a.heap.size→S k):Fr S a w:=
 ⟨h.os,h.tape,h.output,h.size,fun k hk hn=>h.block k (by
  rcases Nat.lt_or_ge k B with h' | h'
  ·exact h'
  ·exact absurd (hs k h' hk) hn)⟩
theorem Old.of_below{a w:World}(h:Below a.heap.size a w):Old a w:=Fr.of_below h (fun k h1 h2=>by omega)
theorem Fr.heap{S:Nat→Prop}{a w:World}(h:Fr S a w){k:Nat}{o:Obj}(hk:a.heap[k]? = some o)(hn : ¬S k):w.heap[k]? = some o:=
 (h.block k (lt_of_block hk) hn).trans hk
theorem But.refl(b:Nat)(w:World):But b w w:=Fr.refl _ _
theorem Old.refl(w:World):Old w w:=Fr.refl _ _
theorem Old.but{w w':World}(h:Old w w')(b:Nat):But b w w':=Fr.old h
def Blk(w:World)(b:Nat)(cs:Array Value)(T:TypeId):Prop:=w.heap[b]? = some (.cells cs T (0,0))
theorem Blk.lt{w:World}{b:Nat}{cs:Array Value}{T:TypeId}(h:Blk w b cs T):b<w.heap.size:=lt_of_block h
theorem Blk.cell{w:World}{b:Nat}{cs:Array Value}{T:TypeId}(h:Blk w b cs T){i:Nat}{v:Value}(hv:cs[i]? = some v):w.cell? ⟨b,i,none⟩=some v:=by
 unfold Blk at h;simp [World.cell?,h,hv]
theorem Blk.free{w:World}{b:Nat}{cs:Array Value}{T:TypeId}(h:Blk w b cs T)(i:Nat):w.frozen? ⟨b,i,none⟩=false:=by
 unfold Blk at h;simp [World.frozen?,h]
theorem Blk.set{w:World}{b:Nat}{cs:Array Value}{T:TypeId}(h:Blk w b cs T)(i:Nat)(v:Value):Blk (w.setCell ⟨b,i,none⟩ v) b (cs.setIfInBounds i v) T:=by
 have qx:=h.lt;unfold Blk at h ⊢;have h':w.heap[b]=.cells cs T (0,0):=by simpa [Array.getElem?_eq_getElem qx] using h
 show (w.heap.modify b _)[b]? = _;rw [Array.getElem?_eq_getElem (by simpa using qx),Array.getElem_modify_self,h'];rfl
theorem Blk.other{w:World}{b:Nat}{cs:Array Value}{T:TypeId}(h:Blk w b cs T)(p:Addr)(hp:b≠p.block)(v:Value):Blk (w.setCell p v) b cs T:=
 (Below.heap_setCell _ _ _ _ hp).trans h
theorem Blk.keep{S:Nat→Prop}{w w':World}{b:Nat}{cs:Array Value}{T:TypeId}(h:Blk w b cs T)(hf:Fr S w w')(hn : ¬S b):Blk w' b cs T:=hf.heap h hn
theorem Blk.alloc{w:World}{b:Nat}{cs:Array Value}{T:TypeId}(h:Blk w b cs T)(o:Obj):Blk (w.alloc o) b cs T:=
 (Below.heap_alloc _ _ _ h.lt).trans h
theorem Blk.new(w:World)(cs:Array Value)(T:TypeId):Blk (w.alloc (.cells cs T (0,0))) w.heap.size cs T:=by
 show (w.heap.push _)[w.heap.size]? = _;simp
theorem Blk.new'{w:World}{b:Nat}(hb:b=w.heap.size)(cs:Array Value)(T:TypeId):Blk (w.alloc (.cells cs T (0,0))) b cs T:=by
 subst hb;exact Blk.new w cs T
theorem zat(w:World)(a:Addr)(v:Value):(w.setCell a v).heap.size=w.heap.size:=by simp [World.setCell]
theorem Blk.four{w:World}{b:Nat}{x0 x1 x2 x3:Value}{T:TypeId}(h:Blk w b #[x0,x1,x2,x3] T) :
  w.cell? ⟨b,0,none⟩=some x0∧w.cell? ⟨b,1,none⟩=some x1∧w.cell? ⟨b,2,none⟩=some x2∧w.cell? ⟨b,3,none⟩=some x3 ∧
  w.frozen? ⟨b,0,none⟩=false∧w.frozen? ⟨b,1,none⟩=false∧w.frozen? ⟨b,2,none⟩=false∧w.frozen? ⟨b,3,none⟩=false:=
 ⟨h.cell rfl,h.cell rfl,h.cell rfl,h.cell rfl,h.free 0,h.free 1,h.free 2,h.free 3⟩
theorem Fr.set4{S:Nat→Prop}{a w:World}(h:Fr S a w){n:Nat}(hn:a.heap.size≤n)(v0 v1 v2 v3:Value) :
  Fr S a ((((w.setCell ⟨n,0,none⟩ v0).setCell ⟨n,1,none⟩ v1).setCell ⟨n,2,none⟩ v2).setCell ⟨n,3,none⟩ v3):=by
 have hx : ∀i,({ block:=n,off:=i,spot:=none } : Addr).block<a.heap.size→S n:=fun _ e=>absurd e (Nat.not_lt.2 hn);exact (((h.setCell ⟨n,0,none⟩ (hx 0) v0).setCell ⟨n,1,none⟩ (hx 1) v1).setCell ⟨n,2,none⟩ (hx 2) v2).setCell ⟨n,3,none⟩ (hx 3) v3
theorem Blk.set4other{w:World}{b:Nat}{cs:Array Value}{T:TypeId}(h:Blk w b cs T){n:Nat}(hn:b≠n)(v0 v1 v2 v3:Value) :
  Blk ((((w.setCell ⟨n,0,none⟩ v0).setCell ⟨n,1,none⟩ v1).setCell ⟨n,2,none⟩ v2).setCell ⟨n,3,none⟩ v3) b cs T:=
 (((h.other ⟨n,0,none⟩ hn v0).other ⟨n,1,none⟩ hn v1).other ⟨n,2,none⟩ hn v2).other ⟨n,3,none⟩ hn v3
theorem Blk.drew{w:World}{b:Nat}{cs:Array Value}{T:TypeId}(h:Blk w b cs T):Blk w.drew b cs T:=h
theorem Blk.drewN{w:World}{b:Nat}{cs:Array Value}{T:TypeId}(h:Blk w b cs T)(n:Nat):Blk (w.drewN n) b cs T:=h
theorem zd2{a b:Bool}(h:a=b):Ending.returned (.bool a)=.returned (.bool b):=by rw [h]
theorem Blk.c{w:World}{b:Nat}{cs:Array Value}{T:TypeId}(h:Blk w b cs T)(i:Nat)(v:Value)(hv:cs[i]? = some v):w.cell? ⟨b,i,none⟩=some v:=h.cell hv
theorem Blk.c2{w:World}{b:Nat}{a0 a1:Value}{T:TypeId}(h:Blk w b #[a0,a1] T):w.cell? ⟨b,0,none⟩=some a0∧w.cell? ⟨b,1,none⟩=some a1:=⟨h.cell rfl,h.cell rfl⟩
theorem Blk.f2{w:World}{b:Nat}{cs:Array Value}{T:TypeId}(h:Blk w b cs T):w.frozen? ⟨b,0,none⟩=false∧w.frozen? ⟨b,1,none⟩=false:=⟨h.free 0,h.free 1⟩
theorem Blk.c3{w:World}{b:Nat}{a0 a1 a2:Value}{T:TypeId}(h:Blk w b #[a0,a1,a2] T):w.cell? ⟨b,0,none⟩=some a0∧w.cell? ⟨b,1,none⟩=some a1∧w.cell? ⟨b,2,none⟩=some a2:=⟨h.cell rfl,h.cell rfl,h.cell rfl⟩
theorem Blk.f3{w:World}{b:Nat}{cs:Array Value}{T:TypeId}(h:Blk w b cs T):w.frozen? ⟨b,0,none⟩=false∧w.frozen? ⟨b,1,none⟩=false∧w.frozen? ⟨b,2,none⟩=false:=⟨h.free 0,h.free 1,h.free 2⟩
theorem Blk.c6{w:World}{b:Nat}{a0 a1 a2 a3 a4 a5:Value}{T:TypeId}(h:Blk w b #[a0,a1,a2,a3,a4,a5] T):w.cell? ⟨b,0,none⟩=some a0∧w.cell? ⟨b,1,none⟩=some a1∧w.cell? ⟨b,2,none⟩=some a2∧w.cell? ⟨b,3,none⟩=some a3∧w.cell? ⟨b,4,none⟩=some a4∧w.cell? ⟨b,5,none⟩=some a5:=⟨h.cell rfl,h.cell rfl,h.cell rfl,h.cell rfl,h.cell rfl,h.cell rfl⟩
theorem Blk.f6{w:World}{b:Nat}{cs:Array Value}{T:TypeId}(h:Blk w b cs T):w.frozen? ⟨b,0,none⟩=false∧w.frozen? ⟨b,1,none⟩=false∧w.frozen? ⟨b,2,none⟩=false∧w.frozen? ⟨b,3,none⟩=false∧w.frozen? ⟨b,4,none⟩=false∧w.frozen? ⟨b,5,none⟩=false:=⟨h.free 0,h.free 1,h.free 2,h.free 3,h.free 4,h.free 5⟩
theorem Blk.c8{w:World}{b:Nat}{a0 a1 a2 a3 a4 a5 a6 a7:Value}{T:TypeId}(h:Blk w b #[a0,a1,a2,a3,a4,a5,a6,a7] T):w.cell? ⟨b,0,none⟩=some a0∧w.cell? ⟨b,1,none⟩=some a1∧w.cell? ⟨b,2,none⟩=some a2∧w.cell? ⟨b,3,none⟩=some a3∧w.cell? ⟨b,4,none⟩=some a4∧w.cell? ⟨b,5,none⟩=some a5∧w.cell? ⟨b,6,none⟩=some a6∧w.cell? ⟨b,7,none⟩=some a7:=⟨h.cell rfl,h.cell rfl,h.cell rfl,h.cell rfl,h.cell rfl,h.cell rfl,h.cell rfl,h.cell rfl⟩
theorem Blk.f8{w:World}{b:Nat}{cs:Array Value}{T:TypeId}(h:Blk w b cs T):w.frozen? ⟨b,0,none⟩=false∧w.frozen? ⟨b,1,none⟩=false∧w.frozen? ⟨b,2,none⟩=false∧w.frozen? ⟨b,3,none⟩=false∧w.frozen? ⟨b,4,none⟩=false∧w.frozen? ⟨b,5,none⟩=false∧w.frozen? ⟨b,6,none⟩=false∧w.frozen? ⟨b,7,none⟩=false:=⟨h.free 0,h.free 1,h.free 2,h.free 3,h.free 4,h.free 5,h.free 6,h.free 7⟩
theorem Blk.c14{w:World}{b:Nat}{a0 a1 a2 a3 a4 a5 a6 a7 a8 a9 eR eN eT eB:Value}{T:TypeId}(h:Blk w b #[a0,a1,a2,a3,a4,a5,a6,a7,a8,a9,eR,eN,eT,eB] T):w.cell? ⟨b,0,none⟩=some a0∧w.cell? ⟨b,1,none⟩=some a1∧w.cell? ⟨b,2,none⟩=some a2∧w.cell? ⟨b,3,none⟩=some a3∧w.cell? ⟨b,4,none⟩=some a4∧w.cell? ⟨b,5,none⟩=some a5∧w.cell? ⟨b,6,none⟩=some a6∧w.cell? ⟨b,7,none⟩=some a7∧w.cell? ⟨b,8,none⟩=some a8∧w.cell? ⟨b,9,none⟩=some a9∧w.cell? ⟨b,10,none⟩=some eR∧w.cell? ⟨b,11,none⟩=some eN∧w.cell? ⟨b,12,none⟩=some eT∧w.cell? ⟨b,13,none⟩=some eB:=⟨h.cell rfl,h.cell rfl,h.cell rfl,h.cell rfl,h.cell rfl,h.cell rfl,h.cell rfl,h.cell rfl,h.cell rfl,h.cell rfl,h.cell rfl,h.cell rfl,h.cell rfl,h.cell rfl⟩
theorem Blk.f14{w:World}{b:Nat}{cs:Array Value}{T:TypeId}(h:Blk w b cs T):w.frozen? ⟨b,0,none⟩=false∧w.frozen? ⟨b,1,none⟩=false∧w.frozen? ⟨b,2,none⟩=false∧w.frozen? ⟨b,3,none⟩=false∧w.frozen? ⟨b,4,none⟩=false∧w.frozen? ⟨b,5,none⟩=false∧w.frozen? ⟨b,6,none⟩=false∧w.frozen? ⟨b,7,none⟩=false∧w.frozen? ⟨b,8,none⟩=false∧w.frozen? ⟨b,9,none⟩=false∧w.frozen? ⟨b,10,none⟩=false∧w.frozen? ⟨b,11,none⟩=false∧w.frozen? ⟨b,12,none⟩=false∧w.frozen? ⟨b,13,none⟩=false:=⟨h.free 0,h.free 1,h.free 2,h.free 3,h.free 4,h.free 5,h.free 6,h.free 7,h.free 8,h.free 9,h.free 10,h.free 11,h.free 12,h.free 13⟩
theorem mkf : ∀(fn:Fn) (first cap:Array Value) (w:World),(Instr.makeFunc fn first cap).run Tryz.prog w=.ok (.func fn first cap) w:=fun _ _ _ _=>rfl
theorem Blk.put3{w:World}{R:Nat}{c0 c1 c2:Value}{T:TypeId}(h:Blk w R #[c0,c1,c2] T)(a0 a1 a2:Value) : ∃W,((w.setCell ⟨R,0,none⟩ a0).setCell ⟨R,1,none⟩ a1).setCell ⟨R,2,none⟩ a2=W∧Fr (fun k=>k=R) w W∧Blk W R #[a0,a1,a2] T∧W.heap.size=w.heap.size:=⟨_,rfl,((((Fr.refl (fun k=>k=R) w).setCell ⟨R,0,none⟩ (fun _=>rfl) a0).setCell ⟨R,1,none⟩ (fun _=>rfl) a1).setCell ⟨R,2,none⟩ (fun _=>rfl) a2),by
 have:=(((h.set 0 a0).set 1 a1).set 2 a2);simpa only [List.setIfInBounds_toArray,List.set_cons_zero,List.set_cons_succ] using this,by simp⟩
theorem Blk.put6{w:World}{R:Nat}{c0 c1 c2 c3 c4 c5:Value}{T:TypeId}(h:Blk w R #[c0,c1,c2,c3,c4,c5] T)(a0 a1 a2 a3 a4 a5:Value) : ∃W,(((((w.setCell ⟨R,0,none⟩ a0).setCell ⟨R,1,none⟩ a1).setCell ⟨R,2,none⟩ a2).setCell ⟨R,3,none⟩ a3).setCell ⟨R,4,none⟩ a4).setCell ⟨R,5,none⟩ a5=W∧Fr (fun k=>k=R) w W∧Blk W R #[a0,a1,a2,a3,a4,a5] T∧W.heap.size=w.heap.size:=⟨_,rfl,(((((((Fr.refl (fun k=>k=R) w).setCell ⟨R,0,none⟩ (fun _=>rfl) a0).setCell ⟨R,1,none⟩ (fun _=>rfl) a1).setCell ⟨R,2,none⟩ (fun _=>rfl) a2).setCell ⟨R,3,none⟩ (fun _=>rfl) a3).setCell ⟨R,4,none⟩ (fun _=>rfl) a4).setCell ⟨R,5,none⟩ (fun _=>rfl) a5),by
 have:=((((((h.set 0 a0).set 1 a1).set 2 a2).set 3 a3).set 4 a4).set 5 a5);simpa only [List.setIfInBounds_toArray,List.set_cons_zero,List.set_cons_succ] using this,by simp⟩
theorem Blk.put8{w:World}{R:Nat}{c0 c1 c2 c3 c4 c5 c6 c7:Value}{T:TypeId}(h:Blk w R #[c0,c1,c2,c3,c4,c5,c6,c7] T)(a0 a1 a2 a3 a4 a5 a6 a7:Value) : ∃W,(((((((w.setCell ⟨R,0,none⟩ a0).setCell ⟨R,1,none⟩ a1).setCell ⟨R,2,none⟩ a2).setCell ⟨R,3,none⟩ a3).setCell ⟨R,4,none⟩ a4).setCell ⟨R,5,none⟩ a5).setCell ⟨R,6,none⟩ a6).setCell ⟨R,7,none⟩ a7=W∧Fr (fun k=>k=R) w W∧Blk W R #[a0,a1,a2,a3,a4,a5,a6,a7] T∧W.heap.size=w.heap.size:=⟨_,rfl,(((((((((Fr.refl (fun k=>k=R) w).setCell ⟨R,0,none⟩ (fun _=>rfl) a0).setCell ⟨R,1,none⟩ (fun _=>rfl) a1).setCell ⟨R,2,none⟩ (fun _=>rfl) a2).setCell ⟨R,3,none⟩ (fun _=>rfl) a3).setCell ⟨R,4,none⟩ (fun _=>rfl) a4).setCell ⟨R,5,none⟩ (fun _=>rfl) a5).setCell ⟨R,6,none⟩ (fun _=>rfl) a6).setCell ⟨R,7,none⟩ (fun _=>rfl) a7),by
 have:=((((((((h.set 0 a0).set 1 a1).set 2 a2).set 3 a3).set 4 a4).set 5 a5).set 6 a6).set 7 a7);simpa only [List.setIfInBounds_toArray,List.set_cons_zero,List.set_cons_succ] using this,by simp⟩
theorem Blk.put14{w:World}{R:Nat}{c0 c1 c2 c3 c4 c5 c6 c7 c8 c9 c10 c11 c12 c13:Value}{T:TypeId}(h:Blk w R #[c0,c1,c2,c3,c4,c5,c6,c7,c8,c9,c10,c11,c12,c13] T)(a0 a1 a2 a3 a4 a5 a6 a7 a8 a9 eR eN eT eB:Value) : ∃W,(((((((((((((w.setCell ⟨R,0,none⟩ a0).setCell ⟨R,1,none⟩ a1).setCell ⟨R,2,none⟩ a2).setCell ⟨R,3,none⟩ a3).setCell ⟨R,4,none⟩ a4).setCell ⟨R,5,none⟩ a5).setCell ⟨R,6,none⟩ a6).setCell ⟨R,7,none⟩ a7).setCell ⟨R,8,none⟩ a8).setCell ⟨R,9,none⟩ a9).setCell ⟨R,10,none⟩ eR).setCell ⟨R,11,none⟩ eN).setCell ⟨R,12,none⟩ eT).setCell ⟨R,13,none⟩ eB=W∧Fr (fun k=>k=R) w W∧Blk W R #[a0,a1,a2,a3,a4,a5,a6,a7,a8,a9,eR,eN,eT,eB] T∧W.heap.size=w.heap.size:=⟨_,rfl,(((((((((((((((Fr.refl (fun k=>k=R) w).setCell ⟨R,0,none⟩ (fun _=>rfl) a0).setCell ⟨R,1,none⟩ (fun _=>rfl) a1).setCell ⟨R,2,none⟩ (fun _=>rfl) a2).setCell ⟨R,3,none⟩ (fun _=>rfl) a3).setCell ⟨R,4,none⟩ (fun _=>rfl) a4).setCell ⟨R,5,none⟩ (fun _=>rfl) a5).setCell ⟨R,6,none⟩ (fun _=>rfl) a6).setCell ⟨R,7,none⟩ (fun _=>rfl) a7).setCell ⟨R,8,none⟩ (fun _=>rfl) a8).setCell ⟨R,9,none⟩ (fun _=>rfl) a9).setCell ⟨R,10,none⟩ (fun _=>rfl) eR).setCell ⟨R,11,none⟩ (fun _=>rfl) eN).setCell ⟨R,12,none⟩ (fun _=>rfl) eT).setCell ⟨R,13,none⟩ (fun _=>rfl) eB),by
 have:=((((((((((((((h.set 0 a0).set 1 a1).set 2 a2).set 3 a3).set 4 a4).set 5 a5).set 6 a6).set 7 a7).set 8 a8).set 9 a9).set 10 eR).set 11 eN).set 12 eT).set 13 eB);simpa only [List.setIfInBounds_toArray,List.set_cons_zero,List.set_cons_succ] using this,by simp⟩
theorem qya:type_of% @Lib.hid:=@Lib.hid
theorem qyb:type_of% @Nat.le_refl:=@Nat.le_refl
theorem qyc:type_of% @Nat.lt_of_lt_of_le:=@Nat.lt_of_lt_of_le
theorem qyd:type_of% @World.size_alloc:=@World.size_alloc
theorem qye:type_of% @List.length_append:=@List.length_append
theorem qyf:type_of% @List.getElem?_eq_getElem:=@List.getElem?_eq_getElem
theorem qyg:type_of% @beq_eq_false_iff_ne:=@beq_eq_false_iff_ne
theorem qyh:type_of% @List.length_singleton:=@List.length_singleton
theorem qyi:type_of% @Nat.zero_le:=@Nat.zero_le
theorem qyj:type_of% @Option.some.inj:=@Option.some.inj
theorem qyk:type_of% @decide_eq_false:=@decide_eq_false
theorem qyl:type_of% @decide_eq_true:=@decide_eq_true
theorem qym:type_of% @List.length_drop:=@List.length_drop
theorem qyn:type_of% @decide_eq_false_iff_not:=@decide_eq_false_iff_not
theorem qyo:type_of% @decide_eq_true_eq:=@decide_eq_true_eq
theorem qyp:type_of% @List.getD_eq_getElem?_getD:=@List.getD_eq_getElem?_getD
theorem qyq:type_of% @List.getElem?_append_right:=@List.getElem?_append_right
theorem qyr:type_of% @List.getElem?_append_left:=@List.getElem?_append_left
theorem qys:type_of% @List.tail_drop:=@List.tail_drop
theorem qyt:type_of% @List.take_succ_eq_append_getElem:=@List.take_succ_eq_append_getElem
theorem qyu:type_of% @Nat.le_trans:=@Nat.le_trans
theorem qyv:type_of% @Array.length_toList:=@Array.length_toList
theorem qyw:type_of% @ByteArray.toList_mk:=@ByteArray.toList_mk
theorem qxa:type_of% @List.getElem_toArray:=@List.getElem_toArray
theorem qxb:type_of% @List.getElem_cons_zero:=@List.getElem_cons_zero
theorem qxc:type_of% @List.getElem_cons_succ:=@List.getElem_cons_succ
theorem qxd:type_of% @List.setIfInBounds_toArray:=@List.setIfInBounds_toArray
theorem qxe:type_of% @List.set_cons_zero:=@List.set_cons_zero
theorem qxf:type_of% @List.set_cons_succ:=@List.set_cons_succ
theorem qxg:type_of% @List.size_toArray:=@List.size_toArray
theorem qxh:type_of% @List.length_cons:=@List.length_cons
theorem qxi:type_of% @List.length_nil:=@List.length_nil
theorem qxj:type_of% @Array.replicate_succ:=@Array.replicate_succ
theorem qxk:type_of% @Array.replicate_zero:=@Array.replicate_zero
theorem qxl:type_of% @List.push_toArray:=@List.push_toArray
theorem qxm:type_of% @List.append_toArray:=@List.append_toArray
theorem qxn:type_of% @List.nil_append:=@List.nil_append
theorem qxo:type_of% @List.cons_append:=@List.cons_append
theorem zi9(c:UInt8)(w:World) :
  Calls Tryz.prog 245 #[.int .u8 c.toNat] w fun e w'=>e=.returned (.bool (Lx.za0 c))∧w'=w:=by
 go_enter Tryz.func245,Tryz.ntmps245
 go_wp2
 all_goals
  go_ret;exact⟨zd2 (by rw [Bool.eq_iff_iff];simp [Lx.za0];try omega),rfl⟩
theorem zgn(c:UInt8)(w:World) :
  Calls Tryz.prog 247 #[.int .u8 c.toNat] w fun e w'=>e=.returned (.bool (Lx.zao c))∧w'=w:=by
 go_enter Tryz.func247,Tryz.ntmps247
 go_wp2
 all_goals
  go_ret;exact⟨zd2 (by rw [Bool.eq_iff_iff];simp [Lx.zao];try omega),rfl⟩
theorem zja(c:UInt8)(w:World) :
  Calls Tryz.prog 249 #[.int .u8 c.toNat] w fun e w'=>e=.returned (.bool (Lx.zap c))∧w'=w:=by
 go_enter Tryz.func249,Tryz.ntmps249
 go_wp2
 all_goals
  go_ret;exact⟨zd2 (by rw [Bool.eq_iff_iff];simp [Lx.zap];try omega),rfl⟩
theorem zpi(c:UInt8)(w:World) :
  Calls Tryz.prog 241 #[.int .u8 c.toNat] w fun e w'=>e=.returned (.bool (Lx.zbk c))∧w'=w:=by
 go_enter Tryz.func241,Tryz.ntmps241
 go_wp2
 all_goals
  go_ret;exact⟨zd2 (by rw [Bool.eq_iff_iff];simp [Lx.zbk];try omega),rfl⟩
theorem zsa(c:UInt8)(w:World) :
  Calls Tryz.prog 273 #[.int .u8 c.toNat] w fun e w'=>e=.returned (.bool (Lx.part c))∧w'=w:=by
 go_enter Tryz.func273,Tryz.ntmps273
 go_wp2_with (first | (go_at_call 245;refine (zi9 _ _).mono ?_;rintro e w' ⟨rfl,rfl⟩) | (go_at_call 247;refine (zgn _ _).mono ?_;rintro e w' ⟨rfl,rfl⟩) | (go_at_call 249;refine (zja _ _).mono ?_;rintro e w' ⟨rfl,rfl⟩))
 all_goals
  go_ret;refine⟨zd2 ?_,rfl⟩;rw [Bool.eq_iff_iff];simp [Lx.part, *]
  try omega
theorem za4{c:UInt8}{v:Bool}(hv:Hid (Lx.za0 c=v))(w:World) :
  Calls Tryz.prog 245 #[.int .u8 c.toNat] w fun e w'=>e=.returned (.bool v)∧w'=w:=by
 have h:=zi9 c w;rw [hv.out] at h;exact h
theorem za3{c:UInt8}{v:Bool}(hv:Hid (Lx.zao c=v))(w:World) :
  Calls Tryz.prog 247 #[.int .u8 c.toNat] w fun e w'=>e=.returned (.bool v)∧w'=w:=by
 have h:=zgn c w;rw [hv.out] at h;exact h
theorem za5{c:UInt8}{v:Bool}(hv:Hid (Lx.zap c=v))(w:World) :
  Calls Tryz.prog 249 #[.int .u8 c.toNat] w fun e w'=>e=.returned (.bool v)∧w'=w:=by
 have h:=zja c w;rw [hv.out] at h;exact h
theorem zkt{c:UInt8}{v:Bool}(hv:Hid (Lx.zbk c=v))(w:World) :
  Calls Tryz.prog 241 #[.int .u8 c.toNat] w fun e w'=>e=.returned (.bool v)∧w'=w:=by
 have h:=zpi c w;rw [hv.out] at h;exact h
theorem zde{c:UInt8}{v:Bool}(hv:Hid (Lx.part c=v))(w:World) :
  Calls Tryz.prog 273 #[.int .u8 c.toNat] w fun e w'=>e=.returned (.bool v)∧w'=w:=by
 have h:=zsa c w;rw [hv.out] at h;exact h
structure Sc(w:World)(b:Nat)(t:ByteArray)(p:Nat)(r:Array Value):Prop where
 blk:Blk w b (#[.string t,.int .i64 p]++r) 169
 sz:t.size≤140737488355328
 le:p≤t.size
theorem Sc.text{w:World}{b:Nat}{t:ByteArray}{p:Nat}{r:Array Value}(h:Sc w b t p r):w.cell? ⟨b,0,none⟩=some (.string t):=h.blk.cell (by simp [Array.getElem?_append])
theorem Sc.pos{w:World}{b:Nat}{t:ByteArray}{p:Nat}{r:Array Value}(h:Sc w b t p r):w.cell? ⟨b,1,none⟩=some (.int .i64 p):=h.blk.cell (by simp [Array.getElem?_append])
theorem Sc.free{w:World}{b:Nat}{t:ByteArray}{p:Nat}{r:Array Value}(h:Sc w b t p r)(i:Nat):w.frozen? ⟨b,i,none⟩=false:=h.blk.free i
theorem Sc.move{w:World}{b:Nat}{t:ByteArray}{p:Nat}{r:Array Value}(h:Sc w b t p r)(q:Nat)(hq:q≤t.size):Sc (w.setCell ⟨b,1,none⟩ (.int .i64 q)) b t q r:=
 ⟨by have:=h.blk.set 1 (.int .i64 q);rwa [show (#[Value.string t,.int .i64 (p:Int)]++r).setIfInBounds 1 (.int .i64 q)=#[Value.string t,.int .i64 (q:Int)]++r from by simp [Array.setIfInBounds_append]] at this,h.sz,hq⟩
theorem Sc.keep{S:Nat→Prop}{w w':World}{b:Nat}{t:ByteArray}{p:Nat}{r:Array Value}(h:Sc w b t p r)(hf:Fr S w w')(hn : ¬S b):Sc w' b t p r:=⟨h.blk.keep hf hn,h.sz,h.le⟩
theorem Sc.other{w:World}{b:Nat}{t:ByteArray}{p:Nat}{r:Array Value}(h:Sc w b t p r)(a:Addr)(hp:b≠a.block)(v:Value):Sc (w.setCell a v) b t p r:=⟨h.blk.other a hp v,h.sz,h.le⟩
theorem Sc.alloc{w:World}{b:Nat}{t:ByteArray}{p:Nat}{r:Array Value}(h:Sc w b t p r)(o:Obj):Sc (w.alloc o) b t p r:=⟨h.blk.alloc o,h.sz,h.le⟩
theorem Sc.drewN{w:World}{b:Nat}{t:ByteArray}{p:Nat}{r:Array Value}(h:Sc w b t p r)(n:Nat):Sc (w.drewN n) b t p r:=⟨h.blk,h.sz,h.le⟩
theorem Sc.drew{w:World}{b:Nat}{t:ByteArray}{p:Nat}{r:Array Value}(h:Sc w b t p r):Sc w.drew b t p r:=⟨h.blk,h.sz,h.le⟩
theorem Sc.set4{w:World}{b:Nat}{t:ByteArray}{p:Nat}{r:Array Value}(h:Sc w b t p r){n:Nat}(hn:b≠n)(v0 v1 v2 v3:Value) :
  Sc ((((w.setCell ⟨n,0,none⟩ v0).setCell ⟨n,1,none⟩ v1).setCell ⟨n,2,none⟩ v2).setCell ⟨n,3,none⟩ v3) b t p r:=⟨h.blk.set4other hn v0 v1 v2 v3,h.sz,h.le⟩
abbrev rest(t:ByteArray)(p:Nat):List UInt8:=t.data.toList.drop p
theorem zjy(t:ByteArray)(w:World) :
  Calls Tryz.prog 59 #[.string t] w fun e w'=>e=.returned (.pointer (some ⟨w.heap.size,0,none⟩))∧w'=w.alloc (.cells #[.string t,.int .i64 0,.map none,.map none,.map none,.map none,.map none,.map none,.map none,.slice none 0 0] 169 (0,0)):=by
 go_enter Tryz.func59,Tryz.ntmps59
 go_wp2;go_ret;exact⟨rfl,rfl⟩
theorem zw1(w:World)(b:Nat)(t:ByteArray)(p:Nat)(r:Array Value)(h:Sc w b t p r) :
  Calls Tryz.prog 195 #[.pointer (some ⟨b,0,none⟩)] w fun e w'=>e=.returned (.bool (decide (t.size≤p)))∧∃n,w'=w.drewN n:=by
 have hc0:=h.text;have hc1:=h.pos;have hs:=h.sz;have hl:=h.le
 go_enter Tryz.func195,Tryz.ntmps195
 go_wp2
 go_quiet (fail)
 go_wp2;go_ret;exact⟨rfl,_,rfl⟩
theorem zd8{w:World}{b:Nat}{t:ByteArray}{p:Nat}{r:Array Value}(h:Sc w b t p r){v:Bool}(hv:Hid (decide (t.size≤p)=v)) :
  Calls Tryz.prog 195 #[.pointer (some ⟨b,0,none⟩)] w fun e w'=>e=.returned (.bool v)∧∃n,w'=w.drewN n:=by
 have h:=zw1 w b t p r h;rw [hv.out] at h;exact h
theorem zx3{t:ByteArray}{p n:Nat}(h:p+n<t.size):Lx.peek (rest t p) n=t[p+n]:=by
 unfold Lx.peek;rw [List.getD_eq_getElem?_getD,List.getElem?_drop,List.getElem?_eq_getElem (by simpa using h)];rfl
theorem zqd{t:ByteArray}{p n:Nat}(h:t.size≤p+n):Lx.peek (rest t p) n=0:=by
 unfold Lx.peek;rw [List.getD_eq_getElem?_getD,List.getElem?_drop,List.getElem?_eq_none (by simpa using h)];rfl
theorem zv3(w:World)(b:Nat)(t:ByteArray)(p:Nat)(r:Array Value)(h:Sc w b t p r)(n:Int)(k:Nat)(hn:n=k)(hk:k≤1) :
  Calls Tryz.prog 244 #[.pointer (some ⟨b,0,none⟩),.int .i64 n] w fun e w'=>e=.returned (.int .u8 (Lx.peek (rest t p) k).toNat)∧∃n,w'=w.drewN n:=by
 subst hn;have hc0:=h.text;have hc1:=h.pos;have hs:=h.sz;have hl:=h.le;have e1:IntKind.i64.wrap ((p:Int)+(k:Int))=(p:Int)+(k:Int):=IntWalk.i64_in _ (by omega);have e2:0≤(p:Int)+(k:Int):=by omega
 have e3:((p:Int)+(k:Int)).toNat=p+k:=by omega
 by_cases qx:p+k<t.size
 ·have HP:=qya (zx3 qx);have lT:(p:Int)+(k:Int)<t.size:=by omega
  have jh:decide ((t.size:Int)≤(p:Int)+(k:Int))=false:=by simp;omega
  go_enter Tryz.func244,Tryz.ntmps244
  go_wp2
  go_quiet (fail)
  go_wp2
  go_quiet (fail)
  go_wp2;go_ret;exact⟨by rw [HP.out];rfl,_,World.drewN_drewN _ _ _⟩
 ·have HP:=qya (zqd (Nat.not_lt.1 qx));have lT:(t.size:Int)≤(p:Int)+(k:Int):=by omega
  have jh:decide ((t.size:Int)≤(p:Int)+(k:Int))=true:=by simp;omega
  go_enter Tryz.func244,Tryz.ntmps244
  go_wp2
  go_quiet (fail)
  go_wp2;go_ret;exact⟨by rw [HP.out];rfl,_,rfl⟩
theorem zii{P:UInt8→Bool}{t:ByteArray}{q:Nat}(h:q<t.size)(hp:P t[q]=true):Lx.span P (rest t q)=Lx.span P (rest t (q+1))+1:=by
 unfold rest;rw [List.drop_eq_getElem_cons (by simpa using h)];show (if P t[q]=true then _ else _)=_;rw [if_pos hp]
theorem zih{P:UInt8→Bool}{t:ByteArray}{q:Nat}(h:q<t.size)(hp:P t[q]=false):Lx.span P (rest t q)=0:=by
 unfold rest;rw [List.drop_eq_getElem_cons (by simpa using h)];show (if P t[q]=true then _ else _)=_;rw [if_neg (by simp [hp])]
theorem span_end{P:UInt8→Bool}{t:ByteArray}{q:Nat}(h:t.size≤q):Lx.span P (rest t q)=0:=by
 unfold rest;rw [List.drop_eq_nil_of_le (by simpa using h)];rfl
theorem pass_part(w:World)(b:Nat)(t:ByteArray)(p:Nat)(r:Array Value)(h:Sc w b t p r) :
  Calls Tryz.prog 240 #[.pointer (some ⟨b,0,none⟩),.func (.func 273) #[] #[]] w fun e w'=>e=.returned (.tuple #[])∧Sc w' b t (p+Lx.span Lx.part (rest t p)) r∧But b w w':=by
 go_enter Tryz.func240,Tryz.ntmps240
 go_wp2
 go_loopg [] (t.size-p) (fun k wr=>∃q:Nat,k=t.size-q∧Sc wr b t q r∧q+Lx.span Lx.part (rest t q)=p+Lx.span Lx.part (rest t p)∧But b w wr)
 case atStart=>exact⟨p,rfl,h,rfl,Fr.refl _ _⟩
 case round=>
  obtain⟨q,hk,hq,hs,hf⟩:=hrel;have hc0:=hq.text;have hc1:=hq.pos;have uW:=hq.free 1;have qY:=hq.sz;have qX:=hq.le;have HK:=qya hk;have HS:=qya hs;clear hk hs
  by_cases qx:q<t.size
  ·have hd:Hid (decide (t.size≤q)=false):=qya (by simp;omega);cases hp:Lx.part t[q]
   ·have HP:=qya hp;clear hp;go_wp2
    go_quiet (first | (go_at_call 195;exact Calls.quiet_of (zd8 (hq.drewN _) hd)) | (go_at_call 273;exact Calls.quiet_of_same (zde HP _)))
    go_wp2
    go_end0
    have hz:=zih qx HP.out;rw [hz] at HS;have hs:=HS.out;exact⟨rfl,by rw [← hs];exact hq.drewN _,hf.drewN _⟩
   ·have HP:=qya hp;clear hp;go_wp2
    go_quiet (first | (go_at_call 195;exact Calls.quiet_of (zd8 (hq.drewN _) hd)) | (go_at_call 273;exact Calls.quiet_of_same (zde HP _)))
    go_wp2
    go_roundg (t.size-(q+1))
    case measure=>have:=HK.out;omega
    case rel=>
     refine⟨q+1,rfl,(hq.drewN _).move (q+1) qx,?_,(hf.drewN _).setCell _ (fun _=>rfl) _⟩;have hs:=HS.out;have hz:=zii qx HP.out;omega
  ·have hd:Hid (decide (t.size≤q)=true):=qya (by simp;omega);go_wp2
   go_quiet (first | (go_at_call 195;exact Calls.quiet_of (zd8 (hq.drewN _) hd)))
   go_wp2
   go_end0
   have hz:Lx.span Lx.part (rest t q)=0:=span_end (Nat.not_lt.1 qx);rw [hz] at HS;have hs:=HS.out;exact⟨rfl,by rw [← hs];exact hq.drewN _,hf.drewN _⟩
theorem pass_digit(w:World)(b:Nat)(t:ByteArray)(p:Nat)(r:Array Value)(h:Sc w b t p r) :
  Calls Tryz.prog 240 #[.pointer (some ⟨b,0,none⟩),.func (.func 249) #[] #[]] w fun e w'=>e=.returned (.tuple #[])∧Sc w' b t (p+Lx.span Lx.zap (rest t p)) r∧But b w w':=by
 go_enter Tryz.func240,Tryz.ntmps240
 go_wp2
 go_loopg [] (t.size-p) (fun k wr=>∃q:Nat,k=t.size-q∧Sc wr b t q r∧q+Lx.span Lx.zap (rest t q)=p+Lx.span Lx.zap (rest t p)∧But b w wr)
 case atStart=>exact⟨p,rfl,h,rfl,Fr.refl _ _⟩
 case round=>
  obtain⟨q,hk,hq,hs,hf⟩:=hrel;have hc0:=hq.text;have hc1:=hq.pos;have uW:=hq.free 1;have qY:=hq.sz;have qX:=hq.le;have HK:=qya hk;have HS:=qya hs;clear hk hs
  by_cases qx:q<t.size
  ·have hd:Hid (decide (t.size≤q)=false):=qya (by simp;omega);cases hp:Lx.zap t[q]
   ·have HP:=qya hp;clear hp;go_wp2
    go_quiet (first | (go_at_call 195;exact Calls.quiet_of (zd8 (hq.drewN _) hd)) | (go_at_call 249;exact Calls.quiet_of_same (za5 HP _)))
    go_wp2
    go_end0
    have hz:=zih qx HP.out;rw [hz] at HS;have hs:=HS.out;exact⟨rfl,by rw [← hs];exact hq.drewN _,hf.drewN _⟩
   ·have HP:=qya hp;clear hp;go_wp2
    go_quiet (first | (go_at_call 195;exact Calls.quiet_of (zd8 (hq.drewN _) hd)) | (go_at_call 249;exact Calls.quiet_of_same (za5 HP _)))
    go_wp2
    go_roundg (t.size-(q+1))
    case measure=>have:=HK.out;omega
    case rel=>
     refine⟨q+1,rfl,(hq.drewN _).move (q+1) qx,?_,(hf.drewN _).setCell _ (fun _=>rfl) _⟩;have hs:=HS.out;have hz:=zii qx HP.out;omega
  ·have hd:Hid (decide (t.size≤q)=true):=qya (by simp;omega);go_wp2
   go_quiet (first | (go_at_call 195;exact Calls.quiet_of (zd8 (hq.drewN _) hd)))
   go_wp2
   go_end0
   have hz:Lx.span Lx.zap (rest t q)=0:=span_end (Nat.not_lt.1 qx);rw [hz] at HS;have hs:=HS.out;exact⟨rfl,by rw [← hs];exact hq.drewN _,hf.drewN _⟩
theorem pass_space(w:World)(b:Nat)(t:ByteArray)(p:Nat)(r:Array Value)(h:Sc w b t p r) :
  Calls Tryz.prog 240 #[.pointer (some ⟨b,0,none⟩),.func (.func 241) #[] #[]] w fun e w'=>e=.returned (.tuple #[])∧Sc w' b t (p+Lx.span Lx.zbk (rest t p)) r∧But b w w':=by
 go_enter Tryz.func240,Tryz.ntmps240
 go_wp2
 go_loopg [] (t.size-p) (fun k wr=>∃q:Nat,k=t.size-q∧Sc wr b t q r∧q+Lx.span Lx.zbk (rest t q)=p+Lx.span Lx.zbk (rest t p)∧But b w wr)
 case atStart=>exact⟨p,rfl,h,rfl,Fr.refl _ _⟩
 case round=>
  obtain⟨q,hk,hq,hs,hf⟩:=hrel;have hc0:=hq.text;have hc1:=hq.pos;have uW:=hq.free 1;have qY:=hq.sz;have qX:=hq.le;have HK:=qya hk;have HS:=qya hs;clear hk hs
  by_cases qx:q<t.size
  ·have hd:Hid (decide (t.size≤q)=false):=qya (by simp;omega);cases hp:Lx.zbk t[q]
   ·have HP:=qya hp;clear hp;go_wp2
    go_quiet (first | (go_at_call 195;exact Calls.quiet_of (zd8 (hq.drewN _) hd)) | (go_at_call 241;exact Calls.quiet_of_same (zkt HP _)))
    go_wp2
    go_end0
    have hz:=zih qx HP.out;rw [hz] at HS;have hs:=HS.out;exact⟨rfl,by rw [← hs];exact hq.drewN _,hf.drewN _⟩
   ·have HP:=qya hp;clear hp;go_wp2
    go_quiet (first | (go_at_call 195;exact Calls.quiet_of (zd8 (hq.drewN _) hd)) | (go_at_call 241;exact Calls.quiet_of_same (zkt HP _)))
    go_wp2
    go_roundg (t.size-(q+1))
    case measure=>have:=HK.out;omega
    case rel=>
     refine⟨q+1,rfl,(hq.drewN _).move (q+1) qx,?_,(hf.drewN _).setCell _ (fun _=>rfl) _⟩;have hs:=HS.out;have hz:=zii qx HP.out;omega
  ·have hd:Hid (decide (t.size≤q)=true):=qya (by simp;omega);go_wp2
   go_quiet (first | (go_at_call 195;exact Calls.quiet_of (zd8 (hq.drewN _) hd)))
   go_wp2
   go_end0
   have hz:Lx.span Lx.zbk (rest t q)=0:=span_end (Nat.not_lt.1 qx);rw [hz] at HS;have hs:=HS.out;exact⟨rfl,by rw [← hs];exact hq.drewN _,hf.drewN _⟩
abbrev tokV(k n:Int)(s:ByteArray)(p:Int):Value:=.agg #[.int .i64 k,.int .i64 n,.string s,.int .i64 p]
theorem zvs(w:World)(b:Nat)(t:ByteArray)(p:Nat)(r:Array Value)(h:Sc w b t p r)(n:Int)(k:Nat)(hn:n=k)(hk:k≤2)(hp:p+k≤t.size) :
  Calls Tryz.prog 251 #[.pointer (some ⟨b,0,none⟩),.int .i64 n] w fun e w'=>e=.returned (tokV 6 0 (t.extract p (p+k)) p)∧Sc w' b t (p+k) r∧But b w w':=by
 subst hn;have hc0:=h.text;have hc1:=h.pos;have hf:=h.free 1;have hs:=h.sz;have hl:=h.le;have hb:=h.blk.lt
 go_enter Tryz.func251,Tryz.ntmps251
 go_wp2;have e2:0≤(p:Int)+(k:Int):=by omega
 have e3:((p:Int)+(k:Int)).toNat=p+k:=by omega
 have e4:(p:Int)+(k:Int)≤t.size:=by omega
 go_region
 go_wp2;refine bodyPost_ret (v:=tokV 6 0 (t.extract p (p+k)) p) (by simp [results,Tryz.results251,go_sem,tokV]) rfl ⟨rfl,?_,?_⟩
 ·exact ((h.move (p+k) hp).alloc _).drew
 ·exact (((But.refl b w).setCell ⟨b,1,none⟩ (fun _=>rfl) _).alloc _).drew
abbrev zs1(p e:Int):Value:=.iface 171 (.agg #[.int .i64 p,.int .i64 e])
abbrev pan(p e:Int):Ending:=.panicked [{ v:=zs1 p e,recovered:=false }]
theorem named_long(w:World)(b:Nat)(t:ByteArray)(p:Nat)(r:Array Value)(h:Sc w b t p r)(k s:Int)(q:Nat)(hs:s=q)(hq:q≤p)(hl:24<p-q) :
  Calls Tryz.prog 274 #[.pointer (some ⟨b,0,none⟩),.int .i64 k,.int .i64 s] w fun e w'=>e=pan q 2∧Old w w':=by
 subst hs;have hc0:=h.text;have hc1:=h.pos;have hz:=h.sz;have qX:=h.le;have hb:=h.blk.lt;have h1:(24:Int)<(p:Int)-(q:Int):=by omega
 go_enter Tryz.func274,Tryz.ntmps274
 go_wp2;exact⟨rfl,rfl,(Old.refl w).alloc _⟩
theorem znp(w:World)(b:Nat)(t:ByteArray)(p:Nat)(r:Array Value)(h:Sc w b t p r)(k s:Int)(q:Nat)(hs:s=q)(hq:q≤p)(hl:p-q≤24) :
  Calls Tryz.prog 274 #[.pointer (some ⟨b,0,none⟩),.int .i64 k,.int .i64 s] w fun e w'=>e=.returned (tokV k 0 (t.extract q p) q)∧Old w w':=by
 subst hs;have hc0:=h.text;have hc1:=h.pos;have hz:=h.sz;have qX:=h.le;have hb:=h.blk.lt;have h1:(p:Int)-(q:Int)≤24:=by omega
 go_enter Tryz.func274,Tryz.ntmps274
 go_wp2
 go_region
 go_wp2;refine bodyPost_ret (v:=tokV k 0 (t.extract q p) q) (by simp [results,Tryz.results274,go_sem,tokV]) rfl ⟨rfl,?_⟩;exact ((Old.refl w).alloc _).drew
theorem zla(w:World)(b:Nat)(t:ByteArray)(p:Nat)(r:Array Value)(h:Sc w b t p r)(hp:p<t.size)(hl:24<1+Lx.span Lx.part (rest t (p+1))) :
  Calls Tryz.prog 248 #[.pointer (some ⟨b,0,none⟩)] w fun e w'=>e=pan p 2∧But b w w':=by
 have hc0:=h.text;have hc1:=h.pos;have hf:=h.free 1;have hz:=h.sz;have qX:=h.le;have hb:=h.blk.lt
 go_enter Tryz.func248,Tryz.ntmps248
 go_wp2_with fail
 refine (pass_part _ b t (p+1) r ((h.move (p+1) hp).alloc _)).mono ?_;rintro e w1 ⟨rfl,h1,f1⟩
 go_wp2_with fail
 refine (named_long w1 b t _ r h1 _ _ p rfl (by omega) (by omega)).mono ?_;rintro e w2 ⟨rfl,f2⟩;go_wp2;exact⟨rfl,rfl,((((But.refl b w).setCell ⟨b,1,none⟩ (fun _=>rfl) _).alloc _).trans f1).trans (f2.but b)⟩
theorem zms(w:World)(b:Nat)(t:ByteArray)(p:Nat)(r:Array Value)(h:Sc w b t p r)(hp:p<t.size)(n:Nat)(hn:p+n=p+1+Lx.span Lx.part (rest t (p+1)))(hl:n≤24) :
  Calls Tryz.prog 248 #[.pointer (some ⟨b,0,none⟩)] w fun e w'=>e=.returned (tokV 4 0 (t.extract p (p+n)) p)∧Sc w' b t (p+n) r∧But b w w':=by
 have hc0:=h.text;have hc1:=h.pos;have hf:=h.free 1;have hz:=h.sz;have qX:=h.le;have hb:=h.blk.lt
 go_enter Tryz.func248,Tryz.ntmps248
 go_wp2_with fail
 refine (pass_part _ b t (p+1) r ((h.move (p+1) hp).alloc _)).mono ?_;rw [← hn];rintro e w1 ⟨rfl,h1,f1⟩;have HN:=qya hn;clear hn;have k1:=(Blk.new' (zat _ _ _).symm _ _).keep f1 (show ¬w.heap.size=b by omega)
 go_wp2_with fail
 refine (znp w1 b t _ r h1 _ _ p rfl (by omega) (by omega)).mono ?_;rintro e w2 ⟨rfl,f2⟩;obtain⟨c0,c1,c2,c3,g0,g1,g2,g3⟩:=(k1.keep f2 (by simp)).four;go_wp2;refine bodyPost_ret (v:=tokV 4 0 (t.extract p (p+n)) p) (by simp [results,Tryz.results248,go_sem,tokV,c0,c1,c2,c3]) rfl ⟨rfl,?_,?_⟩
 ·exact (h1.keep f2 (by simp)).set4 (by omega) _ _ _ _
 ·exact (((((But.refl b w).setCell ⟨b,1,none⟩ (fun _=>rfl) _).alloc _).trans f1).trans (f2.but b)).set4 (qyb _) _ _ _ _
def IsSet(w:World)(b n:Nat)(L:List (List UInt8)):Prop:=
 ∃D:DataW Unit,w.ownsMap Tryz.prog 9 (plainElem Tryz.prog 4) b n D∧Maps.IsMap D∧∀l:List UInt8,D.atKey (.string l) (.lit (.bool false))=.lit (.bool (L.contains l))
theorem IsSet.lt{w:World}{b n:Nat}{L:List (List UInt8)}(h:IsSet w b n L):b<w.heap.size:=by
 obtain⟨D,h1,_⟩:=h;exact h1.lt
theorem IsSet.made(w:World):IsSet (w.alloc (.map #[] 0)) w.heap.size 0 []:=
 ⟨.map [],World.ownsMap_made w _ _ _,⟨[],rfl⟩,fun l=>rfl⟩
theorem IsSet.keep{S:Nat→Prop}{w w':World}{b n:Nat}{L:List (List UInt8)}(h:IsSet w b n L)(hf:Fr S w w')(hn : ¬S b):IsSet w' b n L:=by
 obtain⟨D,⟨es,vu,hb,F,r⟩,h2⟩:=h;exact⟨D,⟨es,vu,hf.heap hb hn,F,r⟩,h2⟩
theorem IsSet.ne{w:World}{b n c:Nat}{L:List (List UInt8)}(h:IsSet w b n L){cs:Array Value}{T:TypeId}{f:Nat×Nat}(hc:w.heap[c]? = some (.cells cs T f)):b≠c:=by
 obtain⟨D,⟨es,vu,hb,_⟩,_⟩:=h;rintro rfl;rw [hc] at hb;cases hb
theorem zgg{P:Program}{e:TypeId}(he:P.underlying e=some .bool){v:Value}{x:Bool}(h:plainElem (H:=Unit) P e v=some (.lit (.bool x),[])):v=.bool x:=by
 unfold plainElem at h;rw [he] at h;cases v <;> simp_all
theorem zvv{P:Program}{t k e:TypeId}(hk:P.underlying k=some .string)(he:P.underlying e=some .bool)(ht:P.underlying t=some (.map k e)){w:World}(hz:(zeroValue e).run P w=.ok (.bool false) w){b n:Nat}{L:List (List UInt8)}{D:DataW Unit}
  (h1:w.ownsMap P k (plainElem P e) b n D)(h3 : ∀l:List UInt8,D.atKey (.string l) (.lit (.bool false))=.lit (.bool (L.contains l)))(s:ByteArray)(hs:s.size≤maxLen) :
  (Instr.lookup t (.map (some b)) (.string s) false).run P w=.ok (.bool (L.contains s.data.toList)) w:=by
 obtain⟨v,ps,xA,hv⟩:=h1.lookup (Maps.string_keyed hk) ht hz (plainElem_bool he false) (WideMaps.keyOf_string_mk hk hs);rw [h3] at hv;have:ps=[]:=plainElem_places hv;subst this;rw [zgg he hv] at xA;exact xA
theorem zre{P:Program}{t k e:TypeId}(hk:P.underlying k=some .string)(he:P.underlying e=some .bool)(ht:P.underlying t=some (.map k e)){w:World}{ops:Array Oper}{rest:List Oper}{o:Oper}{a:Act}{Q:Exit→Act→World→Prop}
  (hg:o.guard=none)(m x v:Operand)(fB:o.op=Op.insert t m x v)(b n:Nat)(L:List (List UInt8))(key:ByteArray)
  (hm:a.eval m=.map (some b))(hx:a.eval x=.string key)(hv:a.eval v=.bool true){D:DataW Unit}(h1:w.ownsMap P k (plainElem P e) b n D)(h2:Maps.IsMap D)
  (h3 : ∀l:List UInt8,D.atKey (.string l) (.lit (.bool false))=.lit (.bool (L.contains l)))(hn:n<1000)(hks:key.size≤1000)
  (hK : ∀w' (D':DataW Unit),w'.ownsMap P k (plainElem P e) b (n+1) D'→Maps.IsMap D'→(∀l:List UInt8,D'.atKey (.string l) (.lit (.bool false))=.lit (.bool ((key.data.toList::L).contains l)))→w.grownBy w' (some b)→wpList P ops Q rest (a.put o.dst undef) w') :
  wpList P ops Q (o::rest) a w:=by
 refine wpList_plain hg fun K' hK' => ?_;have hk':key.size≤maxLen:=by unfold maxLen;omega
 obtain⟨w',xA,r1,r2⟩:=h1.update (Maps.string_keyed hk) ht (by unfold maxLen;omega) (WideMaps.keyOf_string_mk hk hk') (plainElem_bool he true);unfold Oper.wp;simp [execOp,fB,hm,hx,hv,xA,Result.andThen];refine hK' _ _ (hK w' _ r1 (h2.put _ _) (fun l => ?_) r2)
 by_cases e:l=key.data.toList
 ·subst e;rw [Maps.atKey_put_same h2 (by simp [WideAt.IsKeyLit])];simp
 ·rw [Maps.atKey_put_other (by simpa using e),h3];simp [e]
theorem IsSet.look{w:World}{b n:Nat}{L:List (List UInt8)}(h:IsSet w b n L)(s:ByteArray)(hs:s.size≤maxLen) :
  (Instr.lookup 165 (.map (some b)) (.string s) false).run Tryz.prog w=.ok (.bool (L.contains s.data.toList)) w:=by
 obtain⟨D,h1,_,h3⟩:=h;have hz:(zeroValue 4).run Tryz.prog w=.ok (.bool false) w:=by kernel_rfl
 exact zvv Tryz.underlying9 Tryz.underlying4 Tryz.underlying165 hz h1 h3 s hs
theorem zbj{w:World}{ops:Array Oper}{rest:List Oper}{o:Oper}{a:Act}{Q:Exit→Act→World→Prop}
  (hg:o.guard=none)(m x v:Operand)(fB:o.op=Op.insert 165 m x v)(b n:Nat)(L:List (List UInt8))(key:ByteArray)
  (hm:a.eval m=.map (some b))(hx:a.eval x=.string key)(hv:a.eval v=.bool true)(qz:IsSet w b n L)(hn:n<1000)(hk:key.size≤1000)
  (hK : ∀w',IsSet w' b (n+1) (key.data.toList::L)→w.grownBy w' (some b)→wpList Tryz.prog ops Q rest (a.put o.dst undef) w') :
  wpList Tryz.prog ops Q (o::rest) a w:=by
 obtain⟨D,h1,h2,h3⟩:=qz;exact zre Tryz.underlying9 Tryz.underlying4 Tryz.underlying165 hg m x v fB b n L key hm hx hv h1 h2 h3 hn hk (fun w' D' a b c d=>hK w' ⟨D',a,b,c⟩ d)
def zk9(n:Nat):List (List UInt8):=Lx.words.filter (fun l=>l.length==n)
def WordMap(w:World)(b n:Nat):Prop:=∃k L,IsSet w b k L∧∀l,L.contains l=(zk9 n).contains l
theorem WordMap.lt{w:World}{b n:Nat}(h:WordMap w b n):b<w.heap.size:=by
 obtain⟨k,L,h1,_⟩:=h;exact h1.lt
theorem WordMap.keep{S:Nat→Prop}{w w':World}{b n:Nat}(h:WordMap w b n)(hf:Fr S w w')(hn : ¬S b):WordMap w' b n:=by
 obtain⟨k,L,h1,h2⟩:=h;exact⟨k,L,h1.keep hf hn,h2⟩
theorem WordMap.ne{w:World}{b n c:Nat}(h:WordMap w b n){cs:Array Value}{T:TypeId}{f:Nat×Nat}(hc:w.heap[c]? = some (.cells cs T f)):b≠c:=by
 obtain⟨k,L,h1,_⟩:=h;exact h1.ne hc
theorem zgu{n:Nat}{l:List UInt8}(hl:l.length=n):(zk9 n).contains l=Lx.isWord l:=by
 rw [Bool.eq_iff_iff];unfold zk9 Lx.isWord;simp [hl]
theorem WordMap.look{w:World}{b n:Nat}(h:WordMap w b n)(s:ByteArray)(hs:s.size=n)(hn:n≤6) :
  (Instr.lookup 165 (.map (some b)) (.string s) false).run Tryz.prog w=.ok (.bool (Lx.isWord s.data.toList)) w:=by
 obtain⟨k,L,h1,h2⟩:=h;rw [h1.look s (by unfold maxLen;omega),h2,zgu (by simpa using hs)]
theorem zoe(w:World) :
  Calls Tryz.prog 288 #[.int .i64 2] w fun e w'=>e=.returned (.map (some w.heap.size))∧WordMap w' w.heap.size 2∧Old w w':=by
 have hmm:=@run_makeMap Tryz.prog;have zm:=IsSet.made w;have uW:=(Old.refl w).alloc (.map #[] 0)
 go_enter Tryz.func288,Tryz.ntmps288
 go_wp2_with (refine zbj rfl _ _ _ rfl _ _ _ _ rfl rfl rfl zm (by decide) (by decide) ?_;clear zm;intro w1 zm g1;have uW:=uW.grown g1 (fun k e1 e2=>by cases e1;exact absurd e2 (Nat.lt_irrefl _));clear g1)
 go_ret;refine⟨rfl,⟨_,_,zm,fun l => ?_⟩,uW⟩;simp only [List.contains_eq_mem,decide_eq_decide];exact List.Perm.mem_iff (by decide)
theorem zk8(w:World) :
  Calls Tryz.prog 288 #[.int .i64 3] w fun e w'=>e=.returned (.map (some w.heap.size))∧WordMap w' w.heap.size 3∧Old w w':=by
 have hmm:=@run_makeMap Tryz.prog;have zm:=IsSet.made w;have uW:=(Old.refl w).alloc (.map #[] 0)
 go_enter Tryz.func288,Tryz.ntmps288
 go_wp2_with (refine zbj rfl _ _ _ rfl _ _ _ _ rfl rfl rfl zm (by decide) (by decide) ?_;clear zm;intro w1 zm g1;have uW:=uW.grown g1 (fun k e1 e2=>by cases e1;exact absurd e2 (Nat.lt_irrefl _));clear g1)
 go_ret;refine⟨rfl,⟨_,_,zm,fun l => ?_⟩,uW⟩;simp only [List.contains_eq_mem,decide_eq_decide];exact List.Perm.mem_iff (by decide)
theorem zmq(w:World) :
  Calls Tryz.prog 288 #[.int .i64 4] w fun e w'=>e=.returned (.map (some w.heap.size))∧WordMap w' w.heap.size 4∧Old w w':=by
 have hmm:=@run_makeMap Tryz.prog;have zm:=IsSet.made w;have uW:=(Old.refl w).alloc (.map #[] 0)
 go_enter Tryz.func288,Tryz.ntmps288
 go_wp2_with (refine zbj rfl _ _ _ rfl _ _ _ _ rfl rfl rfl zm (by decide) (by decide) ?_;clear zm;intro w1 zm g1;have uW:=uW.grown g1 (fun k e1 e2=>by cases e1;exact absurd e2 (Nat.lt_irrefl _));clear g1)
 go_ret;refine⟨rfl,⟨_,_,zm,fun l => ?_⟩,uW⟩;simp only [List.contains_eq_mem,decide_eq_decide];exact List.Perm.mem_iff (by decide)
theorem zmr(w:World) :
  Calls Tryz.prog 288 #[.int .i64 5] w fun e w'=>e=.returned (.map (some w.heap.size))∧WordMap w' w.heap.size 5∧Old w w':=by
 have hmm:=@run_makeMap Tryz.prog;have zm:=IsSet.made w;have uW:=(Old.refl w).alloc (.map #[] 0)
 go_enter Tryz.func288,Tryz.ntmps288
 go_wp2_with (refine zbj rfl _ _ _ rfl _ _ _ _ rfl rfl rfl zm (by decide) (by decide) ?_;clear zm;intro w1 zm g1;have uW:=uW.grown g1 (fun k e1 e2=>by cases e1;exact absurd e2 (Nat.lt_irrefl _));clear g1)
 go_ret;refine⟨rfl,⟨_,_,zm,fun l => ?_⟩,uW⟩;simp only [List.contains_eq_mem,decide_eq_decide];exact List.Perm.mem_iff (by decide)
theorem zof(w:World) :
  Calls Tryz.prog 288 #[.int .i64 6] w fun e w'=>e=.returned (.map (some w.heap.size))∧WordMap w' w.heap.size 6∧Old w w':=by
 have hmm:=@run_makeMap Tryz.prog;have zm:=IsSet.made w;have uW:=(Old.refl w).alloc (.map #[] 0)
 go_enter Tryz.func288,Tryz.ntmps288
 go_wp2_with (refine zbj rfl _ _ _ rfl _ _ _ _ rfl rfl rfl zm (by decide) (by decide) ?_;clear zm;intro w1 zm g1;have uW:=uW.grown g1 (fun k e1 e2=>by cases e1;exact absurd e2 (Nat.lt_irrefl _));clear g1)
 go_ret;refine⟨rfl,⟨_,_,zm,fun l => ?_⟩,uW⟩;simp only [List.contains_eq_mem,decide_eq_decide];exact List.Perm.mem_iff (by decide)
theorem zmp(w:World)(n:Int)(h0:0≤n)(h:n<2) :
  Calls Tryz.prog 288 #[.int .i64 n] w fun e w'=>e=.returned (.map none)∧w'=w:=by
 have h2:(n==2)=false:=beq_eq_false_iff_ne.2 (by omega);have h3:(n==3)=false:=beq_eq_false_iff_ne.2 (by omega);have h4:(n==4)=false:=beq_eq_false_iff_ne.2 (by omega);have h5:(n==5)=false:=beq_eq_false_iff_ne.2 (by omega);have h6:(n==6)=false:=beq_eq_false_iff_ne.2 (by omega)
 go_enter Tryz.func288,Tryz.ntmps288
 go_wp2;go_ret;exact⟨rfl,rfl⟩
structure Words(w:World)(r:Array Value):Prop where
 size:r.size=8
 at_ : ∀i,i<7→r[i]? = some (.map none)∨∃m,r[i]? = some (.map (some m))∧WordMap w m i
theorem Words.keep{S:Nat→Prop}{w w':World}{r:Array Value}(h:Words w r)(hf:Fr S w w')(hn : ∀k,S k→∃cs T f,w.heap[k]? = some (.cells cs T f)):Words w' r:=
 ⟨h.size,fun i hi=>(h.at_ i hi).imp id (fun ⟨m,h1,h2⟩=>⟨m,h1,h2.keep hf (fun e=>by
  obtain⟨cs,T,f,hc⟩:=hn m e;exact h2.ne hc rfl)⟩)⟩
theorem Sc.cell{w:World}{b:Nat}{t:ByteArray}{p:Nat}{r:Array Value}(h:Sc w b t p r){i:Nat}{v:Value}(hv:r[i]? = some v):w.cell? ⟨b,2+i,none⟩=some v:=
 h.blk.cell (by rw [Array.getElem?_append_right (by simp)];simpa using hv)
theorem zpf(w:World)(b:Nat)(t:ByteArray)(p:Nat)(r:Array Value)(h:Sc w b t p r)(s:ByteArray)(hs:s.size≤6)(m:Nat)(hm:r[s.size]? = some (.map (some m)))(hw:WordMap w m s.size) :
  Calls Tryz.prog 275 #[.pointer (some ⟨b,0,none⟩),.string s] w fun e w'=>e=.returned (.bool (Lx.isWord s.data.toList))∧w'=w:=by
 have qT : ∀(w:World) (r:Option Nat),(binOp .eql 165 (.map r) (.map none)).run Tryz.prog w=.ok (.bool r.isNone) w:=fun w r=>run_eql_map_nil w _ _ _ r Tryz.underlying165;have hc:=h.cell hm;have hl:=hw.look s rfl hs;have lU:(s.size:Int)≤6:=by omega
 go_enter Tryz.func275,Tryz.ntmps275
 go_wp2;go_ret;exact⟨rfl,rfl⟩
theorem zmo(w:World)(n:Nat)(h:2≤n)(h':n≤6) :
  Calls Tryz.prog 288 #[.int .i64 n] w fun e w'=>e=.returned (.map (some w.heap.size))∧WordMap w' w.heap.size n∧Old w w':=by
 have:n=2∨n=3∨n=4∨n=5∨n=6:=by omega
 rcases this with rfl | rfl | rfl | rfl | rfl
 ·exact zoe w
 ·exact zk8 w
 ·exact zmq w
 ·exact zmr w
 ·exact zof w
theorem zl0{l:List UInt8}(h:6<l.length):Lx.isWord l=false:=by
 have : ∀x∈Lx.words,x.length≤6:=by decide
 cases hc:Lx.isWord l
 ·rfl
 ·have:=this l (by simpa [Lx.isWord] using hc);omega
theorem zjz{l:List UInt8}(h:l.length<2):Lx.isWord l=false:=by
 have : ∀x∈Lx.words,2≤x.length:=by decide
 cases hc:Lx.isWord l
 ·rfl
 ·have:=this l (by simpa [Lx.isWord] using hc);omega
theorem zpe(w:World)(b:Nat)(s:ByteArray)(hs:6<s.size)(vE:s.size≤140737488355328) :
  Calls Tryz.prog 275 #[.pointer (some ⟨b,0,none⟩),.string s] w fun e w'=>e=.returned (.bool (Lx.isWord s.data.toList))∧w'=w:=by
 have hl:=qya (zl0 (l:=s.data.toList) (by simpa using hs));have lU:6<(s.size:Int):=by omega
 go_enter Tryz.func275,Tryz.ntmps275
 go_wp2;go_ret;exact⟨zd2 hl.out.symm,rfl⟩
theorem Sc.put{w:World}{b:Nat}{t:ByteArray}{p:Nat}{r:Array Value}(h:Sc w b t p r)(i:Nat)(v:Value):Sc (w.setCell ⟨b,2+i,none⟩ v) b t p (r.setIfInBounds i v):=
 ⟨by have:=h.blk.set (2+i) v;rwa [show (#[Value.string t,.int .i64 (p:Int)]++r).setIfInBounds (2+i) v=#[Value.string t,.int .i64 (p:Int)]++r.setIfInBounds i v from by simp [Array.setIfInBounds_append]] at this,h.sz,h.le⟩
theorem zvu{r:Array Value}{i:Nat}{v:Value}(h:r[i]? = some v):r.setIfInBounds i v=r:=by
 apply Array.ext_getElem?;intro j;rw [Array.getElem?_setIfInBounds];split
 ·rename_i e;subst e;obtain⟨qx,_⟩:=Array.getElem?_eq_some_iff.1 h;rw [if_pos qx,h]
 ·rfl
theorem zpc(w:World)(b:Nat)(t:ByteArray)(p:Nat)(r:Array Value)(h:Sc w b t p r)(s:ByteArray)(hs:s.size<2)(hm:r[s.size]? = some (.map none)) :
  Calls Tryz.prog 275 #[.pointer (some ⟨b,0,none⟩),.string s] w fun e w'=>e=.returned (.bool (Lx.isWord s.data.toList))∧Sc w' b t p r∧But b w w':=by
 have qT : ∀(w:World) (r:Option Nat),(binOp .eql 165 (.map r) (.map none)).run Tryz.prog w=.ok (.bool r.isNone) w:=fun w r=>run_eql_map_nil w _ _ _ r Tryz.underlying165;have tA : ∀w,(Instr.lookup 165 (.map none) (.string s) false).run Tryz.prog w=.ok (.bool false) w:=fun w=>by kernel_rfl
 have hl:=qya (zjz (l:=s.data.toList) (by simpa using hs));have hc:=h.cell hm;have hf:=h.free (2+s.size);have lU:(s.size:Int)≤6:=by omega
 have hs7:(s.size:Int)<7:=by omega
 go_enter Tryz.func275,Tryz.ntmps275
 go_wp2
 go_region_with (go_at_call 288;refine (zmp _ _ (by omega) (by omega)).mono ?_;rintro e w' ⟨rfl,rfl⟩)
 all_goals
  go_wp2;go_ret;have h2:=(h.put s.size (.map none)).drew;rw [zvu hm] at h2;exact⟨zd2 hl.out.symm,h2,((But.refl b w).setCell ⟨b,2+s.size,none⟩ (fun _=>rfl) _).drew⟩
theorem zog(w:World)(n:Int)(k:Nat)(hn:n=k)(h:2≤k)(h':k≤6) :
  Calls Tryz.prog 288 #[.int .i64 n] w fun e w'=>e=.returned (.map (some w.heap.size))∧WordMap w' w.heap.size k∧Old w w':=hn▸zmo w k h h'
theorem zpd(w:World)(b:Nat)(t:ByteArray)(p:Nat)(r:Array Value)(h:Sc w b t p r)(s:ByteArray)(hs:2≤s.size)(hs6:s.size≤6)(hm:r[s.size]? = some (.map none)) :
  Calls Tryz.prog 275 #[.pointer (some ⟨b,0,none⟩),.string s] w fun e w'=>e=.returned (.bool (Lx.isWord s.data.toList))∧∃m,Sc w' b t p (r.setIfInBounds s.size (.map (some m)))∧WordMap w' m s.size∧But b w w':=by
 have qT : ∀(w:World) (r:Option Nat),(binOp .eql 165 (.map r) (.map none)).run Tryz.prog w=.ok (.bool r.isNone) w:=fun w r=>run_eql_map_nil w _ _ _ r Tryz.underlying165;have hc:=h.cell hm;have hf:=h.free (2+s.size);have lU:(s.size:Int)≤6:=by omega
 have hs7:(s.size:Int)<7:=by omega
 go_enter Tryz.func275,Tryz.ntmps275
 go_wp2
 go_region_with (go_at_call 288;refine (zog _ _ s.size rfl hs hs6).mono ?_;rintro e w2 ⟨rfl,xS,hf2⟩;have hc2:=(h.drew.keep hf2 (by simp)).cell hm;have xW:=(h.drew.keep hf2 (by simp)).free (2+s.size))
 all_goals
  have zh : ¬w.heap.size=b:=fun e=>by have:=h.blk.lt;omega
  have p8:WordMap w2 w.heap.size s.size:=xS;have tL:=p8.keep ((But.refl b w2).setCell ⟨b,2+s.size,none⟩ (fun _=>rfl) (.map (some w.heap.size))) zh;have hl:=tL.look s rfl hs6;go_wp2;go_ret;refine⟨rfl,w.heap.size,(h.drew.keep hf2 (by simp)).put _ _,tL,?_⟩;have:=(But.refl b w).drew.trans (hf2.but b);exact this.setCell ⟨b,2+s.size,none⟩ (fun _=>rfl) _
def St(w:World)(b:Nat)(t:ByteArray)(p:Nat)(v:Value):Prop:=∃r,Sc w b t p r∧Words w r∧r[7]? = some v
theorem Sc.cells{w:World}{b:Nat}{t:ByteArray}{p:Nat}{r:Array Value}(h:Sc w b t p r) : ∃cs T f,w.heap[b]? = some (.cells cs T f):=⟨_,_,_,h.blk⟩
theorem Words.but{w w':World}{b:Nat}{t:ByteArray}{p:Nat}{r r':Array Value}(hw:Words w r)(h:Sc w b t p r')(hf:But b w w'):Words w' r:=
 hw.keep hf (fun k e=>by subst e;exact h.cells)
theorem St.step{w w':World}{b:Nat}{t:ByteArray}{p q:Nat}{r:Array Value}{v:Value}(h:Sc w b t p r)(hw:Words w r)(hv:r[7]? = some v)(h':Sc w' b t q r)(hf:But b w w'):St w' b t q v:=
 ⟨r,h',hw.but h hf,hv⟩
theorem St.lt{w:World}{b:Nat}{t:ByteArray}{p:Nat}{v:Value}(h:St w b t p v):b<w.heap.size:=let ⟨_,h,_⟩:=h;h.blk.lt
theorem St.keep{S:Nat→Prop}{w w':World}{b:Nat}{t:ByteArray}{p:Nat}{v:Value}(h:St w b t p v)(hf:Fr S w w')(hb : ¬S b)(hn : ∀k,S k→∃cs T f,w.heap[k]? = some (.cells cs T f)):St w' b t p v:=by
 obtain⟨r,h1,h2,h3⟩:=h;exact⟨r,h1.keep hf hb,h2.keep hf hn,h3⟩
theorem St.old{w w':World}{b:Nat}{t:ByteArray}{p:Nat}{v:Value}(h:St w b t p v)(hf:Old w w'):St w' b t p v:=h.keep hf (by simp) (fun k e=>e.elim)
theorem St.alloc{w:World}{b:Nat}{t:ByteArray}{p:Nat}{v:Value}(h:St w b t p v)(o:Obj):St (w.alloc o) b t p v:=h.old ((Old.refl w).alloc o)
theorem zr8(w:World)(b:Nat)(t:ByteArray)(p:Nat)(v:Value)(h:St w b t p v)(s:ByteArray)(hs:s.size≤140737488355328) :
  Calls Tryz.prog 275 #[.pointer (some ⟨b,0,none⟩),.string s] w fun e w'=>e=.returned (.bool (Lx.isWord s.data.toList))∧St w' b t p v∧But b w w':=by
 obtain⟨r,h1,h2,h3⟩:=h
 by_cases h6:6<s.size
 ·refine (zpe w b s h6 hs).mono ?_;rintro e w' ⟨he,rfl⟩;exact⟨he,⟨r,h1,h2,h3⟩,But.refl b _⟩
 ·rcases h2.at_ s.size (by omega) with hm | ⟨m,hm,hw⟩
  ·by_cases vE:s.size<2
   ·refine (zpc w b t p r h1 s vE hm).mono ?_;rintro e w' ⟨he,yd,hf⟩;exact⟨he,⟨r,yd,h2.but h1 hf,h3⟩,hf⟩
   ·refine (zpd w b t p r h1 s (by omega) (by omega) hm).mono ?_;rintro e w' ⟨he,m,yd,hw,hf⟩;refine⟨he,⟨_,yd,⟨by rw [Array.size_setIfInBounds];exact h2.size,fun i hi => ?_⟩,?_⟩,hf⟩
    ·by_cases e:s.size=i
     ·subst e;exact .inr ⟨m,by rw [Array.getElem?_setIfInBounds_self_of_lt (by rw [h2.size];omega)],hw⟩
     ·rw [Array.getElem?_setIfInBounds_ne e];exact (h2.but h1 hf).at_ i hi
    ·rw [Array.getElem?_setIfInBounds_ne (by omega)];exact h3
  ·refine (zpf w b t p r h1 s (by omega) m hm hw).mono ?_;rintro e w' ⟨he,rfl⟩;exact⟨he,⟨r,h1,h2,h3⟩,But.refl b _⟩
theorem St.pass_part{w:World}{b:Nat}{t:ByteArray}{p:Nat}{v:Value}(h:St w b t p v) :
  Calls Tryz.prog 240 #[.pointer (some ⟨b,0,none⟩),.func (.func 273) #[] #[]] w fun e w'=>e=.returned (.tuple #[])∧St w' b t (p+Lx.span Lx.part (rest t p)) v∧But b w w':=by
 obtain⟨r,h1,h2,h3⟩:=h;exact (Go.Proofs.YtclgbmmambkiaaaGreatDoor.pass_part w b t p r h1).mono (fun e w' ⟨he,yd,hf⟩=>⟨he,St.step h1 h2 h3 yd hf,hf⟩)
theorem St.pass_digit{w:World}{b:Nat}{t:ByteArray}{p:Nat}{v:Value}(h:St w b t p v) :
  Calls Tryz.prog 240 #[.pointer (some ⟨b,0,none⟩),.func (.func 249) #[] #[]] w fun e w'=>e=.returned (.tuple #[])∧St w' b t (p+Lx.span Lx.zap (rest t p)) v∧But b w w':=by
 obtain⟨r,h1,h2,h3⟩:=h;exact (Go.Proofs.YtclgbmmambkiaaaGreatDoor.pass_digit w b t p r h1).mono (fun e w' ⟨he,yd,hf⟩=>⟨he,St.step h1 h2 h3 yd hf,hf⟩)
theorem St.pass_space{w:World}{b:Nat}{t:ByteArray}{p:Nat}{v:Value}(h:St w b t p v) :
  Calls Tryz.prog 240 #[.pointer (some ⟨b,0,none⟩),.func (.func 241) #[] #[]] w fun e w'=>e=.returned (.tuple #[])∧St w' b t (p+Lx.span Lx.zbk (rest t p)) v∧But b w w':=by
 obtain⟨r,h1,h2,h3⟩:=h;exact (Go.Proofs.YtclgbmmambkiaaaGreatDoor.pass_space w b t p r h1).mono (fun e w' ⟨he,yd,hf⟩=>⟨he,St.step h1 h2 h3 yd hf,hf⟩)
theorem St.drewN{w:World}{b:Nat}{t:ByteArray}{p:Nat}{v:Value}(h:St w b t p v)(n:Nat):St (w.drewN n) b t p v:=h.old ((Old.refl w).drewN n)
theorem St.drew{w:World}{b:Nat}{t:ByteArray}{p:Nat}{v:Value}(h:St w b t p v):St w.drew b t p v:=h.old (Old.refl w).drew
theorem St.move{w:World}{b:Nat}{t:ByteArray}{p:Nat}{v:Value}(h:St w b t p v)(q:Nat)(hq:q≤t.size):St (w.setCell ⟨b,1,none⟩ (.int .i64 q)) b t q v:=by
 obtain⟨r,h1,h2,h3⟩:=h;exact St.step h1 h2 h3 (h1.move q hq) ((But.refl b w).setCell ⟨b,1,none⟩ (fun _=>rfl) _)
theorem St.set4{w:World}{b:Nat}{t:ByteArray}{p:Nat}{v:Value}(h:St w b t p v){n:Nat}{cs:Array Value}{T:TypeId}(hn:Blk w n cs T)(hb:b≠n)(v0 v1 v2 v3:Value) :
  St ((((w.setCell ⟨n,0,none⟩ v0).setCell ⟨n,1,none⟩ v1).setCell ⟨n,2,none⟩ v2).setCell ⟨n,3,none⟩ v3) b t p v:=
 h.keep (((((Fr.refl (fun k=>k=n) w).setCell ⟨n,0,none⟩ (fun _=>rfl) v0).setCell ⟨n,1,none⟩ (fun _=>rfl) v1).setCell ⟨n,2,none⟩ (fun _=>rfl) v2).setCell ⟨n,3,none⟩ (fun _=>rfl) v3) hb (fun k e=>by subst e;exact⟨_,_,_,hn⟩)
theorem St.sz{w:World}{b:Nat}{t:ByteArray}{p:Nat}{v:Value}(h:St w b t p v):t.size≤140737488355328:=let ⟨_,h,_⟩:=h;h.sz
theorem St.le{w:World}{b:Nat}{t:ByteArray}{p:Nat}{v:Value}(h:St w b t p v):p≤t.size:=let ⟨_,h,_⟩:=h;h.le
theorem St.text{w:World}{b:Nat}{t:ByteArray}{p:Nat}{v:Value}(h:St w b t p v):w.cell? ⟨b,0,none⟩=some (.string t):=let ⟨_,h,_⟩:=h;h.text
theorem St.pos{w:World}{b:Nat}{t:ByteArray}{p:Nat}{v:Value}(h:St w b t p v):w.cell? ⟨b,1,none⟩=some (.int .i64 p):=let ⟨_,h,_⟩:=h;h.pos
theorem St.free{w:World}{b:Nat}{t:ByteArray}{p:Nat}{v:Value}(h:St w b t p v)(i:Nat):w.frozen? ⟨b,i,none⟩=false:=let ⟨_,h,_⟩:=h;h.free i
theorem St.peek{w:World}{b:Nat}{t:ByteArray}{p:Nat}{v:Value}(h:St w b t p v)(n:Int)(k:Nat)(hn:n=k)(hk:k≤1){c:UInt8}(hc:Hid (Lx.peek (rest t p) k=c)) :
  Calls Tryz.prog 244 #[.pointer (some ⟨b,0,none⟩),.int .i64 n] w fun e w'=>e=.returned (.int .u8 c.toNat)∧∃n,w'=w.drewN n:=by
 obtain⟨r,h1,h2,h3⟩:=h;have h:=zv3 w b t p r h1 n k hn hk;rw [hc.out] at h;exact h
theorem St.isWord{w:World}{b:Nat}{t:ByteArray}{p:Nat}{v:Value}(h:St w b t p v)(s:ByteArray)(hs:s.size≤140737488355328){x:Bool}(hx:Hid (Lx.isWord s.data.toList=x)) :
  Calls Tryz.prog 275 #[.pointer (some ⟨b,0,none⟩),.string s] w fun e w'=>e=.returned (.bool x)∧St w' b t p v∧But b w w':=by
 have h:=zr8 w b t p v h s hs;rw [hx.out] at h;exact h
theorem St.named{w:World}{b:Nat}{t:ByteArray}{p:Nat}{v:Value}(h:St w b t p v)(k s:Int)(q:Nat)(hs:s=q)(hq:q≤p)(hl:p-q≤24) :
  Calls Tryz.prog 274 #[.pointer (some ⟨b,0,none⟩),.int .i64 k,.int .i64 s] w fun e w'=>e=.returned (tokV k 0 (t.extract q p) q)∧Old w w':=by
 obtain⟨r,h1,h2,h3⟩:=h;exact znp w b t p r h1 k s q hs hq hl
theorem St.named_long{w:World}{b:Nat}{t:ByteArray}{p:Nat}{v:Value}(h:St w b t p v)(k s:Int)(q:Nat)(hs:s=q)(hq:q≤p)(hl:24<p-q) :
  Calls Tryz.prog 274 #[.pointer (some ⟨b,0,none⟩),.int .i64 k,.int .i64 s] w fun e w'=>e=pan q 2∧Old w w':=by
 obtain⟨r,h1,h2,h3⟩:=h;exact Go.Proofs.YtclgbmmambkiaaaGreatDoor.named_long w b t p r h1 k s q hs hq hl
theorem St.set1{w:World}{b:Nat}{t:ByteArray}{p:Nat}{v:Value}(h:St w b t p v){n:Nat}{cs:Array Value}{T:TypeId}(hn:Blk w n cs T)(hb:b≠n)(i:Nat)(x:Value) :
  St (w.setCell ⟨n,i,none⟩ x) b t p v:=
 h.keep ((Fr.refl (fun k=>k=n) w).setCell ⟨n,i,none⟩ (fun _=>rfl) x) hb (fun k e=>by subst e;exact⟨_,_,_,hn⟩)
theorem zr4(w:World)(b:Nat)(t:ByteArray)(p:Nat)(v:Value)(h:St w b t p v)(k:Int)(n:Nat)(c d:UInt8)(x:Bool)
  (hn:p+n=p+Lx.span Lx.part (rest t p))(hc:Hid (Lx.peek (rest t (p+n)) 0=c))(hd:Hid (Lx.peek (rest t (p+n)) 1=d))(gy:(c.toNat:Int)≠39)
  (hp:p+n≤t.size)(hl:n≤24)(hx:Hid (Lx.isWord (t.extract p (p+n)).data.toList=x)) :
  Calls Tryz.prog 246 #[.pointer (some ⟨b,0,none⟩),.int .i64 k] w fun e w'=>e=.returned (tokV (if x=true then 5 else k) 0 (t.extract p (p+n)) p)∧St w' b t (p+n) v∧But b w w':=by
 have hc0:=h.text;have hc1:=h.pos;have hs:=h.sz;have qX:=h.le;have hb:=h.lt;have b8:((c.toNat:Int)==39)=false:=beq_eq_false_iff_ne.2 gy
 go_enter Tryz.func246,Tryz.ntmps246
 go_wp2_with fail
 refine (h.alloc _).pass_part.mono ?_;rw [← hn];rintro e w1 ⟨rfl,h1,f1⟩;have HN:=qya hn;clear hn;have k1:=(Blk.new' (b:=w.heap.size) rfl _ _).keep f1 (show ¬w.heap.size=b by omega)
 go_wp2_with fail
 refine (h1.peek _ 0 rfl (by omega) hc).mono ?_;rintro e w2 ⟨rfl,nn,rfl⟩;have hS:=h1.drewN nn;have kR:=k1.drewN nn;have FR:=(((But.refl b w).alloc _).trans f1).drewN nn
 go_wp2_with fail
 refine (hS.named _ _ p rfl (by omega) (by omega)).mono ?_;rintro e w3 ⟨rfl,f3⟩;have h3:=hS.old f3;have k3:=kR.keep f3 (by simp);have uw:=k3.lt;have wv:=h3.lt;have qY:(t.extract p (p+n)).size≤140737488355328:=by simp;omega
 have F3:=FR.trans (f3.but b)
 go_wp2_with fail
 refine ((h3.alloc _).isWord _ qY hx).mono ?_;rintro e w4 ⟨rfl,h4,f4⟩;have kb:=(Blk.new' (b:=w3.heap.size) rfl _ _).keep f4 (show ¬w3.heap.size=b by omega);have k4:=(k3.alloc _).keep f4 (show ¬w.heap.size=b by omega);obtain⟨a0,a1,a2,a3,b0,b1,b2,b3⟩:=kb.four;obtain⟨c0,c1,c2,c3,g0,g1,g2,g3⟩:=k4.four;have zh : ¬w3.heap.size=w.heap.size:=by omega
 have F4:=(F3.alloc _).trans f4;clear f4 f3 F3;cases x
 ·go_wp2;refine bodyPost_ret (v:=tokV k 0 (t.extract p (p+n)) p) (by simp [results,Tryz.results246,go_sem,tokV,c0,c1,c2,c3]) rfl ⟨rfl,?_,?_⟩
  ·exact h4.set4 k4 (by omega) _ _ _ _
  ·exact F4.set4 (qyb _) _ _ _ _
 ·go_wp2;have k5:=k4.other ⟨w3.heap.size,0,none⟩ (show w.heap.size≠w3.heap.size by omega) (.int .i64 5);obtain⟨c0,c1,c2,c3,g0,g1,g2,g3⟩:=k5.four;refine bodyPost_ret (v:=tokV 5 0 (t.extract p (p+n)) p) (by simp [results,Tryz.results246,go_sem,tokV,c0,c1,c2,c3]) rfl ⟨rfl,?_,?_⟩
  ·exact (h4.set1 kb (by omega) 0 _).set4 k5 (by omega) _ _ _ _
  ·exact (F4.setCell ⟨w3.heap.size,0,none⟩ (fun e=>absurd e (Nat.not_lt.2 (Nat.le_of_lt uw))) _).set4 (qyb _) _ _ _ _
theorem zi5(w:World)(b:Nat)(t:ByteArray)(p:Nat)(v:Value)(h:St w b t p v)(k:Int)(n:Nat)(c d:UInt8)
  (hn:p+n=p+Lx.span Lx.part (rest t p))(hc:Hid (Lx.peek (rest t (p+n)) 0=c))(hd:Hid (Lx.peek (rest t (p+n)) 1=d))(gy:(c.toNat:Int)≠39)
  (hp:p+n≤t.size)(hl:24<n) :
  Calls Tryz.prog 246 #[.pointer (some ⟨b,0,none⟩),.int .i64 k] w fun e w'=>e=pan p 2∧But b w w':=by
 have hc0:=h.text;have hc1:=h.pos;have hs:=h.sz;have qX:=h.le;have hb:=h.lt;have b8:((c.toNat:Int)==39)=false:=beq_eq_false_iff_ne.2 gy
 go_enter Tryz.func246,Tryz.ntmps246
 go_wp2_with fail
 refine (h.alloc _).pass_part.mono ?_;rw [← hn];rintro e w1 ⟨rfl,h1,f1⟩;have HN:=qya hn;clear hn;have k1:=(Blk.new' (b:=w.heap.size) rfl _ _).keep f1 (show ¬w.heap.size=b by omega)
 go_wp2_with fail
 refine (h1.peek _ 0 rfl (by omega) hc).mono ?_;rintro e w2 ⟨rfl,nn,rfl⟩;have hS:=h1.drewN nn;have kR:=k1.drewN nn;have FR:=(((But.refl b w).alloc _).trans f1).drewN nn
 go_wp2_with fail
 refine (hS.named_long _ _ p rfl (by omega) (by omega)).mono ?_;rintro e w3 ⟨rfl,f3⟩;have F3:=FR.trans (f3.but b);clear f3 FR f1;go_wp2;exact⟨rfl,rfl,F3⟩
theorem zr3(w:World)(b:Nat)(t:ByteArray)(p:Nat)(v:Value)(h:St w b t p v)(k:Int)(n:Nat)(c d:UInt8)(x:Bool)
  (hn:p+n=p+Lx.span Lx.part (rest t p))(hc:Hid (Lx.peek (rest t (p+n)) 0=c))(hd:Hid (Lx.peek (rest t (p+n)) 1=d))(gy:(c.toNat:Int)=39)(ep:Hid (Lx.zap d=false))
  (hp:p+n≤t.size)(hl:n≤24)(hx:Hid (Lx.isWord (t.extract p (p+n)).data.toList=x)) :
  Calls Tryz.prog 246 #[.pointer (some ⟨b,0,none⟩),.int .i64 k] w fun e w'=>e=.returned (tokV (if x=true then 5 else k) 0 (t.extract p (p+n)) p)∧St w' b t (p+n) v∧But b w w':=by
 have hc0:=h.text;have hc1:=h.pos;have hs:=h.sz;have qX:=h.le;have hb:=h.lt;have b8:((c.toNat:Int)==39)=true:=beq_iff_eq.2 gy;have HC:=qya gy;clear gy
 go_enter Tryz.func246,Tryz.ntmps246
 go_wp2_with fail
 refine (h.alloc _).pass_part.mono ?_;rw [← hn];rintro e w1 ⟨rfl,h1,f1⟩;have HN:=qya hn;clear hn;have k1:=(Blk.new' (b:=w.heap.size) rfl _ _).keep f1 (show ¬w.heap.size=b by omega)
 go_wp2_with fail
 refine (h1.peek _ 0 rfl (by omega) hc).mono ?_;rintro e w2 ⟨rfl,nn,rfl⟩
 go_wp2_with fail
 refine ((h1.drewN nn).peek _ 1 rfl (by omega) hd).mono ?_;rintro e w2 ⟨rfl,mm,rfl⟩
 go_wp2_with fail
 refine (za5 ep _).mono ?_;rintro e w2 ⟨rfl,rfl⟩;have hS:=h1.drewN (nn+mm);have kR:=k1.drewN (nn+mm);have FR:=(((But.refl b w).alloc _).trans f1).drewN (nn+mm)
 go_wp2_with fail
 refine (hS.named _ _ p rfl (by omega) (by omega)).mono ?_;rintro e w3 ⟨rfl,f3⟩;have h3:=hS.old f3;have k3:=kR.keep f3 (by simp);have uw:=k3.lt;have wv:=h3.lt;have qY:(t.extract p (p+n)).size≤140737488355328:=by simp;omega
 have F3:=FR.trans (f3.but b)
 go_wp2_with fail
 refine ((h3.alloc _).isWord _ qY hx).mono ?_;rintro e w4 ⟨rfl,h4,f4⟩;have kb:=(Blk.new' (b:=w3.heap.size) rfl _ _).keep f4 (show ¬w3.heap.size=b by omega);have k4:=(k3.alloc _).keep f4 (show ¬w.heap.size=b by omega);obtain⟨a0,a1,a2,a3,b0,b1,b2,b3⟩:=kb.four;obtain⟨c0,c1,c2,c3,g0,g1,g2,g3⟩:=k4.four;have zh : ¬w3.heap.size=w.heap.size:=by omega
 have F4:=(F3.alloc _).trans f4;clear f4 f3 F3;cases x
 ·go_wp2;refine bodyPost_ret (v:=tokV k 0 (t.extract p (p+n)) p) (by simp [results,Tryz.results246,go_sem,tokV,c0,c1,c2,c3]) rfl ⟨rfl,?_,?_⟩
  ·exact h4.set4 k4 (by omega) _ _ _ _
  ·exact F4.set4 (qyb _) _ _ _ _
 ·go_wp2;have k5:=k4.other ⟨w3.heap.size,0,none⟩ (show w.heap.size≠w3.heap.size by omega) (.int .i64 5);obtain⟨c0,c1,c2,c3,g0,g1,g2,g3⟩:=k5.four;refine bodyPost_ret (v:=tokV 5 0 (t.extract p (p+n)) p) (by simp [results,Tryz.results246,go_sem,tokV,c0,c1,c2,c3]) rfl ⟨rfl,?_,?_⟩
  ·exact (h4.set1 kb (by omega) 0 _).set4 k5 (by omega) _ _ _ _
  ·exact (F4.setCell ⟨w3.heap.size,0,none⟩ (fun e=>absurd e (Nat.not_lt.2 (Nat.le_of_lt uw))) _).set4 (qyb _) _ _ _ _
theorem zi4(w:World)(b:Nat)(t:ByteArray)(p:Nat)(v:Value)(h:St w b t p v)(k:Int)(n:Nat)(c d:UInt8)
  (hn:p+n=p+Lx.span Lx.part (rest t p))(hc:Hid (Lx.peek (rest t (p+n)) 0=c))(hd:Hid (Lx.peek (rest t (p+n)) 1=d))(gy:(c.toNat:Int)=39)(ep:Hid (Lx.zap d=false))
  (hp:p+n≤t.size)(hl:24<n) :
  Calls Tryz.prog 246 #[.pointer (some ⟨b,0,none⟩),.int .i64 k] w fun e w'=>e=pan p 2∧But b w w':=by
 have hc0:=h.text;have hc1:=h.pos;have hs:=h.sz;have qX:=h.le;have hb:=h.lt;have b8:((c.toNat:Int)==39)=true:=beq_iff_eq.2 gy;have HC:=qya gy;clear gy
 go_enter Tryz.func246,Tryz.ntmps246
 go_wp2_with fail
 refine (h.alloc _).pass_part.mono ?_;rw [← hn];rintro e w1 ⟨rfl,h1,f1⟩;have HN:=qya hn;clear hn;have k1:=(Blk.new' (b:=w.heap.size) rfl _ _).keep f1 (show ¬w.heap.size=b by omega)
 go_wp2_with fail
 refine (h1.peek _ 0 rfl (by omega) hc).mono ?_;rintro e w2 ⟨rfl,nn,rfl⟩
 go_wp2_with fail
 refine ((h1.drewN nn).peek _ 1 rfl (by omega) hd).mono ?_;rintro e w2 ⟨rfl,mm,rfl⟩
 go_wp2_with fail
 refine (za5 ep _).mono ?_;rintro e w2 ⟨rfl,rfl⟩;have hS:=h1.drewN (nn+mm);have kR:=k1.drewN (nn+mm);have FR:=(((But.refl b w).alloc _).trans f1).drewN (nn+mm)
 go_wp2_with fail
 refine (hS.named_long _ _ p rfl (by omega) (by omega)).mono ?_;rintro e w3 ⟨rfl,f3⟩;have F3:=FR.trans (f3.but b);clear f3 FR f1;go_wp2;exact⟨rfl,rfl,F3⟩
theorem zoz(w:World)(b:Nat)(t:ByteArray)(p:Nat)(v:Value)(h:St w b t p v)(k:Int)(j n:Nat)(c d:UInt8)(x:Bool)
  (hn:p+j=p+Lx.span Lx.part (rest t p))(hc:Hid (Lx.peek (rest t (p+j)) 0=c))(hd:Hid (Lx.peek (rest t (p+j)) 1=d))(gy:(c.toNat:Int)=39)(ep:Hid (Lx.zap d=true))(hj:p+n=p+j+1+Lx.span Lx.zap (rest t (p+j+1)))(qx:p+j+1≤t.size)
  (hp:p+n≤t.size)(hl:n≤24)(hx:Hid (Lx.isWord (t.extract p (p+n)).data.toList=x)) :
  Calls Tryz.prog 246 #[.pointer (some ⟨b,0,none⟩),.int .i64 k] w fun e w'=>e=.returned (tokV (if x=true then 5 else k) 0 (t.extract p (p+n)) p)∧St w' b t (p+n) v∧But b w w':=by
 have hc0:=h.text;have hc1:=h.pos;have hs:=h.sz;have qX:=h.le;have hb:=h.lt;have b8:((c.toNat:Int)==39)=true:=beq_iff_eq.2 gy;have HC:=qya gy;clear gy
 go_enter Tryz.func246,Tryz.ntmps246
 go_wp2_with fail
 refine (h.alloc _).pass_part.mono ?_;rw [← hn];rintro e w1 ⟨rfl,h1,f1⟩;have HN:=qya hn;clear hn;have k1:=(Blk.new' (b:=w.heap.size) rfl _ _).keep f1 (show ¬w.heap.size=b by omega)
 go_wp2_with fail
 refine (h1.peek _ 0 rfl (by omega) hc).mono ?_;rintro e w2 ⟨rfl,nn,rfl⟩
 go_wp2_with fail
 refine ((h1.drewN nn).peek _ 1 rfl (by omega) hd).mono ?_;rintro e w2 ⟨rfl,mm,rfl⟩
 go_wp2_with fail
 refine (za5 ep _).mono ?_;rintro e w2 ⟨rfl,rfl⟩;have q0:=(h1.drewN (nn+mm)).text;have q1:=(h1.drewN (nn+mm)).pos;have q2:=(h1.drewN (nn+mm)).free 1;have lM:((p+j:Nat):Int)=(p:Int)+(j:Int):=by omega
 go_wp2_with fail
 refine (((h1.drewN (nn+mm)).move (p+j+1) qx).pass_digit).mono ?_;have HJ:=qya hj;clear hj;rw [← HJ.out];rintro e w2 ⟨rfl,hS,f2⟩;have kR:=((k1.drewN (nn+mm)).other ⟨b,1,none⟩ (show w.heap.size≠b by omega) _).keep f2 (show ¬w.heap.size=b by omega);have FR:=(((((But.refl b w).alloc _).trans f1).drewN (nn+mm)).setCell ⟨b,1,none⟩ (fun _=>rfl) _).trans f2;clear q0 q1 q2
 go_wp2_with fail
 refine (hS.named _ _ p rfl (by omega) (by omega)).mono ?_;rintro e w3 ⟨rfl,f3⟩;have h3:=hS.old f3;have k3:=kR.keep f3 (by simp);have uw:=k3.lt;have wv:=h3.lt;have qY:(t.extract p (p+n)).size≤140737488355328:=by simp;omega
 have F3:=FR.trans (f3.but b)
 go_wp2_with fail
 refine ((h3.alloc _).isWord _ qY hx).mono ?_;rintro e w4 ⟨rfl,h4,f4⟩;have kb:=(Blk.new' (b:=w3.heap.size) rfl _ _).keep f4 (show ¬w3.heap.size=b by omega);have k4:=(k3.alloc _).keep f4 (show ¬w.heap.size=b by omega);obtain⟨a0,a1,a2,a3,b0,b1,b2,b3⟩:=kb.four;obtain⟨c0,c1,c2,c3,g0,g1,g2,g3⟩:=k4.four;have zh : ¬w3.heap.size=w.heap.size:=by omega
 have F4:=(F3.alloc _).trans f4;clear f4 f3 F3;cases x
 ·go_wp2;refine bodyPost_ret (v:=tokV k 0 (t.extract p (p+n)) p) (by simp [results,Tryz.results246,go_sem,tokV,c0,c1,c2,c3]) rfl ⟨rfl,?_,?_⟩
  ·exact h4.set4 k4 (by omega) _ _ _ _
  ·exact F4.set4 (qyb _) _ _ _ _
 ·go_wp2;have k5:=k4.other ⟨w3.heap.size,0,none⟩ (show w.heap.size≠w3.heap.size by omega) (.int .i64 5);obtain⟨c0,c1,c2,c3,g0,g1,g2,g3⟩:=k5.four;refine bodyPost_ret (v:=tokV 5 0 (t.extract p (p+n)) p) (by simp [results,Tryz.results246,go_sem,tokV,c0,c1,c2,c3]) rfl ⟨rfl,?_,?_⟩
  ·exact (h4.set1 kb (by omega) 0 _).set4 k5 (by omega) _ _ _ _
  ·exact (F4.setCell ⟨w3.heap.size,0,none⟩ (fun e=>absurd e (Nat.not_lt.2 (Nat.le_of_lt uw))) _).set4 (qyb _) _ _ _ _
theorem zhp(w:World)(b:Nat)(t:ByteArray)(p:Nat)(v:Value)(h:St w b t p v)(k:Int)(j n:Nat)(c d:UInt8)
  (hn:p+j=p+Lx.span Lx.part (rest t p))(hc:Hid (Lx.peek (rest t (p+j)) 0=c))(hd:Hid (Lx.peek (rest t (p+j)) 1=d))(gy:(c.toNat:Int)=39)(ep:Hid (Lx.zap d=true))(hj:p+n=p+j+1+Lx.span Lx.zap (rest t (p+j+1)))(qx:p+j+1≤t.size)
  (hp:p+n≤t.size)(hl:24<n) :
  Calls Tryz.prog 246 #[.pointer (some ⟨b,0,none⟩),.int .i64 k] w fun e w'=>e=pan p 2∧But b w w':=by
 have hc0:=h.text;have hc1:=h.pos;have hs:=h.sz;have qX:=h.le;have hb:=h.lt;have b8:((c.toNat:Int)==39)=true:=beq_iff_eq.2 gy;have HC:=qya gy;clear gy
 go_enter Tryz.func246,Tryz.ntmps246
 go_wp2_with fail
 refine (h.alloc _).pass_part.mono ?_;rw [← hn];rintro e w1 ⟨rfl,h1,f1⟩;have HN:=qya hn;clear hn;have k1:=(Blk.new' (b:=w.heap.size) rfl _ _).keep f1 (show ¬w.heap.size=b by omega)
 go_wp2_with fail
 refine (h1.peek _ 0 rfl (by omega) hc).mono ?_;rintro e w2 ⟨rfl,nn,rfl⟩
 go_wp2_with fail
 refine ((h1.drewN nn).peek _ 1 rfl (by omega) hd).mono ?_;rintro e w2 ⟨rfl,mm,rfl⟩
 go_wp2_with fail
 refine (za5 ep _).mono ?_;rintro e w2 ⟨rfl,rfl⟩;have q0:=(h1.drewN (nn+mm)).text;have q1:=(h1.drewN (nn+mm)).pos;have q2:=(h1.drewN (nn+mm)).free 1;have lM:((p+j:Nat):Int)=(p:Int)+(j:Int):=by omega
 go_wp2_with fail
 refine (((h1.drewN (nn+mm)).move (p+j+1) qx).pass_digit).mono ?_;have HJ:=qya hj;clear hj;rw [← HJ.out];rintro e w2 ⟨rfl,hS,f2⟩;have kR:=((k1.drewN (nn+mm)).other ⟨b,1,none⟩ (show w.heap.size≠b by omega) _).keep f2 (show ¬w.heap.size=b by omega);have FR:=(((((But.refl b w).alloc _).trans f1).drewN (nn+mm)).setCell ⟨b,1,none⟩ (fun _=>rfl) _).trans f2;clear q0 q1 q2
 go_wp2_with fail
 refine (hS.named_long _ _ p rfl (by omega) (by omega)).mono ?_;rintro e w3 ⟨rfl,f3⟩;have F3:=FR.trans (f3.but b);clear f3 FR f1;go_wp2;exact⟨rfl,rfl,F3⟩
structure Gl(w:World):Prop where
 lt:6≤w.heap.size
 tab:Lib.TabIs Tryz.prog w "internal/strconv.uint64pow10" .u64 Lib.pow10Tab
 syn : ∃tp p,w.var? Tryz.prog "strconv.ErrSyntax" = some #[.iface tp p]
 ran : ∃tp p,w.var? Tryz.prog "strconv.ErrRange" = some #[.iface tp p]
theorem zwr:Tryz.prog.globalNamed "internal/strconv.uint64pow10" = some 1:=by kernel_rfl
theorem zws:Tryz.prog.globalNamed "strconv.ErrSyntax" = some 2:=by kernel_rfl
theorem zwt:Tryz.prog.globalNamed "strconv.ErrRange" = some 3:=by kernel_rfl
theorem Gl.below{w w':World}(h:Gl w)(hb:Below 6 w w'):Gl w':=by
 obtain⟨tp,p,h1⟩:=h.syn;obtain⟨tq,q,h2⟩:=h.ran;exact⟨qyu h.lt hb.size,var?_below hb zwr (by decide) h.tab,⟨tp,p,var?_below hb zws (by decide) h1⟩,⟨tq,q,var?_below hb zwt (by decide) h2⟩⟩
theorem Gl.keep{S:Nat→Prop}{w w':World}(h:Gl w)(hf:Fr S w w')(hs : ∀k,S k→6≤k):Gl w':=h.below (hf.below h.lt hs)
theorem Gl.old{w w':World}(h:Gl w)(hf:Old w w'):Gl w':=h.keep hf (fun _ e=>e.elim)
theorem Gl.but{w w':World}{b:Nat}(h:Gl w)(hf:But b w w')(hb:6≤b):Gl w':=h.keep hf (fun k e=>e▸hb)
theorem Gl.alloc{w:World}(h:Gl w)(o:Obj):Gl (w.alloc o):=h.old ((Old.refl w).alloc o)
theorem zv7(w:World)(k:Nat)(os:Array Obj):Old w (Go.Sort.grow (w.drewN k) os):=
 ⟨rfl,rfl,rfl,by simp [Go.Sort.grow,World.drewN],fun i hi _=>by
  show (w.heap++os)[i]? = w.heap[i]?;rw [Array.getElem?_append_left hi]⟩
theorem zqm(n:Int)(h0 : -9223372036854775808≤n)(h1:n≤9223372036854775807)(w:World)(hg:Gl w) :
  Calls Tryz.prog 254 #[.int .i64 n] w fun e w'=>e=.returned (.string ⟨(Lib.itoa n).toArray⟩)∧Old w w':=
 (Tryz.strconv_Itoa n h0 h1 w hg.tab).mono (fun e w' ⟨he,k,os,hw⟩=>⟨he,hw▸zv7 w k os⟩)
theorem zyi(n:Int)(hn:n<0)(w:World) :
  Calls Tryz.prog 253 #[.string ⟨(Lib.itoa n).toArray⟩,.string ⟨#[45]⟩] w fun e w'=>e=.returned (.tuple #[.string ⟨(Lib.decDigits n.natAbs).toArray⟩,.bool true])∧w'=w:=by
 have h:=Tryz.strings_CutPrefix ⟨(Lib.itoa n).toArray⟩ ⟨#[45]⟩ w;have e1:Lib.itoa n=45::Lib.decDigits n.natAbs:=by unfold Lib.itoa;rw [if_pos hn]
 have e2:Lib.hasPrefix (Lib.itoa n) [45]=true:=by rw [e1];simp [Lib.hasPrefix]
 have e3:Lib.trimPrefix (Lib.itoa n) [45]=Lib.decDigits n.natAbs:=by unfold Lib.trimPrefix;rw [if_pos e2,e1];rfl
 simp only [e2,e3] at h;exact h
theorem zji(u:Nat) : ∀c∈Lib.decDigits u,48≤c.toNat∧c.toNat≤57:=by
 induction u using Nat.strongRecOn with
 | _ u ih=>
  intro c hc;rw [Lib.decDigits] at hc;split at hc
  ·simp only [List.mem_singleton] at hc;subst hc;rw [UInt8.toNat_ofNat'];omega
  ·rw [List.mem_append] at hc;rcases hc with hc | hc
   ·exact ih (u/10) (by omega) c hc
   ·simp only [List.mem_singleton] at hc;subst hc;rw [UInt8.toNat_ofNat'];omega
theorem zhr(u:Nat)(c:UInt8)(hc:c.toNat<48∨57<c.toNat):Lib.hasPrefix (Lib.decDigits u) [c]=false:=by
 have hd:=zji u;cases h:Lib.decDigits u with
 | nil=>rfl
 | cons a r=>
  have:=hd a (by rw [h];simp);simp only [Lib.hasPrefix,List.isPrefixOf,Bool.and_true];rw [qyg];rintro rfl;omega
theorem zyh(n:Int)(hn : ¬n<0)(w:World) :
  Calls Tryz.prog 253 #[.string ⟨(Lib.itoa n).toArray⟩,.string ⟨#[45]⟩] w fun e w'=>e=.returned (.tuple #[.string ⟨(Lib.decDigits n.toNat).toArray⟩,.bool false])∧w'=w:=by
 have h:=Tryz.strings_CutPrefix ⟨(Lib.itoa n).toArray⟩ ⟨#[45]⟩ w;have e1:Lib.itoa n=Lib.decDigits n.toNat:=by unfold Lib.itoa;rw [if_neg hn]
 have e2:Lib.hasPrefix (Lib.itoa n) [45]=false:=by rw [e1];exact zhr _ _ (.inl (by decide))
 have e3:Lib.trimPrefix (Lib.itoa n) [45]=Lib.decDigits n.toNat:=by unfold Lib.trimPrefix;rw [if_neg (by simp [e2]),e1]
 simp only [e2,e3] at h;exact h
theorem zkq : ∀(k u:Nat),u<10^(k+1)→Lib.nDigits u≤k+1
 | 0,u,h=>by rw [Lib.nDigits_small (by simpa using h)];exact qyb _
 | k+1,u,h=>by
  by_cases hu:u<10
  ·rw [Lib.nDigits_small hu];omega
  ·rw [Lib.nDigits_big hu];have:=zkq k (u/10) (by rw [Nat.pow_succ] at h;omega);omega
theorem zmd(u:Nat)(h:u≤9223372036854775808):(Lib.decDigits u).length≤20:=by
 rw [Lib.decDigits_length];exact zkq 19 u (Nat.lt_of_le_of_lt h (by decide))
theorem zds(n:Int)(h0 : -9223372036854775808≤n)(h1:n≤9223372036854775807)(w:World)(hg:Gl w) :
  Calls Tryz.prog 199 #[.int .i64 n] w fun e w'=>e=.returned (.string ⟨(Lx.zbp n).toArray⟩)∧Old w w':=by
 by_cases hn:n<0
 ·have hd:Lx.zbp n=126::Lib.decDigits n.natAbs:=by unfold Lx.zbp;rw [if_pos hn]
  have hl:=zmd n.natAbs (by omega);rw [hd];clear hd;have tI : ¬9223372036854775807<1+(Lib.decDigits n.natAbs).length:=by omega
  go_enter Tryz.func199,Tryz.ntmps199
  go_wp2_with (first | (go_at_call 254;refine (zqm n h0 h1 _ hg).mono ?_;rintro e w1 ⟨rfl,f1⟩) | (go_at_call 253;refine (zyi n hn _).mono ?_;rintro e w2 ⟨rfl,rfl⟩))
  go_ret;exact⟨rfl,f1⟩
 ·have hd:Lx.zbp n=Lib.decDigits n.toNat:=by unfold Lx.zbp;rw [if_neg hn]
  rw [hd];clear hd;have HC:=qya (zyh n hn);clear hn
  go_enter Tryz.func199,Tryz.ntmps199
  go_wp2_with fail
  refine (zqm n h0 h1 _ hg).mono ?_;rintro e w1 ⟨rfl,f1⟩
  go_wp2_with fail
  refine (HC.out _).mono ?_;rintro e w2 ⟨rfl,rfl⟩;go_wp2;go_ret;exact⟨rfl,f1⟩
theorem zmi(s:ByteArray)(hs:s.size≤140737488355330)(v:Int)(h:Lib.atoiAll s.data.toList=.ok v)(w:World) :
  Calls Tryz.prog 289 #[.string s] w fun e w'=>e=.returned (.tuple #[.int .i64 v,.nilIface])∧Old w w':=
 (Tryz.strconv_Atoi_ok s (by omega) v h w).mono (fun e w' ⟨he,hw⟩=>⟨he,by
  rcases hw with rfl | ⟨t,rfl⟩
  ·exact Old.refl _
  ·exact Old.of_below (Joins.below_bytesWorld _ _ _ _ (qyb _))⟩)
def zym(n:Int)(e:Ending):Prop:=∃T p,e=.returned (.tuple #[.int .i64 n,.iface T p])
theorem zqx(s:ByteArray)(hs:s.size≤140737488355330)(h : ∀v,Lib.atoiAll s.data.toList≠.ok v)(w:World)(hg:Gl w) :
  ∃n,Calls Tryz.prog 289 #[.string s] w fun e w'=>zym n e∧Old w w':=by
 cases hc:Lib.atoiAll s.data.toList
 ·exact absurd hc (h _)
 ·obtain⟨tp,p,hv⟩:=hg.syn;exact⟨0,(Tryz.strconv_Atoi_syntax_var s (by omega) hc tp p w hv).mono (fun e w' ⟨N,he,_,_,hb⟩=>⟨⟨_,_,he⟩,Old.of_below hb⟩)⟩
 ·obtain⟨tp,p,hv⟩:=hg.ran;exact⟨_,(Tryz.strconv_Atoi_range_var s (by omega) hc tp p w hv).mono (fun e w' ⟨N,he,_,_,hb⟩=>⟨⟨_,_,he⟩,Old.of_below hb⟩)⟩
theorem zjj(s:ByteArray)(r:List UInt8)(hs:s.data.toList=126::r)(w:World) :
  Calls Tryz.prog 253 #[.string s,.string ⟨#[126]⟩] w fun e w'=>e=.returned (.tuple #[.string ⟨r.toArray⟩,.bool true])∧w'=w:=by
 have h:=Tryz.strings_CutPrefix s ⟨#[126]⟩ w;have e2:Lib.hasPrefix s.data.toList [126]=true:=by rw [hs];simp [Lib.hasPrefix]
 have e3:Lib.trimPrefix s.data.toList [126]=r:=by unfold Lib.trimPrefix;rw [if_pos e2,hs];rfl
 simp only [e2,e3] at h;exact h
theorem zjk(s:ByteArray)(hs:Lib.hasPrefix s.data.toList [126]=false)(w:World) :
  Calls Tryz.prog 253 #[.string s,.string ⟨#[126]⟩] w fun e w'=>e=.returned (.tuple #[.string s,.bool false])∧w'=w:=by
 have h:=Tryz.strings_CutPrefix s ⟨#[126]⟩ w;have e3:Lib.trimPrefix s.data.toList [126]=s.data.toList:=by unfold Lib.trimPrefix;rw [if_neg (by simp [hs])]
 simp only [hs,e3] at h;exact h
def numV(o:Option Int):Value:=match o with
 | some n=>.tuple #[.int .i64 n,.int .i64 0]
 | none=>.tuple #[.int .i64 0,.int .i64 13]
theorem zht(s:ByteArray)(hs:s.size≤140737488355328)(r:List UInt8)(hr:Hid (s.data.toList=126::r))(hlen:r.length+1≤140737488355328)(w:World)(hg:Gl w)(n:Int)(hE:Hid (Calls Tryz.prog 289 #[.string (⟨#[45]⟩++⟨r.toArray⟩:ByteArray)] w fun e w'=>zym n e∧Old w w')) :
  Calls Tryz.prog 276 #[.string s] w fun e w'=>e=.returned (.tuple #[.int .i64 0,.int .i64 13])∧Old w w':=by
 have tI : ¬9223372036854775807<1+r.length:=by omega
 go_enter Tryz.func276,Tryz.ntmps276
 go_wp2_with fail
 refine (zjj s r hr.out _).mono ?_;rintro e w2 ⟨rfl,rfl⟩
 go_wp2_with fail
 refine hE.out.mono ?_;rintro e w1 ⟨⟨T,q,rfl⟩,f1⟩;go_wp2
 go_ret2
 exact⟨rfl,f1⟩
theorem zjq(s:ByteArray)(hs:s.size≤140737488355328)(r:List UInt8)(hr:Hid (s.data.toList=126::r))(hlen:r.length+1≤140737488355328)(w:World)(hg:Gl w)(n:Int)(hE:Hid (Calls Tryz.prog 289 #[.string (⟨#[45]⟩++⟨r.toArray⟩:ByteArray)] w fun e w'=>e=.returned (.tuple #[.int .i64 n,.nilIface])∧Old w w'))(h0 : -9223372036854775808≤n)(h1:n≤9223372036854775807)(hd:Hid (Lx.zbp n=s.data.toList)) :
  Calls Tryz.prog 276 #[.string s] w fun e w'=>e=.returned (.tuple #[.int .i64 n,.int .i64 0])∧Old w w':=by
 have tI : ¬9223372036854775807<1+r.length:=by omega
 have hq:(Lx.zbp n==s.toList)=true:=by
  rw [Lib.toList_data];simpa using hd.out
 go_enter Tryz.func276,Tryz.ntmps276
 go_wp2_with fail
 refine (zjj s r hr.out _).mono ?_;rintro e w2 ⟨rfl,rfl⟩
 go_wp2_with fail
 refine hE.out.mono ?_;rintro e w1 ⟨rfl,f1⟩
 go_wp2_with fail
 refine (zds n h0 h1 _ (hg.old f1)).mono ?_;rintro e w3 ⟨rfl,f3⟩;go_wp2
 go_ret2
 exact⟨rfl,f1.trans f3⟩
theorem zjp(s:ByteArray)(hs:s.size≤140737488355328)(r:List UInt8)(hr:Hid (s.data.toList=126::r))(hlen:r.length+1≤140737488355328)(w:World)(hg:Gl w)(n:Int)(hE:Hid (Calls Tryz.prog 289 #[.string (⟨#[45]⟩++⟨r.toArray⟩:ByteArray)] w fun e w'=>e=.returned (.tuple #[.int .i64 n,.nilIface])∧Old w w'))(h0 : -9223372036854775808≤n)(h1:n≤9223372036854775807)(hd:Hid (Lx.zbp n≠s.data.toList)) :
  Calls Tryz.prog 276 #[.string s] w fun e w'=>e=.returned (.tuple #[.int .i64 0,.int .i64 13])∧Old w w':=by
 have tI : ¬9223372036854775807<1+r.length:=by omega
 have hq:(Lx.zbp n==s.toList)=false:=by
  rw [Lib.toList_data];simpa using hd.out
 go_enter Tryz.func276,Tryz.ntmps276
 go_wp2_with fail
 refine (zjj s r hr.out _).mono ?_;rintro e w2 ⟨rfl,rfl⟩
 go_wp2_with fail
 refine hE.out.mono ?_;rintro e w1 ⟨rfl,f1⟩
 go_wp2_with fail
 refine (zds n h0 h1 _ (hg.old f1)).mono ?_;rintro e w3 ⟨rfl,f3⟩;go_wp2
 go_ret2
 exact⟨rfl,f1.trans f3⟩
theorem zhu(s:ByteArray)(hs:s.size≤140737488355328)(hr:Hid (Lib.hasPrefix s.data.toList [126]=false))(w:World)(hg:Gl w)(n:Int)(hE:Hid (Calls Tryz.prog 289 #[.string s] w fun e w'=>zym n e∧Old w w')) :
  Calls Tryz.prog 276 #[.string s] w fun e w'=>e=.returned (.tuple #[.int .i64 0,.int .i64 13])∧Old w w':=by
 go_enter Tryz.func276,Tryz.ntmps276
 go_wp2_with fail
 refine (zjk s hr.out _).mono ?_;rintro e w2 ⟨rfl,rfl⟩
 go_wp2_with fail
 refine hE.out.mono ?_;rintro e w1 ⟨⟨T,q,rfl⟩,f1⟩;go_wp2
 go_ret2
 exact⟨rfl,f1⟩
theorem zjs(s:ByteArray)(hs:s.size≤140737488355328)(hr:Hid (Lib.hasPrefix s.data.toList [126]=false))(w:World)(hg:Gl w)(n:Int)(hE:Hid (Calls Tryz.prog 289 #[.string s] w fun e w'=>e=.returned (.tuple #[.int .i64 n,.nilIface])∧Old w w'))(h0 : -9223372036854775808≤n)(h1:n≤9223372036854775807)(hd:Hid (Lx.zbp n=s.data.toList)) :
  Calls Tryz.prog 276 #[.string s] w fun e w'=>e=.returned (.tuple #[.int .i64 n,.int .i64 0])∧Old w w':=by
 have hq:(Lx.zbp n==s.toList)=true:=by
  rw [Lib.toList_data];simpa using hd.out
 go_enter Tryz.func276,Tryz.ntmps276
 go_wp2_with fail
 refine (zjk s hr.out _).mono ?_;rintro e w2 ⟨rfl,rfl⟩
 go_wp2_with fail
 refine hE.out.mono ?_;rintro e w1 ⟨rfl,f1⟩
 go_wp2_with fail
 refine (zds n h0 h1 _ (hg.old f1)).mono ?_;rintro e w3 ⟨rfl,f3⟩;go_wp2
 go_ret2
 exact⟨rfl,f1.trans f3⟩
theorem zjr(s:ByteArray)(hs:s.size≤140737488355328)(hr:Hid (Lib.hasPrefix s.data.toList [126]=false))(w:World)(hg:Gl w)(n:Int)(hE:Hid (Calls Tryz.prog 289 #[.string s] w fun e w'=>e=.returned (.tuple #[.int .i64 n,.nilIface])∧Old w w'))(h0 : -9223372036854775808≤n)(h1:n≤9223372036854775807)(hd:Hid (Lx.zbp n≠s.data.toList)) :
  Calls Tryz.prog 276 #[.string s] w fun e w'=>e=.returned (.tuple #[.int .i64 0,.int .i64 13])∧Old w w':=by
 have hq:(Lx.zbp n==s.toList)=false:=by
  rw [Lib.toList_data];simpa using hd.out
 go_enter Tryz.func276,Tryz.ntmps276
 go_wp2_with fail
 refine (zjk s hr.out _).mono ?_;rintro e w2 ⟨rfl,rfl⟩
 go_wp2_with fail
 refine hE.out.mono ?_;rintro e w1 ⟨rfl,f1⟩
 go_wp2_with fail
 refine (zds n h0 h1 _ (hg.old f1)).mono ?_;rintro e w3 ⟨rfl,f3⟩;go_wp2
 go_ret2
 exact⟨rfl,f1.trans f3⟩
theorem zsq{l:List UInt8}(h:Lib.hasPrefix l [126]=false):Lx.conv l=l:=by
 cases l with
 | nil=>rfl
 | cons c r=>
  have : ¬c=126:=by
   rintro rfl;simp [Lib.hasPrefix] at h
  exact if_neg this
theorem zi2{l:List UInt8}{v:Int}(h:Lib.atoiAll (Lx.conv l)=.ok v)(hd:Lx.zbp v=l):Lx.zbz l=some v:=by
 unfold Lx.zbz;rw [h];simp only;rw [if_pos hd]
theorem zni{l:List UInt8}{v:Int}(h:Lib.atoiAll (Lx.conv l)=.ok v)(hd:Lx.zbp v≠l):Lx.zbz l=none:=by
 unfold Lx.zbz;rw [h];simp only;rw [if_neg hd]
theorem zkm{l:List UInt8}(h : ∀v,Lib.atoiAll (Lx.conv l)≠.ok v):Lx.zbz l=none:=by
 unfold Lx.zbz;split
 ·rename_i n hn;exact absurd hn (h n)
 ·rfl
theorem zk5(s:ByteArray)(hs:s.size≤140737488355328)(w:World)(hg:Gl w) :
  Calls Tryz.prog 276 #[.string s] w fun e w'=>e=.returned (numV (Lx.zbz s.data.toList))∧Old w w':=by
 by_cases hp:Lib.hasPrefix s.data.toList [126]=false
 ·have hc:=zsq hp
  by_cases he : ∃v,Lib.atoiAll s.data.toList=.ok v
  ·obtain⟨v,hv⟩:=he;have hb:=Lib.atoiAll_bounds hv
   by_cases hd:Lx.zbp v=s.data.toList
   ·rw [zi2 (hc.symm▸hv) hd];exact zjs s hs hp w hg v (zmi s (by omega) v hv w) hb.1 hb.2 hd
   ·rw [zni (hc.symm▸hv) hd];exact zjr s hs hp w hg v (zmi s (by omega) v hv w) hb.1 hb.2 hd
  ·have eg : ∀v,Lib.atoiAll s.data.toList≠.ok v:=fun v hv=>he ⟨v,hv⟩;obtain⟨n,hE⟩:=zqx s (by omega) eg w hg;rw [zkm (hc.symm▸eg)];exact zhu s hs hp w hg n hE
 ·have hp':Lib.hasPrefix s.data.toList [126]=true:=by simpa using hp
  obtain⟨r,hr⟩ : ∃r,s.data.toList=126::r:=by
   cases h:s.data.toList with
   | nil=>rw [h] at hp';cases hp'
   | cons c r=>
    rw [h] at hp';simp [Lib.hasPrefix] at hp';exact⟨r,by rw [hp']⟩
  have hlen:r.length+1≤140737488355328:=by
   have:s.data.toList.length=r.length+1:=(by rw [hr];rfl);simp at this;omega
  have hz:(⟨#[45]⟩++⟨r.toArray⟩:ByteArray).data.toList=45::r:=by simp
  have rk:(⟨#[45]⟩++⟨r.toArray⟩:ByteArray).size≤140737488355330:=by
   have:(⟨#[45]⟩++⟨r.toArray⟩:ByteArray).data.toList.length=r.length+1:=(by rw [hz];rfl);simp only [qyv,ByteArray.size_data] at this;omega
  have hc:Lx.conv s.data.toList=45::r:=by rw [hr];rfl
  by_cases he : ∃v,Lib.atoiAll (45::r)=.ok v
  ·obtain⟨v,hv⟩:=he;have hb:=Lib.atoiAll_bounds hv
   by_cases hd:Lx.zbp v=s.data.toList
   ·rw [zi2 (hc.symm▸hv) hd];exact zjq s hs r hr hlen w hg v (zmi _ rk v (hz.symm▸hv) w) hb.1 hb.2 hd
   ·rw [zni (hc.symm▸hv) hd];exact zjp s hs r hr hlen w hg v (zmi _ rk v (hz.symm▸hv) w) hb.1 hb.2 hd
  ·have eg : ∀v,Lib.atoiAll (45::r)≠.ok v:=fun v hv=>he ⟨v,hv⟩;obtain⟨n,hE⟩:=zqx _ rk (hz.symm▸eg) w hg;rw [zkm (hc.symm▸eg)];exact zht s hs r hr hlen w hg n hE
end Go.Proofs.YtclgbmmambkiaaaGreatDoor
namespace Sx
open Lx (Tok)
abbrev B:=List UInt8
inductive Ty where
 | mk (name:B) (args:List Ty)
inductive Pa where
 | mk (kind:Int) (name:B) (args:List Pa)
inductive Ex where
 | mk (kind num:Int) (name arg:B) (args:List Ex) (pats:List Pa)
structure Con where
 name:B
 args:List Ty
structure Fun where
 name:B
 arg:B
 body:Ex
inductive Decl where
 | data (name:B) (vars:List B) (cons:List Con)
 | input (name:B) (type:Ty)
 | funs (fs:List Fun)
 | val (name:B) (body:Ex)
 | output (name:B) (body:Ex)
inductive Res (α : Type) where
 | ok (x : α) (r:List Tok)
 | bad (r:List Tok)
def Res.bind{α β : Type} : Res α→(α→List Tok→Res β)→Res β
 | .ok x r,f=>f x r
 | .bad r,_=>.bad r
def Res.map{α β : Type}(f : α→β):Res α→Res β
 | .ok x r=>.ok (f x) r
 | .bad r=>.bad r
def hd(l:List Tok):Tok:=l.headD { kind:=0,num:=0,text:=[],pos:=0 }
def take(x:B)(l:List Tok):Res Unit:=if (hd l).text=x then .ok () l.tail else .bad l
def zag(k:Int)(l:List Tok):Res B:=if (hd l).kind=k then .ok (hd l).text l.tail else .bad l
def many{α : Type}(b:Tok→Bool)(el:List Tok→Res α):Nat→List Tok→Res (List α)
 | 0,l=>.ok [] l
 | n+1,l=>if (hd l).kind≠0∧b (hd l)=true then (el l).bind fun x r=>(many b el n r).map (x :: ·) else .ok [] l
def more{α : Type}(kj:B)(el:List Tok→Res α):Nat→List Tok→Res (List α)
 | 0,l=>.ok [] l
 | n+1,l=>if (hd l).text=kj then (el l.tail).bind fun x r=>(more kj el n r).map (x :: ·) else .ok [] l
def row{α : Type}(kj:B)(el:List Tok→Res α)(n:Nat)(l:List Tok):Res (List α):=(el l).bind fun x r=>(more kj el n r).map (x :: ·)
def zcd{α : Type}(el:List Tok→Res α)(xu:List α→α)(l:List Tok):Res α:=
 (el l).bind fun x r=>(more [44] el 3 r).bind fun xs r1=>(take [41] r1).map fun _=>match xs with
  | []=>x
  | _=>xu (x::xs)
def arrow:B:=[45,62]
def gives:B:=[61,62]
def wFn:B:=[102,110]
def wLet:B:=[108,101,116]
def wFun:B:=[102,117,110]
def wIn:B:=[105,110]
def zft:B:=[99,97,115,101]
def wOf:B:=[111,102]
def wEnd:B:=[101,110,100]
def wIf:B:=[105,102]
def zdt:B:=[116,104,101,110]
def zcn:B:=[101,108,115,101]
def wData:B:=[100,97,116,97]
def zyp:B:=[105,110,112,117,116]
def wVal:B:=[118,97,108]
def zxr:B:=[111,117,116,112,117,116]
def wAnd:B:=[97,110,100]
def zfh:B:=[84,114,117,101]
def zdh:B:=[70,97,108,115,101]
def za7(t:Tok):Bool:=decide (t.kind=4)||decide (t.kind=3)||decide (t.text=[40])
mutual
def typ:Nat→List Tok→Res Ty
 | 0,l=>.bad l
 | f+1,l=>(zaw f l).bind fun a r=>if (hd r).text=arrow then (typ f r.tail).map fun b=>.mk arrow [a,b] else .ok a r
def zaw:Nat→List Tok→Res Ty
 | 0,l=>.bad l
 | f+1,l=>if (hd l).kind=3 then (many za7 (zak f) l.length l.tail).map fun xs=>.mk (hd l).text xs else zak f l
def zak:Nat→List Tok→Res Ty
 | 0,l=>.bad l
 | f+1,l=>
  if (hd l).kind=4∨(hd l).kind=3 then .ok (.mk (hd l).text []) l.tail
  else if (hd l).text=[40] then zcd (typ f) (.mk [44]) l.tail
  else .bad l
end
def zbo(t:Tok):Bool:=decide (t.kind=2)||decide (t.kind=3)||decide (t.text=[95])||decide (t.text=[40])
mutual
def pat:Nat→List Tok→Res Pa
 | 0,l=>.bad l
 | f+1,l=>if (hd l).kind=3 then (many zbo (zaq f) l.length l.tail).map fun xs=>.mk 3 (hd l).text xs else zaq f l
def zaq:Nat→List Tok→Res Pa
 | 0,l=>.bad l
 | f+1,l=>
  if (hd l).text=[95] then .ok (.mk 1 [] []) l.tail
  else if (hd l).kind=2 then .ok (.mk 2 (hd l).text []) l.tail
  else if (hd l).kind=3 then .ok (.mk 3 (hd l).text []) l.tail
  else if (hd l).text=[40] then zcd (pat f) (.mk 3 [44]) l.tail
  else .bad l
end
def op(s:B)(a b:Ex):Ex:=.mk 9 0 s [] [a,b] []
def chain(el:List Tok→Res Ex)(signs:List B):Nat→Ex→List Tok→Res Ex
 | 0,a,l=>.ok a l
 | n+1,a,l=>if (hd l).kind≠0∧signs.contains (hd l).text=true then (el l.tail).bind fun b r=>chain el signs n (op (hd l).text a b) r else .ok a l
def zai(t:Tok):Bool:=decide (t.kind=1)||decide (t.kind=2)||decide (t.kind=3)||decide (t.text=[40])
def zdz:List B:=[[43],[45]]
def zdc:List B:=[[42],[47],[37]]
mutual
def expr:Nat→List Tok→Res Ex
 | 0,l=>.bad l
 | f+1,l=>
  if (hd l).text=wFn then
   (zag 2 l.tail).bind fun x r=>(take gives r).bind fun _ r=>(expr f r).map fun b=>.mk 5 0 [] x [b] []
  else if (hd l).text=wLet then
   if (hd l.tail).text=wFun then
    (zag 2 l.tail.tail).bind fun n r=>(zag 2 r).bind fun x r=>(take [61] r).bind fun _ r=>(expr f r).bind fun a r=>(take wIn r).bind fun _ r=>(expr f r).map fun b=>.mk 7 0 n x [a,b] []
   else
    (zag 2 l.tail).bind fun n r=>(take [61] r).bind fun _ r=>(expr f r).bind fun a r=>(take wIn r).bind fun _ r=>(expr f r).map fun b=>.mk 6 0 n [] [a,b] []
  else if (hd l).text=zft then
   (expr f l.tail).bind fun a r=>(take wOf r).bind fun _ r=>(row [124] (arm f) l.length r).bind fun xs r=>(take wEnd r).map fun _=>.mk 8 0 [] [] (a::xs.map Prod.snd) (xs.map Prod.fst)
  else if (hd l).text=wIf then
   (expr f l.tail).bind fun a r=>(take zdt r).bind fun _ r=>(expr f r).bind fun b r=>(take zcn r).bind fun _ r=>(expr f r).map fun c=>.mk 8 0 [] [] [a,b,c] [.mk 3 zfh [],.mk 3 zdh []]
  else comp f l
def arm:Nat→List Tok→Res (Pa×Ex)
 | 0,l=>.bad l
 | f+1,l=>(pat (4*l.length+4) l).bind fun p r=>(take gives r).bind fun _ r=>(expr f r).map fun b=>(p,b)
def comp:Nat→List Tok→Res Ex
 | 0,l=>.bad l
 | f+1,l=>(sum f l).bind fun a r=>if (hd r).text=[60]∨(hd r).text=[61] then (sum f r.tail).map fun b=>op (hd r).text a b else .ok a r
def sum:Nat→List Tok→Res Ex
 | 0,l=>.bad l
 | f+1,l=>(prod f l).bind fun a r=>chain (prod f) zdz r.length a r
def prod:Nat→List Tok→Res Ex
 | 0,l=>.bad l
 | f+1,l=>(app f l).bind fun a r=>chain (app f) zdc r.length a r
def app:Nat→List Tok→Res Ex
 | 0,l=>.bad l
 | f+1,l=>
  if (hd l).kind=3 then (many zai (atom f) l.length l.tail).map fun xs=>.mk 3 0 (hd l).text [] xs []
  else (atom f l).bind fun a r=>(many zai (atom f) r.length r).map fun xs=>xs.foldl (fun a b=>.mk 4 0 [] [] [a,b] []) a
def atom:Nat→List Tok→Res Ex
 | 0,l=>.bad l
 | f+1,l=>
  if (hd l).kind=1 then .ok (.mk 1 (hd l).num [] [] [] []) l.tail
  else if (hd l).kind=2 then .ok (.mk 2 0 (hd l).text [] [] []) l.tail
  else if (hd l).kind=3 then .ok (.mk 3 0 (hd l).text [] [] []) l.tail
  else if (hd l).text=[40] then zcd (expr f) (fun xs=>.mk 3 0 [44] [] xs []) l.tail
  else .bad l
end
def fuel(l:List Tok):Nat:=8*l.length+8
def zcb(l:List Tok):Res Ex:=expr (fuel l) l
def pTyp(l:List Tok):Res Ty:=typ (fuel l) l
def con(l:List Tok):Res Con:=(zag 3 l).bind fun n r=>(many za7 (fun l=>zak (fuel l) l) r.length r).map fun xs=>⟨n,xs⟩
def defn(l:List Tok):Res (B×Ex):=(zag 2 l).bind fun n r=>(take [61] r).bind fun _ r=>(zcb r).map fun b=>(n,b)
def func(l:List Tok):Res Fun:=(zag 2 l).bind fun n r=>(defn r).map fun x=>⟨n,x.1,x.2⟩
def decl(l:List Tok):Res Decl:=
 if (hd l).text=wData then
  (zag 3 l.tail).bind fun n r=>(many (fun t=>decide (t.kind=4)) (zag 4) r.length r).bind fun vs r=>(take [61] r).bind fun _ r=>(row [124] con r.length r).map fun cs=>.data n vs cs
 else if (hd l).text=zyp then
  (zag 2 l.tail).bind fun n r=>(take [58] r).bind fun _ r=>(pTyp r).map fun t=>.input n t
 else if (hd l).text=wVal then (defn l.tail).map fun x=>.val x.1 x.2
 else if (hd l).text=zxr then (defn l.tail).map fun x=>.output x.1 x.2
 else if (hd l).text=wFun then (row wAnd func l.length l.tail).map fun fs=>.funs fs
 else .bad l
def decls:Nat→List Tok→Res (List Decl)
 | 0,l=>.ok [] l
 | n+1,l=>if (hd l).kind≠0 then (decl l).bind fun d r=>(take [59] r).bind fun _ r=>(decls n r).map (d :: ·) else .ok [] l
def whole{α : Type} : Res α→Except (List Tok) α
 | .ok x []=>.ok x
 | .ok _ r=>.error r
 | .bad r=>.error r
def Few(N:Nat)(l:List Tok):Prop:=(∀t∈l,t.text.length≤N)∧l.length≤N
theorem Few.tail{N:Nat}{l:List Tok}(h:Few N l):Few N l.tail:=⟨fun t ht=>h.1 t (List.mem_of_mem_tail ht),by have:=h.2;simp;omega⟩
theorem Few.hd{N:Nat}{l:List Tok}(h:Few N l):(hd l).text.length≤N:=by
 cases l with
 | nil=>exact Nat.zero_le _
 | cons a r=>exact h.1 a (List.mem_cons_self ..)
def Fine{α : Type}(N:Nat)(P : α→Nat→Prop)(l:List Tok)(r:Res α):Prop:=
 match r with
 | .ok x rest=>Few N rest∧rest.length≤l.length∧P x (l.length-rest.length)
 | .bad rest=>rest.length≤l.length
theorem Fine.bad{α : Type}{N:Nat}{P : α→Nat→Prop}(l:List Tok):Fine N P l (.bad l:Res α):=Nat.le_refl _
def Up{α : Type}(P : α→Nat→Prop):Prop:=∀x k k',k≤k'→P x k→P x k'
theorem Fine.bind{α β : Type}{N:Nat}{P : α→Nat→Prop}{Q : β→Nat→Prop}{l:List Tok}{r:Res α}{f : α→List Tok→Res β}(h:Fine N P l r)
  (hf : ∀x rest,Few N rest→rest.length≤l.length→P x (l.length-rest.length)→Fine N (fun y k=>Q y (k+(l.length-rest.length))) rest (f x rest)):Fine N Q l (r.bind f):=by
 cases r with
 | bad rest=>exact h
 | ok x rest=>
  obtain⟨h1,h2,h3⟩:=h;have h4:=hf x rest h1 h2 h3;show Fine N Q l (f x rest);cases hr:f x rest with
  | bad r2=>
   rw [hr] at h4;exact Nat.le_trans h4 h2
  | ok y r2=>
   rw [hr] at h4;obtain⟨g1,g2,g3⟩:=h4;refine⟨g1,Nat.le_trans g2 h2,?_⟩;have:rest.length-r2.length+(l.length-rest.length)=l.length-r2.length:=by omega
   rwa [this] at g3
theorem Fine.map{α β : Type}{N:Nat}{P : α→Nat→Prop}{Q : β→Nat→Prop}{l:List Tok}{r:Res α}{f : α→β}(h:Fine N P l r)(hf : ∀x k,P x k→Q (f x) k):Fine N Q l (r.map f):=by
 cases r with
 | bad rest=>exact h
 | ok x rest=>exact⟨h.1,h.2.1,hf _ _ h.2.2⟩
theorem Fine.imp{α : Type}{N:Nat}{P Q : α→Nat→Prop}{l:List Tok}{r:Res α}(h:Fine N P l r)(hf : ∀x k,P x k→Q x k):Fine N Q l r:=by
 cases r with
 | bad rest=>exact h
 | ok x rest=>exact⟨h.1,h.2.1,hf _ _ h.2.2⟩
theorem za2{α : Type}{N:Nat}{P : α→Nat→Prop}{l:List Tok}{r:Res α}(h:Fine N P l.tail r)(hu:Up P):Fine N P l r:=by
 have hl:l.tail.length≤l.length:=by simp
 cases r with
 | bad rest=>exact Nat.le_trans h hl
 | ok x rest=>exact⟨h.1,Nat.le_trans h.2.1 hl,hu _ _ _ (by omega) h.2.2⟩
theorem zhc{α : Type}{N:Nat}{P Q : α→Nat→Prop}{l:List Tok}{r:Res α}(h:Fine N P l.tail r)(hl:l≠[])(hf : ∀x k,P x k→Q x (k+1)):Fine N Q l r:=by
 have hl:l.length=l.tail.length+1:=by cases l with
  | nil=>exact absurd rfl hl
  | cons a r=>rfl
 cases r with
 | bad rest=>
  have h:rest.length≤l.tail.length:=h;show rest.length≤l.length;omega
 | ok x rest=>
  obtain⟨h1,h2,h3⟩:=h;refine⟨h1,by omega,?_⟩;have:l.length-rest.length=(l.tail.length-rest.length)+1:=by omega
  rw [this];exact hf _ _ h3
theorem zko{l:List Tok}{s:B}(h:(hd l).text=s)(hs:s≠[]):l≠[]:=fun e=>by subst e;exact hs h.symm
theorem zby{l:List Tok}{k:Int}(h:(hd l).kind=k)(hk:k≠0):l≠[]:=fun e=>by subst e;exact hk h.symm
theorem zba{N:Nat}{s:B}(hs:s≠[]){l:List Tok}(h:Few N l):Fine N (fun _ k=>1≤k) l (take s l):=by
 unfold take;split
 ·rename_i h1;have hl:=zko h1 hs;cases l with
  | nil=>exact absurd rfl hl
  | cons a r=>exact⟨h.tail,by simp,by simp⟩
 ·exact Fine.bad l
theorem zce{N:Nat}{k:Int}(hk:k≠0){l:List Tok}(h:Few N l):Fine N (fun x n=>x.length≤N∧1≤n) l (zag k l):=by
 unfold zag;split
 ·rename_i h1;have hl:=zby h1 hk;cases l with
  | nil=>exact absurd rfl hl
  | cons a r=>exact⟨h.tail,by simp,h.hd,by simp⟩
 ·exact Fine.bad l
def Sum{α : Type}(P : α→Prop)(wt : α→Nat)(xs:List α)(k:Nat):Prop:=(∀x∈xs,P x)∧(xs.map wt).sum≤k
theorem Sum.nil{α : Type}{P : α→Prop}{wt : α→Nat}(k:Nat):Sum P wt [] k:=⟨fun _ hx=>absurd hx (List.not_mem_nil),Nat.zero_le _⟩
theorem Sum.up{α : Type}(P : α→Prop)(wt : α→Nat):Up (Sum P wt):=fun _ _ _ h ⟨h1,h2⟩=>⟨h1,Nat.le_trans h2 h⟩
theorem zhx{α : Type} : ∀(xs:List α),(xs.map fun _=>1).sum=xs.length
 | []=>rfl
 | x::r=>by simp only [List.map_cons,List.sum_cons,zhx r,List.length_cons];omega
def One{α : Type}(P : α→Prop)(wt : α→Nat)(x : α)(k:Nat):Prop:=P x∧wt x≤k
theorem zdd{α : Type}{P : α→Prop}{x : α}{k:Nat}(h:One P (fun _=>1) x k):1≤k:=h.2
theorem One.up{α : Type}(P : α→Prop)(wt : α→Nat):Up (One P wt):=fun _ _ _ h ⟨h1,h2⟩=>⟨h1,Nat.le_trans h2 h⟩
theorem zdw{α : Type}{N:Nat}{P : α→Prop}{wt : α→Nat}{b:Tok→Bool}{el:List Tok→Res α}(q9 : ∀l,Few N l→Fine N (One P wt) l (el l)) : ∀(n:Nat) (l:List Tok),Few N l→Fine N (Sum P wt) l (many b el n l)
 | 0,l,h=>⟨h,Nat.le_refl _,Sum.nil _⟩
 | n+1,l,h=>by
  rw [many];split
  ·refine (q9 l h).bind fun x rest h1 h2 h3=>((zdw q9 n rest h1).map fun xs k hk => ?_);refine⟨fun y hy => ?_,?_⟩
   ·rcases List.mem_cons.1 hy with rfl | hy
    ·exact h3.1
    ·exact hk.1 y hy
   ·have:=h3.2;have:=hk.2;simp only [List.map_cons,List.sum_cons];omega
  ·exact⟨h,Nat.le_refl _,Sum.nil _⟩
theorem zjc{α : Type}{N:Nat}{P : α→Prop}{wt : α→Nat}{s:B}{el:List Tok→Res α}(q9 : ∀l,Few N l→Fine N (One P wt) l (el l)) : ∀(n:Nat) (l:List Tok),Few N l→Fine N (Sum P wt) l (more s el n l)
 | 0,l,h=>⟨h,Nat.le_refl _,Sum.nil _⟩
 | n+1,l,h=>by
  rw [more];split
  ·refine (za2 (q9 l.tail h.tail) (One.up P wt)).bind fun x rest h1 h2 h3=>((zjc q9 n rest h1).map fun xs k hk => ?_);refine⟨fun y hy => ?_,?_⟩
   ·rcases List.mem_cons.1 hy with rfl | hy
    ·exact h3.1
    ·exact hk.1 y hy
   ·have:=h3.2;have:=hk.2;simp only [List.map_cons,List.sum_cons];omega
  ·exact⟨h,Nat.le_refl _,Sum.nil _⟩
theorem zl8{α : Type}{N:Nat}{P : α→Prop}{wt : α→Nat}{s:B}{el:List Tok→Res α}(q9 : ∀l,Few N l→Fine N (One P wt) l (el l))(n:Nat)(l:List Tok)(h:Few N l):Fine N (Sum P wt) l (row s el n l):=by
 unfold row;refine (q9 l h).bind fun x rest h1 h2 h3=>((zjc q9 n rest h1).map fun xs k hk => ?_);refine⟨fun y hy => ?_,?_⟩
 ·rcases List.mem_cons.1 hy with rfl | hy
  ·exact h3.1
  ·exact hk.1 y hy
 ·have:=h3.2;have:=hk.2;simp only [List.map_cons,List.sum_cons];omega
theorem zhd{α : Type}{N:Nat}{P : α→Prop}{el:List Tok→Res α}{xu:List α→α}(q9 : ∀l,Few N l→Fine N (One P fun _=>1) l (el l))(ht : ∀xs,(∀x∈xs,P x)→P (xu xs))(l:List Tok)(h:Few N l):Fine N (One P fun _=>1) l (zcd el xu l):=by
 unfold zcd;refine (q9 l h).bind fun x rest h1 h2 h3 => ?_;refine (zjc q9 3 rest h1).bind fun xs r1 g1 g2 g3 => ?_;refine (zba (s:=[41]) (by decide) g1).map fun _ k hk => ?_;have h32:1≤l.length-rest.length:=h3.2;cases xs with
 | nil=>exact⟨h3.1,by show 1≤_;omega⟩
 | cons a xs=>
  refine⟨ht _ fun y hy => ?_,by show 1≤_;omega⟩;rcases List.mem_cons.1 hy with rfl | hy
  ·exact h3.1
  ·exact g3.1 y hy
mutual
def ze0(N:Nat):Ty→Prop
 | .mk s args=>s.length≤N∧zeo N args
def zeo(N:Nat):List Ty→Prop
 | []=>True
 | p::r=>ze0 N p∧zeo N r
end
theorem zed{N:Nat} : ∀ {l:List Ty},(∀x∈l,ze0 N x)→zeo N l
 | [],_=>by rw [zeo];trivial
 | p::r,h=>by rw [zeo];exact⟨h p (List.mem_cons_self ..),zed fun x hx=>h x (List.mem_cons_of_mem _ hx)⟩
abbrev OT(N:Nat):Ty→Nat→Prop:=One (ze0 N) fun _=>1
mutual
theorem zl7{N:Nat}(hN:2≤N) : ∀(f:Nat) (l:List Tok),Few N l→Fine N (OT N) l (typ f l)
 | 0,l,_=>Fine.bad l
 | f+1,l,h=>by
  rw [typ];refine (zl9 hN f l h).bind fun a r h1 h2 h3 => ?_;split
  ·refine za2 ((zl7 hN f r.tail h1.tail).map fun b k hk => ?_) (fun x k k' hk hx=>⟨hx.1,by have:1≤k+_:=hx.2;show 1≤_;omega⟩);refine⟨?_,by have:=zdd h3;show 1≤_;omega⟩;rw [ze0];exact⟨hN,zed fun x hx=>by
    rcases List.mem_cons.1 hx with rfl | hx
    ·exact h3.1
    ·rw [List.mem_singleton.1 hx];exact hk.1⟩
  ·exact⟨h1,Nat.le_refl _,h3.1,by have:=zdd h3;show 1≤_;omega⟩
theorem zl9{N:Nat}(hN:2≤N) : ∀(f:Nat) (l:List Tok),Few N l→Fine N (OT N) l (zaw f l)
 | 0,l,_=>Fine.bad l
 | f+1,l,h=>by
  rw [zaw];split
  ·rename_i hk;refine zhc ((zdw (zew hN f) l.length l.tail h.tail).map (Q:=fun x k=>ze0 N x) fun xs k hx => ?_) (zby hk (by decide)) (fun x k hx=>⟨hx,by show 1≤_;omega⟩);rw [ze0];exact⟨h.hd,zed hx.1⟩
  ·exact zew hN f l h
theorem zew{N:Nat}(hN:2≤N) : ∀(f:Nat) (l:List Tok),Few N l→Fine N (OT N) l (zak f l)
 | 0,l,_=>Fine.bad l
 | f+1,l,h=>by
  rw [zak];split
  ·rename_i hk;have hl:l≠[]:=(by rcases hk with hk | hk <;> exact zby hk (by decide));cases l with
   | nil=>exact absurd rfl hl
   | cons a r=>exact⟨h.tail,by simp,by rw [ze0];exact⟨h.hd,by rw [zeo];trivial⟩,by simp⟩
  ·split
   ·exact za2 (zhd (zl7 hN f) (fun xs hx=>by rw [ze0];exact⟨by simp;omega,zed hx⟩) l.tail h.tail) (One.up _ _)
   ·exact Fine.bad l
end
mutual
def zdv(N:Nat):Pa→Prop
 | .mk _ s args=>s.length≤N∧zc1 N args
def zc1(N:Nat):List Pa→Prop
 | []=>True
 | p::r=>zdv N p∧zc1 N r
end
theorem zfm{N:Nat} : ∀ {l:List Pa},(∀x∈l,zdv N x)→zc1 N l
 | [],_=>by rw [zc1];trivial
 | p::r,h=>by rw [zc1];exact⟨h p (List.mem_cons_self ..),zfm fun x hx=>h x (List.mem_cons_of_mem _ hx)⟩
abbrev OP(N:Nat):Pa→Nat→Prop:=One (zdv N) fun _=>1
mutual
theorem zqs{N:Nat}(hN:2≤N) : ∀(f:Nat) (l:List Tok),Few N l→Fine N (OP N) l (pat f l)
 | 0,l,_=>Fine.bad l
 | f+1,l,h=>by
  rw [pat];split
  ·rename_i hk;refine zhc ((zdw (zhj hN f) l.length l.tail h.tail).map (Q:=fun x k=>zdv N x) fun xs k hx => ?_) (zby hk (by decide)) (fun x k hx=>⟨hx,by show 1≤_;omega⟩);rw [zdv];exact⟨h.hd,zfm hx.1⟩
  ·exact zhj hN f l h
theorem zhj{N:Nat}(hN:2≤N) : ∀(f:Nat) (l:List Tok),Few N l→Fine N (OP N) l (zaq f l)
 | 0,l,_=>Fine.bad l
 | f+1,l,h=>by
  rw [zaq];split
  ·rename_i hk;have hl:l≠[]:=zko hk (by decide);cases l with
   | nil=>exact absurd rfl hl
   | cons a r=>exact⟨h.tail,by simp,by rw [zdv];exact⟨by simp,by rw [zc1];trivial⟩,by simp⟩
  ·split
   ·rename_i hk;have hl:l≠[]:=zby hk (by decide);cases l with
    | nil=>exact absurd rfl hl
    | cons a r=>exact⟨h.tail,by simp,by rw [zdv];exact⟨h.hd,by rw [zc1];trivial⟩,by simp⟩
   ·split
    ·rename_i hk;have hl:l≠[]:=zby hk (by decide);cases l with
     | nil=>exact absurd rfl hl
     | cons a r=>exact⟨h.tail,by simp,by rw [zdv];exact⟨h.hd,by rw [zc1];trivial⟩,by simp⟩
    ·split
     ·exact za2 (zhd (zqs hN f) (fun xs hx=>by rw [zdv];exact⟨by simp;omega,zfm hx⟩) l.tail h.tail) (One.up _ _)
     ·exact Fine.bad l
end
mutual
def zcm(N:Nat):Ex→Prop
 | .mk _ _ s g args pats=>s.length≤N∧g.length≤N∧zf1 N args∧zc1 N pats∧pats.length≤N
def zf1(N:Nat):List Ex→Prop
 | []=>True
 | p::r=>zcm N p∧zf1 N r
end
theorem zkd{N:Nat} : ∀ {l:List Ex},(∀x∈l,zcm N x)→zf1 N l
 | [],_=>by rw [zf1];trivial
 | p::r,h=>by rw [zf1];exact⟨h p (List.mem_cons_self ..),zkd fun x hx=>h x (List.mem_cons_of_mem _ hx)⟩
abbrev OE(N:Nat):Ex→Nat→Prop:=One (zcm N) fun _=>1
theorem se{N:Nat}{k u:Int}{s g:B}{a:List Ex}{p:List Pa}(h1:s.length≤N)(h2:g.length≤N)(h3 : ∀x∈a,zcm N x)(h4 : ∀x∈p,zdv N x)(h5:p.length≤N:=by exact Nat.zero_le _):zcm N (.mk k u s g a p):=by
 rw [zcm];exact⟨h1,h2,zkd h3,zfm h4,h5⟩
theorem zhe{N:Nat}{el:List Tok→Res Ex}{signs:List B}(q9 : ∀l,Few N l→Fine N (OE N) l (el l)) : ∀(n:Nat) (a:Ex) (l:List Tok),Few N l→zcm N a→Fine N (fun x _=>zcm N x) l (chain el signs n a l)
 | 0,a,l,h,ha=>⟨h,Nat.le_refl _,ha⟩
 | n+1,a,l,h,ha=>by
  rw [chain];split
  ·refine (za2 (q9 l.tail h.tail) (One.up _ _)).bind fun b r h1 h2 h3 => ?_;exact (zhe q9 n _ r h1 (se h.hd (Nat.zero_le _) (by simp [ha,h3.1]) (by simp))).imp fun x k hx=>hx
  ·exact⟨h,Nat.le_refl _,ha⟩
theorem zqq{N:Nat} : ∀(xs:List Ex) (a:Ex),zcm N a→(∀x∈xs,zcm N x)→zcm N (xs.foldl (fun a b=>.mk 4 0 [] [] [a,b] []) a)
 | [],a,ha,_=>ha
 | x::xs,a,ha,h=>zqq xs _ (se (Nat.zero_le _) (Nat.zero_le _) (by simp [ha,h x (List.mem_cons_self ..)]) (by simp)) fun y hy=>h y (List.mem_cons_of_mem _ hy)
mutual
theorem zbu{N:Nat}(hN:5≤N) : ∀(f:Nat) (l:List Tok),Few N l→Fine N (OE N) l (expr f l)
 | 0,l,_=>Fine.bad l
 | f+1,l,h=>by
  have t1:=h.tail;rw [expr];split
  ·refine za2 ?_ (One.up _ _);refine (zce (by decide) t1).bind fun x r g1 g2 g3=>(zba (by decide) g1).bind fun _ r2 g4 g5 g6=>(zbu hN f r2 g4).map fun b k hk=>⟨se (Nat.zero_le _) g3.1 (by simp [hk.1]) (by simp),?_⟩;have:=zdd hk;show 1≤_;omega
  ·split
   ·split
    ·refine za2 (za2 ?_ (One.up _ _)) (One.up _ _);refine (zce (by decide) t1.tail).bind fun x r g1 g2 g3=>(zce (by decide) g1).bind fun y r2 g4 g5 g6=>(zba (by decide) g4).bind fun _ r3 g7 g8 g9=>(zbu hN f r3 g7).bind fun a r4 i1 i2 i3=>(zba (by decide) i1).bind fun _ r5 i4 i5 i6=>(zbu hN f r5 i4).map fun b k hk=>⟨se g3.1 g6.1 (by simp [hk.1,i3.1]) (by simp),?_⟩;have:=zdd hk;show 1≤_;omega
    ·refine za2 ?_ (One.up _ _);refine (zce (by decide) t1).bind fun x r g1 g2 g3=>(zba (by decide) g1).bind fun _ r3 g7 g8 g9=>(zbu hN f r3 g7).bind fun a r4 i1 i2 i3=>(zba (by decide) i1).bind fun _ r5 i4 i5 i6=>(zbu hN f r5 i4).map fun b k hk=>⟨se g3.1 (Nat.zero_le _) (by simp [hk.1,i3.1]) (by simp),?_⟩;have:=zdd hk;show 1≤_;omega
   ·split
    ·refine za2 ?_ (One.up _ _);refine (zbu hN f l.tail t1).bind fun a r g1 g2 g3=>(zba (by decide) g1).bind fun _ r2 g4 g5 g6=>(zl8 (zwv hN f) l.length r2 g4).bind fun xs r3 g7 g8 g9=>(zba (by decide) g7).map fun _ k hk=>⟨se (Nat.zero_le _) (Nat.zero_le _) ?_ ?_ ?_,?_⟩
     ·intro x hx;rcases List.mem_cons.1 hx with rfl | hx
      ·exact g3.1
      ·obtain⟨q,hq,rfl⟩:=List.mem_map.1 hx;exact (g9.1 q hq).2
     ·intro x hx;obtain⟨q,hq,rfl⟩:=List.mem_map.1 hx;exact (g9.1 q hq).1
     ·have e1:=g9.2;rw [zhx] at e1;have:=g4.2;rw [List.length_map];omega
     ·show 1≤_;omega
    ·split
     ·refine za2 ?_ (One.up _ _);refine (zbu hN f l.tail t1).bind fun a r g1 g2 g3=>(zba (by decide) g1).bind fun _ r2 g4 g5 g6=>(zbu hN f r2 g4).bind fun b r3 g7 g8 g9=>(zba (by decide) g7).bind fun _ r4 i1 i2 i3=>(zbu hN f r4 i1).map fun c k hk=>⟨se (Nat.zero_le _) (Nat.zero_le _) (by simp [hk.1,g3.1,g9.1]) ?_ (by show 2≤N;omega),?_⟩
      ·intro x hx;rcases List.mem_cons.1 hx with rfl | hx
       ·rw [zdv];exact⟨by show 4≤N;omega,by rw [zc1];trivial⟩
       ·rw [List.mem_singleton.1 hx,zdv];exact⟨by show 5≤N;omega,by rw [zc1];trivial⟩
      ·have:=zdd hk;show 1≤_;omega
     ·exact zus hN f l h
theorem zwv{N:Nat}(hN:5≤N) : ∀(f:Nat) (l:List Tok),Few N l→Fine N (One (fun q:Pa×Ex=>zdv N q.1∧zcm N q.2) fun _=>1) l (arm f l)
 | 0,l,_=>Fine.bad l
 | f+1,l,h=>by
  rw [arm];refine (zqs (by omega) _ l h).bind fun p r g1 g2 g3=>(zba (by decide) g1).bind fun _ r2 g4 g5 g6=>(zbu hN f r2 g4).map fun b k hk=>⟨⟨g3.1,hk.1⟩,?_⟩;have:=zdd hk;show 1≤_;omega
theorem zus{N:Nat}(hN:5≤N) : ∀(f:Nat) (l:List Tok),Few N l→Fine N (OE N) l (comp f l)
 | 0,l,_=>Fine.bad l
 | f+1,l,h=>by
  rw [comp];refine (zqr hN f l h).bind fun a r h1 h2 h3 => ?_;split
  ·refine za2 ((zqr hN f r.tail h1.tail).map fun b k hk => ?_) (fun x k k' hk hx=>⟨hx.1,by have:1≤k+_:=hx.2;show 1≤_;omega⟩);exact⟨se h1.hd (Nat.zero_le _) (by simp [h3.1,hk.1]) (by simp),by have:=zdd h3;show 1≤_;omega⟩
  ·exact⟨h1,Nat.le_refl _,h3.1,by have:=zdd h3;show 1≤_;omega⟩
theorem zqr{N:Nat}(hN:5≤N) : ∀(f:Nat) (l:List Tok),Few N l→Fine N (OE N) l (sum f l)
 | 0,l,_=>Fine.bad l
 | f+1,l,h=>by
  rw [sum];refine (zn2 hN f l h).bind fun a r h1 h2 h3=>(zhe (zn2 hN f) r.length a r h1 h3.1).imp fun x k hx=>⟨hx,?_⟩;have:=zdd h3;show 1≤_;omega
theorem zn2{N:Nat}(hN:5≤N) : ∀(f:Nat) (l:List Tok),Few N l→Fine N (OE N) l (prod f l)
 | 0,l,_=>Fine.bad l
 | f+1,l,h=>by
  rw [prod];refine (zqt hN f l h).bind fun a r h1 h2 h3=>(zhe (zqt hN f) r.length a r h1 h3.1).imp fun x k hx=>⟨hx,?_⟩;have:=zdd h3;show 1≤_;omega
theorem zqt{N:Nat}(hN:5≤N) : ∀(f:Nat) (l:List Tok),Few N l→Fine N (OE N) l (app f l)
 | 0,l,_=>Fine.bad l
 | f+1,l,h=>by
  rw [app];split
  ·rename_i hk;refine zhc ((zdw (zje hN f) l.length l.tail h.tail).map (Q:=fun x k=>zcm N x) fun xs k hx=>se h.hd (Nat.zero_le _) hx.1 (by simp)) (zby hk (by decide)) (fun x k hx=>⟨hx,by show 1≤_;omega⟩)
  ·refine (zje hN f l h).bind fun a r h1 h2 h3=>(zdw (zje hN f) r.length r h1).map fun xs k hx=>⟨zqq xs a h3.1 hx.1,?_⟩;have:=zdd h3;show 1≤_;omega
theorem zje{N:Nat}(hN:5≤N) : ∀(f:Nat) (l:List Tok),Few N l→Fine N (OE N) l (atom f l)
 | 0,l,_=>Fine.bad l
 | f+1,l,h=>by
  have hok : ∀(x:Ex),l≠[]→zcm N x→Fine N (OE N) l (.ok x l.tail):=fun x hl hx=>by
   cases l with
   | nil=>exact absurd rfl hl
   | cons a r=>exact⟨h.tail,by simp,hx,by simp⟩
  rw [atom];split
  ·rename_i hk;exact hok _ (zby hk (by decide)) (se (Nat.zero_le _) (Nat.zero_le _) (by simp) (by simp))
  ·split
   ·rename_i hk;exact hok _ (zby hk (by decide)) (se h.hd (Nat.zero_le _) (by simp) (by simp))
   ·split
    ·rename_i hk;exact hok _ (zby hk (by decide)) (se h.hd (Nat.zero_le _) (by simp) (by simp))
    ·split
     ·exact za2 (zhd (zbu hN f) (fun xs hx=>se (by simp;omega) (Nat.zero_le _) hx (by simp)) l.tail h.tail) (One.up _ _)
     ·exact Fine.bad l
end
def zxk(N:Nat)(c:Con):Prop:=c.name.length≤N∧zeo N c.args
def zxj(N:Nat)(f:Fun):Prop:=f.name.length≤N∧f.arg.length≤N∧zcm N f.body
def ztk(N:Nat):Decl→Prop
 | .data n vs cs=>n.length≤N∧(∀t∈vs,t.length≤N)∧∀c∈cs,zxk N c
 | .input n t=>n.length≤N∧ze0 N t
 | .funs fs=>∀f∈fs,zxj N f
 | .val n e=>n.length≤N∧zcm N e
 | .output n e=>n.length≤N∧zcm N e
def wtD:Decl→Nat
 | .data _ _ cs=>(cs.map fun c=>c.args.length).sum
 | .input _ _=>1
 | .funs fs=>fs.length
 | .val _ _=>1
 | .output _ _=>1
theorem zkw{N:Nat}(hN:5≤N)(l:List Tok)(h:Few N l):Fine N (OE N) l (zcb l):=zbu hN _ l h
theorem zup{N:Nat}(hN:5≤N)(l:List Tok)(h:Few N l):Fine N (OT N) l (pTyp l):=zl7 (by omega) _ l h
theorem zwu{N:Nat}(hN:5≤N)(l:List Tok)(h:Few N l):Fine N (One (zxk N) fun c=>c.args.length) l (con l):=by
 unfold con;refine (zce (by decide) h).bind fun n r g1 g2 g3=>(zdw (P:=ze0 N) (wt:=fun _=>1) (fun l hl=>zew (by omega) _ l hl) r.length r g1).map fun xs k hx=>⟨⟨g3.1,zed hx.1⟩,?_⟩;have:=hx.2;rw [zhx] at this;show xs.length≤_;omega
theorem zjd{N:Nat}(hN:5≤N)(l:List Tok)(h:Few N l):Fine N (One (fun q:B×Ex=>q.1.length≤N∧zcm N q.2) fun _=>1) l (defn l):=by
 unfold defn;refine (zce (by decide) h).bind fun n r g1 g2 g3=>(zba (by decide) g1).bind fun _ r2 g4 g5 g6=>(zkw hN r2 g4).map fun b k hk=>⟨⟨g3.1,hk.1⟩,?_⟩;have:=zdd hk;show 1≤_;omega
theorem zuq{N:Nat}(hN:5≤N)(l:List Tok)(h:Few N l):Fine N (One (zxj N) fun _=>1) l (func l):=by
 unfold func;refine (zce (by decide) h).bind fun n r g1 g2 g3=>(zjd hN r g1).map fun x k hk=>⟨⟨g3.1,hk.1.1,hk.1.2⟩,?_⟩;have:=zdd hk;show 1≤_;omega
theorem zur{N:Nat}(hN:5≤N)(l:List Tok)(h:Few N l):Fine N (One (ztk N) wtD) l (decl l):=by
 have t1:=h.tail;unfold decl;split
 ·refine za2 ?_ (One.up _ _);refine (zce (by decide) t1).bind fun n r g1 g2 g3=>(zdw (P:=fun t=>t.length≤N) (wt:=fun _=>1) (fun l hl=>zce (by decide) hl) r.length r g1).bind fun vs r2 g4 g5 g6=>(zba (by decide) g4).bind fun _ r3 g7 g8 g9=>(zl8 (zwu hN) r3.length r3 g7).map fun cs k hk=>⟨⟨g3.1,g6.1,hk.1⟩,?_⟩;have:=hk.2;show (cs.map fun c=>c.args.length).sum≤_;omega
 ·split
  ·refine za2 ?_ (One.up _ _);refine (zce (by decide) t1).bind fun n r g1 g2 g3=>(zba (by decide) g1).bind fun _ r2 g4 g5 g6=>(zup hN r2 g4).map fun t k hk=>⟨⟨g3.1,hk.1⟩,?_⟩;have:=zdd hk;show 1≤_;omega
  ·split
   ·exact za2 ((zjd hN _ t1).map fun x k hk=>⟨⟨hk.1.1,hk.1.2⟩,zdd hk⟩) (One.up _ _)
   ·split
    ·exact za2 ((zjd hN _ t1).map fun x k hk=>⟨⟨hk.1.1,hk.1.2⟩,zdd hk⟩) (One.up _ _)
    ·split
     ·refine za2 ((zl8 (zuq hN) l.length l.tail t1).map fun fs k hk=>⟨hk.1,?_⟩) (One.up _ _);have:=hk.2;rw [zhx] at this;exact this
     ·exact Fine.bad l
theorem zkx{N:Nat}(hN:5≤N) : ∀(n:Nat) (l:List Tok),Few N l→Fine N (Sum (ztk N) wtD) l (decls n l)
 | 0,l,h=>⟨h,Nat.le_refl _,Sum.nil _⟩
 | n+1,l,h=>by
  rw [decls];split
  ·refine (zur hN l h).bind fun d r h1 h2 h3=>(zba (by decide) h1).bind fun _ r2 g1 g2 g3=>((zkx hN n r2 g1).map fun ds k hk => ?_);refine⟨fun y hy => ?_,?_⟩
   ·rcases List.mem_cons.1 hy with rfl | hy
    ·exact h3.1
    ·exact hk.1 y hy
   ·have:=h3.2;have:=hk.2;simp only [List.map_cons,List.sum_cons];omega
  ·exact⟨h,Nat.le_refl _,Sum.nil _⟩
end Sx
namespace Lx
theorem zbc{p:B→Bool}{c:B}{r:List B}(h:p c=true):span p (c::r)=span p r+1:=if_pos h
theorem zb3{p:B→Bool}{c:B}{r:List B}(h:p c=false):span p (c::r)=0:=if_neg (by simp [h])
theorem zc0(p:B→Bool) : ∀l:List B,span p l≤l.length
 | []=>Nat.le_refl _
 | c::r=>by
  cases h:p c
  ·rw [zb3 h];exact Nat.zero_le _
  ·rw [zbc h];simp only [List.length_cons];have:=zc0 p r;omega
theorem zf6 : ∀(l:List B) (k n m:Nat),zae l k n=.closed m→n<m:=by
 intro l k n
 fun_induction zae l k n with
 | case1 r n=>intro m h;cases h
 | case2 r k n hk ih=>intro m h;have:=ih m h;omega
 | case3 r k n hk=>intro m h;cases h;omega
 | case4 r k n hk ih=>intro m h;have:=ih m h;omega
 | case5 c r k n h1 h2 ih=>intro m h;have:=ih m h;omega
 | case6=>intro m h;cases h
theorem zg2{c:B}(h:za0 c=true):part c=true:=by simp [part,h]
theorem zhh{c:B}(h:zao c=true):part c=true:=by simp [part,h]
theorem zty(c:B)(r:List B):peek (c::r) 0=c:=rfl
theorem zi6{c:B}{r:List B}(h:part c=true):1≤zas (c::r):=by
 unfold zas;rw [zbc h];simp only;split <;> omega
theorem zru{c:B}{r:List B}(h:c=126∨zap c=true):1≤za1 (c::r):=by
 unfold za1;rw [zty];split
 ·omega
 ·rename_i hc;rw [zbc (h.resolve_left hc)];omega
theorem zcv{l:List B}(h:(za0 (peek l 0)||zao (peek l 0))=true):next l=zb5 l:=if_pos h
theorem next_var{l:List B}(h:(za0 (peek l 0)||zao (peek l 0))=false)(h1:peek l 0=39)(h2:za0 (peek l 1)=true):next l=zck l:=by
 unfold next;simp only;rw [if_neg (by rw [h];exact Bool.false_ne_true),if_pos ⟨h1,h2⟩]
theorem zdo{l:List B}(h:(za0 (peek l 0)||zao (peek l 0))=false)(h1 : ¬(peek l 0=39∧za0 (peek l 1)=true))(h2:peek l 0=126∨zap (peek l 0)=true):next l=zcl l:=by
 unfold next;simp only;rw [if_neg (by rw [h];exact Bool.false_ne_true),if_neg h1,if_pos h2]
theorem zcu{l:List B}(h:(za0 (peek l 0)||zao (peek l 0))=false)(h1 : ¬(peek l 0=39∧za0 (peek l 1)=true))(h2 : ¬(peek l 0=126∨zap (peek l 0)=true)) :
  next l=if (peek l 0=61∨peek l 0=45)∧peek l 1=62 then .tok 6 0 2 else if zgc.contains (peek l 0) then .tok 6 0 1 else .err 11:=by
 unfold next;simp only;rw [if_neg (by rw [h];exact Bool.false_ne_true),if_neg h1,if_neg h2]
theorem zfe{l:List B}{k n:Int}{j:Nat}(h:zb5 l=.tok k n j):j=zas l∧j≤24:=by
 unfold zb5 at h;simp only at h
 by_cases h1:24<zas l
 ·rw [if_pos h1] at h;cases h
 ·rw [if_neg h1] at h
  by_cases h2:zao (peek l 0)=true
  ·rw [if_pos h2] at h;cases h;exact⟨rfl,by omega⟩
  ·rw [if_neg h2] at h
   by_cases h3:isWord (l.take (zas l))=true
   ·rw [if_pos h3] at h;cases h;exact⟨rfl,by omega⟩
   ·rw [if_neg h3] at h;cases h;exact⟨rfl,by omega⟩
theorem zer{l:List B}{k n:Int}{j:Nat}(h:zck l=.tok k n j):j=1+span part (l.drop 1)∧j≤24:=by
 unfold zck at h;simp only at h
 by_cases h1:24<1+span part (l.drop 1)
 ·rw [if_pos h1] at h;cases h
 ·rw [if_neg h1] at h;cases h;exact⟨rfl,by omega⟩
theorem zes{l:List B}{k n:Int}{j:Nat}(h:zcl l=.tok k n j):j=za1 l:=by
 unfold zcl at h;simp only at h;cases hn:zbz (l.take (za1 l)) with
 | none=>rw [hn] at h;cases h
 | some i=>
  rw [hn] at h;simp only at h
  by_cases h1:(part (peek l (za1 l))||decide (peek l (za1 l)=39))=true
  ·rw [if_pos h1] at h;cases h
  ·rw [if_neg h1] at h;cases h;rfl
theorem zgj{c:B}{r:List B}{k n:Int}{j:Nat}(h:next (c::r)=.tok k n j):1≤j:=by
 cases h1:(za0 c||zao c)
 ·by_cases h2:c=39∧za0 (peek (c::r) 1)=true
  ·rw [next_var (l:=c::r) h1 h2.1 h2.2] at h;have:=(zer h).1;omega
  ·by_cases h3:c=126∨zap c=true
   ·rw [zdo (l:=c::r) h1 h2 h3] at h;have:=zes h;have:=zru (r:=r) h3;omega
   ·rw [zcu (l:=c::r) h1 h2 h3] at h
    by_cases h4:(peek (c::r) 0=61∨peek (c::r) 0=45)∧peek (c::r) 1=62
    ·rw [if_pos h4] at h;cases h;omega
    ·rw [if_neg h4] at h
     by_cases h5:zgc.contains (peek (c::r) 0)=true
     ·rw [if_pos h5] at h;cases h;omega
     ·rw [if_neg h5] at h;cases h
 ·rw [zcv (l:=c::r) h1] at h;have h2:=(zfe h).1;have hp:part c=true:=by
   rw [Bool.or_eq_true] at h1;rcases h1 with hc | hc
   ·exact zg2 hc
   ·exact zhh hc
  have:=zi6 (r:=r) hp;omega
theorem zke : ∀(n f:Nat) (l:List B) (p:Nat),l.length≤n→n≤f→zdn f l p=zdn n l p:=by
 intro n
 induction n with
 | zero=>
  intro f l p hl hf;obtain rfl:l=[]:=List.eq_nil_of_length_eq_zero (by omega);cases f <;> rfl
 | succ n ih=>
  intro f l p hl hf;cases l with
  | nil=>cases f <;> rfl
  | cons c r=>
   cases f with
   | zero=>omega
   | succ f=>
    simp only [List.length_cons] at hl;have hd : ∀j,1≤j→∀q,zdn f ((c::r).drop j) q=zdn n ((c::r).drop j) q:=fun j hj q=>
     ih f _ q (by rw [List.length_drop,List.length_cons];omega) (by omega)
    simp only [zdn];split
    ·exact ih f r _ (by omega) (by omega)
    ·split
     ·split
      ·rename_i m hm;rw [hd m (by have:=zf6 _ _ _ _ hm;omega)]
      ·rfl
      ·rfl
     ·split
      ·rename_i k i j hj;rw [hd j (zgj hj)]
      ·rfl
theorem zvw(p:Nat):scan [] p=.ok [] []:=rfl
theorem za9{c:B}{r:List B}(h:zbk c=true)(p:Nat):scan (c::r) p=scan r (p+1):=by
 unfold scan;rw [List.length_cons,zdn,if_pos h]
theorem zio : ∀(l:List B) (p:Nat),scan l p=scan (l.drop (span zbk l)) (p+span zbk l)
 | [],_=>rfl
 | c::r,p=>by
  cases h:zbk c
  ·rw [zb3 h];rfl
  ·rw [zbc h,za9 h,zio r (p+1),List.drop_succ_cons]
   congr 1
   omega
theorem zcq{c:B}{r:List B}(h:zbk c=false)(hb:begins (c::r)=true)(p:Nat) :
  scan (c::r) p=match zae (c::r) 0 0 with
   | .closed n=>(scan ((c::r).drop n) (p+n)).com p (p+n)
   | .open=>.err p 12
   | .deep n=>.err (p+n) 6:=by
 unfold scan;rw [List.length_cons,zdn,if_neg (by simp [h]),if_pos hb];cases hn:zae (c::r) 0 0 with
 | closed n=>
  simp only;rw [zke _ r.length ((c::r).drop n) _ (Nat.le_refl _) (by have:=zf6 _ _ _ _ hn;rw [List.length_drop,List.length_cons];omega)]
 | «open» => rfl
 | deep n=>rfl
theorem zch{c:B}{r:List B}(h:zbk c=false)(hb:begins (c::r)=false)(p:Nat) :
  scan (c::r) p=match next (c::r) with
   | .tok k n j=>(scan ((c::r).drop j) (p+j)).tok { kind:=k,num:=n,text:=(c::r).take j,pos:=p }
   | .err e=>.err p e:=by
 unfold scan;rw [List.length_cons,zdn,if_neg (by simp [h]),if_neg (by simp [hb])];cases hj:next (c::r) with
 | tok k n j=>
  simp only;rw [zke _ r.length ((c::r).drop j) _ (Nat.le_refl _) (by have:=zgj hj;rw [List.length_drop,List.length_cons];omega)]
 | err e=>rfl
def Scan.pre(ts:List Tok)(cs:List (Nat×Nat)):Scan→Scan
 | .ok ts' cs'=>.ok (ts++ts') (cs++cs')
 | .err p e=>.err p e
theorem Scan.pre_nil(s:Scan):s.pre [] []=s:=by cases s <;> rfl
theorem Scan.pre_pre(s:Scan)(a b:List Tok)(c d:List (Nat×Nat)):(s.pre b d).pre a c=s.pre (a++b) (c++d):=by
 cases s <;> simp [Scan.pre]
theorem Scan.com_pre(s:Scan)(a b:Nat):s.com a b=s.pre [] [(a,b)]:=by cases s <;> rfl
theorem Scan.tok_pre(s:Scan)(t:Tok):s.tok t=s.pre [t] []:=by cases s <;> rfl
end Lx

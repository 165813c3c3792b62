/- Part 00 -/
import Derived.Test.YtclgbmmambkiaaaGreatDoorRows
import Derived.LaidMore
import Derived.Lib.LaidTab
import Derived.Stop.LaidErr
import Derived.ProofKit
import Derived.OpenShut
import Derived.Stop.Joined
import Derived.Test.YtclgbmmambkiaaaGreatDoorMb11
set_option maxRecDepth 100000
set_option maxHeartbeats 4000000
set_option linter.unusedVariables false
set_option linter.unusedSimpArgs false
namespace Sx
open Lx (Tok)
def Res.rest{α : Type} : Res α→List Tok
 | .ok _ r=>r
 | .bad r=>r
def Short{α : Type}(el:List Tok→Res α):Prop:=∀l,(el l).rest.length≤l.length
def Sim{α : Type}(t:Tok)(u u':List Tok)(a b:Res α)(q:List Tok)(m:Nat):Prop:=
 a.rest.length≤u.length∨(∃x r,r.length+m≤q.length∧a=.ok x (r++t::u)∧b=.ok x (r++t::u'))∨(∃r,r.length≤q.length∧a=.bad (r++t::u)∧b=.bad (r++t::u'))
section
variable {t:Tok} {u u':List Tok}
theorem Sim.less{α : Type}{a b:Res α}{q:List Tok}{m m':Nat}(h:Sim t u u' a b q m)(hm:m'≤m):Sim t u u' a b q m':=by
 rcases h with h | ⟨x,r,h1,h2⟩ | h
 ·exact .inl h
 ·exact .inr (.inl ⟨x,r,by omega,h2⟩)
 ·exact .inr (.inr h)
theorem Sim.ok{α : Type}(x : α)(q:List Tok):Sim t u u' (.ok x (q++t::u)) (.ok x (q++t::u')) q 0:=.inr (.inl ⟨x,q,by omega,rfl,rfl⟩)
theorem Sim.bad{α : Type}(q:List Tok)(m:Nat):Sim t u u' (.bad (q++t::u):Res α) (.bad (q++t::u')) q m:=.inr (.inr ⟨q,Nat.le_refl _,rfl,rfl⟩)
theorem Sim.map{α β : Type}{a b:Res α}{q:List Tok}{m:Nat}(f : α→β)(h:Sim t u u' a b q m):Sim t u u' (a.map f) (b.map f) q m:=by
 rcases h with h | ⟨x,r,h1,rfl,rfl⟩ | ⟨r,h1,rfl,rfl⟩
 ·left;cases a <;> exact h
 ·exact .inr (.inl ⟨f x,r,h1,rfl,rfl⟩)
 ·exact .inr (.inr ⟨r,h1,rfl,rfl⟩)
theorem Sim.bind{α β : Type}{a b:Res α}{q:List Tok}{m m2:Nat}{f g : α→List Tok→Res β}(h:Sim t u u' a b q m)(hs : ∀x,Short (f x))
  (hf : ∀x r,r.length+m≤q.length→Sim t u u' (f x (r++t::u)) (g x (r++t::u')) r m2):Sim t u u' (a.bind f) (b.bind g) q (m+m2):=by
 rcases h with h | ⟨x,r,h1,rfl,rfl⟩ | ⟨r,h1,rfl,rfl⟩
 ·left;cases a with
  | ok x r=>exact Nat.le_trans (hs x r) h
  | bad r=>exact h
 ·rcases hf x r h1 with h | ⟨y,r2,h2,e1,e2⟩ | ⟨r2,h2,e1,e2⟩
  ·exact .inl h
  ·exact .inr (.inl ⟨y,r2,by omega,e1,e2⟩)
  ·exact .inr (.inr ⟨r2,by omega,e1,e2⟩)
 ·exact .inr (.inr ⟨r,h1,rfl,rfl⟩)
theorem Sim.tail{α : Type}{q:List Tok}{m:Nat}{f g:List Tok→Res α}(hs:Short f)(h : ∀q',q'.length+1=q.length→Sim t u u' (f (q'++t::u)) (g (q'++t::u')) q' m):Sim t u u' (f (q++t::u).tail) (g (q++t::u').tail) q (m+1):=by
 cases q with
 | nil=>exact .inl (hs u)
 | cons y q'=>
  rcases h q' rfl with h | ⟨x,r,h1,e1,e2⟩ | ⟨r,h1,e1,e2⟩
  ·exact .inl h
  ·exact .inr (.inl ⟨x,r,by simp;omega,e1,e2⟩)
  ·exact .inr (.inr ⟨r,by simp;omega,e1,e2⟩)
theorem Short.ok{α : Type}(x : α):Short (fun l=>.ok x l):=fun _=>Nat.le_refl _
theorem Short.bad{α : Type} : Short (fun l=>(.bad l:Res α)):=fun _=>Nat.le_refl _
theorem Short.map{α β : Type}{f:List Tok→Res α}(h:Short f)(k : α→β):Short (fun l=>(f l).map k):=fun l=>by
 have:=h l;show ((f l).map k).rest.length≤_;cases e:f l <;> rw [e] at this <;> exact this
theorem Short.bind{α β : Type}{f:List Tok→Res α}{k : α→List Tok→Res β}(h:Short f)(hk : ∀x,Short (k x)):Short (fun l=>(f l).bind k):=fun l=>by
 have:=h l;show ((f l).bind k).rest.length≤_;cases e:f l with
 | ok x r=>rw [e] at this;exact Nat.le_trans (hk x r) this
 | bad r=>rw [e] at this;exact this
theorem Short.tail{α : Type}{f:List Tok→Res α}(h:Short f):Short (fun l=>f l.tail):=fun l=>Nat.le_trans (h l.tail) (by simp)
theorem Short.ite{α : Type}{c:List Tok→Prop} [∀l,Decidable (c l)] {f g:List Tok→Res α} (h:Short f) (h':Short g):Short (fun l=>if c l then f l else g l):=fun l=>by
 show (if c l then f l else g l).rest.length≤_;split
 ·exact h l
 ·exact h' l
theorem zab(x:B):Short (take x):=fun l=>by
 unfold take;split
 ·show l.tail.length≤_;simp
 ·exact Nat.le_refl _
theorem zam(k:Int):Short (zag k):=fun l=>by
 unfold zag;split
 ·show l.tail.length≤_;simp
 ·exact Nat.le_refl _
theorem zau{α : Type}{b:Tok→Bool}{el:List Tok→Res α}(h:Short el) : ∀n,Short (many b el n)
 | 0=>Short.ok _
 | n+1=>fun l=>by
  rw [many];split
  ·exact (h.bind (fun x=>(zau h n).map (x :: ·))) l
  ·exact Nat.le_refl _
theorem zbv{α : Type}{s:B}{el:List Tok→Res α}(h:Short el) : ∀n,Short (more s el n)
 | 0=>Short.ok _
 | n+1=>fun l=>by
  rw [more];split
  ·exact (Short.tail (h.bind (fun x=>(zbv h n).map (x :: ·)))) l
  ·exact Nat.le_refl _
theorem zbl{α : Type}{s:B}{el:List Tok→Res α}(h:Short el)(n:Nat):Short (row s el n):=h.bind (fun x=>(zbv h n).map (x :: ·))
theorem zbf{el:List Tok→Res Ex}{s:List B}(h:Short el) : ∀n a,Short (chain el s n a)
 | 0,a=>Short.ok _
 | n+1,a=>fun l=>by
  rw [chain];split
  ·exact Nat.le_trans (((h.bind (fun b=>zbf h n _))) l.tail) (by simp)
  ·exact Nat.le_refl _
theorem short_group{α : Type}{el:List Tok→Res α}{xu:List α→α}(h:Short el):Short (zcd el xu):=fun l=>by
 unfold zcd;exact (h.bind (fun x=>(zbv h 3).bind (fun xs=>(zab [41]).map _))) l
end
mutual
theorem ze8 : ∀f,Short (pat f)
 | 0=>Short.bad
 | f+1=>fun l=>by
  rw [pat];split
  ·exact ((zau (zcp f) l.length).map _).tail l
  ·exact zcp f l
theorem zcp : ∀f,Short (zaq f)
 | 0=>Short.bad
 | f+1=>fun l=>by
  rw [zaq];split
  ·exact (Short.ok _).tail l
  ·split
   ·exact (Short.ok _).tail l
   ·split
    ·exact (Short.ok _).tail l
    ·split
     ·exact (short_group (ze8 f)).tail l
     ·exact Nat.le_refl _
end
mutual
theorem zac : ∀f,Short (expr f)
 | 0=>Short.bad
 | f+1=>fun l=>by
  rw [expr];split
  ·exact ((zam 2).bind (fun x=>(zab gives).bind (fun _=>(zac f).map _))).tail l
  ·split
   ·split
    ·exact ((zam 2).bind (fun n=>(zam 2).bind (fun x=>(zab [61]).bind (fun _=>(zac f).bind (fun a=>(zab wIn).bind (fun _=>(zac f).map _)))))).tail.tail l
    ·exact ((zam 2).bind (fun n=>(zab [61]).bind (fun _=>(zac f).bind (fun a=>(zab wIn).bind (fun _=>(zac f).map _))))).tail l
   ·split
    ·exact ((zac f).bind (fun a=>(zab wOf).bind (fun _=>(zbl (zc9 f) l.length).bind (fun xs=>(zab wEnd).map _)))).tail l
    ·split
     ·exact ((zac f).bind (fun a=>(zab zdt).bind (fun _=>(zac f).bind (fun b=>(zab zcn).bind (fun _=>(zac f).map _))))).tail l
     ·exact zrc f l
theorem zc9 : ∀f,Short (arm f)
 | 0=>Short.bad
 | f+1=>fun l=>by
  rw [arm];exact ((ze8 (4*l.length+4)).bind (fun p=>(zab gives).bind (fun _=>(zac f).map _))) l
theorem zrc : ∀f,Short (comp f)
 | 0=>Short.bad
 | f+1=>fun l=>by
  rw [comp];refine (Short.bind (k:=fun a r=>if (hd r).text=[60]∨(hd r).text=[61] then (sum f r.tail).map fun b=>op (hd r).text a b else .ok a r) (ze7 f) (fun a r => ?_)) l
  dsimp only
  split
  ·exact ((ze7 f).map _).tail r
  ·exact Nat.le_refl _
theorem ze7 : ∀f,Short (sum f)
 | 0=>Short.bad
 | f+1=>fun l=>by
  rw [sum];exact (Short.bind (k:=fun a r=>chain (prod f) zdz r.length a r) (zdq f) (fun a r=>zbf (zdq f) r.length a r)) l
theorem zdq : ∀f,Short (prod f)
 | 0=>Short.bad
 | f+1=>fun l=>by
  rw [prod];exact (Short.bind (k:=fun a r=>chain (app f) zdc r.length a r) (zec f) (fun a r=>zbf (zec f) r.length a r)) l
theorem zec : ∀f,Short (app f)
 | 0=>Short.bad
 | f+1=>fun l=>by
  rw [app];split
  ·exact ((zau (zbw f) l.length).map _).tail l
  ·exact (Short.bind (k:=fun a r=>(many zai (atom f) r.length r).map fun xs=>xs.foldl (fun a b=>.mk 4 0 [] [] [a,b] []) a) (zbw f) (fun a r=>((zau (zbw f) r.length).map _) r)) l
theorem zbw : ∀f,Short (atom f)
 | 0=>Short.bad
 | f+1=>fun l=>by
  rw [atom];split
  ·exact (Short.ok _).tail l
  ·split
   ·exact (Short.ok _).tail l
   ·split
    ·exact (Short.ok _).tail l
    ·split
     ·exact (short_group (zac f)).tail l
     ·exact Nat.le_refl _
end
section
variable {t:Tok} {u u':List Tok}
theorem Sim.up{α : Type}{a b:Res α}{q:List Tok}{m m':Nat}(h:Sim t u u' a b q m)(hm:m'≤m):Sim t u u' a b q m':=h.less hm
end
section
variable {t:Tok} {u u':List Tok}
theorem Sim.bnd{α β : Type}{a b:Res α}{q:List Tok}{f g : α→List Tok→Res β}(h:Sim t u u' a b q 1)(hs : ∀x,Short (f x))
  (hf : ∀x r,r.length+1≤q.length→Sim t u u' (f x (r++t::u)) (g x (r++t::u')) r 0):Sim t u u' (a.bind f) (b.bind g) q 1:=Sim.bind (m2:=0) h hs hf
theorem Sim.bnd0{α β : Type}{a b:Res α}{q:List Tok}{f g : α→List Tok→Res β}(h:Sim t u u' a b q 1)(hs : ∀x,Short (f x))
  (hf : ∀x r,r.length+1≤q.length→Sim t u u' (f x (r++t::u)) (g x (r++t::u')) r 0):Sim t u u' (a.bind f) (b.bind g) q 0:=(Sim.bnd h hs hf).less (Nat.zero_le 1)
end
section
variable {t:Tok} {u u':List Tok}
end
end Sx
namespace Go.Proofs.YtclgbmmambkiaaaGreatDoor
open Go.ChangeShapes Go.WideShapes Go.ChangeAt Go.WideMaps Go.WideElems Go.RowKit
theorem own:ownKnob Tryz.prog.godebug=none:=by kernel_rfl
theorem star : "*" ++ "errors.errorString" = "*errors.errorString" := by decide
theorem zxm(u:TypeId)(h:Tryz.prog.typeName? 3 u=some "*errors.errorString"):u=306:=
 typeName_ptr_named (nm:= "errors.errorString") (by rw [star];kernel_rfl) (by kernel_rfl) (by decide) u (by rw [star];exact h)
abbrev laid5:List (String×DataW Unit):=Rows.syntaxIfRow.laid
theorem zqu(os:Os)(args:Array Value):laidMetH Tryz.prog laid5 ((World.doorLaid Tryz.prog 400 os).forCall (fun _ _=>0) ⟨#[],args,[]⟩).memory:=
 laidMetH_of_parts3 (fuel:=8) (laidMet_of_run' 8 (by kernel_rfl) (by kernel_rfl)) (by kernel_rfl) (by kernel_rfl)
theorem zt4{W:World}(h:laidMetH Tryz.prog laid5 W):Gl W:=by
 rw [MakeChecks.laidMetH_plain _ _ _ (by kernel_rfl)] at h;have h1:=h.tail;have h2:=h1.tail;have h3:=h2.tail;have h4:=h3.tail;obtain⟨a,s,hr,_⟩:=laid_sentinel h3 (g:=3) (ti:=114) (tp:=306) (te:=308) (ts:=9) (by kernel_rfl) (by kernel_rfl) Tryz.underlying114 zxm Tryz.underlying306 Tryz.underlying308 rfl rfl Tryz.underlying9 (by kernel_rfl) (by kernel_rfl);obtain⟨a',s',hs,_⟩:=laid_sentinel h4 (g:=2) (ti:=114) (tp:=306) (te:=308) (ts:=9) (by kernel_rfl) (by kernel_rfl) Tryz.underlying114 zxm Tryz.underlying306 Tryz.underlying308 rfl rfl Tryz.underlying9 (by kernel_rfl) (by kernel_rfl);have htab:Lib.TabIs Tryz.prog W "internal/strconv.uint64pow10" .u64 Lib.pow10Tab:=Lib.tabIs_of_head (g:=1) (t:=294) (by kernel_rfl) (by kernel_rfl) Tryz.underlying294 Tryz.underlying281 (by kernel_rfl) (by kernel_rfl) h2;refine⟨?_,htab,⟨_,_,hs⟩,⟨_,_,hr⟩⟩;obtain⟨ps,⟨g,t,cs,fuel,p,q,hg,ht,wI,_⟩,_⟩:=h1;have hg5:Tryz.prog.globalNamed "math/bits.deBruijn64tab" = some 5:=by kernel_rfl
 unfold World.var? at wI;rw [hg5] at wI;simp only [Option.bind_some] at wI;rcases Nat.lt_or_ge 5 W.heap.size with h' | h'
 ·exact h'
 ·rw [Array.getElem?_eq_none h'] at wI;cases wI
end Go.Proofs.YtclgbmmambkiaaaGreatDoor
namespace Sx
open Lx (Tok)
def Eqt(x y:Tok):Prop:=x.kind=y.kind∧x.num=y.num∧x.text=y.text
inductive Eqs:List Tok→List Tok→Prop where
 | nil:Eqs [] []
 | cons {x y:Tok} {l l':List Tok} (h:Eqt x y) (t:Eqs l l'):Eqs (x::l) (y::l')
theorem Eqs.len{l l':List Tok}(h:Eqs l l'):l'.length=l.length:=by
 induction h with
 | nil=>rfl
 | cons _ _ ih=>simp [ih]
theorem Eqs.app{l l':List Tok}(h:Eqs l l'){k k':List Tok}(hk:Eqs k k'):Eqs (l++k) (l'++k'):=by
 induction h with
 | nil=>exact hk
 | cons h _ ih=>exact .cons h ih
theorem Eqs.refl : ∀l:List Tok,Eqs l l
 | []=>.nil
 | x::l=>.cons ⟨rfl,rfl,rfl⟩ (Eqs.refl l)
theorem Eqs.nil_inv{l:List Tok}(h:Eqs [] l):l=[]:=by cases h;rfl
def Ext{α : Type}(S:Prop)(v:List Tok)(a b:Res α)(n m:Nat):Prop:=∀x r,a=.ok x r→(r≠[]∨S)→∃r',Eqs r r'∧r.length+m≤n∧b=.ok x (r'++v)
section
variable {S:Prop} {v:List Tok}
theorem Ext.bad{α : Type}{r:List Tok}{b:Res α}{n m:Nat} : Ext S v (.bad r) b n m:=by intro x r h;cases h
theorem Ext.ok{α : Type}(x : α){q q':List Tok}(h:Eqs q q'):Ext S v (.ok x q) (.ok x (q'++v)) q.length 0:=by
 intro y r e _;cases e;exact⟨q',h,by omega,rfl⟩
theorem Ext.less{α : Type}{a b:Res α}{n n' m m':Nat}(h:Ext S v a b n m)(hm:m'+n≤m+n'):Ext S v a b n' m':=by
 intro x r e hr;obtain⟨r',h1,h2,h3⟩:=h x r e hr;exact⟨r',h1,by omega,h3⟩
theorem Ext.weak{α : Type}{S':Prop}{a b:Res α}{n m:Nat}(h:Ext S v a b n m)(hs:S'→S):Ext S' v a b n m:=fun x r e hr=>h x r e (hr.imp id hs)
theorem Ext.map{α β : Type}{a b:Res α}{n m:Nat}(f : α→β)(h:Ext S v a b n m):Ext S v (a.map f) (b.map f) n m:=by
 intro x r e hr;cases a with
 | bad r=>cases e
 | ok y r1=>
  have e:Res.ok (f y) r1=.ok x r:=e;injection e with e1 e2
  subst e1;subst e2;obtain⟨r',h1,h2,rfl⟩:=h y r1 rfl hr;exact⟨r',h1,h2,rfl⟩
theorem Ext.ite{α : Type}{c c':Prop} [Decidable c] [Decidable c'] {a1 a2 b1 b2:Res α} {n m:Nat} (h:c ↔ c') (h1:c→Ext S v a1 b1 n m) (h2 : ¬c→Ext S v a2 b2 n m):Ext S v (if c then a1 else a2) (if c' then b1 else b2) n m:=by
 by_cases hc:c
 ·rw [if_pos hc,if_pos (h.1 hc)];exact h1 hc
 ·rw [if_neg hc,if_neg (fun h'=>hc (h.2 h'))];exact h2 hc
theorem ztj{α : Type}{f:List Tok→Res α}(hs:Short f){x : α}{r:List Tok}(h:f []=.ok x r):r=[]:=by
 have:=hs [];rw [h] at this;exact List.eq_nil_of_length_eq_zero (Nat.le_zero.1 this)
theorem Ext.bind{α β : Type}{S1:Prop}{a b:Res α}{n m m2:Nat}{f g : α→List Tok→Res β}(h:Ext S1 v a b n m)(hs : ∀x,Short (f x))(hS:S→S1)
  (hf : ∀x r r',Eqs r r'→r.length+m≤n→Ext S v (f x r) (g x (r'++v)) r.length m2):Ext S v (a.bind f) (b.bind g) n (m+m2):=by
 intro y r2 e hr;cases a with
 | bad r=>cases e
 | ok x r=>
  have e:f x r=.ok y r2:=e;have h0:r≠[]∨S1:=by
   rcases hr with hr | hr
   ·left;rintro rfl;exact hr (ztj (hs x) e)
   ·exact .inr (hS hr)
  obtain⟨r',h1,h2,rfl⟩:=h x r rfl h0;obtain⟨r3,h3,h4,h5⟩:=hf x r r' h1 h2 y r2 e hr;exact⟨r3,h3,by omega,h5⟩
theorem Ext.bindB{α β : Type}{a b:Res α}{n m m2:Nat}{f g : α→List Tok→Res β}(h:Ext False v a b n m)(hb : ∀x,∃r,f x []=.bad r)
  (hf : ∀x r r',Eqs r r'→r.length+m≤n→Ext S v (f x r) (g x (r'++v)) r.length m2):Ext S v (a.bind f) (b.bind g) n (m+m2):=by
 intro y r2 e hr;cases a with
 | bad r=>cases e
 | ok x r=>
  have e:f x r=.ok y r2:=e;have h0:r≠[]:=by
   rintro rfl;obtain⟨r,hb⟩:=hb x;rw [hb] at e;cases e
  obtain⟨r',h1,h2,rfl⟩:=h x r rfl (.inl h0);obtain⟨r3,h3,h4,h5⟩:=hf x r r' h1 h2 y r2 e hr;exact⟨r3,h3,by omega,h5⟩
theorem Ext.bnd{α β : Type}{a b:Res α}{n:Nat}{f g : α→List Tok→Res β}(h:Ext S v a b n 1)(hs : ∀x,Short (f x))
  (hf : ∀x r r',Eqs r r'→r.length+1≤n→Ext S v (f x r) (g x (r'++v)) r.length 0):Ext S v (a.bind f) (b.bind g) n 1:=Ext.bind (m2:=0) h hs id hf
theorem Ext.bnd0{α β : Type}{a b:Res α}{n:Nat}{f g : α→List Tok→Res β}(h:Ext S v a b n 1)(hs : ∀x,Short (f x))
  (hf : ∀x r r',Eqs r r'→r.length+1≤n→Ext S v (f x r) (g x (r'++v)) r.length 0):Ext S v (a.bind f) (b.bind g) n 0:=(Ext.bnd h hs hf).less (by omega)
theorem zcy{x:B}(hx:x≠[]){q q':List Tok}(h:Eqs q q'):Ext S v (take x q) (take x (q'++v)) q.length 1:=by
 unfold take;cases h with
 | nil=>rw [if_neg (show ¬(hd []).text=x from fun h=>hx h.symm)];exact Ext.bad
 | cons h t=>
  refine Ext.ite (by rw [show (hd (_::_)).text=_ from h.2.2];exact Iff.rfl) (fun _ => ?_) (fun _=>Ext.bad);exact (Ext.ok () t).less (by simp;omega)
theorem zh7{k:Int}(hk:k≠0){q q':List Tok}(h:Eqs q q'):Ext S v (zag k q) (zag k (q'++v)) q.length 1:=by
 unfold zag;cases h with
 | nil=>rw [if_neg (show ¬(hd []).kind=k from fun h=>hk h.symm)];exact Ext.bad
 | cons h t=>
  rw [show (hd (_::_)).text=_ from h.2.2];refine Ext.ite (by rw [show (hd (_::_)).kind=_ from h.1];exact Iff.rfl) (fun _ => ?_) (fun _=>Ext.bad);exact (Ext.ok _ t).less (by simp;omega)
def Exts{α : Type}(S:Prop)(v:List Tok)(n:Nat)(el zK:List Tok→Res α):Prop:=∀q q':List Tok,Eqs q q'→q.length≤n→Ext S v (el q) (zK (q'++v)) q.length 1
theorem Exts.weak{α : Type}{S':Prop}{n:Nat}{el zK:List Tok→Res α}(h:Exts S v n el zK)(hs:S'→S):Exts S' v n el zK:=fun q q' e hl=>(h q q' e hl).weak hs
theorem Exts.down{α : Type}{n n':Nat}{el zK:List Tok→Res α}(h:Exts S v n el zK)(hn:n'≤n):Exts S v n' el zK:=fun q q' e hl=>h q q' e (by omega)
theorem zwb{α : Type}(b:Tok→Bool)(el:List Tok→Res α) : ∀k,many b el k []=.ok [] []
 | 0=>rfl
 | k+1=>by rw [many,if_neg (fun h=>h.1 rfl)]
theorem zqk{α : Type}{b:Tok→Bool}(el:List Tok→Res α)(hv:(hd v).kind≠0→b (hd v)=false) : ∀k,many b el k v=.ok [] v
 | 0=>rfl
 | k+1=>by rw [many,if_neg (fun h=>by rw [hv h.1] at h;cases h.2)]
theorem zqj{α : Type}{s:B}(hs:s≠[])(el:List Tok→Res α) : ∀k,more s el k []=.ok [] []
 | 0=>rfl
 | k+1=>by rw [more,if_neg (fun h=>hs h.symm)]
theorem znq{α : Type}{s:B}(el:List Tok→Res α)(hv:(hd v).text≠s) : ∀k,more s el k v=.ok [] v
 | 0=>rfl
 | k+1=>by rw [more,if_neg hv]
theorem zu4(el:List Tok→Res Ex)(s:List B)(a:Ex) : ∀k,chain el s k a []=.ok a []
 | 0=>rfl
 | k+1=>by rw [chain,if_neg (fun h=>h.1 rfl)]
theorem zu5(el:List Tok→Res Ex){s:List B}(a:Ex)(hv:(hd v).kind≠0→s.contains (hd v).text=false) : ∀k,chain el s k a v=.ok a v
 | 0=>rfl
 | k+1=>by rw [chain,if_neg (fun h=>by rw [hv h.1] at h;cases h.2)]
theorem Ext.stop{α : Type}{x : α}{b:Res α}(h:S→b=.ok x v):Ext S v (.ok x []) b ([]:List Tok).length 0:=by
 intro y r e hr;cases e;exact⟨[],.nil,by simp,h (hr.resolve_left (fun h=>h rfl))⟩
theorem zh8{α : Type}{S1:Prop}{b:Tok→Bool}{el zK:List Tok→Res α}(hs:Short el)(hS:S→S1)(hst:S→(hd v).kind≠0→b (hd v)=false)(hb : ∀x y,Eqt x y→b x=b y) :
  ∀(k k':Nat) (q q':List Tok),Eqs q q'→q.length≤k→q.length+v.length≤k'→Exts S1 v q.length el zK→Ext S v (many b el k q) (many b zK k' (q'++v)) q.length 0
 | k,k',_,_,.nil,_,_,_=>by
  rw [zwb];exact Ext.stop (fun h=>zqk zK (hst h) k')
 | 0,_,_,_,.cons _ _,hk,_,_=>by simp at hk
 | _+1,0,_,_,.cons _ _,_,hk,_=>by simp at hk
 | k+1,j+1,x::q,y::q',.cons e t,hk,hj,h=>by
  simp only [List.length_cons] at hk hj;rw [many,many];refine Ext.ite (show (x.kind≠0∧b x=true) ↔ (y.kind≠0∧b y=true) by rw [e.1,hb x y e]) (fun _ => ?_) (fun _=>Ext.ok [] (.cons e t))
  ·refine (Ext.bind (m2:=0) (h (x::q) (y::q') (.cons e t) (Nat.le_refl _)) (fun x=>(zau hs k).map _) hS (fun z r r' hr hl => ?_)).less (by omega);simp only [List.length_cons] at hl;exact (zh8 hs hS hst hb k j r r' hr (by omega) (by omega) (h.down (by simp;omega))).map _
theorem zmb{α : Type}{S1:Prop}{s:B}(h0:s≠[]){el zK:List Tok→Res α}(hs:Short el)(hS:S→S1)(hst:S→(hd v).text≠s) :
  ∀(k k':Nat) (q q':List Tok),Eqs q q'→k=k'∨(q.length≤k∧q.length+v.length≤k')→Exts S1 v q.length el zK→Ext S v (more s el k q) (more s zK k' (q'++v)) q.length 0
 | k,k',_,_,.nil,_,_=>by
  rw [zqj h0];exact Ext.stop (fun h=>znq zK (hst h) k')
 | 0,0,_,_,.cons e t,hk,_=>Ext.ok [] (.cons e t)
 | 0,j+1,_,_,.cons _ _,hk,_=>by simp at hk
 | k+1,0,_,_,.cons _ _,hk,_=>by simp at hk
 | k+1,j+1,x::q,y::q',.cons e t,hk,h=>by
  simp only [List.length_cons] at hk;rw [more,more];refine Ext.ite (show x.text=s ↔ y.text=s by rw [e.2.2]) (fun _ => ?_) (fun _=>Ext.ok [] (.cons e t))
  ·refine (Ext.bind (m2:=0) (h q q' t (by simp)) (fun x=>(zbv hs k).map _) hS (fun z r r' hr hl => ?_)).less (by simp;omega);exact (zmb h0 hs hS hst k j r r' hr (by omega) (h.down (by simp;omega))).map _
theorem zjf{s:List B}{el zK:List Tok→Res Ex}(hs:Short el)(hst:S→(hd v).kind≠0→s.contains (hd v).text=false) :
  ∀(k k':Nat) (a:Ex) (q q':List Tok),Eqs q q'→q.length≤k→q.length+v.length≤k'→Exts S v q.length el zK→Ext S v (chain el s k a q) (chain zK s k' a (q'++v)) q.length 0
 | k,k',a,_,_,.nil,_,_,_=>by
  rw [zu4];exact Ext.stop (fun h=>zu5 zK a (hst h) k')
 | 0,_,_,_,_,.cons _ _,hk,_,_=>by simp at hk
 | _+1,0,_,_,_,.cons _ _,_,hk,_=>by simp at hk
 | k+1,j+1,a,x::q,y::q',.cons e t,hk,hj,h=>by
  simp only [List.length_cons] at hk hj;rw [chain,chain];refine Ext.ite (show (x.kind≠0∧s.contains x.text=true) ↔ (y.kind≠0∧s.contains y.text=true) by rw [e.1,e.2.2]) (fun _ => ?_) (fun _=>Ext.ok a (.cons e t));rw [show (hd (x::q)).text=y.text from e.2.2]
  ·refine (Ext.bind (m2:=0) (h q q' t (by simp)) (fun x=>zbf hs k _) id (fun z r r' hr hl => ?_)).less (by simp;omega);exact zjf hs hst k j _ r r' hr (by omega) (by omega) (h.down (by simp;omega))
theorem zyf{α : Type}{S1:Prop}{s:B}(h0:s≠[]){el zK:List Tok→Res α}(hs:Short el)(hS:S→S1)(hst:S→(hd v).text≠s)(k k':Nat)(q q':List Tok)(e:Eqs q q')(hk:k=k'∨(q.length≤k∧q.length+v.length≤k'))(h:Exts S1 v q.length el zK):Ext S v (row s el k q) (row s zK k' (q'++v)) q.length 1:=by
 unfold row;refine Ext.bind (m2:=0) (h q q' e (Nat.le_refl _)) (fun x=>(zbv hs k).map _) hS (fun x r r' hr hl => ?_);exact (zmb h0 hs hS hst k k' r r' hr (by omega) (h.down (by omega))).map _
theorem zn3{α : Type}{el zK:List Tok→Res α}{xu:List α→α}(hs:Short el)(q q':List Tok)(e:Eqs q q')(h:Exts False v q.length el zK):Ext S v (zcd el xu q) (zcd zK xu (q'++v)) q.length 2:=by
 unfold zcd;refine Ext.bindB (m2:=1) (h q q' e (Nat.le_refl _)) (fun x=>⟨[],by rw [zqj (by decide)];rfl⟩) (fun x r r' hr hl => ?_);have hm:Ext False v (more [44] el 3 r) (more [44] zK 3 (r'++v)) r.length 0:=zmb (by decide) hs id (fun h=>h.elim) 3 3 r r' hr (.inl rfl) (h.down (by omega));refine Ext.bindB (m:=0) (m2:=1) hm (fun xs=>⟨[],rfl⟩) (fun xs r2 r3 xr tI => ?_);exact (zcy (by decide) xr).map _
theorem begP{x y:Tok}(e:Eqt x y):zbo x=zbo y:=by unfold zbo;rw [e.1,e.2.2]
theorem begA{x y:Tok}(e:Eqt x y):zai x=zai y:=by unfold zai;rw [e.1,e.2.2]
def StopP(t:Tok):Prop:=t.kind≠0→zbo t=false
theorem zww(hS:S→StopP (hd v)) : ∀n:Nat,(∀f f',4*n+1≤f→4*(n+v.length)+1≤f'→Exts S v n (zaq f) (zaq f'))∧(∀f f',4*n+2≤f→4*(n+v.length)+2≤f'→Exts S v n (pat f) (pat f')):=by
 intro n
 induction n using Nat.strongRecOn with
 | ind n IH=>
  have hA : ∀f f',4*n+1≤f→4*(n+v.length)+1≤f'→Exts S v n (zaq f) (zaq f'):=by
   intro f f' hf ub q q' e hq;obtain⟨f,rfl⟩ : ∃k,f=k+1:=⟨f-1,by omega⟩;obtain⟨f',rfl⟩ : ∃k,f'=k+1:=⟨f'-1,by omega⟩;rw [zaq,zaq];cases e with
   | nil=>exact Ext.bad
   | @cons x y q q' e t=>
    simp only [List.length_cons] at hq ⊢;rw [show (hd (x::q)).text=y.text from e.2.2,show (hd (x::q)).kind=y.kind from e.1];refine Ext.ite Iff.rfl (fun _ => ?_) (fun _ => ?_)
    ·exact (Ext.ok _ t).less (by omega)
    ·refine Ext.ite Iff.rfl (fun _ => ?_) (fun _ => ?_)
     ·exact (Ext.ok _ t).less (by omega)
     ·refine Ext.ite Iff.rfl (fun _ => ?_) (fun _ => ?_)
      ·exact (Ext.ok _ t).less (by omega)
      ·refine Ext.ite Iff.rfl (fun _ => ?_) (fun _ => ?_)
       ·exact (zn3 (ze8 f) q q' t (((IH q.length (by omega)).2 f f' (by omega) (by omega)).weak False.elim)).less (by omega)
       ·exact Ext.bad
  refine⟨hA,?_⟩;intro f f' hf ub q q' e hq;obtain⟨f,rfl⟩ : ∃k,f=k+1:=⟨f-1,by omega⟩;obtain⟨f',rfl⟩ : ∃k,f'=k+1:=⟨f'-1,by omega⟩;rw [pat,pat];have hA':=hA f f' (by omega) (by omega) q q' e hq;have hl:=e.len;cases e with
  | nil=>
   rw [if_neg (show ¬(hd []).kind=3 by decide)];intro x r h hr;obtain⟨_,_,h2,_⟩:=hA' x r h hr;simp at h2
  | @cons x y q q' e t=>
   simp only [List.length_cons] at hq ⊢;rw [show (hd (x::q)).text=y.text from e.2.2];refine Ext.ite (show x.kind=3 ↔ y.kind=3 by rw [e.1]) (fun _ => ?_) (fun _ => ?_)
   ·exact ((zh8 (zcp f) id hS (fun _ _=>begP) _ _ q q' t (by omega) (by simp at hl ⊢;omega) ((hA f f' (by omega) (by omega)).down (by omega))).map _).less (by omega)
   ·exact hA'
end
section
variable {S:Prop} {v:List Tok}
structure StopE(t:Tok):Prop where
 less:t.text≠[60]
 eq:t.text≠[61]
 sum:zdz.contains t.text=false
 prod:zdc.contains t.text=false
 atom:t.kind≠0→zai t=false
structure Exprs2(S:Prop)(v:List Tok)(n:Nat):Prop where
 atom : ∀f f',7*n+1≤f→7*(n+v.length)+1≤f'→Exts S v n (Sx.atom f) (Sx.atom f')
 app : ∀f f',7*n+2≤f→7*(n+v.length)+2≤f'→Exts S v n (Sx.app f) (Sx.app f')
 prod : ∀f f',7*n+3≤f→7*(n+v.length)+3≤f'→Exts S v n (Sx.prod f) (Sx.prod f')
 sum : ∀f f',7*n+4≤f→7*(n+v.length)+4≤f'→Exts S v n (Sx.sum f) (Sx.sum f')
 comp : ∀f f',7*n+5≤f→7*(n+v.length)+5≤f'→Exts S v n (Sx.comp f) (Sx.comp f')
 expr : ∀f f',7*n+6≤f→7*(n+v.length)+6≤f'→Exts S v n (Sx.expr f) (Sx.expr f')
 arm : ∀f f',7*n+1≤f→7*(n+v.length)+1≤f'→Exts S v n (Sx.arm f) (Sx.arm f')
theorem zut(hS:S→StopE (hd v)) : ∀n:Nat,Exprs2 S v n:=by
 intro n
 induction n using Nat.strongRecOn with
 | ind n IH=>
  have hE : ∀q q':List Tok,Eqs q q'→q.length<n→∀f f',7*n≤f+1→7*(n+v.length)≤f'+1→Ext S v (expr f q) (expr f' (q'++v)) q.length 1:=fun q q' e hq f f' h h'=>(IH q.length hq).expr f f' (by omega) (by omega) q q' e (Nat.le_refl _);have xG : ∀f f',7*n+1≤f→7*(n+v.length)+1≤f'→Exts S v n (atom f) (atom f'):=by
   intro f f' hf ub q q' e hq;obtain⟨f,rfl⟩ : ∃k,f=k+1:=⟨f-1,by omega⟩;obtain⟨f',rfl⟩ : ∃k,f'=k+1:=⟨f'-1,by omega⟩;rw [atom,atom];cases e with
   | nil=>exact Ext.bad
   | @cons x y q q' e t=>
    simp only [List.length_cons] at hq ⊢;rw [show (hd (x::q)).text=y.text from e.2.2,show (hd (x::q)).kind=y.kind from e.1,show (hd (x::q)).num=y.num from e.2.1];refine Ext.ite Iff.rfl (fun _ => ?_) (fun _ => ?_)
    ·exact (Ext.ok _ t).less (by omega)
    ·refine Ext.ite Iff.rfl (fun _ => ?_) (fun _ => ?_)
     ·exact (Ext.ok _ t).less (by omega)
     ·refine Ext.ite Iff.rfl (fun _ => ?_) (fun _ => ?_)
      ·exact (Ext.ok _ t).less (by omega)
      ·refine Ext.ite Iff.rfl (fun _ => ?_) (fun _ => ?_)
       ·exact (zn3 (zac f) q q' t (fun q2 q3 e2 h2=>(hE q2 q3 e2 (by omega) f f' (by omega) (by omega)).weak False.elim)).less (by omega)
       ·exact Ext.bad
  have pU : ∀f f',7*n+2≤f→7*(n+v.length)+2≤f'→Exts S v n (app f) (app f'):=by
   intro f f' hf ub q q' e hq;obtain⟨f,rfl⟩ : ∃k,f=k+1:=⟨f-1,by omega⟩;obtain⟨f',rfl⟩ : ∃k,f'=k+1:=⟨f'-1,by omega⟩;have hN : ¬(hd []).kind=3→Ext S v ((atom f q).bind fun a r=>(many zai (atom f) r.length r).map fun xs=>xs.foldl (fun a b=>Ex.mk 4 0 [] [] [a,b] []) a) ((atom f' (q'++v)).bind fun a r=>(many zai (atom f') r.length r).map fun xs=>xs.foldl (fun a b=>Ex.mk 4 0 [] [] [a,b] []) a) q.length 1:=by
    intro _;refine Ext.bnd (xG f f' (by omega) (by omega) q q' e hq) (fun a r=>((zau (zbw f) r.length).map _) r) (fun a r r' hr hl => ?_);exact (zh8 (zbw f) id (fun h=>(hS h).atom) (fun _ _=>begA) _ _ r r' hr (Nat.le_refl _) (by rw [List.length_append,hr.len];omega) ((xG f f' (by omega) (by omega)).down (by omega))).map _
   rw [app,app];have hl:=e.len;cases e with
   | nil=>
    intro x r h hr;rw [if_neg (show ¬(hd []).kind=3 by decide)] at h;obtain⟨_,_,h2,_⟩:=hN (by decide) x r h hr;simp at h2
   | @cons x y q q' e t=>
    refine Ext.ite (show x.kind=3 ↔ y.kind=3 by rw [e.1]) (fun _ => ?_) (fun _=>hN (by decide));simp only [List.length_cons] at hq hl ⊢;rw [show (hd (x::q)).text=y.text from e.2.2];exact ((zh8 (zbw f) id (fun h=>(hS h).atom) (fun _ _=>begA) _ _ q q' t (by omega) (by simp;omega) ((xG f f' (by omega) (by omega)).down (by omega))).map _).less (by omega)
  have uy : ∀f f',7*n+3≤f→7*(n+v.length)+3≤f'→Exts S v n (prod f) (prod f'):=by
   intro f f' hf ub q q' e hq;obtain⟨f,rfl⟩ : ∃k,f=k+1:=⟨f-1,by omega⟩;obtain⟨f',rfl⟩ : ∃k,f'=k+1:=⟨f'-1,by omega⟩;rw [prod,prod];refine Ext.bnd (pU f f' (by omega) (by omega) q q' e hq) (fun a r=>zbf (zec f) r.length a r) (fun a r r' hr hl => ?_);exact zjf (zec f) (fun h _=>(hS h).prod) _ _ a r r' hr (Nat.le_refl _) (by rw [List.length_append,hr.len];omega) ((pU f f' (by omega) (by omega)).down (by omega))
  have pp : ∀f f',7*n+4≤f→7*(n+v.length)+4≤f'→Exts S v n (sum f) (sum f'):=by
   intro f f' hf ub q q' e hq;obtain⟨f,rfl⟩ : ∃k,f=k+1:=⟨f-1,by omega⟩;obtain⟨f',rfl⟩ : ∃k,f'=k+1:=⟨f'-1,by omega⟩;rw [sum,sum];refine Ext.bnd (uy f f' (by omega) (by omega) q q' e hq) (fun a r=>zbf (zdq f) r.length a r) (fun a r r' hr hl => ?_);exact zjf (zdq f) (fun h _=>(hS h).sum) _ _ a r r' hr (Nat.le_refl _) (by rw [List.length_append,hr.len];omega) ((uy f f' (by omega) (by omega)).down (by omega))
  have fi : ∀f f',7*n+5≤f→7*(n+v.length)+5≤f'→Exts S v n (comp f) (comp f'):=by
   intro f f' hf ub q q' e hq;obtain⟨f,rfl⟩ : ∃k,f=k+1:=⟨f-1,by omega⟩;obtain⟨f',rfl⟩ : ∃k,f'=k+1:=⟨f'-1,by omega⟩;rw [comp,comp];refine Ext.bnd (pp f f' (by omega) (by omega) q q' e hq) (fun a r => ?_) (fun a r r' hr hl => ?_)
   ·try dsimp only
    split
    ·exact ((ze7 f).map _).tail r
    ·exact Nat.le_refl _
   ·cases hr with
    | nil=>
     rw [if_neg (show ¬((hd []).text=[60]∨(hd []).text=[61]) by decide)];exact Ext.stop (fun h=>by rw [List.nil_append,if_neg (fun h'=>h'.elim (hS h).less (hS h).eq)])
    | @cons x y r r' e t=>
     simp only [List.length_cons] at hl ⊢;rw [show (hd (x::r)).text=y.text from e.2.2];refine Ext.ite Iff.rfl (fun _ => ?_) (fun _ => ?_)
     ·exact ((pp f f' (by omega) (by omega) r r' t (by omega)).map _).less (by omega)
     ·exact Ext.ok a (.cons e t)
  have rY : ∀f f',7*n+1≤f→7*(n+v.length)+1≤f'→Exts S v n (arm f) (arm f'):=by
   intro f f' hf ub q q' e hq;obtain⟨f,rfl⟩ : ∃k,f=k+1:=⟨f-1,by omega⟩;obtain⟨f',rfl⟩ : ∃k,f'=k+1:=⟨f'-1,by omega⟩;rw [arm,arm];refine Ext.bindB (m:=1) (m2:=0) ((zww (S:=False) False.elim q.length).2 _ _ (by omega) (by rw [List.length_append,e.len];omega) q q' e (Nat.le_refl _)) (fun p=>⟨[],rfl⟩) (fun p r r' hr hl => ?_);refine Ext.bnd0 (zcy (by decide) hr) (fun _=>(zac f).map _) (fun _ r2 r3 xr tI => ?_);exact ((hE r2 r3 xr (by omega) f f' (by omega) (by omega)).map _).less (by omega)
  refine⟨xG,pU,uy,pp,fi,?_,rY⟩;intro f f' hf ub q q' e hq;obtain⟨f,rfl⟩ : ∃k,f=k+1:=⟨f-1,by omega⟩;obtain⟨f',rfl⟩ : ∃k,f'=k+1:=⟨f'-1,by omega⟩;rw [expr,expr];have hC:=fi f f' (by omega) (by omega) q q' e hq;have dq:=e.len;cases e with
  | nil=>
   rw [if_neg (show ¬(hd []).text=wFn by decide),if_neg (show ¬(hd []).text=wLet by decide),if_neg (show ¬(hd []).text=zft by decide),if_neg (show ¬(hd []).text=wIf by decide)];intro x r h hr;obtain⟨_,_,h2,_⟩:=hC x r h hr;simp at h2
  | @cons y y' q q' e t=>
   simp only [List.length_cons] at hq dq ⊢;rw [show (hd (y::q)).text=y'.text from e.2.2];refine Ext.ite Iff.rfl (fun _ => ?_) (fun _=>Ext.ite Iff.rfl (fun _ => ?_) (fun _=>Ext.ite Iff.rfl (fun _ => ?_) (fun _=>Ext.ite Iff.rfl (fun _ => ?_) (fun _ => ?_))))
   ·refine Ext.less (n:=q.length) (m:=1) ?_ (by omega);refine Ext.bnd (zh7 (by decide) t) (fun x=>(zab gives).bind (fun _=>(zac f).map _)) (fun x r r' hr hl => ?_);refine Ext.bnd0 (zcy (by decide) hr) (fun _=>(zac f).map _) (fun _ r2 r3 xr tI => ?_);exact ((hE r2 r3 xr (by omega) f f' (by omega) (by omega)).map _).less (by omega)
   ·refine Ext.less (n:=q.length) (m:=1) ?_ (by omega);cases t with
    | nil=>
     rw [show List.tail [y]=[] from rfl,if_neg (show ¬(hd []).text=wFun by decide)];exact Ext.bad
    | @cons z z' q q' e t=>
     simp only [List.length_cons] at hq dq ⊢;refine Ext.ite (show z.text=wFun ↔ z'.text=wFun by rw [e.2.2]) (fun _ => ?_) (fun _ => ?_)
     ·refine Ext.less (n:=q.length) (m:=1) ?_ (by omega);refine Ext.bnd (zh7 (by decide) t) (fun n=>(zam 2).bind (fun x=>(zab [61]).bind (fun _=>(zac f).bind (fun a=>(zab wIn).bind (fun _=>(zac f).map _))))) (fun x r r' hr hl => ?_);refine Ext.bnd0 (zh7 (by decide) hr) (fun x=>(zab [61]).bind (fun _=>(zac f).bind (fun a=>(zab wIn).bind (fun _=>(zac f).map _)))) (fun x r r' hr hl => ?_);refine Ext.bnd0 (zcy (by decide) hr) (fun _=>(zac f).bind (fun a=>(zab wIn).bind (fun _=>(zac f).map _))) (fun x r r' hr hl => ?_);refine Ext.bnd0 (hE r r' hr (by omega) f f' (by omega) (by omega)) (fun a=>(zab wIn).bind (fun _=>(zac f).map _)) (fun a r r' hr hl => ?_);refine Ext.bnd0 (zcy (by decide) hr) (fun _=>(zac f).map _) (fun _ r r' hr hl => ?_);exact ((hE r r' hr (by omega) f f' (by omega) (by omega)).map _).less (by omega)
     ·refine Ext.less (n:=(z::q).length) (m:=1) ?_ (by simp);refine Ext.bnd (zh7 (by decide) (.cons e t)) (fun n=>(zab [61]).bind (fun _=>(zac f).bind (fun a=>(zab wIn).bind (fun _=>(zac f).map _)))) (fun x r r' hr hl => ?_);simp only [List.length_cons] at hl;refine Ext.bnd0 (zcy (by decide) hr) (fun _=>(zac f).bind (fun a=>(zab wIn).bind (fun _=>(zac f).map _))) (fun x r r' hr hl => ?_);refine Ext.bnd0 (hE r r' hr (by omega) f f' (by omega) (by omega)) (fun a=>(zab wIn).bind (fun _=>(zac f).map _)) (fun a r r' hr hl => ?_);refine Ext.bnd0 (zcy (by decide) hr) (fun _=>(zac f).map _) (fun _ r r' hr hl => ?_);exact ((hE r r' hr (by omega) f f' (by omega) (by omega)).map _).less (by omega)
   ·refine Ext.less (n:=q.length) (m:=1) ?_ (by omega);refine Ext.bnd (hE q q' t (by omega) f f' (by omega) (by omega)) (fun a=>(zab wOf).bind (fun _=>(zbl (zc9 f) (y::q).length).bind (fun xs=>(zab wEnd).map _))) (fun a r r' hr hl => ?_);refine Ext.bnd0 (zcy (by decide) hr) (fun _=>(zbl (zc9 f) (y::q).length).bind (fun xs=>(zab wEnd).map _)) (fun _ r r' hr hl => ?_);have qK:Ext False v (row [124] (arm f) (y::q).length r) (row [124] (arm f') (y'::q'++v).length (r'++v)) r.length 1:=zyf (S:=False) (S1:=False) (by decide) (zc9 f) id False.elim (y::q).length (y'::q'++v).length r r' hr (.inr ⟨by simp;omega,by simp;omega⟩) (((IH r.length (by omega)).arm f f' (by omega) (by omega)).weak False.elim);refine Ext.less (n:=r.length) (m:=1) (Ext.bindB (m:=1) (m2:=0) qK (fun xs=>⟨[],rfl⟩) (fun xs r r' hr hl => ?_)) (by omega);exact ((zcy (by decide) hr).map _).less (by omega)
   ·refine Ext.less (n:=q.length) (m:=1) ?_ (by omega);refine Ext.bnd (hE q q' t (by omega) f f' (by omega) (by omega)) (fun a=>(zab zdt).bind (fun _=>(zac f).bind (fun b=>(zab zcn).bind (fun _=>(zac f).map _)))) (fun a r r' hr hl => ?_);refine Ext.bnd0 (zcy (by decide) hr) (fun _=>(zac f).bind (fun b=>(zab zcn).bind (fun _=>(zac f).map _))) (fun _ r r' hr hl => ?_);refine Ext.bnd0 (hE r r' hr (by omega) f f' (by omega) (by omega)) (fun b=>(zab zcn).bind (fun _=>(zac f).map _)) (fun b r r' hr hl => ?_);refine Ext.bnd0 (zcy (by decide) hr) (fun _=>(zac f).map _) (fun _ r r' hr hl => ?_);exact ((hE r r' hr (by omega) f f' (by omega) (by omega)).map _).less (by omega)
   ·simpa only [List.length_cons] using hC
theorem zgp(hS:StopE (hd v)){q q':List Tok}(e:Eqs q q'){x:Ex}(h:zcb q=.ok x [])(f:Nat)(hf:7*(q.length+v.length)+6≤f):expr f (q'++v)=.ok x v:=by
 obtain⟨r',h1,_,h3⟩:=(zut (S:=True) (fun _=>hS) q.length).expr (fuel q) f (by unfold fuel;omega) hf q q' e (Nat.le_refl _) x [] h (.inr trivial);rw [h1.nil_inv] at h3;exact h3
end
end Sx
namespace Lx
end Lx
namespace Sx
open Lx (Tok)
theorem Eqs.trans{a b c:List Tok}(h:Eqs a b)(h':Eqs b c):Eqs a c:=by
 induction h generalizing c with
 | nil=>cases h';exact .nil
 | cons e _ ih=>
  cases h' with
  | cons e' t'=>exact .cons ⟨e.1.trans e'.1,e.2.1.trans e'.2.1,e.2.2.trans e'.2.2⟩ (ih t')
def Gives(l:List UInt8)(q:List Tok):Prop:=∃ts cs,Lx.scan l 0=.ok ts cs∧Eqs q ts
theorem zuw(d:Nat) : ∀ts:List Tok,Eqs ts (ts.map (Lx.Tok.shift d))
 | []=>.nil
 | _::ts=>.cons ⟨rfl,rfl,rfl⟩ (zuw d ts)
theorem zuv(d:Nat){ts:List Tok}{cs:List (Nat×Nat)} {ts' cs'} (h:(Lx.Scan.ok ts cs).shift d=.ok ts' cs'):Eqs ts ts':=by
 have h:Lx.Scan.ok (ts.map (Lx.Tok.shift d)) _=.ok ts' cs':=h;injection h with h1 h2
 subst h1;exact zuw d ts
theorem Gives.at_{l:List UInt8}{q:List Tok}(h:Gives l q)(p:Nat) : ∃ts cs,Lx.scan l p=.ok ts cs∧Eqs q ts:=by
 obtain⟨ts,cs,h,e⟩:=h;have hs:=Lx.zrf l.length l 0 p (Nat.le_refl _);rw [Nat.zero_add,h] at hs;cases h2:(Lx.Scan.ok ts cs).shift p with
 | ok ts' cs'=>exact⟨ts',cs',by rw [hs,h2],e.trans (zuv p h2)⟩
 | err _ _=>cases h2
theorem Gives.app{l l2:List UInt8}{q q2:List Tok}{c:UInt8}(h:Gives l q)(hc:Lx.zbk c=true)(h2:Gives l2 q2):Gives (l++c::l2) (q++q2):=by
 obtain⟨ts,cs,h,e⟩:=h;obtain⟨tN,cs2,h2,e2⟩:=h2.at_ (0+l.length+1);refine⟨ts++tN,cs++cs2,?_,e.app e2⟩;rw [(Lx.zir l.length l 0 c l2 (Nat.le_refl _) hc).1 _ _ h,h2];rfl
theorem zsi{l:List UInt8}{m:Nat}{ts:List Tok}{cs:List (Nat×Nat)}(h:Lx.upto l m=.ok ts cs):Gives l ts∧l.length≤m:=by
 unfold Lx.upto at h;split at h
 ·cases h
 ·exact⟨⟨ts,cs,h,Eqs.refl ts⟩,by omega⟩
theorem Gives.upto{l:List UInt8}{q:List Tok}(h:Gives l q){m:Nat}(hm:l.length≤m) : ∃ts cs,Lx.upto l m=.ok ts cs∧Eqs q ts:=by
 obtain⟨ts,cs,h,e⟩:=h;exact⟨ts,cs,by unfold Lx.upto;rw [if_neg (by omega)];exact h,e⟩
def tk(k:Int)(s:B):Tok := { kind:=k,num:=0,text:=s,pos:=0 }
theorem Eqs.split : ∀ {a b ts:List Tok},Eqs (a++b) ts→∃a' b',ts=a'++b'∧Eqs a a'∧Eqs b b'
 | [],b,ts,h=>⟨[],ts,rfl,.nil,h⟩
 | x::a,b,_,.cons e t=>by
  obtain⟨a',b',rfl,h1,h2⟩:=Eqs.split t;exact⟨_::a',b',rfl,.cons e h1,h2⟩
theorem Eqs.one{x:Tok}{b ts:List Tok}(h:Eqs (x::b) ts) : ∃y b',ts=y::b'∧Eqt x y∧Eqs b b':=by
 cases h with
 | cons e t=>exact⟨_,_,rfl,e,t⟩
theorem zf9{k:Int}{s:B}{v:List Tok}(e:Eqt (tk k s) (hd v))(h:s≠[60]∧s≠[61]∧zdz.contains s=false∧zdc.contains s=false∧zai (tk k s)=false):StopE (hd v):=by
 have ht:(hd v).text=s:=e.2.2.symm;exact⟨by rw [ht];exact h.1,by rw [ht];exact h.2.1,by rw [ht];exact h.2.2.1,by rw [ht];exact h.2.2.2.1,fun _=>by rw [← begA e];exact h.2.2.2.2⟩
theorem zte:StopE (hd []):=⟨by decide,by decide,by decide,by decide,fun h=>absurd rfl h⟩
def zd6(a b c:Ex):Ex:=.mk 8 0 [] [] [a,b,c] [.mk 3 zfh [],.mk 3 zdh []]
theorem zx1{qa qb qc ts:List Tok}{xa xb xc:Ex}(ha:zcb qa=.ok xa [])(hb:zcb qb=.ok xb [])(hc:zcb qc=.ok xc [])
  (h:Eqs ([tk 5 wIf]++(qa++([tk 5 zdt]++(qb++([tk 5 zcn]++qc))))) ts):zcb ts=.ok (zd6 xa xb xc) []:=by
 simp only [List.cons_append,List.nil_append] at h;obtain⟨t1,r1,rfl,e1,h⟩:=Eqs.one h;obtain⟨a',r2,rfl,ea,h⟩:=Eqs.split h;obtain⟨t2,r3,rfl,e2,h⟩:=Eqs.one h;obtain⟨b',r4,rfl,eb,h⟩:=Eqs.split h;obtain⟨t3,c',rfl,e3,ec⟩:=Eqs.one h;have la:=ea.len;have lb:=eb.len;have lc:=ec.len;unfold zcb;obtain⟨f,hf⟩ : ∃f,fuel (t1::(a'++t2::(b'++t3::c')))=f+1:=⟨_,rfl⟩;have hF:f=8*(a'.length+b'.length+c'.length+3)+7:=by
  unfold fuel at hf;simp only [List.length_cons,List.length_append] at hf;omega
 rw [hf,expr];have ht1:(hd (t1::(a'++t2::(b'++t3::c')))).text=wIf:=e1.2.2.symm;rw [ht1,if_neg (by decide),if_neg (by decide),if_neg (by decide),if_pos rfl,List.tail_cons];rw [zgp (v:=t2::(b'++t3::c')) (zf9 e2 (by decide)) ea ha f (by simp only [List.length_cons,List.length_append];omega)];simp only [Res.bind];unfold take;rw [if_pos (show (hd (t2::(b'++t3::c'))).text=zdt from e2.2.2.symm),List.tail_cons];simp only;rw [zgp (v:=t3::c') (zf9 e3 (by decide)) eb hb f (by simp only [List.length_cons];omega)];simp only;rw [if_pos (show (hd (t3::c')).text=zcn from e3.2.2.symm),List.tail_cons];have:=zgp (v:=[]) zte ec hc f (by simp only [List.length_nil];omega);rw [List.append_nil] at this;simp only;rw [this];rfl
theorem zv5{x y:Tok}{s:B}{v:List Tok}(ex:Eqt (tk 3 s) x)(ey:Eqt (tk 6 gives) y)(n:Nat):pat (n+1) (x::y::v)=.ok (.mk 3 s []) (y::v):=by
 rw [pat,if_pos (show (hd (x::y::v)).kind=3 from ex.1.symm),List.tail_cons,zqk _ (fun _=>by rw [show hd (y::v)=y from rfl,← begP ey];decide)];rw [show (hd (x::y::v)).text=s from ex.2.2.symm];rfl
theorem zqc{x y:Tok}{s:B}{q q' v:List Tok}{b:Ex}(ex:Eqt (tk 3 s) x)(ey:Eqt (tk 6 gives) y)(hS:StopE (hd v))(e:Eqs q q')(h:zcb q=.ok b [])(f:Nat)(hf:7*(q.length+v.length)+7≤f):arm f (x::y::(q'++v))=.ok (.mk 3 s [],b) v:=by
 obtain⟨f,rfl⟩ : ∃k,f=k+1:=⟨f-1,by omega⟩;rw [arm,zv5 ex ey];simp only [Res.bind];unfold take;rw [if_pos (show (hd (y::(q'++v))).text=gives from ey.2.2.symm),List.tail_cons];simp only;rw [zgp hS e h f (by omega)];rfl
theorem zts{qa qb qc ts:List Tok}{xa xb xc:Ex}(ha:zcb qa=.ok xa [])(hb:zcb qb=.ok xb [])(hc:zcb qc=.ok xc [])
  (h:Eqs ([tk 5 zft]++(qa++([tk 5 wOf,tk 3 zfh,tk 6 gives]++(qb++([tk 6 [124],tk 3 zdh,tk 6 gives]++(qc++[tk 5 wEnd])))))) ts):zcb ts=.ok (zd6 xa xb xc) []:=by
 simp only [List.cons_append,List.nil_append] at h;obtain⟨t1,r1,rfl,e1,h⟩:=Eqs.one h;obtain⟨a',r2,rfl,ea,h⟩:=Eqs.split h;obtain⟨t2,r3,rfl,e2,h⟩:=Eqs.one h;obtain⟨t3,r4,rfl,e3,h⟩:=Eqs.one h;obtain⟨t4,r5,rfl,e4,h⟩:=Eqs.one h;obtain⟨b',r6,rfl,eb,h⟩:=Eqs.split h;obtain⟨t5,r7,rfl,e5,h⟩:=Eqs.one h;obtain⟨t6,r8,rfl,e6,h⟩:=Eqs.one h;obtain⟨t7,r9,rfl,e7,h⟩:=Eqs.one h;obtain⟨c',fG,rfl,ec,h⟩:=Eqs.split h;obtain⟨t8,pT,rfl,e8,h⟩:=Eqs.one h;cases h;have la:=ea.len;have lb:=eb.len;have lc:=ec.len;unfold zcb;obtain⟨f,hf⟩ : ∃f,fuel (t1::(a'++t2::t3::t4::(b'++t5::t6::t7::(c'++[t8]))))=f+1:=⟨_,rfl⟩;have hF:f=8*(a'.length+b'.length+c'.length+8)+7:=by
  unfold fuel at hf;simp only [List.length_cons,List.length_append,List.length_nil] at hf;omega
 rw [hf,expr];have ht1:(hd (t1::(a'++t2::t3::t4::(b'++t5::t6::t7::(c'++[t8]))))).text=zft:=e1.2.2.symm;rw [ht1,if_neg (by decide),if_neg (by decide),if_pos rfl,List.tail_cons];rw [zgp (v:=t2::t3::t4::(b'++t5::t6::t7::(c'++[t8]))) (zf9 e2 (by decide)) ea ha f (by simp only [List.length_cons,List.length_append,List.length_nil];omega)];simp only [Res.bind];rw [take,if_pos (show (hd (t2::t3::t4::(b'++t5::t6::t7::(c'++[t8])))).text=wOf from e2.2.2.symm),List.tail_cons];simp only;obtain⟨n,hn⟩ : ∃n,(t1::(a'++t2::t3::t4::(b'++t5::t6::t7::(c'++[t8])))).length=n+1+1:=⟨a'.length+b'.length+c'.length+6,by simp only [List.length_cons,List.length_append,List.length_nil];omega⟩;have hA:=zqc (v:=t5::t6::t7::(c'++[t8])) e3 e4 (zf9 e5 (by decide)) eb hb f (by simp only [List.length_cons,List.length_append,List.length_nil];omega);have hB:=zqc (v:=[t8]) e6 e7 (zf9 e8 (by decide)) ec hc f (by simp only [List.length_cons,List.length_nil];omega);rw [hn,row,hA];simp only [Res.bind];rw [more,if_pos (show (hd (t5::t6::t7::(c'++[t8]))).text=[124] from e5.2.2.symm),List.tail_cons,hB];simp only [Res.bind];rw [znq _ (by rw [show (hd [t8]).text=wEnd from e8.2.2.symm];decide)];simp only [Res.map];rw [take,if_pos (show (hd [t8]).text=wEnd from e8.2.2.symm)];rfl
def zqp(a b c:List UInt8):List UInt8:=wIf++32::(a++32::(zdt++32::(b++32::(zcn++32::c))))
def zt5:List UInt8:=wOf++32::(zfh++32::Sx.gives)
def zmh:List UInt8:=[124]++32::(zdh++32::Sx.gives)
def zia(a b c:List UInt8):List UInt8:=zft++32::(a++32::(zt5++32::(b++32::(zmh++32::(c++32::wEnd)))))
theorem zbn{k:Int}{s:B}(h:Lx.scan s 0=.ok [tk k s] []):Gives s [tk k s]:=⟨_,_,h,Eqs.refl _⟩
theorem zn0{a b c:List UInt8}{qa qb qc:List Tok}(ha:Gives a qa)(hb:Gives b qb)(hc:Gives c qc):Gives (zqp a b c) ([tk 5 wIf]++(qa++([tk 5 zdt]++(qb++([tk 5 zcn]++qc))))):=
 (zbn (by rfl)).app (by rfl) (ha.app (by rfl) ((zbn (by rfl)).app (by rfl) (hb.app (by rfl) ((zbn (by rfl)).app (by rfl) hc))))
theorem zj2{a b c:List UInt8}{qa qb qc:List Tok}(ha:Gives a qa)(hb:Gives b qb)(hc:Gives c qc):Gives (zia a b c) ([tk 5 zft]++(qa++([tk 5 wOf,tk 3 zfh,tk 6 gives]++(qb++([tk 6 [124],tk 3 zdh,tk 6 gives]++(qc++[tk 5 wEnd])))))):=
 (zbn (by rfl)).app (by rfl) (ha.app (by rfl) (((zbn (k:=5) (by rfl)).app (by rfl) ((zbn (k:=3) (by rfl)).app (by rfl) (zbn (k:=6) (by rfl)))).app (by rfl) (hb.app (by rfl) (((zbn (k:=6) (by rfl)).app (by rfl) ((zbn (k:=3) (by rfl)).app (by rfl) (zbn (k:=6) (by rfl)))).app (by rfl) (hc.app (by rfl) (zbn (by rfl)))))))
mutual
theorem zrk : ∀x:Pa,zfd x x=true
 | .mk k n a=>by rw [zfd];simp [zf2 a]
theorem zf2 : ∀l:List Pa,zdb l l=true
 | []=>by rw [zdb]
 | x::l=>by rw [zdb,zrk x,zf2 l];rfl
end
mutual
theorem zkf : ∀x:Ex,zg0 x x=true
 | .mk k u n g a p=>by rw [zg0];simp [zis a,zf2 p]
theorem zis : ∀l:List Ex,zeg l l=true
 | []=>by rw [zeg]
 | x::l=>by rw [zeg,zkf x,zis l];rfl
end
end Sx
namespace Go.Proofs.YtclgbmmambkiaaaGreatDoor
open Go.RowKit
def res2{α : Type} : Except (Int×Int) α→Int
 | .ok _=>0
 | .error p=>p.2
theorem zfk(t:ByteArray):t.data.toList.length=t.size:=by rw [qyv];rfl
theorem za6(t:ByteArray)(ht:t.size≤140737488355328)(w:World)(hg:Gl w)(M:Except (Int×Int) Sx.Ex)(HM:Hid (Sx.readW ckE t.size (Lx.upto t.data.toList 20000) Sx.zcb=M))(c:Int)(hc:res2 M=c) :
  Calls Tryz.prog 14 #[.string t] w fun e w'=>Old w w'∧∃(kd nu:Int) (nm ag:ByteArray) (la:Option Addr) (na ca:Nat) (lp:Option Addr) (np cp:Nat) (a:Int),e=.returned (.tuple #[.agg #[.int .i64 kd,.int .i64 nu,.string nm,.string ag,.slice la na ca,.slice lp np cp],.int .i64 a,.int .i64 c]) ∧
   ∀x,M=.ok x→ExAt w' (fun k=>w.heap.size≤k∧k<w'.heap.size) x (.agg #[.int .i64 kd,.int .i64 nu,.string nm,.string ag,.slice la na ca,.slice lp np cp]):=by
 refine (zct t ht w hg M (qya HM.out.symm)).mono ?_;rintro e w' ⟨hO,v,a',c',rfl,h⟩;subst hc;cases M with
 | ok x=>
  obtain⟨rfl,rfl,hx⟩:=h;obtain⟨kd,nu,nm,ag,la,na,ca,lp,np,cp,rfl⟩:=hx.parts;refine⟨hO,kd,nu,nm,ag,la,na,ca,lp,np,cp,0,rfl,?_⟩;intro y hy;cases hy;exact hx
 | error p=>
  obtain⟨rfl,rfl,rfl⟩:=h;exact⟨hO,0,0,⟨#[]⟩,⟨#[]⟩,none,0,0,none,0,0,p.1,rfl,fun x hx=>by cases hx⟩
theorem zyu{w:World}{F F':Nat→Prop}{x:Sx.Ex}{v v':Value}(h:ExAt w F x v)(h':ExAt w F' x v'):Calls Tryz.prog 20 #[v,v'] w fun e w'=>e=.returned (.bool true)∧Old w w':=by
 have:=zit x x F F' v v' w h h';rw [Sx.zkf] at this;exact this
abbrev rdE(t:ByteArray):Except (Int×Int) Sx.Ex:=Sx.readW ckE t.size (Lx.upto t.data.toList 20000) Sx.zcb
theorem zhg : ∀(l:List UInt8) (m:Nat) (p:Nat) (x:Int),Lx.upto l m=.err p x→x≠0:=by
 intro l m p x h;unfold Lx.upto at h;split at h
 ·cases h;decide
 ·have hn : ∀(l:List UInt8) {e:Int},Lx.next l=.err e→e≠0:=fun l e h=>by
   unfold Lx.next at h;simp only at h;split at h
   ·unfold Lx.zb5 at h;simp only at h
    repeat' split at h
    all_goals first | (cases h;decide) | cases h
   ·split at h
    ·unfold Lx.zck at h;simp only at h;split at h <;> cases h
     decide
    ·split at h
     ·unfold Lx.zcl at h;simp only at h
      repeat' split at h
      all_goals first | (cases h;decide) | cases h
     ·split at h
      ·cases h
      ·split at h
       ·cases h
       ·cases h;decide
  have hF : ∀(f:Nat) (l:List UInt8) (p a:Nat) (x:Int),Lx.zdn f l p=.err a x→x≠0:=by
   intro f
   induction f with
   | zero=>intro l p a x h;cases l <;> simp [Lx.zdn] at h
   | succ f ih=>
    intro l p a x h;cases l with
    | nil=>simp [Lx.zdn] at h
    | cons c r=>
     rw [Lx.zdn] at h;split at h
     ·exact ih _ _ _ _ h
     ·split at h
      ·split at h
       ·cases hs:Lx.zdn f ((c::r).drop _) _ with
        | err a' x'=>rw [hs] at h;cases h;exact ih _ _ _ _ hs
        | ok ts cs=>rw [hs] at h;cases h
       ·cases h;decide
       ·cases h;decide
      ·split at h
       ·cases hs:Lx.zdn f ((c::r).drop _) _ with
        | err a' x'=>rw [hs] at h;cases h;exact ih _ _ _ _ hs
        | ok ts cs=>rw [hs] at h;cases h
       ·rename_i e he;cases h;exact hn _ he
  exact hF _ _ _ _ _ h
theorem ztv{α : Type}{ck : α→Int}{rd:List Lx.Tok→Sx.Res α}{l:List UInt8}{m:Nat}{len:Int}{x : α}(h:Sx.readW ck len (Lx.upto l m) rd=.ok x) : ∃q,Sx.Gives l q∧rd q=.ok x []∧ck x=0∧l.length≤m:=by
 unfold Sx.readW at h;cases hs:Lx.upto l m with
 | err p e=>
  rw [hs,if_neg (show ¬(Lx.Scan.err p e).code=0 from zhg l m p e hs)] at h;cases h
 | ok ts cs=>
  rw [hs,if_pos (show (Lx.Scan.ok ts cs).code=0 from rfl)] at h;have h:Sx.treeW ck len (rd ts)=.ok x:=h;obtain⟨xf,hl⟩:=Sx.zsi hs;cases hr:rd ts with
  | bad r=>rw [hr] at h;cases h
  | ok y r=>
   rw [hr] at h;cases r with
   | cons t r=>cases h
   | nil=>
    have h:(if ck y=0 then Except.ok y else Except.error (0,ck y):Except (Int×Int) α)=Except.ok x:=h;split at h
    ·rename_i h0;cases h;exact⟨ts,xf,hr,h0,hl⟩
    ·cases h
theorem zxn{α : Type}{ck : α→Int}{rd:List Lx.Tok→Sx.Res α}{l:List UInt8}{m:Nat}{len:Int}{x : α}{q:List Lx.Tok}(hg:Sx.Gives l q)(hl:l.length≤m)(hr : ∀ts,Sx.Eqs q ts→rd ts=.ok x []):Sx.readW ck len (Lx.upto l m) rd=if ck x=0 then .ok x else .error (0,ck x):=by
 obtain⟨ts,cs,hs,e⟩:=hg.upto hl;unfold Sx.readW;rw [hs,if_pos (show (Lx.Scan.ok ts cs).code=0 from rfl)];show Sx.treeW ck len (rd ts)=_;rw [hr ts e];rfl
theorem zrn{α : Type}{ck : α→Int}{rd:List Lx.Tok→Sx.Res α}{l:List UInt8}{m:Nat}{len:Int}{p:Int×Int}(h:Sx.readW ck len (Lx.upto l m) rd=.error p):p.2≠0:=by
 unfold Sx.readW at h;cases hs:Lx.upto l m with
 | err q e=>
  have h0:=zhg l m q e hs;rw [hs,if_neg (show ¬(Lx.Scan.err q e).code=0 from h0)] at h;cases h;exact h0
 | ok ts cs=>
  rw [hs,if_pos (show (Lx.Scan.ok ts cs).code=0 from rfl)] at h;have h:Sx.treeW ck len (rd ts)=.error p:=h;cases hr:rd ts with
  | bad r=>rw [hr] at h;cases h;exact (by decide:(20:Int)≠0)
  | ok y r=>
   rw [hr] at h;cases r with
   | cons t r=>cases h;exact (by decide:(20:Int)≠0)
   | nil=>
    have h:(if ck y=0 then Except.ok y else Except.error (0,ck y):Except (Int×Int) α)=Except.error p:=h;split at h
    ·cases h
    ·rename_i h0;cases h;exact h0
theorem zw7(x:Sx.Ex):ckE x≠20:=by
 unfold ckE chkV Sx.limV
 repeat' split
 all_goals first | decide | (intro h;cases h) | omega
def tIf(a b c:ByteArray):ByteArray:=⟨#[105,102,32]⟩++a++⟨#[32,116,104,101,110,32]⟩++b++⟨#[32,101,108,115,101,32]⟩++c
def zra(a b c:ByteArray):ByteArray:=⟨#[99,97,115,101,32]⟩++a++⟨#[32,111,102,32,84,114,117,101,32,61,62,32]⟩++b++⟨#[32,124,32,70,97,108,115,101,32,61,62,32]⟩++c++⟨#[32,101,110,100]⟩
theorem zp2(a b c:ByteArray):(tIf a b c).data.toList=Sx.zqp a.data.toList b.data.toList c.data.toList:=by
 simp [tIf,Sx.zqp,Sx.wIf,Sx.zdt,Sx.zcn]
theorem zka(a b c:ByteArray):(zra a b c).data.toList=Sx.zia a.data.toList b.data.toList c.data.toList:=by
 simp [zra,Sx.zia,Sx.zft,Sx.zt5,Sx.zmh,Sx.wOf,Sx.zfh,Sx.gives,Sx.zdh,Sx.wEnd]
theorem zp1(a b c:ByteArray):(tIf a b c).size=a.size+b.size+c.size+15:=by
 rw [← zfk,zp2];simp only [Sx.zqp,Sx.wIf,Sx.zdt,Sx.zcn,qye,qxh,qxi,zfk];omega
theorem zj9(a b c:ByteArray):(zra a b c).size=a.size+b.size+c.size+33:=by
 rw [← zfk,zka];simp only [Sx.zia,Sx.zft,Sx.zt5,Sx.zmh,Sx.wOf,Sx.zfh,Sx.gives,Sx.zdh,Sx.wEnd,qye,qxh,qxi,zfk];omega
theorem zyd{a b c:ByteArray}{xa xb xc:Sx.Ex}(ha:rdE a=.ok xa)(hb:rdE b=.ok xb)(hc:rdE c=.ok xc)(sa:a.size≤6000)(sb:b.size≤6000)(sc:c.size≤6000) :
  rdE (tIf a b c)=(if ckE (Sx.zd6 xa xb xc)=0 then .ok (Sx.zd6 xa xb xc) else .error (0,ckE (Sx.zd6 xa xb xc)))∧rdE (zra a b c)=(if ckE (Sx.zd6 xa xb xc)=0 then .ok (Sx.zd6 xa xb xc) else .error (0,ckE (Sx.zd6 xa xb xc))):=by
 obtain⟨qa,ga,ra,-,-⟩:=ztv ha;obtain⟨qb,gb,rb,-,-⟩:=ztv hb;obtain⟨qc,gc,rc,-,-⟩:=ztv hc;constructor
 ·exact zxn (by rw [zp2];exact Sx.zn0 ga gb gc) (by rw [zfk,zp1];omega) (fun ts e=>Sx.zx1 ra rb rc e)
 ·exact zxn (by rw [zka];exact Sx.zj2 ga gb gc) (by rw [zfk,zj9];omega) (fun ts e=>Sx.zts ra rb rc e)
theorem zy3(a b c:ByteArray)(w:World)(hg:Gl w)(h:6000<a.size∨6000<b.size∨6000<c.size) :
  Calls Tryz.prog 9 #[.string a,.string b,.string c] w fun e w'=>e=.returned (.bool true)∧Old w w':=by
 by_cases h1:6000<a.size
 ·have d1:decide ((6000:Int)<(a.size:Int))=true:=qyl (by omega);have e1:decide (6000<a.size)=true:=qyl h1;clear h h1
  go_enter Tryz.func9,Tryz.ntmps9
  go_wp2_with fail
  refine (zbg w hg).mono ?_;rintro e w1 ⟨rfl,o1⟩;have HO:=qya o1;clear o1;go_wp2;go_ret;exact⟨rfl,HO.out⟩
 ·have d1:decide ((6000:Int)<(a.size:Int))=false:=qyk (by omega);have e1:decide (6000<a.size)=false:=qyk h1
  by_cases h2:6000<b.size
  ·have d2:decide ((6000:Int)<(b.size:Int))=true:=qyl (by omega);have e2:decide (6000<b.size)=true:=qyl h2;clear h h1 h2
   go_enter Tryz.func9,Tryz.ntmps9
   go_wp2_with fail
   refine (zbg w hg).mono ?_;rintro e w1 ⟨rfl,o1⟩;have HO:=qya o1;clear o1;go_wp2;go_ret;exact⟨rfl,HO.out⟩
  ·have d2:decide ((6000:Int)<(b.size:Int))=false:=qyk (by omega);have e2:decide (6000<b.size)=false:=qyk h2;have d3:decide ((6000:Int)<(c.size:Int))=true:=qyl (by omega);have e3:decide (6000<c.size)=true:=qyl (by omega);clear h h1 h2
   go_enter Tryz.func9,Tryz.ntmps9
   go_wp2_with fail
   refine (zbg w hg).mono ?_;rintro e w1 ⟨rfl,o1⟩;have HO:=qya o1;clear o1;go_wp2;go_ret;exact⟨rfl,HO.out⟩
theorem zl5(a b c:ByteArray)(w:World)(hg:Gl w)(sa:a.size≤6000)(sb:b.size≤6000)(sc:c.size≤6000)(h:res2 (rdE a)≠0∨res2 (rdE b)≠0∨res2 (rdE c)≠0) :
  Calls Tryz.prog 9 #[.string a,.string b,.string c] w fun e w'=>e=.returned (.bool true)∧Old w w':=by
 obtain⟨ca,hca⟩ : ∃x,res2 (rdE a)=x:=⟨_,rfl⟩;obtain⟨cb,hcb⟩ : ∃x,res2 (rdE b)=x:=⟨_,rfl⟩;obtain⟨cc,pV⟩ : ∃x,res2 (rdE c)=x:=⟨_,rfl⟩;rw [hca,hcb,pV] at h;have HC:=qya (And.intro hca (And.intro hcb pV));clear hca hcb pV;have d1:decide ((6000:Int)<(a.size:Int))=false:=qyk (by omega);have e1:decide (6000<a.size)=false:=qyk (by omega);have d2:decide ((6000:Int)<(b.size:Int))=false:=qyk (by omega);have e2:decide (6000<b.size)=false:=qyk (by omega);have d3:decide ((6000:Int)<(c.size:Int))=false:=qyk (by omega);have e3:decide (6000<c.size)=false:=qyk (by omega);have qY:=qya (And.intro sa (And.intro sb sc));clear sa sb sc
 by_cases h1:ca=0
 ·have f1:(ca != 0)=false:=by rw [h1];rfl
  by_cases h2:cb=0
  ·have f2:(cb != 0)=false:=(by rw [h2];rfl);have f3:(cc != 0)=true:=bne_iff_ne.2 (by omega);clear h h1 h2
   go_enter Tryz.func9,Tryz.ntmps9
   go_wp2_with fail
   refine (zbg w hg).mono ?_;rintro e w1 ⟨rfl,o1⟩
   go_wp2_with fail
   refine (za6 a (by have:=qY.out;omega) w1 (hg.old o1) _ (qya rfl) ca HC.out.1).mono ?_;rintro e w2 ⟨o2,kd,nu,nm,ag,la,na,uD,lp,np,cp,p,rfl,-⟩;have o2:=(o1.trans o2).alloc (.cells #[.int .i64 kd,.int .i64 nu,.string nm,.string ag,.slice la na uD,.slice lp np cp] 32);clear o1
   go_wp2_with fail
   refine (za6 b (by have:=qY.out;omega) _ (hg.old o2) _ (qya rfl) cb HC.out.2.1).mono ?_;rintro e w3 ⟨o3,lw,mL,m5,eC,ly,m7,mY,lj,mA,eU,p3,rfl,-⟩;have o3:=(o2.trans o3).alloc (.cells #[.int .i64 lw,.int .i64 mL,.string m5,.string eC,.slice ly m7 mY,.slice lj mA eU] 32);clear o2
   go_wp2_with fail
   refine (za6 c (by have:=qY.out;omega) _ (hg.old o3) _ (qya rfl) cc HC.out.2.2).mono ?_;rintro e w4 ⟨o4,jo,jr,jl,jV,ji,je,jt,ja,jm,jZ,p4,rfl,-⟩;have HO:=qya ((o3.trans o4).alloc (.cells #[.int .i64 jo,.int .i64 jr,.string jl,.string jV,.slice ji je jt,.slice ja jm jZ] 32));clear o3 o4;go_wp2;go_ret;exact⟨rfl,HO.out⟩
  ·have f2:(cb != 0)=true:=bne_iff_ne.2 h2;clear h h1 h2
   go_enter Tryz.func9,Tryz.ntmps9
   go_wp2_with fail
   refine (zbg w hg).mono ?_;rintro e w1 ⟨rfl,o1⟩
   go_wp2_with fail
   refine (za6 a (by have:=qY.out;omega) w1 (hg.old o1) _ (qya rfl) ca HC.out.1).mono ?_;rintro e w2 ⟨o2,kd,nu,nm,ag,la,na,uD,lp,np,cp,p,rfl,-⟩;have o2:=(o1.trans o2).alloc (.cells #[.int .i64 kd,.int .i64 nu,.string nm,.string ag,.slice la na uD,.slice lp np cp] 32);clear o1
   go_wp2_with fail
   refine (za6 b (by have:=qY.out;omega) _ (hg.old o2) _ (qya rfl) cb HC.out.2.1).mono ?_;rintro e w3 ⟨o3,lw,mL,m5,eC,ly,m7,mY,lj,mA,eU,p3,rfl,-⟩;have o3:=(o2.trans o3).alloc (.cells #[.int .i64 lw,.int .i64 mL,.string m5,.string eC,.slice ly m7 mY,.slice lj mA eU] 32);clear o2
   go_wp2_with fail
   refine (za6 c (by have:=qY.out;omega) _ (hg.old o3) _ (qya rfl) cc HC.out.2.2).mono ?_;rintro e w4 ⟨o4,jo,jr,jl,jV,ji,je,jt,ja,jm,jZ,p4,rfl,-⟩;have HO:=qya ((o3.trans o4).alloc (.cells #[.int .i64 jo,.int .i64 jr,.string jl,.string jV,.slice ji je jt,.slice ja jm jZ] 32));clear o3 o4;go_wp2;go_ret;exact⟨rfl,HO.out⟩
 ·have f1:(ca != 0)=true:=bne_iff_ne.2 h1;clear h h1
  go_enter Tryz.func9,Tryz.ntmps9
  go_wp2_with fail
  refine (zbg w hg).mono ?_;rintro e w1 ⟨rfl,o1⟩
  go_wp2_with fail
  refine (za6 a (by have:=qY.out;omega) w1 (hg.old o1) _ (qya rfl) ca HC.out.1).mono ?_;rintro e w2 ⟨o2,kd,nu,nm,ag,la,na,uD,lp,np,cp,p,rfl,-⟩;have o2:=(o1.trans o2).alloc (.cells #[.int .i64 kd,.int .i64 nu,.string nm,.string ag,.slice la na uD,.slice lp np cp] 32);clear o1
  go_wp2_with fail
  refine (za6 b (by have:=qY.out;omega) _ (hg.old o2) _ (qya rfl) cb HC.out.2.1).mono ?_;rintro e w3 ⟨o3,lw,mL,m5,eC,ly,m7,mY,lj,mA,eU,p3,rfl,-⟩;have o3:=(o2.trans o3).alloc (.cells #[.int .i64 lw,.int .i64 mL,.string m5,.string eC,.slice ly m7 mY,.slice lj mA eU] 32);clear o2
  go_wp2_with fail
  refine (za6 c (by have:=qY.out;omega) _ (hg.old o3) _ (qya rfl) cc HC.out.2.2).mono ?_;rintro e w4 ⟨o4,jo,jr,jl,jV,ji,je,jt,ja,jm,jZ,p4,rfl,-⟩;have HO:=qya ((o3.trans o4).alloc (.cells #[.int .i64 jo,.int .i64 jr,.string jl,.string jV,.slice ji je jt,.slice ja jm jZ] 32));clear o3 o4;go_wp2;go_ret;exact⟨rfl,HO.out⟩
end Go.Proofs.YtclgbmmambkiaaaGreatDoor

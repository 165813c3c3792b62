/- Part 00 -/
import Derived.Test.YtclgbmmambkiaaaGreatDoorRows
import Derived.LaidMore
import Derived.Lib.LaidTab
import Derived.Stop.LaidErr
import Derived.ProofKit
import Derived.OpenShut
import Derived.Stop.Joined
import Derived.Test.YtclgbmmambkiaaaGreatDoorMb11
set_option maxRecDepth 100000
set_option maxHeartbeats 4000000
set_option linter.unusedVariables false
set_option linter.unusedSimpArgs false
namespace Go.Proofs.YtclgbmmambkiaaaGreatDoor
open Go.ChangeShapes Go.WideShapes Go.ChangeAt Go.WideMaps Go.WideElems Go.RowKit
theorem own:ownKnob Tryz.prog.godebug=none:=by kernel_rfl
theorem star : "*" ++ "errors.errorString" = "*errors.errorString" := by decide
theorem zxm(u:TypeId)(h:Tryz.prog.typeName? 3 u=some "*errors.errorString"):u=306:=
 typeName_ptr_named (nm:= "errors.errorString") (by rw[star];kernel_rfl) (by kernel_rfl) (by decide) u (by rw[star];exact h)
abbrev laid5:List (String×DataW Unit):=Rows.syntaxPrefixRow.laid
theorem zqu(os:Os)(args:Array Value):laidMetH Tryz.prog laid5 ((World.doorLaid Tryz.prog 400 os).forCall (λ_ _=>0) ⟨#[],args,[]⟩).memory:=
 laidMetH_of_parts3 (fuel:=8) (laidMet_of_run' 8 (by kernel_rfl) (by kernel_rfl)) (by kernel_rfl) (by kernel_rfl)
theorem zt4{W:World}(h:laidMetH Tryz.prog laid5 W):Gl W:=by
 rw[MakeChecks.laidMetH_plain _ _ _ (by kernel_rfl)]at h;have h1:=h.tail;have h2:=h1.tail;have h3:=h2.tail;have h4:=h3.tail;obtain⟨a,s,hr,_⟩:=laid_sentinel h3 (g:=3) (ti:=114) (tp:=306) (te:=308) (ts:=9) (by kernel_rfl) (by kernel_rfl) Tryz.underlying114 zxm Tryz.underlying306 Tryz.underlying308 rfl rfl Tryz.underlying9 (by kernel_rfl) (by kernel_rfl);obtain⟨a',s',hs,_⟩:=laid_sentinel h4 (g:=2) (ti:=114) (tp:=306) (te:=308) (ts:=9) (by kernel_rfl) (by kernel_rfl) Tryz.underlying114 zxm Tryz.underlying306 Tryz.underlying308 rfl rfl Tryz.underlying9 (by kernel_rfl) (by kernel_rfl);have htab:Lib.TabIs Tryz.prog W "internal/strconv.uint64pow10" .u64 Lib.pow10Tab:=Lib.tabIs_of_head (g:=1) (t:=294) (by kernel_rfl) (by kernel_rfl) Tryz.underlying294 Tryz.underlying281 (by kernel_rfl) (by kernel_rfl) h2;refine⟨?_,htab,⟨_,_,hs⟩,⟨_,_,hr⟩⟩;obtain⟨ps,⟨g,t,cs,fuel,p,q,hg,ht,wI,_⟩,_⟩:=h1;have hg5:Tryz.prog.globalNamed "math/bits.deBruijn64tab" = some 5:=by kernel_rfl
 unfold World.var? at wI;rw[hg5]at wI;simp only[Option.bind_some]at wI;rcases Nat.lt_or_ge 5 W.heap.size with h'|h'
 ·exact h'
 ·rw[Array.getElem?_eq_none h']at wI;cases wI
end Go.Proofs.YtclgbmmambkiaaaGreatDoor
namespace Sx
open Lx (Tok)
def Res.rest{α:Type}:Res α->List Tok
 |.ok _ r=>r
 |.bad r=>r
def Short{α:Type}(el:List Tok->Res α):Prop:=∀l,(el l).rest.length<=l.length
def Sim{α:Type}(t:Tok)(u u':List Tok)(a b:Res α)(q:List Tok)(m:Nat):Prop:=
 a.rest.length<=u.length\/(∃x r,r.length+m<=q.length/\a=.ok x (r++t::u)/\b=.ok x (r++t::u'))\/(∃r,r.length<=q.length/\a=.bad (r++t::u)/\b=.bad (r++t::u'))
section
variable {t:Tok} {u u':List Tok}
theorem zdf(q:List Tok):hd (q++t::u)=hd (q++t::u'):=by
 cases q <;> rfl
theorem Sim.less{α:Type}{a b:Res α}{q:List Tok}{m m':Nat}(h:Sim t u u' a b q m)(hm:m'<=m):Sim t u u' a b q m':=by
 rcases h with h|⟨x,r,h1,h2⟩|h
 ·exact .inl h
 ·exact .inr (.inl ⟨x,r,by omega,h2⟩)
 ·exact .inr (.inr h)
theorem Sim.ok{α:Type}(x:α)(q:List Tok):Sim t u u' (.ok x (q++t::u)) (.ok x (q++t::u')) q 0:=.inr (.inl ⟨x,q,by omega,rfl,rfl⟩)
theorem Sim.bad{α:Type}(q:List Tok)(m:Nat):Sim t u u' (.bad (q++t::u):Res α) (.bad (q++t::u')) q m:=.inr (.inr ⟨q,Nat.le_refl _,rfl,rfl⟩)
theorem Sim.map{α β:Type}{a b:Res α}{q:List Tok}{m:Nat}(f:α->β)(h:Sim t u u' a b q m):Sim t u u' (a.map f) (b.map f) q m:=by
 rcases h with h|⟨x,r,h1,rfl,rfl⟩|⟨r,h1,rfl,rfl⟩
 ·left;cases a <;> exact h
 ·exact .inr (.inl ⟨f x,r,h1,rfl,rfl⟩)
 ·exact .inr (.inr ⟨r,h1,rfl,rfl⟩)
theorem Sim.bind{α β:Type}{a b:Res α}{q:List Tok}{m m2:Nat}{f g:α->List Tok->Res β}(h:Sim t u u' a b q m)(hs:∀x,Short (f x))
  (hf:∀x r,r.length+m<=q.length->Sim t u u' (f x (r++t::u)) (g x (r++t::u')) r m2):Sim t u u' (a.bind f) (b.bind g) q (m+m2):=by
 rcases h with h|⟨x,r,h1,rfl,rfl⟩|⟨r,h1,rfl,rfl⟩
 ·left;cases a with
  |ok x r=>exact Nat.le_trans (hs x r) h
  |bad r=>exact h
 ·rcases hf x r h1 with h|⟨y,r2,h2,e1,e2⟩|⟨r2,h2,e1,e2⟩
  ·exact .inl h
  ·exact .inr (.inl ⟨y,r2,by omega,e1,e2⟩)
  ·exact .inr (.inr ⟨r2,by omega,e1,e2⟩)
 ·exact .inr (.inr ⟨r,h1,rfl,rfl⟩)
theorem Sim.tail{α:Type}{q:List Tok}{m:Nat}{f g:List Tok->Res α}(hs:Short f)(h:∀q',q'.length+1=q.length->Sim t u u' (f (q'++t::u)) (g (q'++t::u')) q' m):Sim t u u' (f (q++t::u).tail) (g (q++t::u').tail) q (m+1):=by
 cases q with
 |nil=>exact .inl (hs u)
 |cons y q'=>
  rcases h q' rfl with h|⟨x,r,h1,e1,e2⟩|⟨r,h1,e1,e2⟩
  ·exact .inl h
  ·exact .inr (.inl ⟨x,r,by simp;omega,e1,e2⟩)
  ·exact .inr (.inr ⟨r,by simp;omega,e1,e2⟩)
theorem Short.ok{α:Type}(x:α):Short (λl=>.ok x l):=λ_=>Nat.le_refl _
theorem Short.bad{α:Type}:Short (λl=>(.bad l:Res α)):=λ_=>Nat.le_refl _
theorem Short.map{α β:Type}{f:List Tok->Res α}(h:Short f)(k:α->β):Short (λl=>(f l).map k):=λl=>by
 have:=h l;show ((f l).map k).rest.length<=_;cases e:f l <;> rw[e]at this <;> exact this
theorem Short.bind{α β:Type}{f:List Tok->Res α}{k:α->List Tok->Res β}(h:Short f)(hk:∀x,Short (k x)):Short (λl=>(f l).bind k):=λl=>by
 have:=h l;show ((f l).bind k).rest.length<=_;cases e:f l with
 |ok x r=>rw[e]at this;exact Nat.le_trans (hk x r) this
 |bad r=>rw[e]at this;exact this
theorem Short.tail{α:Type}{f:List Tok->Res α}(h:Short f):Short (λl=>f l.tail):=λl=>Nat.le_trans (h l.tail) (by simp)
theorem zab(x:B):Short (take x):=λl=>by
 unfold take;split
 ·show l.tail.length<=_;simp
 ·exact Nat.le_refl _
theorem zam(k:Int):Short (zag k):=λl=>by
 unfold zag;split
 ·show l.tail.length<=_;simp
 ·exact Nat.le_refl _
theorem zau{α:Type}{b:Tok->Bool}{el:List Tok->Res α}(h:Short el):∀n,Short (many b el n)
 |0=>Short.ok _
 |n+1=>λl=>by
  rw[many];split
  ·exact(h.bind (λx=>(zau h n).map (x :: ·))) l
  ·exact Nat.le_refl _
theorem zbv{α:Type}{s:B}{el:List Tok->Res α}(h:Short el):∀n,Short (more s el n)
 |0=>Short.ok _
 |n+1=>λl=>by
  rw[more];split
  ·exact(Short.tail (h.bind (λx=>(zbv h n).map (x :: ·)))) l
  ·exact Nat.le_refl _
theorem zbl{α:Type}{s:B}{el:List Tok->Res α}(h:Short el)(n:Nat):Short (row s el n):=h.bind (λx=>(zbv h n).map (x :: ·))
theorem zbf{el:List Tok->Res Ex}{s:List B}(h:Short el):∀n a,Short (chain el s n a)
 |0,a=>Short.ok _
 |n+1,a=>λl=>by
  rw[chain];split
  ·exact Nat.le_trans (((h.bind (λb=>zbf h n _))) l.tail) (by simp)
  ·exact Nat.le_refl _
theorem short_group{α:Type}{el:List Tok->Res α}{xu:List α->α}(h:Short el):Short (zcd el xu):=λl=>by
 unfold zcd;exact(h.bind (λx=>(zbv h 3).bind (λxs=>(zab [41]).map _))) l
theorem zbs(x:B)(q:List Tok):Sim t u u' (take x (q++t::u)) (take x (q++t::u')) q 1:=by
 unfold take;rw[zdf (u:=u) (u':=u') q];split
 ·exact Sim.tail (m:=0) (Short.ok ()) (λq' _=>Sim.ok () q')
 ·exact Sim.bad q 1
theorem zc7(k:Int)(q:List Tok):Sim t u u' (zag k (q++t::u)) (zag k (q++t::u')) q 1:=by
 unfold zag;rw[zdf (u:=u) (u':=u') q];split
 ·exact Sim.tail (m:=0) (Short.ok _) (λq' _=>Sim.ok _ q')
 ·exact Sim.bad q 1
def zdi{α:Type}(t:Tok)(u u':List Tok)(n:Nat)(el zK:List Tok->Res α):Prop:=∀q:List Tok,q.length<=n->Sim t u u' (el (q++t::u)) (zK (q++t::u')) q 1
theorem zen{α:Type}{b:Tok->Bool}{el zK:List Tok->Res α}(hs:Short el):∀(k k':Nat) (q:List Tok),k=k'\/(q.length<k/\q.length<k')->zdi t u u' q.length el zK->Sim t u u' (many b el k (q++t::u)) (many b zK k' (q++t::u')) q 0
 |0,k',q,hk,h=>by
  obtain rfl:k'=0:=by omega
  exact Sim.ok [] q
 |k+1,0,q,hk,h=>by omega
 |k+1,j+1,q,hk,h=>by
  rw[many,many,zdf (u:=u) (u':=u') q];split
  ·refine(Sim.bind (m2:=0) (h q (Nat.le_refl _)) (λx=>(zau hs k).map _) (λx r hr =>?_)).less (by omega);exact(zen hs k j r (by omega) (λq2 h2=>h q2 (by omega))).map _
  ·exact Sim.ok [] q
theorem zlk{α:Type}{s:B}{el zK:List Tok->Res α}(hs:Short el):∀(k k':Nat) (q:List Tok),k=k'\/(q.length<k/\q.length<k')->zdi t u u' q.length el zK->Sim t u u' (more s el k (q++t::u)) (more s zK k' (q++t::u')) q 0
 |0,k',q,hk,h=>by
  obtain rfl:k'=0:=by omega
  exact Sim.ok [] q
 |k+1,0,q,hk,h=>by omega
 |k+1,j+1,q,hk,h=>by
  rw[more,more,zdf (u:=u) (u':=u') q];split
  ·refine(Sim.tail (m:=0) (f:=λl=>(el l).bind λx r=>(more s el k r).map (x :: ·)) (g:=λl=>(zK l).bind λx r=>(more s zK j r).map (x :: ·)) (hs.bind (λx=>(zbv hs k).map _)) (λq' hq =>?_)).less (by omega);refine(Sim.bind (m2:=0) (h q' (by omega)) (λx=>(zbv hs k).map _) (λx r hr =>?_)).less (by omega);exact(zlk hs k j r (by omega) (λq2 h2=>h q2 (by omega))).map _
  ·exact Sim.ok [] q
theorem zim{s:List B}{el zK:List Tok->Res Ex}(hs:Short el):∀(k k':Nat) (a:Ex) (q:List Tok),k=k'\/(q.length<k/\q.length<k')->zdi t u u' q.length el zK->Sim t u u' (chain el s k a (q++t::u)) (chain zK s k' a (q++t::u')) q 0
 |0,k',a,q,hk,h=>by
  obtain rfl:k'=0:=by omega
  exact Sim.ok a q
 |k+1,0,a,q,hk,h=>by omega
 |k+1,j+1,a,q,hk,h=>by
  rw[chain,chain,zdf (u:=u) (u':=u') q];split
  ·refine(Sim.tail (m:=0) (f:=λl=>(el l).bind λb r=>chain el s k (op (hd (q++t::u')).text a b) r) (g:=λl=>(zK l).bind λb r=>chain zK s j (op (hd (q++t::u')).text a b) r) (hs.bind (λx=>zbf hs k _)) (λq' hq =>?_)).less (by omega);refine(Sim.bind (m2:=0) (h q' (by omega)) (λx=>zbf hs k _) (λx r hr =>?_)).less (by omega);exact zim hs k j _ r (by omega) (λq2 h2=>h q2 (by omega))
  ·exact Sim.ok a q
theorem zon{α:Type}{s:B}{el zK:List Tok->Res α}(hs:Short el)(k k':Nat)(q:List Tok)(hk:k=k'\/(q.length<k/\q.length<k'))(h:zdi t u u' q.length el zK):Sim t u u' (row s el k (q++t::u)) (row s zK k' (q++t::u')) q 1:=by
 unfold row;refine Sim.bind (m2:=0) (h q (Nat.le_refl _)) (λx=>(zbv hs k).map _) (λx r hr =>?_);exact(zlk hs k k' r (by omega) (λq2 h2=>h q2 (by omega))).map _
theorem zil{α:Type}{el zK:List Tok->Res α}{xu:List α->α}(hs:Short el)(q:List Tok)(h:zdi t u u' q.length el zK):Sim t u u' (zcd el xu (q++t::u)) (zcd zK xu (q++t::u')) q 2:=by
 unfold zcd;refine Sim.bind (m2:=1) (h q (Nat.le_refl _)) (λx=>(zbv hs 3).bind (λxs=>(zab [41]).map _)) (λx r hr =>?_);refine(Sim.bind (m:=0) (m2:=1) (zlk hs 3 3 r (.inl rfl) (λq2 h2=>h q2 (by omega))) (λxs=>(zab [41]).map _) (λxs r2 xr =>?_)).less (by omega);exact(zbs [41] r2).map _
end
mutual
theorem zdu:∀f,Short (typ f)
 |0=>Short.bad
 |f+1=>λl=>by
  rw[typ];refine(Short.bind (k:=λa r=>if (hd r).text=arrow then (typ f r.tail).map λb=>.mk arrow [a,b] else .ok a r) (zjw f) (λa r =>?_)) l
  dsimp only
  split
  ·exact((zdu f).map _).tail r
  ·exact Nat.le_refl _
theorem zjw:∀f,Short (zaw f)
 |0=>Short.bad
 |f+1=>λl=>by
  rw[zaw];split
  ·exact((zau (zbe f) l.length).map _).tail l
  ·exact zbe f l
theorem zbe:∀f,Short (zak f)
 |0=>Short.bad
 |f+1=>λl=>by
  rw[zak];split
  ·exact(Short.ok _).tail l
  ·split
   ·exact(short_group (zdu f)).tail l
   ·exact Nat.le_refl _
end
mutual
theorem ze8:∀f,Short (pat f)
 |0=>Short.bad
 |f+1=>λl=>by
  rw[pat];split
  ·exact((zau (zcp f) l.length).map _).tail l
  ·exact zcp f l
theorem zcp:∀f,Short (zaq f)
 |0=>Short.bad
 |f+1=>λl=>by
  rw[zaq];split
  ·exact(Short.ok _).tail l
  ·split
   ·exact(Short.ok _).tail l
   ·split
    ·exact(Short.ok _).tail l
    ·split
     ·exact(short_group (ze8 f)).tail l
     ·exact Nat.le_refl _
end
mutual
theorem zac:∀f,Short (expr f)
 |0=>Short.bad
 |f+1=>λl=>by
  rw[expr];split
  ·exact((zam 2).bind (λx=>(zab gives).bind (λ_=>(zac f).map _))).tail l
  ·split
   ·split
    ·exact((zam 2).bind (λn=>(zam 2).bind (λx=>(zab [61]).bind (λ_=>(zac f).bind (λa=>(zab wIn).bind (λ_=>(zac f).map _)))))).tail.tail l
    ·exact((zam 2).bind (λn=>(zab [61]).bind (λ_=>(zac f).bind (λa=>(zab wIn).bind (λ_=>(zac f).map _))))).tail l
   ·split
    ·exact((zac f).bind (λa=>(zab wOf).bind (λ_=>(zbl (zc9 f) l.length).bind (λxs=>(zab wEnd).map _)))).tail l
    ·split
     ·exact((zac f).bind (λa=>(zab zdt).bind (λ_=>(zac f).bind (λb=>(zab zcn).bind (λ_=>(zac f).map _))))).tail l
     ·exact zrc f l
theorem zc9:∀f,Short (arm f)
 |0=>Short.bad
 |f+1=>λl=>by
  rw[arm];exact((ze8 (4*l.length+4)).bind (λp=>(zab gives).bind (λ_=>(zac f).map _))) l
theorem zrc:∀f,Short (comp f)
 |0=>Short.bad
 |f+1=>λl=>by
  rw[comp];refine(Short.bind (k:=λa r=>if (hd r).text=[60]\/(hd r).text=[61] then (sum f r.tail).map λb=>op (hd r).text a b else .ok a r) (ze7 f) (λa r =>?_)) l
  dsimp only
  split
  ·exact((ze7 f).map _).tail r
  ·exact Nat.le_refl _
theorem ze7:∀f,Short (sum f)
 |0=>Short.bad
 |f+1=>λl=>by
  rw[sum];exact(Short.bind (k:=λa r=>chain (prod f) zdz r.length a r) (zdq f) (λa r=>zbf (zdq f) r.length a r)) l
theorem zdq:∀f,Short (prod f)
 |0=>Short.bad
 |f+1=>λl=>by
  rw[prod];exact(Short.bind (k:=λa r=>chain (app f) zdc r.length a r) (zec f) (λa r=>zbf (zec f) r.length a r)) l
theorem zec:∀f,Short (app f)
 |0=>Short.bad
 |f+1=>λl=>by
  rw[app];split
  ·exact((zau (zbw f) l.length).map _).tail l
  ·exact(Short.bind (k:=λa r=>(many zai (atom f) r.length r).map λxs=>xs.foldl (λa b=>.mk 4 0 [] [] [a,b] []) a) (zbw f) (λa r=>((zau (zbw f) r.length).map _) r)) l
theorem zbw:∀f,Short (atom f)
 |0=>Short.bad
 |f+1=>λl=>by
  rw[atom];split
  ·exact(Short.ok _).tail l
  ·split
   ·exact(Short.ok _).tail l
   ·split
    ·exact(Short.ok _).tail l
    ·split
     ·exact(short_group (zac f)).tail l
     ·exact Nat.le_refl _
end
section
variable {t:Tok} {u u':List Tok}
theorem Sim.up{α:Type}{a b:Res α}{q:List Tok}{m m':Nat}(h:Sim t u u' a b q m)(hm:m'<=m):Sim t u u' a b q m':=h.less hm
theorem len_app(q:List Tok):q.length<(q++t::u).length:=by simp
theorem zm2:∀n:Nat,(∀f f',4*n+1<=f->4*n+1<=f'->zdi t u u' n (zak f) (zak f'))/\(∀f f',4*n+2<=f->4*n+2<=f'->zdi t u u' n (zaw f) (zaw f'))/\(∀f f',4*n+3<=f->4*n+3<=f'->zdi t u u' n (typ f) (typ f')):=by
 intro n
 induction n using Nat.strongRecOn with
 |ind n IH=>
  have hA:∀f f',4*n+1<=f->4*n+1<=f'->zdi t u u' n (zak f) (zak f'):=by
   intro f f' hf ub q hq;obtain⟨f,rfl⟩:∃k,f=k+1:=⟨f-1,by omega⟩;obtain⟨f',rfl⟩:∃k,f'=k+1:=⟨f'-1,by omega⟩;rw[zak,zak,zdf (u:=u) (u':=u') q];split
   ·exact Sim.tail (m:=0) (Short.ok _) (λq' _=>Sim.ok _ q')
   ·split
    ·exact(Sim.tail (m:=2) (short_group (zdu f)) (λq' jq=>zil (zdu f) q' ((IH q'.length (by omega)).2.2 f f' (by omega) (by omega)))).less (by omega)
    ·exact Sim.bad q 1
  have hD:∀f f',4*n+2<=f->4*n+2<=f'->zdi t u u' n (zaw f) (zaw f'):=by
   intro f f' hf ub q hq;obtain⟨f,rfl⟩:∃k,f=k+1:=⟨f-1,by omega⟩;obtain⟨f',rfl⟩:∃k,f'=k+1:=⟨f'-1,by omega⟩;rw[zaw,zaw,zdf (u:=u) (u':=u') q];split
   ·have hl:=len_app (t:=t) (u:=u) q;have gB:=len_app (t:=t) (u:=u') q;exact(Sim.tail (m:=0) (f:=many za7 (zak f) (q++t::u).length) (g:=many za7 (zak f') (q++t::u').length) (zau (zbe f) _) (λq' jq=>zen (zbe f) _ _ q' (.inr (by omega)) (λq2 h2=>hA f f' (by omega) (by omega) q2 (by omega)))).map _
   ·exact hA f f' (by omega) (by omega) q hq
  refine⟨hA,hD,?_⟩;intro f f' hf ub q hq;obtain⟨f,rfl⟩:∃k,f=k+1:=⟨f-1,by omega⟩;obtain⟨f',rfl⟩:∃k,f'=k+1:=⟨f'-1,by omega⟩;rw[typ,typ];refine Sim.bind (m:=1) (m2:=0) (hD f f' (by omega) (by omega) q hq) (λa r =>?_) (λa r hr =>?_)
  ·split
   ·exact((zdu f).map _).tail r
   ·exact Nat.le_refl _
  ·rw[zdf (u:=u) (u':=u') r];split
   ·exact((Sim.tail (m:=1) (zdu f) (λq' jq=>(IH q'.length (by omega)).2.2 f f' (by omega) (by omega) q' (Nat.le_refl _))).map _).less (by omega)
   ·exact Sim.ok a r
theorem zvo:∀n:Nat,(∀f f',4*n+1<=f->4*n+1<=f'->zdi t u u' n (zaq f) (zaq f'))/\(∀f f',4*n+2<=f->4*n+2<=f'->zdi t u u' n (pat f) (pat f')):=by
 intro n
 induction n using Nat.strongRecOn with
 |ind n IH=>
  have hA:∀f f',4*n+1<=f->4*n+1<=f'->zdi t u u' n (zaq f) (zaq f'):=by
   intro f f' hf ub q hq;obtain⟨f,rfl⟩:∃k,f=k+1:=⟨f-1,by omega⟩;obtain⟨f',rfl⟩:∃k,f'=k+1:=⟨f'-1,by omega⟩;rw[zaq,zaq,zdf (u:=u) (u':=u') q];split
   ·exact Sim.tail (m:=0) (Short.ok _) (λq' _=>Sim.ok _ q')
   ·split
    ·exact Sim.tail (m:=0) (Short.ok _) (λq' _=>Sim.ok _ q')
    ·split
     ·exact Sim.tail (m:=0) (Short.ok _) (λq' _=>Sim.ok _ q')
     ·split
      ·exact(Sim.tail (m:=2) (short_group (ze8 f)) (λq' jq=>zil (ze8 f) q' ((IH q'.length (by omega)).2 f f' (by omega) (by omega)))).less (by omega)
      ·exact Sim.bad q 1
  refine⟨hA,?_⟩;intro f f' hf ub q hq;obtain⟨f,rfl⟩:∃k,f=k+1:=⟨f-1,by omega⟩;obtain⟨f',rfl⟩:∃k,f'=k+1:=⟨f'-1,by omega⟩;rw[pat,pat,zdf (u:=u) (u':=u') q];split
  ·have hl:=len_app (t:=t) (u:=u) q;have gB:=len_app (t:=t) (u:=u') q;exact(Sim.tail (m:=0) (f:=many zbo (zaq f) (q++t::u).length) (g:=many zbo (zaq f') (q++t::u').length) (zau (zcp f) _) (λq' jq=>zen (zcp f) _ _ q' (.inr (by omega)) (λq2 h2=>hA f f' (by omega) (by omega) q2 (by omega)))).map _
  ·exact hA f f' (by omega) (by omega) q hq
end
section
variable {t:Tok} {u u':List Tok}
theorem Sim.bnd{α β:Type}{a b:Res α}{q:List Tok}{f g:α->List Tok->Res β}(h:Sim t u u' a b q 1)(hs:∀x,Short (f x))
  (hf:∀x r,r.length+1<=q.length->Sim t u u' (f x (r++t::u)) (g x (r++t::u')) r 0):Sim t u u' (a.bind f) (b.bind g) q 1:=Sim.bind (m2:=0) h hs hf
theorem Sim.bnd0{α β:Type}{a b:Res α}{q:List Tok}{f g:α->List Tok->Res β}(h:Sim t u u' a b q 1)(hs:∀x,Short (f x))
  (hf:∀x r,r.length+1<=q.length->Sim t u u' (f x (r++t::u)) (g x (r++t::u')) r 0):Sim t u u' (a.bind f) (b.bind g) q 0:=(Sim.bnd h hs hf).less (Nat.zero_le 1)
structure Exprs(t:Tok)(u u':List Tok)(n:Nat):Prop where
 atom:∀f f',7*n+1<=f->7*n+1<=f'->zdi t u u' n (Sx.atom f) (Sx.atom f')
 app:∀f f',7*n+2<=f->7*n+2<=f'->zdi t u u' n (Sx.app f) (Sx.app f')
 prod:∀f f',7*n+3<=f->7*n+3<=f'->zdi t u u' n (Sx.prod f) (Sx.prod f')
 sum:∀f f',7*n+4<=f->7*n+4<=f'->zdi t u u' n (Sx.sum f) (Sx.sum f')
 comp:∀f f',7*n+5<=f->7*n+5<=f'->zdi t u u' n (Sx.comp f) (Sx.comp f')
 expr:∀f f',7*n+6<=f->7*n+6<=f'->zdi t u u' n (Sx.expr f) (Sx.expr f')
 arm:∀f f',7*n+1<=f->7*n+1<=f'->zdi t u u' n (Sx.arm f) (Sx.arm f')
theorem ztg:∀n:Nat,Exprs t u u' n:=by
 intro n
 induction n using Nat.strongRecOn with
 |ind n IH=>
  have hE:∀q:List Tok,q.length<n->∀f f',7*n<=f+1->7*n<=f'+1->Sim t u u' (expr f (q++t::u)) (expr f' (q++t::u')) q 1:=λq hq f f' h h'=>(IH q.length hq).expr f f' (by omega) (by omega) q (Nat.le_refl _);have xG:∀f f',7*n+1<=f->7*n+1<=f'->zdi t u u' n (atom f) (atom f'):=by
   intro f f' hf ub q hq;obtain⟨f,rfl⟩:∃k,f=k+1:=⟨f-1,by omega⟩;obtain⟨f',rfl⟩:∃k,f'=k+1:=⟨f'-1,by omega⟩;rw[atom,atom,zdf (u:=u) (u':=u') q];split
   ·exact Sim.tail (m:=0) (Short.ok _) (λq' _=>Sim.ok _ q')
   ·split
    ·exact Sim.tail (m:=0) (Short.ok _) (λq' _=>Sim.ok _ q')
    ·split
     ·exact Sim.tail (m:=0) (Short.ok _) (λq' _=>Sim.ok _ q')
     ·split
      ·exact(Sim.tail (m:=2) (short_group (zac f)) (λq' jq=>zil (zac f) q' (λq2 h2=>hE q2 (by omega) f f' (by omega) (by omega)))).less (by omega)
      ·exact Sim.bad q 1
  have pU:∀f f',7*n+2<=f->7*n+2<=f'->zdi t u u' n (app f) (app f'):=by
   intro f f' hf ub q hq;obtain⟨f,rfl⟩:∃k,f=k+1:=⟨f-1,by omega⟩;obtain⟨f',rfl⟩:∃k,f'=k+1:=⟨f'-1,by omega⟩;rw[app,app,zdf (u:=u) (u':=u') q];split
   ·have hl:=len_app (t:=t) (u:=u) q;have gB:=len_app (t:=t) (u:=u') q;exact(Sim.tail (m:=0) (f:=many zai (atom f) (q++t::u).length) (g:=many zai (atom f') (q++t::u').length) (zau (zbw f) _) (λq' jq=>zen (zbw f) _ _ q' (.inr (by omega)) (λq2 h2=>xG f f' (by omega) (by omega) q2 (by omega)))).map _
   ·refine Sim.bnd (xG f f' (by omega) (by omega) q hq) (λa r=>((zau (zbw f) r.length).map _) r) (λa r hr =>?_);have hl:=len_app (t:=t) (u:=u) r;have gB:=len_app (t:=t) (u:=u') r;exact(zen (zbw f) _ _ r (.inr (by omega)) (λq2 h2=>xG f f' (by omega) (by omega) q2 (by omega))).map _
  have uy:∀f f',7*n+3<=f->7*n+3<=f'->zdi t u u' n (prod f) (prod f'):=by
   intro f f' hf ub q hq;obtain⟨f,rfl⟩:∃k,f=k+1:=⟨f-1,by omega⟩;obtain⟨f',rfl⟩:∃k,f'=k+1:=⟨f'-1,by omega⟩;rw[prod,prod];refine Sim.bnd (pU f f' (by omega) (by omega) q hq) (λa r=>zbf (zec f) r.length a r) (λa r hr =>?_);have hl:=len_app (t:=t) (u:=u) r;have gB:=len_app (t:=t) (u:=u') r;exact zim (zec f) _ _ a r (.inr (by omega)) (λq2 h2=>pU f f' (by omega) (by omega) q2 (by omega))
  have pp:∀f f',7*n+4<=f->7*n+4<=f'->zdi t u u' n (sum f) (sum f'):=by
   intro f f' hf ub q hq;obtain⟨f,rfl⟩:∃k,f=k+1:=⟨f-1,by omega⟩;obtain⟨f',rfl⟩:∃k,f'=k+1:=⟨f'-1,by omega⟩;rw[sum,sum];refine Sim.bnd (uy f f' (by omega) (by omega) q hq) (λa r=>zbf (zdq f) r.length a r) (λa r hr =>?_);have hl:=len_app (t:=t) (u:=u) r;have gB:=len_app (t:=t) (u:=u') r;exact zim (zdq f) _ _ a r (.inr (by omega)) (λq2 h2=>uy f f' (by omega) (by omega) q2 (by omega))
  have fi:∀f f',7*n+5<=f->7*n+5<=f'->zdi t u u' n (comp f) (comp f'):=by
   intro f f' hf ub q hq;obtain⟨f,rfl⟩:∃k,f=k+1:=⟨f-1,by omega⟩;obtain⟨f',rfl⟩:∃k,f'=k+1:=⟨f'-1,by omega⟩;rw[comp,comp];refine Sim.bnd (pp f f' (by omega) (by omega) q hq) (λa r =>?_) (λa r hr =>?_)
   ·try dsimp only
    split
    ·exact((ze7 f).map _).tail r
    ·exact Nat.le_refl _
   ·rw[zdf (u:=u) (u':=u') r];split
    ·exact((Sim.tail (m:=1) (ze7 f) (λq' jq=>pp f f' (by omega) (by omega) q' (by omega))).map _).less (by omega)
    ·exact Sim.ok a r
  have rY:∀f f',7*n+1<=f->7*n+1<=f'->zdi t u u' n (arm f) (arm f'):=by
   intro f f' hf ub q hq;obtain⟨f,rfl⟩:∃k,f=k+1:=⟨f-1,by omega⟩;obtain⟨f',rfl⟩:∃k,f'=k+1:=⟨f'-1,by omega⟩;have hl:=len_app (t:=t) (u:=u) q;have gB:=len_app (t:=t) (u:=u') q;rw[arm,arm];refine Sim.bnd ((zvo q.length).2 _ _ (by omega) (by omega) q (Nat.le_refl _)) (λp=>(zab gives).bind (λ_=>(zac f).map _)) (λp r hr =>?_);refine Sim.bnd0 (zbs gives r) (λ_=>(zac f).map _) (λ_ r2 xr =>?_);exact((hE r2 (by omega) f f' (by omega) (by omega)).map _).less (by omega)
  refine⟨xG,pU,uy,pp,fi,?_,rY⟩;intro f f' hf ub q hq;obtain⟨f,rfl⟩:∃k,f=k+1:=⟨f-1,by omega⟩;obtain⟨f',rfl⟩:∃k,f'=k+1:=⟨f'-1,by omega⟩;rw[expr,expr,zdf (u:=u) (u':=u') q];split
  ·refine(Sim.tail (m:=1) (f:=λl=>(zag 2 l).bind λx r=>(take gives r).bind λ_ r=>(expr f r).map λb=>Ex.mk 5 0 [] x [b] []) (g:=λl=>(zag 2 l).bind λx r=>(take gives r).bind λ_ r=>(expr f' r).map λb=>Ex.mk 5 0 [] x [b] [])
    ((zam 2).bind (λx=>(zab gives).bind (λ_=>(zac f).map _))) (λq' jq =>?_)).less (by omega)
   refine Sim.bnd (zc7 2 q') (λx=>(zab gives).bind (λ_=>(zac f).map _)) (λx r hr =>?_);refine Sim.bnd0 (zbs gives r) (λ_=>(zac f).map _) (λ_ r2 xr =>?_);exact((hE r2 (by omega) f f' (by omega) (by omega)).map _).less (by omega)
  ·split
   ·refine(Sim.tail (m:=1) (f:=λl=>if (hd l).text=wFun then
      (zag 2 l.tail).bind λn r=>(zag 2 r).bind λx r=>(take [61] r).bind λ_ r=>(expr f r).bind λa r=>(take wIn r).bind λ_ r=>(expr f r).map λb=>Ex.mk 7 0 n x [a,b] []
     else (zag 2 l).bind λn r=>(take [61] r).bind λ_ r=>(expr f r).bind λa r=>(take wIn r).bind λ_ r=>(expr f r).map λb=>Ex.mk 6 0 n [] [a,b] [])
     (g:=λl=>if (hd l).text=wFun then
      (zag 2 l.tail).bind λn r=>(zag 2 r).bind λx r=>(take [61] r).bind λ_ r=>(expr f' r).bind λa r=>(take wIn r).bind λ_ r=>(expr f' r).map λb=>Ex.mk 7 0 n x [a,b] []
     else (zag 2 l).bind λn r=>(take [61] r).bind λ_ r=>(expr f' r).bind λa r=>(take wIn r).bind λ_ r=>(expr f' r).map λb=>Ex.mk 6 0 n [] [a,b] []) (λl =>?_) (λq' jq =>?_)).less (by omega)
    ·try dsimp only
     split
     ·exact((zam 2).bind (λn=>(zam 2).bind (λx=>(zab [61]).bind (λ_=>(zac f).bind (λa=>(zab wIn).bind (λ_=>(zac f).map _)))))).tail l
     ·exact((zam 2).bind (λn=>(zab [61]).bind (λ_=>(zac f).bind (λa=>(zab wIn).bind (λ_=>(zac f).map _))))) l
    ·try dsimp only
     rw[zdf (u:=u) (u':=u') q'];split
     ·refine(Sim.tail (m:=1) (f:=λl=>(zag 2 l).bind λn r=>(zag 2 r).bind λx r=>(take [61] r).bind λ_ r=>(expr f r).bind λa r=>(take wIn r).bind λ_ r=>(expr f r).map λb=>Ex.mk 7 0 n x [a,b] [])
       (g:=λl=>(zag 2 l).bind λn r=>(zag 2 r).bind λx r=>(take [61] r).bind λ_ r=>(expr f' r).bind λa r=>(take wIn r).bind λ_ r=>(expr f' r).map λb=>Ex.mk 7 0 n x [a,b] [])
       ((zam 2).bind (λn=>(zam 2).bind (λx=>(zab [61]).bind (λ_=>(zac f).bind (λa=>(zab wIn).bind (λ_=>(zac f).map _)))))) (λq2 xw =>?_)).less (by omega)
      refine Sim.bnd (zc7 2 q2) (λn=>(zam 2).bind (λx=>(zab [61]).bind (λ_=>(zac f).bind (λa=>(zab wIn).bind (λ_=>(zac f).map _))))) (λx r hr =>?_);refine Sim.bnd0 (zc7 2 r) (λx=>(zab [61]).bind (λ_=>(zac f).bind (λa=>(zab wIn).bind (λ_=>(zac f).map _)))) (λx r hr =>?_);refine Sim.bnd0 (zbs [61] r) (λ_=>(zac f).bind (λa=>(zab wIn).bind (λ_=>(zac f).map _))) (λx r hr =>?_);refine Sim.bnd0 (hE r (by omega) f f' (by omega) (by omega)) (λa=>(zab wIn).bind (λ_=>(zac f).map _)) (λa r hr =>?_);refine Sim.bnd0 (zbs wIn r) (λ_=>(zac f).map _) (λ_ r hr =>?_);exact((hE r (by omega) f f' (by omega) (by omega)).map _).less (by omega)
     ·refine Sim.bnd (zc7 2 q') (λn=>(zab [61]).bind (λ_=>(zac f).bind (λa=>(zab wIn).bind (λ_=>(zac f).map _)))) (λx r hr =>?_);refine Sim.bnd0 (zbs [61] r) (λ_=>(zac f).bind (λa=>(zab wIn).bind (λ_=>(zac f).map _))) (λx r hr =>?_);refine Sim.bnd0 (hE r (by omega) f f' (by omega) (by omega)) (λa=>(zab wIn).bind (λ_=>(zac f).map _)) (λa r hr =>?_);refine Sim.bnd0 (zbs wIn r) (λ_=>(zac f).map _) (λ_ r hr =>?_);exact((hE r (by omega) f f' (by omega) (by omega)).map _).less (by omega)
   ·split
    ·have hl:=len_app (t:=t) (u:=u) q;have gB:=len_app (t:=t) (u:=u') q;refine(Sim.tail (m:=1) (f:=λl=>(expr f l).bind λa r=>(take wOf r).bind λ_ r=>(row [124] (arm f) (q++t::u).length r).bind λxs r=>(take wEnd r).map λ_=>Ex.mk 8 0 [] [] (a::xs.map Prod.snd) (xs.map Prod.fst))
      (g:=λl=>(expr f' l).bind λa r=>(take wOf r).bind λ_ r=>(row [124] (arm f') (q++t::u').length r).bind λxs r=>(take wEnd r).map λ_=>Ex.mk 8 0 [] [] (a::xs.map Prod.snd) (xs.map Prod.fst))
      ((zac f).bind (λa=>(zab wOf).bind (λ_=>(zbl (zc9 f) (q++t::u).length).bind (λxs=>(zab wEnd).map _)))) (λq' jq =>?_)).less (by omega)
     refine Sim.bnd (hE q' (by omega) f f' (by omega) (by omega)) (λa=>(zab wOf).bind (λ_=>(zbl (zc9 f) (q++t::u).length).bind (λxs=>(zab wEnd).map _))) (λa r hr =>?_);refine Sim.bnd0 (zbs wOf r) (λ_=>(zbl (zc9 f) (q++t::u).length).bind (λxs=>(zab wEnd).map _)) (λ_ r hr =>?_);refine Sim.bnd0 (zon (zc9 f) _ _ r (.inr (by omega)) (λq2 h2=>rY f f' (by omega) (by omega) q2 (by omega))) (λxs=>(zab wEnd).map _) (λxs r hr =>?_);exact((zbs wEnd r).map _).less (by omega)
    ·split
     ·refine(Sim.tail (m:=1) (f:=λl=>(expr f l).bind λa r=>(take zdt r).bind λ_ r=>(expr f r).bind λb r=>(take zcn r).bind λ_ r=>(expr f r).map λc=>Ex.mk 8 0 [] [] [a,b,c] [Pa.mk 3 zfh [],Pa.mk 3 zdh []])
       (g:=λl=>(expr f' l).bind λa r=>(take zdt r).bind λ_ r=>(expr f' r).bind λb r=>(take zcn r).bind λ_ r=>(expr f' r).map λc=>Ex.mk 8 0 [] [] [a,b,c] [Pa.mk 3 zfh [],Pa.mk 3 zdh []])
       ((zac f).bind (λa=>(zab zdt).bind (λ_=>(zac f).bind (λb=>(zab zcn).bind (λ_=>(zac f).map _))))) (λq' jq =>?_)).less (by omega)
      refine Sim.bnd (hE q' (by omega) f f' (by omega) (by omega)) (λa=>(zab zdt).bind (λ_=>(zac f).bind (λb=>(zab zcn).bind (λ_=>(zac f).map _)))) (λa r hr =>?_);refine Sim.bnd0 (zbs zdt r) (λ_=>(zac f).bind (λb=>(zab zcn).bind (λ_=>(zac f).map _))) (λ_ r hr =>?_);refine Sim.bnd0 (hE r (by omega) f f' (by omega) (by omega)) (λb=>(zab zcn).bind (λ_=>(zac f).map _)) (λb r hr =>?_);refine Sim.bnd0 (zbs zcn r) (λ_=>(zac f).map _) (λ_ r hr =>?_);exact((hE r (by omega) f f' (by omega) (by omega)).map _).less (by omega)
     ·exact fi f f' (by omega) (by omega) q hq
end
theorem zgd{α:Type}{el:Nat->List Tok->Res α}(h:∀f,Short (el f))(k:List Tok->Nat):Short (λl=>el (k l) l):=λl=>h (k l) l
theorem zfw:Short zcb:=zgd zac fuel
theorem zfl:Short pTyp:=zgd zdu fuel
theorem zeb:Short con:=(zam 3).bind (λn r=>((zau (zgd zbe fuel) r.length).map _) r)
theorem zdr:Short defn:=(zam 2).bind (λn=>(zab [61]).bind (λ_=>zfw.map _))
theorem zgw:Short func:=(zam 2).bind (λn=>zdr.map _)
theorem zrb:Short decl:=λl=>by
 unfold decl;split
 ·exact((zam 3).bind (λn r=>(zau (zam 4) r.length).bind (λvs=>(zab [61]).bind (λ_ r=>((zbl zeb r.length).map (λcs=>Decl.data n vs cs)) r)) r)).tail l
 ·split
  ·exact((zam 2).bind (λn=>(zab [58]).bind (λ_=>zfl.map _))).tail l
  ·split
   ·exact(zdr.map _).tail l
   ·split
    ·exact(zdr.map _).tail l
    ·split
     ·exact((zbl zgw l.length).map _).tail l
     ·exact Nat.le_refl _
theorem zfx:∀n,Short (decls n)
 |0=>Short.ok _
 |n+1=>λl=>by
  rw[decls];split
  ·exact(zrb.bind (λd=>(zab [59]).bind (λ_=>(zfx n).map _))) l
  ·exact Nat.le_refl _
section
variable {t:Tok} {u u':List Tok}
theorem zfo(q:List Tok):8*q.length+16<=fuel (q++t::u):=by unfold fuel;simp;omega
theorem ztf(q:List Tok):Sim t u u' (zcb (q++t::u)) (zcb (q++t::u')) q 1:=by
 have h1:=zfo (t:=t) (u:=u) q;have h2:=zfo (t:=t) (u:=u') q;exact(ztg q.length).expr _ _ (by omega) (by omega) q (Nat.le_refl _)
theorem zvp(q:List Tok):Sim t u u' (pTyp (q++t::u)) (pTyp (q++t::u')) q 1:=by
 have h1:=zfo (t:=t) (u:=u) q;have h2:=zfo (t:=t) (u:=u') q;exact(zm2 q.length).2.2 _ _ (by omega) (by omega) q (Nat.le_refl _)
theorem zth(q:List Tok):Sim t u u' ((λl=>zak (fuel l) l) (q++t::u)) ((λl=>zak (fuel l) l) (q++t::u')) q 1:=by
 have h1:=zfo (t:=t) (u:=u) q;have h2:=zfo (t:=t) (u:=u') q;exact(zm2 q.length).1 _ _ (by omega) (by omega) q (Nat.le_refl _)
theorem zxx(q:List Tok):Sim t u u' (con (q++t::u)) (con (q++t::u')) q 1:=by
 unfold con;refine Sim.bnd (zc7 3 q) (λn r=>((zau (zgd zbe fuel) r.length).map _) r) (λn r hr =>?_);have hl:=len_app (t:=t) (u:=u) r;have gB:=len_app (t:=t) (u:=u') r;exact(zen (zgd zbe fuel) _ _ r (.inr (by omega)) (λq2 _=>zth q2)).map _
theorem zll(q:List Tok):Sim t u u' (defn (q++t::u)) (defn (q++t::u')) q 1:=by
 unfold defn;refine Sim.bnd (zc7 2 q) (λn=>(zab [61]).bind (λ_=>zfw.map _)) (λn r hr =>?_);refine Sim.bnd0 (zbs [61] r) (λ_=>zfw.map _) (λ_ r hr =>?_);exact((ztf r).map _).less (by omega)
theorem zvq(q:List Tok):Sim t u u' (func (q++t::u)) (func (q++t::u')) q 1:=by
 unfold func;refine Sim.bnd (zc7 2 q) (λn=>zdr.map _) (λn r hr =>?_);exact((zll r).map _).less (by omega)
theorem zvr(q:List Tok):Sim t u u' (decl (q++t::u)) (decl (q++t::u')) q 1:=by
 have hl:=len_app (t:=t) (u:=u) q;have gB:=len_app (t:=t) (u:=u') q;unfold decl;rw[zdf (u:=u) (u':=u') q];split
 ·refine(Sim.tail (m:=1) (f:=λl=>(zag 3 l).bind λn r=>(many (λt=>decide (t.kind=4)) (zag 4) r.length r).bind λvs r=>(take [61] r).bind λ_ r=>(row [124] con r.length r).map λcs=>Decl.data n vs cs)
   (g:=λl=>(zag 3 l).bind λn r=>(many (λt=>decide (t.kind=4)) (zag 4) r.length r).bind λvs r=>(take [61] r).bind λ_ r=>(row [124] con r.length r).map λcs=>Decl.data n vs cs)
   ((zam 3).bind (λn r=>(zau (zam 4) r.length).bind (λvs=>(zab [61]).bind (λ_ r=>((zbl zeb r.length).map (λcs=>Decl.data n vs cs)) r)) r)) (λq' jq =>?_)).less (by omega)
  refine Sim.bnd (zc7 3 q') (λn r=>(zau (zam 4) r.length).bind (λvs=>(zab [61]).bind (λ_ r=>((zbl zeb r.length).map (λcs=>Decl.data n vs cs)) r)) r) (λn r hr =>?_);have hr1:=len_app (t:=t) (u:=u) r;have hr1':=len_app (t:=t) (u:=u') r;refine Sim.bind (m:=0) (m2:=0) (zen (zam 4) _ _ r (.inr (by omega)) (λq2 _=>zc7 4 q2)) (λvs=>(zab [61]).bind (λ_ r=>((zbl zeb r.length).map (λcs=>Decl.data n vs cs)) r)) (λvs r hr =>?_);refine Sim.bnd0 (zbs [61] r) (λ_ r=>((zbl zeb r.length).map (λcs=>Decl.data n vs cs)) r) (λ_ r hr =>?_);have xr:=len_app (t:=t) (u:=u) r;have hr2':=len_app (t:=t) (u:=u') r;exact((zon zeb _ _ r (.inr (by omega)) (λq2 _=>zxx q2)).map _).less (by omega)
 ·split
  ·refine(Sim.tail (m:=1) (f:=λl=>(zag 2 l).bind λn r=>(take [58] r).bind λ_ r=>(pTyp r).map λt=>Decl.input n t) (g:=λl=>(zag 2 l).bind λn r=>(take [58] r).bind λ_ r=>(pTyp r).map λt=>Decl.input n t)
    ((zam 2).bind (λn=>(zab [58]).bind (λ_=>zfl.map _))) (λq' jq =>?_)).less (by omega)
   refine Sim.bnd (zc7 2 q') (λn=>(zab [58]).bind (λ_=>zfl.map _)) (λn r hr =>?_);refine Sim.bnd0 (zbs [58] r) (λ_=>zfl.map _) (λ_ r hr =>?_);exact((zvp r).map _).less (by omega)
  ·split
   ·exact((Sim.tail (m:=1) zdr (λq' jq=>zll q')).map _).less (by omega)
   ·split
    ·exact((Sim.tail (m:=1) zdr (λq' jq=>zll q')).map _).less (by omega)
    ·split
     ·exact((Sim.tail (m:=1) (f:=row wAnd func (q++t::u).length) (g:=row wAnd func (q++t::u').length) (zbl zgw _) (λq' jq=>zon zgw _ _ q' (.inr (by omega)) (λq2 _=>zvq q2))).map _).less (by omega)
     ·exact Sim.bad q 1
theorem sim_decls:∀(k k':Nat) (q:List Tok),k=k'\/(q.length<k/\q.length<k')->Sim t u u' (decls k (q++t::u)) (decls k' (q++t::u')) q 0
 |0,k',q,hk=>by
  obtain rfl:k'=0:=by omega
  exact Sim.ok [] q
 |k+1,0,q,hk=>by omega
 |k+1,j+1,q,hk=>by
  rw[decls,decls,zdf (u:=u) (u':=u') q];split
  ·refine Sim.bnd0 (zvr q) (λd=>(zab [59]).bind (λ_=>(zfx k).map _)) (λd r hr =>?_);refine Sim.bnd0 (zbs [59] r) (λ_=>(zfx k).map _) (λ_ r hr =>?_);exact(sim_decls k j r (by omega)).map _
  ·exact Sim.ok [] q
theorem whole_viable{α:Type}{a b:Res α}{q:List Tok}{m:Nat}(h:Sim t u u' a b q m)(hw:whole a=.error (t::u)):whole b=.error (t::u'):=by
 rcases h with h|⟨x,r,h1,rfl,rfl⟩|⟨r,h1,rfl,rfl⟩
 ·exfalso;cases a with
  |ok x r=>
   cases r with
   |nil=>cases hw
   |cons y r=>cases hw;simp[Res.rest]at h;omega
  |bad r=>cases hw;simp[Res.rest]at h;omega
 ·cases r with
  |nil=>rfl
  |cons y r=>injection hw with hw;injection hw with h1 h2;have:=congrArg List.length h2;simp at this;omega
 ·cases r with
  |nil=>rfl
  |cons y r=>injection hw with hw;injection hw with h1 h2;have:=congrArg List.length h2;simp at this;omega
end
def Suf{α:Type}(el:List Tok->Res α):Prop:=∀l,(el l).rest <:+ l
theorem Suf.ok{α:Type}(x:α):Suf (λl=>.ok x l):=λ_=>List.suffix_refl _
theorem Suf.bad{α:Type}:Suf (λl=>(.bad l:Res α)):=λ_=>List.suffix_refl _
theorem Suf.map{α β:Type}{f:List Tok->Res α}(h:Suf f)(k:α->β):Suf (λl=>(f l).map k):=λl=>by
 have:=h l;show ((f l).map k).rest <:+ _;cases e:f l <;> rw[e]at this <;> exact this
theorem Suf.bind{α β:Type}{f:List Tok->Res α}{k:α->List Tok->Res β}(h:Suf f)(hk:∀x,Suf (k x)):Suf (λl=>(f l).bind k):=λl=>by
 have:=h l;show ((f l).bind k).rest <:+ _;cases e:f l with
 |ok x r=>rw[e]at this;exact List.IsSuffix.trans (hk x r) this
 |bad r=>rw[e]at this;exact this
theorem Suf.tail{α:Type}{f:List Tok->Res α}(h:Suf f):Suf (λl=>f l.tail):=λl=>List.IsSuffix.trans (h l.tail) (List.tail_suffix _)
theorem zbr(x:B):Suf (take x):=λl=>by
 unfold take;split
 ·exact List.tail_suffix l
 ·exact List.suffix_refl _
theorem zc6(k:Int):Suf (zag k):=λl=>by
 unfold zag;split
 ·exact List.tail_suffix l
 ·exact List.suffix_refl _
theorem zel{α:Type}{b:Tok->Bool}{el:List Tok->Res α}(h:Suf el):∀n,Suf (many b el n)
 |0=>Suf.ok _
 |n+1=>λl=>by
  rw[many];split
  ·exact(h.bind (λx=>(zel h n).map (x :: ·))) l
  ·exact List.suffix_refl _
theorem zlg{α:Type}{s:B}{el:List Tok->Res α}(h:Suf el):∀n,Suf (more s el n)
 |0=>Suf.ok _
 |n+1=>λl=>by
  rw[more];split
  ·exact(Suf.tail (h.bind (λx=>(zlg h n).map (x :: ·)))) l
  ·exact List.suffix_refl _
theorem zol{α:Type}{s:B}{el:List Tok->Res α}(h:Suf el)(n:Nat):Suf (row s el n):=h.bind (λx=>(zlg h n).map (x :: ·))
theorem zif{el:List Tok->Res Ex}{s:List B}(h:Suf el):∀n a,Suf (chain el s n a)
 |0,a=>Suf.ok _
 |n+1,a=>λl=>by
  rw[chain];split
  ·exact List.IsSuffix.trans (((h.bind (λb=>zif h n _))) l.tail) (List.tail_suffix _)
  ·exact List.suffix_refl _
theorem zie{α:Type}{el:List Tok->Res α}{xu:List α->α}(h:Suf el):Suf (zcd el xu):=λl=>by
 unfold zcd;exact(h.bind (λx=>(zlg h 3).bind (λxs=>(zbr [41]).map _))) l
mutual
theorem zok:∀f,Suf (typ f)
 |0=>Suf.bad
 |f+1=>λl=>by
  rw[typ];refine(Suf.bind (k:=λa r=>if (hd r).text=arrow then (typ f r.tail).map λb=>.mk arrow [a,b] else .ok a r) (zmz f) (λa r =>?_)) l
  dsimp only
  split
  ·exact((zok f).map _).tail r
  ·exact List.suffix_refl _
theorem zmz:∀f,Suf (zaw f)
 |0=>Suf.bad
 |f+1=>λl=>by
  rw[zaw];split
  ·exact((zel (ze4 f) l.length).map _).tail l
  ·exact ze4 f l
theorem ze4:∀f,Suf (zak f)
 |0=>Suf.bad
 |f+1=>λl=>by
  rw[zak];split
  ·exact(Suf.ok _).tail l
  ·split
   ·exact(zie (zok f)).tail l
   ·exact List.suffix_refl _
end
mutual
theorem zta:∀f,Suf (pat f)
 |0=>Suf.bad
 |f+1=>λl=>by
  rw[pat];split
  ·exact((zel (zid f) l.length).map _).tail l
  ·exact zid f l
theorem zid:∀f,Suf (zaq f)
 |0=>Suf.bad
 |f+1=>λl=>by
  rw[zaq];split
  ·exact(Suf.ok _).tail l
  ·split
   ·exact(Suf.ok _).tail l
   ·split
    ·exact(Suf.ok _).tail l
    ·split
     ·exact(zie (zta f)).tail l
     ·exact List.suffix_refl _
end
mutual
theorem zcg:∀f,Suf (expr f)
 |0=>Suf.bad
 |f+1=>λl=>by
  rw[expr];split
  ·exact((zc6 2).bind (λx=>(zbr gives).bind (λ_=>(zcg f).map _))).tail l
  ·split
   ·split
    ·exact((zc6 2).bind (λn=>(zc6 2).bind (λx=>(zbr [61]).bind (λ_=>(zcg f).bind (λa=>(zbr wIn).bind (λ_=>(zcg f).map _)))))).tail.tail l
    ·exact((zc6 2).bind (λn=>(zbr [61]).bind (λ_=>(zcg f).bind (λa=>(zbr wIn).bind (λ_=>(zcg f).map _))))).tail l
   ·split
    ·exact((zcg f).bind (λa=>(zbr wOf).bind (λ_=>(zol (zxv f) l.length).bind (λxs=>(zbr wEnd).map _)))).tail l
    ·split
     ·exact((zcg f).bind (λa=>(zbr zdt).bind (λ_=>(zcg f).bind (λb=>(zbr zcn).bind (λ_=>(zcg f).map _))))).tail l
     ·exact zvn f l
theorem zxv:∀f,Suf (arm f)
 |0=>Suf.bad
 |f+1=>λl=>by
  rw[arm];exact((zta (4*l.length+4)).bind (λp=>(zbr gives).bind (λ_=>(zcg f).map _))) l
theorem zvn:∀f,Suf (comp f)
 |0=>Suf.bad
 |f+1=>λl=>by
  rw[comp];refine(Suf.bind (k:=λa r=>if (hd r).text=[60]\/(hd r).text=[61] then (sum f r.tail).map λb=>op (hd r).text a b else .ok a r) (zs9 f) (λa r =>?_)) l
  dsimp only
  split
  ·exact((zs9 f).map _).tail r
  ·exact List.suffix_refl _
theorem zs9:∀f,Suf (sum f)
 |0=>Suf.bad
 |f+1=>λl=>by
  rw[sum];exact(Suf.bind (k:=λa r=>chain (prod f) zdz r.length a r) (zp3 f) (λa r=>zif (zp3 f) r.length a r)) l
theorem zp3:∀f,Suf (prod f)
 |0=>Suf.bad
 |f+1=>λl=>by
  rw[prod];exact(Suf.bind (k:=λa r=>chain (app f) zdc r.length a r) (ztd f) (λa r=>zif (ztd f) r.length a r)) l
theorem ztd:∀f,Suf (app f)
 |0=>Suf.bad
 |f+1=>λl=>by
  rw[app];split
  ·exact((zel (zli f) l.length).map _).tail l
  ·exact(Suf.bind (k:=λa r=>(many zai (atom f) r.length r).map λxs=>xs.foldl (λa b=>.mk 4 0 [] [] [a,b] []) a) (zli f) (λa r=>((zel (zli f) r.length).map _) r)) l
theorem zli:∀f,Suf (atom f)
 |0=>Suf.bad
 |f+1=>λl=>by
  rw[atom];split
  ·exact(Suf.ok _).tail l
  ·split
   ·exact(Suf.ok _).tail l
   ·split
    ·exact(Suf.ok _).tail l
    ·split
     ·exact(zie (zcg f)).tail l
     ·exact List.suffix_refl _
end
theorem ztc{α:Type}{el:Nat->List Tok->Res α}(h:∀f,Suf (el f))(k:List Tok->Nat):Suf (λl=>el (k l) l):=λl=>h (k l) l
theorem ztb:Suf zcb:=ztc zcg fuel
theorem zvk:Suf pTyp:=ztc zok fuel
theorem zxu:Suf con:=(zc6 3).bind (λn r=>((zel (ztc ze4 fuel) r.length).map _) r)
theorem zlh:Suf defn:=(zc6 2).bind (λn=>(zbr [61]).bind (λ_=>ztb.map _))
theorem zvl:Suf func:=(zc6 2).bind (λn=>zlh.map _)
theorem zvm:Suf decl:=λl=>by
 unfold decl;split
 ·exact((zc6 3).bind (λn r=>(zel (zc6 4) r.length).bind (λvs=>(zbr [61]).bind (λ_ r=>((zol zxu r.length).map (λcs=>Decl.data n vs cs)) r)) r)).tail l
 ·split
  ·exact((zc6 2).bind (λn=>(zbr [58]).bind (λ_=>zvk.map _))).tail l
  ·split
   ·exact(zlh.map _).tail l
   ·split
    ·exact(zlh.map _).tail l
    ·split
     ·exact((zol zvl l.length).map _).tail l
     ·exact List.suffix_refl _
theorem suf_decls:∀n,Suf (decls n)
 |0=>Suf.ok _
 |n+1=>λl=>by
  rw[decls];split
  ·exact(zvm.bind (λd=>(zbr [59]).bind (λ_=>(suf_decls n).map _))) l
  ·exact List.suffix_refl _
end Sx
namespace Lx
theorem zvx:∀(m:Nat) (l:List B) (p:Nat) (dm:List Tok) (t:Tok) (tN:List Tok) (cs:List (Nat×Nat)),l.length<=m->scan l p=.ok (dm++t::tN) cs ->
  ∃cs',scan (l.take (t.pos+t.text.length-p)) p=.ok (dm++[t]) cs':=by
 intro m
 induction m with
 |zero=>
  intro l p dm t tN cs hl h;obtain rfl:l=[]:=List.eq_nil_of_length_eq_zero (by omega);have h2:Scan.ok [] []=Scan.ok (dm++t::tN) cs:=h;injection h2 with h2
  simp at h2
 |succ m ih=>
  intro l p dm t tN cs hl h;have ht:=zda l.length l p _ _ (Nat.le_refl _) h t (by simp);obtain⟨k,hk⟩:∃k,t.pos+t.text.length-p=k:=⟨_,rfl⟩;rw[hk];have vR:0<t.text.length:=by
   have:=zcw ht.2.2.2;omega
  cases l with
  |nil=>
   have h2:Scan.ok [] []=Scan.ok (dm++t::tN) cs:=h;injection h2 with h2
   simp at h2
  |cons c r=>
   simp only[List.length_cons]at hl;have vN:∀j,0<j->(c::r).take j=c::r.take (j-1):=λj hj=>by
    cases j with
    |zero=>omega
    |succ j=>simp
   cases hs:zbk c
   ·cases hb:begins (c::r)
    ·rw[zch hs hb]at h;cases hn:next (c::r) with
     |err x=>rw[hn]at h;cases h
     |tok k0 n j=>
      rw[hn]at h;simp only at h;have hj:=zcw hn;obtain⟨ts',h',he⟩:=Scan.tok_ok h;have pY:∀m,begins ((c::r).take m)=false:=λm=>zj5 hb;cases dm with
      |nil=>
       rw[List.nil_append]at he;injection he with he1 he2
       have hkj:k=j:=by
        rw[<-hk,he1];simp only;rw[zhv hj.2];omega
       have e:(c::r).take k=c::r.take (k-1):=vN k (by omega);have xg:next ((c::r).take k)=.tok k0 n j:=zi3 hn (by omega);have uG:=pY k;rw[e]at xg uG;refine⟨[],?_⟩;rw[e,zch hs uG,xg];simp only;rw[<-e,hkj];have hd:((c::r).take j).drop j=[]:=(by rw[List.drop_take];simp);rw[hd,List.take_take,Nat.min_self,he1];rfl
      |cons y dm=>
       rw[List.cons_append]at he;injection he with he1 he2
       rw[<-he2]at h';obtain⟨cs',h2⟩:=ih _ _ dm t tN _ (by rw[List.length_drop,List.length_cons];omega) h';have fP:=(zda _ _ _ _ _ (Nat.le_refl _) h' t (by simp)).1;have e:(c::r).take k=c::r.take (k-1):=vN k (by omega);have xg:next ((c::r).take k)=.tok k0 n j:=zi3 hn (by omega);have uG:=pY k;rw[e]at xg uG;refine⟨cs',?_⟩;rw[e,zch hs uG,xg];simp only;rw[<-e,List.drop_take,show k-j=t.pos+t.text.length-(p+j) by omega,h2,List.take_take,Nat.min_eq_left (by omega),he1];rfl
    ·rw[zcq hs hb]at h;cases hn:zae (c::r) 0 0 with
     |closed n=>
      rw[hn]at h;simp only at h;obtain⟨a,b,co,ha,h2,hd,_,hc⟩:=zey hn;have hln:n<=(c::r).length:=(by rw[co,List.length_append];omega);obtain⟨cs',h',rfl⟩:=Scan.com_ok h;have fP:=(zda _ _ _ _ _ (Nat.le_refl _) h' t (by simp)).1;obtain⟨cs2,h3⟩:=ih _ _ dm t tN _ (by rw[List.length_drop,List.length_cons];omega) h';have e:(c::r).take k=c::r.take (k-1):=vN k (by omega);have uG:begins ((c::r).take k)=true:=zpw hb (by omega);have xH:zae ((c::r).take k) 0 0=.closed n:=by
       rw[co,List.take_append,List.take_of_length_le (by omega)];exact hc _
      rw[e]at uG xH;refine⟨(p,p+n)::cs2,?_⟩;rw[e,zcq hs uG,xH];simp only;rw[<-e,List.drop_take,show k-n=t.pos+t.text.length-(p+n) by omega,h3];rfl
     | «open» => rw[hn]at h;cases h
     |deep n=>rw[hn]at h;cases h
   ·rw[za9 hs]at h;have fP:=(zda _ _ _ _ _ (Nat.le_refl _) h t (by simp)).1;obtain⟨cs',h2⟩:=ih r (p+1) dm t tN cs (by omega) h;refine⟨cs',?_⟩;rw[vN k (by omega),za9 hs,show k-1=t.pos+t.text.length-(p+1) by omega];exact h2
theorem zoo:∀(m:Nat) (l:List B) (p:Nat) (ts:List Tok) (cs:List (Nat×Nat)),l.length<=m->scan l p=.ok ts cs->ts.Pairwise λx y=>x.pos+x.text.length<=y.pos:=by
 intro m
 induction m with
 |zero=>
  intro l p ts cs hl h;obtain rfl:l=[]:=List.eq_nil_of_length_eq_zero (by omega);cases h;exact List.Pairwise.nil
 |succ m ih=>
  intro l p ts cs hl h;cases l with
  |nil=>cases h;exact List.Pairwise.nil
  |cons c r=>
   simp only[List.length_cons]at hl;cases hs:zbk c
   ·cases hb:begins (c::r)
    ·rw[zch hs hb]at h;cases hn:next (c::r) with
     |err x=>rw[hn]at h;cases h
     |tok k n j=>
      rw[hn]at h;simp only at h;have hj:=zcw hn;obtain⟨ts',h',rfl⟩:=Scan.tok_ok h;refine List.Pairwise.cons (λy hy =>?_) (ih _ _ _ _ (by rw[List.length_drop,List.length_cons];omega) h');have:=(zda _ _ _ _ _ (Nat.le_refl _) h' y hy).1;show p+((c::r).take j).length<=y.pos;rw[zhv hj.2];exact this
    ·rw[zcq hs hb]at h;cases hn:zae (c::r) 0 0 with
     |closed n=>
      rw[hn]at h;simp only at h;obtain⟨a,b,co,ha,h2,hd,_,_⟩:=zey hn;obtain⟨cs',h',rfl⟩:=Scan.com_ok h;exact ih _ _ _ _ (by rw[List.length_drop,List.length_cons];omega) h'
     | «open» => rw[hn]at h;cases h
     |deep n=>rw[hn]at h;cases h
   ·rw[za9 hs]at h;exact ih _ _ _ _ (by omega) h
end Lx
namespace Sx
open Lx (Tok)
theorem prefix_toks{l more:List UInt8}{toks uI:List Tok}{cs cs':List (Nat×Nat)}{m:Nat}(h:Lx.upto l m=.ok toks cs){q u:List Tok}{t:Tok}(ht:toks=q++t::u)
  (h':Lx.upto (l.take (t.pos+t.text.length)++32::more) m=.ok uI cs'):∃u',uI=q++t::u':=by
 subst ht;unfold Lx.upto at h h';split at h
 ·cases h
 split at h'
 ·cases h'
 obtain⟨c2,h2⟩:=Lx.zvx l.length l 0 q t u cs (Nat.le_refl _) h;rw[Nat.sub_zero]at h2;have h3:=(Lx.zir _ _ 0 32 more (Nat.le_refl _) (by decide)).1 _ _ h2;rw[h3]at h';cases e:Lx.scan more (0+(l.take (t.pos+t.text.length)).length+1) with
 |err p x=>rw[e]at h';cases h'
 |ok ts cs2=>
  rw[e]at h';have h4:Lx.Scan.ok ((q++[t])++ts) (c2++cs2)=.ok uI cs':=h';injection h4 with h5
  exact⟨ts,by rw[<-h5];simp⟩
end Sx
namespace Go.Proofs.YtclgbmmambkiaaaGreatDoor
open Go.RowKit
theorem zow(l:List UInt8){e:Int}(h:Lx.next l=.err e):e≠0/\e≠20:=by
 unfold Lx.next at h;simp only at h;split at h
 ·unfold Lx.zb5 at h;simp only at h
  repeat' split at h
  all_goals first|(cases h;decide)|cases h
 ·split at h
  ·unfold Lx.zck at h;simp only at h;split at h <;> cases h
   decide
  ·split at h
   ·unfold Lx.zcl at h;simp only at h
    repeat' split at h
    all_goals first|(cases h;decide)|cases h
   ·split at h
    ·cases h
    ·split at h
     ·cases h
     ·cases h;decide
theorem ziq:∀(f:Nat) (l:List UInt8) (p a:Nat) (x:Int),Lx.zdn f l p=.err a x->x≠0/\x≠20:=by
 intro f
 induction f with
 |zero=>intro l p a x h;cases l <;> simp[Lx.zdn]at h
 |succ f ih=>
  intro l p a x h;cases l with
  |nil=>simp[Lx.zdn]at h
  |cons c r=>
   rw[Lx.zdn]at h;split at h
   ·exact ih _ _ _ _ h
   ·split at h
    ·split at h
     ·cases hs:Lx.zdn f ((c::r).drop _) _ with
      |err a' x'=>rw[hs]at h;cases h;exact ih _ _ _ _ hs
      |ok ts cs=>rw[hs]at h;cases h
     ·cases h;decide
     ·cases h;decide
    ·split at h
     ·cases hs:Lx.zdn f ((c::r).drop _) _ with
      |err a' x'=>rw[hs]at h;cases h;exact ih _ _ _ _ hs
      |ok ts cs=>rw[hs]at h;cases h
     ·rename_i e hn;cases h;exact zow _ hn
theorem zyk(ds:List _root_.Sx.Decl):ckDs ds≠20:=by
 unfold ckDs _root_.Sx.limV
 repeat' split
 all_goals first|decide|(intro h;cases h)|omega
theorem zlr{l:List UInt8}{m:Nat}{len a:Int}(hr:Sx.readW ckDs len (Lx.upto l m) Sx.pProg=.error (a,20)) :
  ∃toks cs r,Lx.upto l m=.ok toks cs/\_root_.Sx.whole (Sx.pProg toks)=.error r/\a=zah len r:=by
 unfold Sx.readW at hr;cases hs:Lx.upto l m with
 |err p x=>
  have hx:x≠0/\x≠20:=by
   unfold Lx.upto at hs;split at hs
   ·cases hs;decide
   ·exact ziq _ _ _ _ _ hs
  rw[hs]at hr;split at hr
  ·rename_i h0;exact absurd h0 hx.1
  ·injection hr with hr
   injection hr with h1 h2
   exact absurd h2 hx.2
 |ok toks cs=>
  rw[hs]at hr;rw[if_pos (show (Lx.Scan.ok toks cs).code=0 from rfl)]at hr;have hr:Sx.treeW ckDs len (Sx.pProg toks)=.error (a,20):=hr;refine⟨toks,cs,?_⟩;cases he:Sx.pProg toks with
  |bad r=>
   rw[he]at hr;injection hr with hr
   injection hr with h1 h2
   exact⟨r,rfl,rfl,h1.symm⟩
  |ok x r=>
   rw[he]at hr;cases r with
   |nil=>
    have rm:(if ckDs x=0 then Except.ok x else Except.error (0,ckDs x):Except (Int×Int) (List _root_.Sx.Decl))=Except.error (a,20):=hr
    by_cases h0:ckDs x=0
    ·rw[if_pos h0]at rm;cases rm
    ·rw[if_neg h0]at rm;injection rm with rm
     injection rm with h1 h2
     exact absurd h2 (zyk x)
   |cons y r=>
    injection hr with hr
    injection hr with h1 h2
    exact⟨y::r,rfl,rfl,h1.symm⟩
theorem zv2{l:List UInt8}{m:Nat}{len:Int}{toks r:List Lx.Tok}{cs:List (Nat×Nat)}(h:Lx.upto l m=.ok toks cs)(hw:_root_.Sx.whole (Sx.pProg toks)=.error r) :
  Sx.readW ckDs len (Lx.upto l m) Sx.pProg=.error (zah len r,20):=by
 unfold Sx.readW;rw[h,if_pos (show (Lx.Scan.ok toks cs).code=0 from rfl)];show Sx.treeW ckDs len (Sx.pProg toks)=_;cases he:Sx.pProg toks with
 |bad r2=>
  rw[he]at hw;injection hw with hw
  subst hw;rfl
 |ok x r2=>
  rw[he]at hw;cases r2 with
  |nil=>cases hw
  |cons y r2=>
   injection hw with hw
   subst hw;rfl
theorem zyq{l more:List UInt8}{m:Nat}{len a:Int}(hr:Sx.readW ckDs len (Lx.upto l m) Sx.pProg=.error (a,20))(ha:a<len){toks:List Lx.Tok}{cs:List (Nat×Nat)}(h:Lx.upto l m=.ok toks cs) :
  ∃q t u,toks=q++t::u/\a=t.pos/\∀uI cs' (len':Int),(Lx.upto (l.take (t.pos+t.text.length)++32::more) m=.ok uI cs'->Sx.readW ckDs len' (Lx.upto (l.take (t.pos+t.text.length)++32::more) m) Sx.pProg=.error (a,20)):=by
 obtain⟨toks1,cs1,r,h1,hw,hp⟩:=zlr hr;rw[h]at h1;cases h1;cases r with
 |nil=>have:a=len:=hp;omega
 |cons t u=>
  have hsuf:∃q,toks=q++t::u:=by
   obtain⟨q,hq⟩:=_root_.Sx.suf_decls toks.length toks;refine⟨q,?_⟩;have xr:(_root_.Sx.decls toks.length toks).rest=t::u:=by
    have hw:_root_.Sx.whole (_root_.Sx.decls toks.length toks)=.error (t::u):=hw;cases he:_root_.Sx.decls toks.length toks with
    |bad r2=>
     rw[he]at hw;injection hw
    |ok x r2=>
     rw[he]at hw;cases r2 with
     |nil=>cases hw
     |cons y r2=>injection hw
   rw[<-xr];exact hq.symm
  obtain⟨q,rfl⟩:=hsuf;refine⟨q,t,u,rfl,hp,λuI cs' len' h' =>?_⟩;obtain⟨u',rfl⟩:=_root_.Sx.prefix_toks h rfl h';have hl:=_root_.Sx.len_app (t:=t) (u:=u) q;have gB:=_root_.Sx.len_app (t:=t) (u:=u') q;have hsim:=_root_.Sx.sim_decls (t:=t) (u:=u) (u':=u') (q++t::u).length (q++t::u').length q (.inr ⟨hl,gB⟩);have hw':=_root_.Sx.whole_viable hsim hw;rw[zv2 h' hw',hp];rfl
def resA{α:Type}:Except (Int×Int) α->Int
 |.ok _=>0
 |.error p=>p.1
def resC{α:Type}:Except (Int×Int) α->Int
 |.ok _=>0
 |.error p=>p.2
theorem zeq(t:ByteArray)(ht:t.size<=140737488355328)(w:World)(hg:Gl w)(a c:Int)
  (ha:resA (Sx.readW ckDs t.size (Lx.upto t.data.toList 20000) Sx.pProg)=a)(hc:resC (Sx.readW ckDs t.size (Lx.upto t.data.toList 20000) Sx.pProg)=c) :
  Calls Tryz.prog 11 #[.string t] w λe w'=>Old w w'/\∃l m k,e=.returned (.tuple #[.agg #[.slice l m k],.int .i64 a,.int .i64 c]):=by
 obtain⟨M,hM⟩:∃M,Sx.readW ckDs t.size (Lx.upto t.data.toList 20000) Sx.pProg=M:=⟨_,rfl⟩;rw[hM]at ha hc;refine(zng t ht w hg M (qya hM.symm)).mono ?_;rintro e w' ⟨hO,v,a',c',rfl,h⟩;cases M with
 |ok x=>
  obtain⟨rfl,rfl,sv,rfl,hl⟩:=h;obtain⟨l,k,rfl⟩:=hl.parts;cases ha;cases hc;exact⟨hO,l,_,k,rfl⟩
 |error p=>
  obtain⟨rfl,rfl,rfl⟩:=h;cases ha;cases hc;exact⟨hO,none,0,0,rfl⟩
theorem znc(t m:ByteArray)(ht:t.size<=140737488355328)(w:World)(hg:Gl w)(hc:resC (Sx.readW ckDs t.size (Lx.upto t.data.toList 20000) Sx.pProg)≠20) :
  Calls Tryz.prog 6 #[.string t,.string m] w λe w'=>e=.returned (.bool true)/\Old w w':=by
 obtain⟨a,ha⟩:∃a,resA (Sx.readW ckDs t.size (Lx.upto t.data.toList 20000) Sx.pProg)=a:=⟨_,rfl⟩;obtain⟨c,pV⟩:∃a,resC (Sx.readW ckDs t.size (Lx.upto t.data.toList 20000) Sx.pProg)=a:=⟨_,rfl⟩;rw[pV]at hc;have cX:(c==20)=false:=beq_eq_false_iff_ne.2 hc;have h20':(c != 20)=true:=bne_iff_ne.2 hc;have HH:=qya (And.intro ha pV);clear ha pV
 go_enter Tryz.func6,Tryz.ntmps6
 go_wp2_with fail
 refine(zbg w hg).mono ?_;rintro e w1 ⟨rfl,o1⟩
 go_wp2_with fail
 refine(zeq t ht w1 (hg.old o1) a c HH.out.1 HH.out.2).mono ?_;rintro e w2 ⟨o2,l,n,k,rfl⟩;have HO:=qya ((o1.trans o2).alloc (.cells #[.slice l n k] 25));clear o1 o2;go_wp2;go_ret;exact⟨rfl,HO.out⟩
theorem zfq(t:ByteArray):t.data.toList.length=t.size:=by rw[qyv];rfl
theorem zix{t:ByteArray}{a:Int}(hr:Sx.readW ckDs t.size (Lx.upto t.data.toList 20000) Sx.pProg=.error (a,20)):t.size<=20000/\0<=a/\(a=(t.size:Int)\/a<(t.size:Int)):=by
 obtain⟨toks,cs,r,h1,hw,hp⟩:=zlr hr;have qY:t.size<=20000/\Lx.scan t.data.toList 0=.ok toks cs:=by
  unfold Lx.upto at h1;rw[zfq]at h1;split at h1
  ·cases h1
  ·exact⟨by omega,h1⟩
 refine⟨qY.1,?_⟩;cases r with
 |nil=>
  have:a=(t.size:Int):=hp;exact⟨by omega,.inl this⟩
 |cons x u=>
  obtain⟨q,hq⟩:=_root_.Sx.suf_decls toks.length toks;have xr:(_root_.Sx.decls toks.length toks).rest=x::u:=by
   have hw:_root_.Sx.whole (_root_.Sx.decls toks.length toks)=.error (x::u):=hw;cases he:_root_.Sx.decls toks.length toks with
   |bad r2=>
    rw[he]at hw;injection hw
   |ok y r2=>
    rw[he]at hw;cases r2 with
    |nil=>cases hw
    |cons z r2=>injection hw
  have hx:x∈toks:=by rw[<-hq,xr];simp
  have ht:=Lx.zda _ _ _ _ _ (qyb _) qY.2 x hx;have vR:=Lx.zcw ht.2.2.2;have ha:a=(x.pos:Int):=hp;rw[zfq]at ht;exact⟨by omega,.inr (by omega)⟩
theorem zrp(t m:ByteArray)(ht:t.size<=140737488355328)(w:World)(hg:Gl w)(hr:Sx.readW ckDs t.size (Lx.upto t.data.toList 20000) Sx.pProg=.error ((t.size:Int),20)) :
  Calls Tryz.prog 6 #[.string t,.string m] w λe w'=>e=.returned (.bool true)/\Old w w':=by
 have HH:=qya hr;clear hr;have hge:decide ((t.size:Int)<=(t.size:Int))=true:=qyl (Int.le_refl _);have hgn:decide (t.size<=t.size)=true:=qyl (qyb _)
 go_enter Tryz.func6,Tryz.ntmps6
 go_wp2_with fail
 refine(zbg w hg).mono ?_;rintro e w1 ⟨rfl,o1⟩
 go_wp2_with fail
 refine(zeq t ht w1 (hg.old o1) t.size 20 (by rw[HH.out];rfl) (by rw[HH.out];rfl)).mono ?_;rintro e w2 ⟨o2,l,n,k,rfl⟩;have HO:=qya ((o1.trans o2).alloc (.cells #[.slice l n k] 25));clear o1 o2;go_wp2;go_ret;exact⟨rfl,HO.out⟩
theorem zw8(w:World)(b:Nat)(t:ByteArray)(cs:Array Value)(T:TypeId)(hB:Blk w b cs T)(h0:cs[0]? = some (.string t))(most:Int)(hm:most<(t.size:Int)) :
  CallsIn Fence.wide 3 Tryz.prog 60 #[.pointer (some ⟨b,0,none⟩),.int .i64 most] w λe w'=>e=.returned (.tuple #[.slice none 0 0,.int .i64 0,.int .i64 2])/\Old w w':=by
 have vw:=mkf;have hb:=hB.lt;have hc3:(((w.alloc (.cells #[.slice none 0 0] 54)).alloc (.cells #[.int .i64 0] 3)).alloc (.cells #[.int .i64 0] 26)).cell? ⟨b,0,none⟩=some (.string t):=(((hB.alloc _).alloc _).alloc _).cell (i:=0) (v:=.string t) h0;clear h0 hB;refine callsIn_of_wp_marks Tryz.func60 rfl trivial ?_ rfl;simp only[Tryz.ntmps60,qxg,qxh,qxi,Nat.reduceAdd,Nat.reduceSub,qxj,qxk,qxl,qxm,qxn,qxo];gi_wp2;refine zax (by simp) (by simp[go_sem]) ?_;refine(zml _ _ _ _ _).mono ?_;rintro e u' w' ⟨rfl,rfl,o,rfl⟩;refine⟨_,zez (R:=w.heap.size) ((((Blk.new w #[.slice none 0 0] 54).alloc _).alloc _).alloc _) (((Blk.new' (by simp) #[.int .i64 0] 3).alloc _).alloc _) ((Blk.new' (by simp) #[.int .i64 2] 26).alloc _) _ rfl rfl rfl rfl,rfl,?_⟩;exact((((Old.refl w).alloc _).alloc _).alloc _).alloc _
theorem zwa(t:ByteArray)(w:World):Calls Tryz.prog 59 #[.string t] w λe w'=>e=.returned (.pointer (some ⟨w.heap.size,0,none⟩))/\Old w w'/\∃cs T,Blk w' w.heap.size cs T/\cs[0]? = some (.string t):=by
 go_enter Tryz.func59,Tryz.ntmps59
 go_wp2;go_ret;exact⟨rfl,(Old.refl w).alloc _,_,_,Blk.new _ _ _,rfl⟩
theorem ztm(t:ByteArray)(ht:20000<t.size)(w:World):Calls Tryz.prog 24 #[.string t] w λe w'=>e=.returned (.tuple #[.slice none 0 0,.int .i64 0,.int .i64 2])/\Old w w':=by
 go_enter Tryz.func24,Tryz.ntmps24
 go_wp2_with fail
 refine(zwa t w).mono ?_;rintro e w1 ⟨rfl,hO,cs,T,hB,h0⟩
 go_wp2_with fail
 refine((callsIn_wide (n:=3)).1 (zw8 w1 w.heap.size t cs T hB h0 20000 (by omega))).mono ?_;rintro e w2 ⟨rfl,uH⟩;have HO:=qya (hO.trans uH);clear hO uH;go_wp2;refine bodyPost_ret (by simp[results,Tryz.results24,go_sem]) rfl ⟨rfl,HO.out⟩
theorem zxs(ts:List Lx.Tok):zco ts=zb4 (ts.map rt):=by
 unfold zco zb4;rw[List.flatMap_map];rfl
theorem zs7{w:World}{b:Nat}{v:Value}{ts:List Lx.Tok}(h:Tk w b v ts):∃la lc,v=.slice la ts.length lc/\TlAt w la (ts.map rt):=by
 have h':w.ownsRow (b+1) 59 4 v ts.length (zco ts):=h;rw[zxs]at h';obtain⟨la,lc,rfl⟩:=zad h';refine⟨la,lc,rfl,?_⟩;have hl:(ts.map rt).length=ts.length:=List.length_map ..;exact zys (cap:=lc) (by rw[hl];exact h')
theorem zxz(t:ByteArray)(ht:t.size<=140737488355328)(w:World)(hg:Gl w){ts:List Lx.Tok}{C:List (Nat×Nat)}(h:Lx.upto t.data.toList 20000=.ok ts C) :
  Calls Tryz.prog 24 #[.string t] w λe w'=>∃la lc,e=.returned (.tuple #[.slice la ts.length lc,.int .i64 0,.int .i64 0])/\TlAt w' la (ts.map rt)/\Old w w':=by
 refine(zhy t ht w hg).mono ?_;intro e w' hp;rw[h]at hp;obtain⟨lv,rfl,vN,hO⟩:=hp;obtain⟨la,lc,rfl,hT⟩:=zs7 vN;exact⟨la,lc,rfl,hT,hO⟩
theorem zp8(t:ByteArray)(w:World)(hg:Gl w){x:Int}(h:(Lx.upto t.data.toList 20000).code=x) :
  Calls Tryz.prog 24 #[.string t] w λe w'=>∃la n lc a,e=.returned (.tuple #[.slice la n lc,.int .i64 a,.int .i64 x])/\Old w w':=by
 subst h
 by_cases dB:20000<t.size
 ·have hu:Lx.upto t.data.toList 20000=.err 0 2:=by
   unfold Lx.upto;rw[zfq,if_pos dB]
  rw[hu];refine(ztm t dB w).mono ?_;rintro e w' ⟨rfl,hO⟩;exact⟨none,0,0,0,rfl,hO⟩
 refine(zhy t (by omega) w hg).mono ?_;intro e w' hp;obtain⟨lv,rfl,vN,hO⟩:=hp;obtain⟨la,lc,rfl,hT⟩:=zs7 vN;exact⟨la,_,lc,_,rfl,hO⟩
theorem zrt(t m:ByteArray)(E:Nat):(t.extract 0 E++⟨#[32]⟩++m).data.toList=t.data.toList.take E++32::m.data.toList:=by
 simp[ByteArray.data_extract]
theorem zu3{l:List UInt8}{m:Nat}(h:(Lx.upto l m).code=0):∃ts cs,Lx.upto l m=.ok ts cs:=by
 cases hs:Lx.upto l m with
 |ok ts cs=>exact⟨ts,cs,rfl⟩
 |err p x=>
  exfalso;rw[hs]at h;unfold Lx.upto at hs;split at hs
  ·cases hs;cases h
  ·exact(ziq _ _ _ _ _ hs).1 h
theorem zor(t m:ByteArray)(ht:t.size<=140737488355328)(hm:m.size<=140737488355328)(w:World)(hg:Gl w)(a:Int)(hr:Sx.readW ckDs t.size (Lx.upto t.data.toList 20000) Sx.pProg=.error (a,20))(ha:a<(t.size:Int)) :
  Calls Tryz.prog 6 #[.string t,.string m] w λe w'=>e=.returned (.bool true)/\Old w w':=by
 obtain⟨qY,ha0,-⟩:=zix hr;obtain⟨toks,cs,r,h1,-,-⟩:=zlr hr;obtain⟨q,x,u,hq,hax,hv⟩:=zyq (more:=m.data.toList) hr ha h1;have vL:Lx.scan t.data.toList 0=.ok toks cs:=by
  unfold Lx.upto at h1;split at h1
  ·cases h1
  ·exact h1
 have hx:x∈toks:=by rw[hq];simp
 have hxt:=Lx.zda _ _ _ _ _ (qyb _) vL x hx;have sF:=Lx.zoo _ _ _ _ _ (qyb _) vL;rw[zfq]at hxt;obtain⟨E,hE⟩:∃E,x.pos+x.text.length=E:=⟨_,rfl⟩;rw[hE]at hv;have hEt:E<=t.size:=by omega
 have hOl:=zrt t m E;obtain⟨O,hO⟩:∃O,t.extract 0 E++⟨#[32]⟩++m=O:=⟨_,rfl⟩;rw[hO]at hOl;rw[<-hOl]at hv;have hOs:(Lx.upto O.data.toList 20000).code=0->O.size<=140737488355328:=λh0=>by
  by_cases dB:20000<O.size
  ·unfold Lx.upto at h0;rw[zfq,if_pos dB]at h0;cases h0
  ·omega
 have hn:toks.length<=40000:=by have:=Lx.zgy vL;rw[zfq]at this;omega
 have pm:q.length<toks.length:=by rw[hq];simp
 have fo:toks[q.length]=x:=by simp[hq]
 have hlen:∀j (hj:j<toks.length),0<toks[j].text.length:=λj hj=>by
  have:=Lx.zcw (Lx.zda _ _ _ _ _ (qyb _) vL toks[j] (List.getElem_mem hj)).2.2.2;omega
 have hpw:=List.pairwise_iff_getElem.1 sF;have vR:∀j (hj:j<toks.length),((toks[j].pos:Int)==a)=decide (j=q.length):=by
  intro j hj;rw[hax]
  by_cases bL:j=q.length
  ·subst bL;rw[fo];simp
  ·rw[qyk bL,qyg];rcases Nat.lt_or_ge j q.length with h|h
   ·have h2:=hpw j q.length hj pm h;rw[fo]at h2;have:=hlen j hj;omega
   ·have h2:=hpw q.length j pm hj (by omega);rw[fo]at h2;have:=hlen q.length pm;rw[fo]at this;omega
 have hEp:0<E:=by have:=hlen q.length pm;rw[fo]at this;omega
 obtain⟨c2,hc2⟩:∃c,(Lx.upto O.data.toList 20000).code=c:=⟨_,rfl⟩;have hres:c2=0->Sx.readW ckDs O.size (Lx.upto O.data.toList 20000) Sx.pProg=.error (a,20):=λh0=>by
  obtain⟨ts,cs',h⟩:=zu3 (hc2.trans h0);exact hv ts cs' O.size h
 obtain⟨n,hnn⟩:∃n,toks.length=n:=⟨_,rfl⟩;obtain⟨z,hz⟩:∃z:Nat->Int,∀j,z j=if q.length<j then (E:Int) else -1:=⟨λj=>if q.length<j then (E:Int) else -1,λ_=>rfl⟩
 have hge:decide ((t.size:Int)<=a)=false:=qyk (by omega);have hm1:z n=(E:Int):=by rw[hz,if_pos (by omega)]
 have hm0:z 0 = -1:=by rw[hz,if_neg (by omega)]
 have qm:∀j (hj:j<toks.length),j=q.length->wrap64 (a+((toks[j].text.length:Nat):Int))=z (j+1):=λj hj bL=>by
  subst bL;rw[fo,hz,if_pos (by omega),IntWalk.wrap64_in _ (by omega)];omega
 have sP:∀j,j≠q.length->z (j+1)=z j:=λj hj=>by
  rw[hz,hz]
  by_cases h:q.length<j
  ·rw[if_pos h,if_pos (by omega)]
  ·rw[if_neg h,if_neg (by omega)]
 have hEneg:decide ((E:Int)<0)=false:=qyk (by omega);have hEgt:decide ((t.size:Int)<(E:Int))=false:=qyk (by omega);have eZ:(E:Int)<=(t.size:Int):=by omega
 have hEn:decide (t.size<E)=false:=qyk (by omega);have H:=qya (And.intro h1 (And.intro vR (And.intro qm (And.intro sP (And.intro hm0 (And.intro hm1 (And.intro hn hnn)))))));have HR:=qya (And.intro hr (And.intro hres (And.intro hc2 (And.intro hOs hO))));have hnt:n<=40000:=hnn▸hn;clear hax h1 vR qm sP hm0 hm1 hn hr hres hc2 hOs hv hq hx hxt sF hE hOl hlen hpw hz fo pm vL
 go_enter Tryz.func6,Tryz.ntmps6
 go_wp2_with fail
 refine(zbg w hg).mono ?_;rintro e w1 ⟨rfl,o1⟩
 go_wp2_with fail
 refine(zeq t ht w1 (hg.old o1) a 20 (by rw[HR.out.1];rfl) (by rw[HR.out.1];rfl)).mono ?_;rintro e w2 ⟨o2,l,n2,k2,rfl⟩;have vV:=(o1.trans o2).alloc (.cells #[.slice l n2 k2] 25);have xW:=hg.old vV;clear o1 o2
 go_wp2_with fail
 refine(zxz t ht _ xW H.out.1).mono ?_;rintro e w3 ⟨la,lc,rfl,hT,o3⟩;have gG:=vV.trans o3;clear vV o3 xW;rw[H.out.2.2.2.2.2.2.2]
 go_wp2_with fail
 go_loopg [12,13] n (λg e i wr=>∃j:Nat,g=n-j/\j<=n/\e=.int .i64 (z j)/\i=.int .i64 j/\Old w3 wr)
 case atStart=>exact⟨0,rfl,qyi _,by rw[H.out.2.2.2.2.1],rfl,Old.refl _⟩
 case round=>
  obtain⟨j,bI,hj,rfl,rfl,hO⟩:=hrel;have HG:=qya bI;clear bI
  by_cases qx:j<n
  ·have hd:decide ((j:Int)<(n:Int))=true:=qyl (Int.ofNat_lt.2 qx);have xq:decide (j<n)=true:=qyl qx;have hli:(j:Int)<(n:Int):=Int.ofNat_lt.2 qx;have lS:j<toks.length:=(by rw[H.out.2.2.2.2.2.2.2];exact qx);obtain⟨g,o,rfl,qQ,x0,x1,x2,x3⟩:=(hT.old hO) j (by rw[List.length_map];exact lS);rw[List.getElem_map]at x0 x1 x2 x3;obtain⟨y,hy⟩:∃y,toks[j]=y:=⟨_,rfl⟩;have hp:=H.out.2.1 j lS;have hs:=H.out.2.2.1 j lS;have vE:=H.out.2.2.2.1 j;rw[hy]at x0 x1 x2 x3 hp hs;have dV:Hid (wrap64 ((j:Int)+1)=((j+1:Nat):Int)):=qya (by rw[IntWalk.wrap64_in _ (by omega)];omega);have HI:=qya qx;change wr.cell? ⟨g,o+j*4+2,none⟩=some (.string ⟨y.text.toArray⟩) at x2;change wr.cell? ⟨g,o+j*4+3,none⟩=some (.int .i64 (y.pos:Int)) at x3;have bV:((⟨y.text.toArray⟩:ByteArray).size:Int)=((y.text.length:Nat):Int):=by
    show ((y.text.toArray.size:Nat):Int)=_;rw[qxg]
   by_cases bL:j=q.length
   ·have hb:((y.pos:Int)==a)=true:=(by rw[hp];exact qyl bL);have HS:=qya (hs bL);have HZ:=qya bV;clear hp hs vE bL bV x0 x1 qx hj hy
    go_wp2_with fail
    go_roundg (n-(j+1))
    case measure=>exact zt7 HI.out HG.out
    case rel=>exact⟨j+1,rfl,HI.out,by rw[<-HS.out,<-HZ.out],by first|rfl|rw[dV.out],hO⟩
   ·have hb:((y.pos:Int)==a)=false:=(by rw[hp];exact qyk bL);have HS:=qya (vE bL);clear hp hs vE bL bV x0 x1 x2 qx hj hy
    go_wp2_with fail
    go_roundg (n-(j+1))
    case measure=>exact zt7 HI.out HG.out
    case rel=>exact⟨j+1,rfl,HI.out,by rw[HS.out],by first|rfl|rw[dV.out],hO⟩
  ·have hd:decide ((j:Int)<(n:Int))=false:=qyk (λe=>qx (Int.ofNat_lt.1 e));have xq:decide (j<n)=false:=qyk qx;have hjn:j=n:=(by omega);subst hjn;have gT:=(hg.old gG).old hO;have HO3:=qya (gG.trans hO);rw[H.out.2.2.2.2.2.1];clear qx hj gG hO hT HG
   go_wp2_with fail
   by_cases h0:c2=0
   ·have fW:=qya (HR.out.2.1 h0);have HC0:=qya (HR.out.2.2.1.trans h0);clear h0;refine(zp8 O wr gT (x:=0) HC0.out).mono ?_;rintro e w5 ⟨lb,n5,c5,a5,rfl,o5⟩;have hg5:=gT.old o5;have HO5:=qya (HO3.out.trans o5);clear o5 gT
    go_wp2_with fail
    refine(zeq O (HR.out.2.2.2.1 HC0.out) w5 hg5 a 20 (by rw[fW.out];rfl) (by rw[fW.out];rfl)).mono ?_;rintro e w6 ⟨o6,l6,n6,k6,rfl⟩;have HO6:=qya ((HO5.out.trans o6).alloc (.cells #[.slice l6 n6 k6] 25));clear o6;go_wp2;go_ret;exact⟨rfl,HO6.out⟩
   ·have hb:(c2==0)=false:=beq_eq_false_iff_ne.2 h0;have pY:(c2 != 0)=true:=bne_iff_ne.2 h0;clear h0;refine(zp8 O wr gT (x:=c2) HR.out.2.2.1).mono ?_;rintro e w5 ⟨lb,n5,c5,a5,rfl,o5⟩;have HO5:=qya (HO3.out.trans o5);clear o5 gT;go_wp2;go_ret;exact⟨rfl,HO5.out⟩
theorem zhm(t m:ByteArray)(ht:t.size<=140737488355328)(hm:m.size<=140737488355328)(w:World)(hg:Gl w) :
  Calls Tryz.prog 6 #[.string t,.string m] w λe w'=>e=.returned (.bool true)/\Old w w':=by
 by_cases hc:resC (Sx.readW ckDs t.size (Lx.upto t.data.toList 20000) Sx.pProg)=20
 ·obtain⟨a,hr⟩:∃a,Sx.readW ckDs t.size (Lx.upto t.data.toList 20000) Sx.pProg=.error (a,20):=by
   cases h:Sx.readW ckDs t.size (Lx.upto t.data.toList 20000) Sx.pProg with
   |ok x=>rw[h]at hc;cases hc
   |error p=>
    rw[h]at hc;obtain⟨a,c⟩:=p;have hc:c=20:=hc;exact⟨a,by rw[hc]⟩
  obtain⟨-,-,h|h⟩:=zix hr
  ·subst h;exact zrp t m ht w hg hr
  ·exact zor t m ht hm w hg a hr h
 ·exact znc t m ht w hg hc
end Go.Proofs.YtclgbmmambkiaaaGreatDoor

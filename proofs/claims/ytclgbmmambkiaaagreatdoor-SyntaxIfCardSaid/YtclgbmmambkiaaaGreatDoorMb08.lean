/- Part 08 -/
import Derived.Test.YtclgbmmambkiaaaGreatDoorMb07
import Derived.LaidEqlPtr
import Derived.MapKept
import Derived.ChangeMaps4
import Derived.StillTailTactics
import Derived.RangeFuncRecord
set_option maxRecDepth 100000
set_option maxHeartbeats 4000000
set_option linter.unusedVariables false
set_option linter.unusedSimpArgs false
namespace Go.Proofs.YtclgbmmambkiaaaGreatDoor
open Go.RowKit
theorem zlu(t:ByteArray)(ht:t.size≤140737488355328)(w:World)(hg:Gl w)(ck:Sx.Ex→Int)
  (xH : ∀(x:Sx.Ex),(∃r,Sx.zcb (Lx.upto t.data.toList 20000).toks=.ok x r)→∀(v:Value) (F:Nat→Prop) (W:World),ExAt W F x v→(∀k,F k→k<W.heap.size)→Gl W→Calls Tryz.prog 44 #[v] W fun e W'=>e=.returned (.int .i64 (ck x))∧Old W W')
  (M0:Except (Int×Int) (Sx.Ex))(HM:Hid (M0=Sx.readW ck t.size (Lx.upto t.data.toList 20000) Sx.zcb)) :
  Calls Tryz.prog 14 #[.string t] w (zfs ExAt (.agg #[.int .i64 0,.int .i64 0,.string ⟨#[]⟩,.string ⟨#[]⟩,.slice none 0 0,.slice none 0 0]) w M0):=by
 have O0:Old w (w.alloc (.cells #[.int .i64 0,.int .i64 0,.string ⟨#[]⟩,.string ⟨#[]⟩,.slice none 0 0,.slice none 0 0] 32)):=(Old.refl w).alloc _;have qD:=Blk.new w #[.int .i64 0,.int .i64 0,.string ⟨#[]⟩,.string ⟨#[]⟩,.slice none 0 0,.slice none 0 0] 32;have z0:(w.alloc (.cells #[.int .i64 0,.int .i64 0,.string ⟨#[]⟩,.string ⟨#[]⟩,.slice none 0 0,.slice none 0 0] 32)).heap.size=w.heap.size+1:=qyd _ _;have hr:=callsIn_wide.1 (ztu t ht _ (hg.old O0) ck xH (fun b la lc L toks len hL q W h hq=>zls b la lc L toks len hL q W h hq) (Lx.zj8 _) M0 HM);have Z0:=qya z0;clear z0
 go_enter Tryz.func14,Tryz.ntmps14
 go_wp2_with fail
 (with_reducible refine hr.mono ?_)
 rintro e w2 ⟨o2,v,a,c,rfl,hp⟩;have z0:=Z0.out;have z2:=o2.size;have jL:=qD.keep o2 (fun e=>e);have F02:Fr (fun k=>w.heap.size≤k) w w2:=(O0.trans o2).mono (fun k _ e=>e.elim);cases M0 with
 | error ac=>
  obtain⟨a',c'⟩:=ac;obtain⟨rfl,rfl,rfl⟩:=hp;obtain⟨vM,kp,kr,kJ,ko,ki⟩:=jL.c6;obtain⟨kq,kn,ke,xk,xv,xz⟩:=jL.f6;have qJ:=jL.lt;go_wp2;obtain⟨Wf,qv,S2,k3,zD⟩:=jL.put6 (.int .i64 0) (.int .i64 0) (.string ⟨#[]⟩) (.string ⟨#[]⟩) (.slice none 0 0) (.slice none 0 0);rw [qv];clear qv;obtain⟨qP,qC,qA,jv,jz,jj⟩:=k3.c6;refine bodyPost_ret (v:=.tuple #[.agg #[.int .i64 0,.int .i64 0,.string ⟨#[]⟩,.string ⟨#[]⟩,.slice none 0 0,.slice none 0 0],.int .i64 a,.int .i64 c]) (by simp [results,Tryz.results14,go_sem,qP,qC,qA,jv,jz,jj]) rfl ?_;have S3:=S2;exact⟨(F02.trans' S3 (fun k _ e=>by omega)).mono (fun k hk e=>absurd hk (Nat.not_lt.2 e)),_,_,_,rfl,rfl,rfl,rfl⟩
 | ok x=>
  obtain⟨rfl,rfl,hx⟩:=hp;obtain⟨kd,nu,nm,ag,la,na,ca,lp,np,cp,rfl⟩:=hx.parts;obtain⟨vM,kp,kr,kJ,ko,ki⟩:=jL.c6;obtain⟨kq,kn,ke,xk,xv,xz⟩:=jL.f6;have qJ:=jL.lt;go_wp2;obtain⟨Wf,qv,S2,k3,zD⟩:=jL.put6 (.int .i64 kd) (.int .i64 nu) (.string nm) (.string ag) (.slice la na ca) (.slice lp np cp);rw [qv];clear qv;obtain⟨qP,qC,qA,jv,jz,jj⟩:=k3.c6;refine bodyPost_ret (v:=.tuple #[.agg #[.int .i64 kd,.int .i64 nu,.string nm,.string ag,.slice la na ca,.slice lp np cp],.int .i64 0,.int .i64 0]) (by simp [results,Tryz.results14,go_sem,qP,qC,qA,jv,jz,jj]) rfl ?_;have S3:=S2;have zf:=S3.size;exact⟨(F02.trans' S3 (fun k _ e=>by omega)).mono (fun k hk e=>absurd hk (Nat.not_lt.2 e)),_,_,_,rfl,rfl,rfl,ExAt.more (fun k hk=>⟨by omega,by omega⟩) _ _ (hx.keep S3 (fun k hk e=>by omega))⟩
theorem zt3(t:ByteArray)(ht:t.size≤140737488355328)(w:World)(hg:Gl w)(ck:List Sx.Decl→Int)
  (xH : ∀(x:List Sx.Decl),(∃r,Sx.pProg (Lx.upto t.data.toList 20000).toks=.ok x r)→∀(v:Value) (F:Nat→Prop) (W:World),G.ProgAt W F x v→(∀k,F k→k<W.heap.size)→Gl W→Calls Tryz.prog 35 #[v] W fun e W'=>e=.returned (.int .i64 (ck x))∧Old W W')
  (M0:Except (Int×Int) (List Sx.Decl))(HM:Hid (M0=Sx.readW ck t.size (Lx.upto t.data.toList 20000) Sx.pProg)) :
  Calls Tryz.prog 11 #[.string t] w (zfs G.ProgAt (.agg #[.slice none 0 0]) w M0):=by
 have O0:Old w (w.alloc (.cells #[.slice none 0 0] 25)):=(Old.refl w).alloc _;have qD:=Blk.new w #[.slice none 0 0] 25;have z0:(w.alloc (.cells #[.slice none 0 0] 25)).heap.size=w.heap.size+1:=qyd _ _;have hr:=callsIn_wide.1 (ztt t ht _ (hg.old O0) ck xH (fun b la lc L toks len hL q W h hq=>callsIn_wide.1 (G.prog_any W b la lc L toks len hL q h hq _ (by rw [qym];omega))) (Lx.zj8 _) M0 HM);have Z0:=qya z0;clear z0
 go_enter Tryz.func11,Tryz.ntmps11
 go_wp2_with fail
 (with_reducible refine hr.mono ?_)
 rintro e w2 ⟨o2,v,a,c,rfl,hp⟩;have z0:=Z0.out;have z2:=o2.size;have jL:=qD.keep o2 (fun e=>e);have F02:Fr (fun k=>w.heap.size≤k) w w2:=(O0.trans o2).mono (fun k _ e=>e.elim);cases M0 with
 | error ac=>
  obtain⟨a',c'⟩:=ac;obtain⟨rfl,rfl,rfl⟩:=hp;have vM:=jL.c 0 (.slice none 0 0) rfl;have kq:=jL.free 0;have qJ:=jL.lt;go_wp2;have S2:=(Fr.refl (fun k=>k=w.heap.size) w2).setCell ⟨w.heap.size,0,none⟩ (fun _=>rfl) (.slice none 0 0);have k3:Blk (w2.setCell ⟨w.heap.size,0,none⟩ (.slice none 0 0)) w.heap.size #[.slice none 0 0] 25:=by
   have:=jL.set 0 (.slice none 0 0);simpa only [qxd,qxe,qxf] using this
  have zD:(w2.setCell ⟨w.heap.size,0,none⟩ (.slice none 0 0)).heap.size=w2.heap.size:=by simp
  obtain⟨Wf,qv⟩ : ∃W1,w2.setCell ⟨w.heap.size,0,none⟩ (.slice none 0 0)=W1:=⟨_,rfl⟩;rw [qv] at S2 k3 zD ⊢;clear qv;have qP:=k3.c 0 (.slice none 0 0) rfl;refine bodyPost_ret (v:=.tuple #[.agg #[.slice none 0 0],.int .i64 a,.int .i64 c]) (by simp [results,Tryz.results11,go_sem,qP]) rfl ?_;have S3:=S2;exact⟨(F02.trans' S3 (fun k _ e=>by omega)).mono (fun k hk e=>absurd hk (Nat.not_lt.2 e)),_,_,_,rfl,rfl,rfl,rfl⟩
 | ok x=>
  obtain⟨rfl,rfl,hx⟩:=hp;obtain⟨la,na,ca,rfl⟩:=hx.parts;have vM:=jL.c 0 (.slice none 0 0) rfl;have kq:=jL.free 0;have qJ:=jL.lt;go_wp2;have S2:=(Fr.refl (fun k=>k=w.heap.size) w2).setCell ⟨w.heap.size,0,none⟩ (fun _=>rfl) (.slice la na ca);have k3:Blk (w2.setCell ⟨w.heap.size,0,none⟩ (.slice la na ca)) w.heap.size #[.slice la na ca] 25:=by
   have:=jL.set 0 (.slice la na ca);simpa only [qxd,qxe,qxf] using this
  have zD:(w2.setCell ⟨w.heap.size,0,none⟩ (.slice la na ca)).heap.size=w2.heap.size:=by simp
  obtain⟨Wf,qv⟩ : ∃W1,w2.setCell ⟨w.heap.size,0,none⟩ (.slice la na ca)=W1:=⟨_,rfl⟩;rw [qv] at S2 k3 zD ⊢;clear qv;have qP:=k3.c 0 (.slice la na ca) rfl;refine bodyPost_ret (v:=.tuple #[.agg #[.slice la na ca],.int .i64 0,.int .i64 0]) (by simp [results,Tryz.results11,go_sem,qP]) rfl ?_;have S3:=S2;have zf:=S3.size;exact⟨(F02.trans' S3 (fun k _ e=>by omega)).mono (fun k hk e=>absurd hk (Nat.not_lt.2 e)),_,_,_,rfl,rfl,rfl,zi7.more (fun k hk=>⟨by omega,by omega⟩) _ _ (hx.keep S3 (fun k hk e=>by omega))⟩
end Go.Proofs.YtclgbmmambkiaaaGreatDoor
namespace Sx
structure Fo where
 es:List Ex
 ps:List Pa
 ts:List Ty
def kidE:Ex→Fo
 | .mk _ _ _ _ a p=>⟨a,p,[]⟩
def kidP:Pa→Fo
 | .mk _ _ a=>⟨[],a,[]⟩
def kidT:Ty→Fo
 | .mk _ a=>⟨[],[],a⟩
def kids(f:Fo):List Fo:=f.es.map kidE++(f.ps.map kidP++f.ts.map kidT)
def maxL:List Nat→Nat
 | []=>0
 | a::r=>max a (maxL r)
def sumL:List Nat→Nat
 | []=>0
 | a::r=>a+sumL r
def capD:Nat→Fo→Nat
 | 0,f=>if (kids f).isEmpty then 0 else 1
 | m+1,f=>maxL ((kids f).map fun k=>capD m k+1)
def cnt:Nat→Fo→Nat
 | 0,_=>0
 | m+1,f=>sumL ((kids f).map fun k=>1+cnt m k)
theorem zx7{l:List Nat}{c:Nat}(h : ∀x∈l,x≤c):maxL l≤c:=by
 induction l with
 | nil=>exact Nat.zero_le _
 | cons a r ih=>exact Nat.max_le.2 ⟨h a (List.mem_cons_self ..),ih fun x hx=>h x (List.mem_cons_of_mem _ hx)⟩
theorem zuc{l:List Nat}{x:Nat}(h:x∈l):x≤maxL l:=by
 induction l with
 | nil=>cases h
 | cons a r ih=>
  rcases List.mem_cons.1 h with rfl | h
  ·exact Nat.le_max_left ..
  ·exact Nat.le_trans (ih h) (Nat.le_max_right ..)
theorem zt8(l:List Nat)(x:Nat):maxL (l++[x])=max (maxL l) x:=by
 induction l with
 | nil=>simp [maxL]
 | cons a r ih=>simp only [List.cons_append,maxL,ih,Nat.max_assoc]
theorem zs8(l:List Nat)(x:Nat):sumL (l++[x])=sumL l+x:=by
 induction l with
 | nil=>simp [sumL]
 | cons a r ih=>simp only [List.cons_append,sumL,ih,Nat.add_assoc]
theorem zoj(l r:List Nat):sumL (l++r)=sumL l+sumL r:=by
 induction l with
 | nil=>simp [sumL]
 | cons a l ih=>simp only [List.cons_append,sumL,ih,Nat.add_assoc]
theorem zpv : ∀(m:Nat) (f:Fo),capD m f≤m+1
 | 0,f=>by unfold capD;split <;> omega
 | m+1,f=>by
  rw [capD];refine zx7 fun x hx => ?_;obtain⟨k,_,rfl⟩:=List.mem_map.1 hx;have:=zpv m k;omega
theorem zu8 : ∀(m:Nat) (f:Fo),capD m f≤m→∀m',capD m' f=min (capD m f) (m'+1)
 | 0,f,h,m'=>by
  have hk:kids f=[]:=by
   unfold capD at h;split at h
   ·rename_i h1;simpa using h1
   ·omega
  have h0 : ∀j,capD j f=0:=fun j=>by cases j <;> simp [capD,hk,maxL]
  rw [h0,h0];omega
 | m+1,f,h,m'=>by
  have hk : ∀k∈kids f,capD m k≤m:=fun k hk=>by
   have h1:=zuc (List.mem_map.2 ⟨k,hk,rfl⟩:capD m k+1∈(kids f).map fun k=>capD m k+1);rw [capD] at h;omega
  cases m' with
  | zero=>
   rw [capD,capD];cases hc:kids f with
   | nil=>simp [maxL]
   | cons a r=>simp only [maxL,List.isEmpty_cons,List.map_cons];simp;omega
  | succ m'=>
   rw [capD,capD];have hg : ∀l:List Fo,(∀k∈l,capD m k≤m)→maxL (l.map fun k=>capD m' k+1)=min (maxL (l.map fun k=>capD m k+1)) (m'+1+1):=fun l hl=>by
    induction l with
    | nil=>simp [maxL]
    | cons a r ih=>
     simp only [List.map_cons,maxL];rw [ih fun k hk=>hl k (List.mem_cons_of_mem _ hk),zu8 m a (hl a (List.mem_cons_self ..)) m'];omega
   exact hg _ hk
theorem zu7{m:Nat}{f:Fo}{k:Fo}(hk:k∈kids f)(h:m<capD m k):capD (m+1) f=m+2:=by
 have h1:capD m k+1≤capD (m+1) f:=by
  rw [capD];exact zuc (List.mem_map.2 ⟨k,hk,rfl⟩)
 have h2:=zpv (m+1) f;omega
def limV(f:Fo):Int:=if 100<capD 100 f then 6 else if 2000<cnt 100 f then 2 else 0
end Sx
namespace Go.Proofs.YtclgbmmambkiaaaGreatDoor
open Go.RowKit
def FoAt(w:World)(F:Nat→Prop)(f:Sx.Fo)(v:Value):Prop:=
 ∃sv xs pv ps tv ts,v=.agg #[sv,pv,tv]∧RowAt w F 32 6 sv f.es.length xs∧ExsAt w F f.es xs∧RowAt w F 37 3 pv f.ps.length ps∧PasAt w F f.ps ps∧RowAt w F 35 2 tv f.ts.length ts∧TysAt w F f.ts ts
theorem FoAt.keep{S F:Nat→Prop}{w w':World}(hf:Fr S w w')(hn : ∀k,F k→¬S k){f:Sx.Fo}{v:Value}(h:FoAt w F f v):FoAt w' F f v:=by
 obtain⟨sv,xs,pv,ps,tv,ts,hv,h1,h2,h3,h4,h5,h6⟩:=h;exact⟨sv,xs,pv,ps,tv,ts,hv,h1.keep hf hn,ExsAt.keep hf hn _ _ h2,h3.keep hf hn,PasAt.keep hf hn _ _ h4,h5.keep hf hn,TysAt.keep hf hn _ _ h6⟩
theorem FoAt.more{F F':Nat→Prop}{w:World}(hn : ∀k,F k→F' k){f:Sx.Fo}{v:Value}(h:FoAt w F f v):FoAt w F' f v:=by
 obtain⟨sv,xs,pv,ps,tv,ts,hv,h1,h2,h3,h4,h5,h6⟩:=h;exact⟨sv,xs,pv,ps,tv,ts,hv,h1.more hn,ExsAt.more hn _ _ h2,h3.more hn,PasAt.more hn _ _ h4,h5.more hn,TysAt.more hn _ _ h6⟩
theorem FoAt.parts{w:World}{F:Nat→Prop}{f:Sx.Fo}{v:Value}(h:FoAt w F f v) : ∃(la:Option Addr) (ca:Nat) (lp:Option Addr) (cp:Nat) (lt:Option Addr) (ct:Nat),v=.agg #[.slice la f.es.length ca,.slice lp f.ps.length cp,.slice lt f.ts.length ct]:=by
 obtain⟨sv,xs,pv,ps,tv,ts,rfl,h1,h2,h3,h4,h5,h6⟩:=h;obtain⟨la,ca,rfl⟩:=zad h1.1;obtain⟨lp,cp,rfl⟩:=zad h3.1;obtain⟨lt,ct,rfl⟩:=zad h5.1;exact⟨_,_,_,_,_,_,rfl⟩
theorem ExAt.kid{w:World}{F:Nat→Prop}{e:Sx.Ex}{a0 a1 a2 a3 a4 a5:Value}(h:ExAt w F e (.agg #[a0,a1,a2,a3,a4,a5])):FoAt w F (Sx.kidE e) (.agg #[a4,a5,.slice none 0 0]):=by
 match e with
 | .mk k u s g args pats=>
  rw [ExAt] at h;obtain⟨sv,xs,pv,ps,hv,h1,h2,h3,h4⟩:=h;cases hv;exact⟨_,xs,_,ps,_,[],rfl,h1,h2,h3,h4,RowAt.none ..,by rw [Sx.kidE,TysAt]⟩
theorem PaAt.kid{w:World}{F:Nat→Prop}{e:Sx.Pa}{a0 a1 a2:Value}(h:PaAt w F e (.agg #[a0,a1,a2])):FoAt w F (Sx.kidP e) (.agg #[.slice none 0 0,a2,.slice none 0 0]):=by
 match e with
 | .mk k s args=>
  rw [PaAt] at h;obtain⟨sv,xs,hv,h1,h2⟩:=h;cases hv;exact⟨_,[],_,xs,_,[],rfl,RowAt.none ..,by rw [Sx.kidP,ExsAt],h1,h2,RowAt.none ..,by rw [Sx.kidP,TysAt]⟩
theorem TyAt.kid{w:World}{F:Nat→Prop}{e:Sx.Ty}{a0 a1:Value}(h:TyAt w F e (.agg #[a0,a1])):FoAt w F (Sx.kidT e) (.agg #[.slice none 0 0,.slice none 0 0,a1]):=by
 match e with
 | .mk s args=>
  rw [TyAt] at h;obtain⟨sv,xs,hv,h1,h2⟩:=h;cases hv;exact⟨_,[],_,[],_,xs,rfl,RowAt.none ..,by rw [Sx.kidT,ExsAt],RowAt.none ..,by rw [Sx.kidT,PasAt],h1,h2⟩
def zar(l:Option Addr)(n:Nat):Option Addr:=if n=0 then none else l
theorem zh0{w:World}{b b':Nat}{e:TypeId}{size n:Nat}{l l':Option Addr}{c c':Nat}{xs yL:List Value}(h:w.ownsRow b e size (.slice l n c) n xs)(h':w.ownsRow b' e size (.slice l' n c') n yL)(hl:zar l n=zar l' n):xs=yL:=by
 obtain⟨g1,g2⟩:=h;obtain⟨k1,k2⟩:=h';rcases g2 with ⟨_,h0⟩ | ⟨g,cap,vy,hv,_,hh,_,_,_,ht⟩
 ·subst h0;rw [Nat.zero_mul,List.length_eq_zero_iff] at g1 k1;rw [g1,k1]
 ·rcases k2 with ⟨_,h0⟩ | ⟨g',dI,cur',rh,_,hh',_,_,_,gP⟩
  ·subst h0;rw [Nat.zero_mul,List.length_eq_zero_iff] at g1 k1;rw [g1,k1]
  ·by_cases h0:n=0
   ·subst h0;rw [Nat.zero_mul,List.length_eq_zero_iff] at g1 k1;rw [g1,k1]
   ·unfold zar at hl;rw [if_neg h0,if_neg h0] at hl;cases hv;cases rh;cases hl;rw [hh] at hh';cases hh';rw [← ht,← gP]
theorem zhz{w:World}{F F':Nat→Prop}{e:TypeId}{size n n':Nat}{sv:Value}{xs yL:List Value}(h:RowAt w F e size sv n xs)(h':RowAt w F' e size sv n' yL):n=n'∧xs=yL:=by
 obtain⟨l,c,rfl⟩:=zad h.1;obtain⟨l',c',hv⟩:=zad h'.1;cases hv;exact⟨rfl,zh0 h.1 h'.1 rfl⟩
theorem zqw{a b:List UInt8}(h:bv a=bv b):a=b:=by
 have:(⟨a.toArray⟩:ByteArray)=⟨b.toArray⟩:=by cases h;rfl
 have:=congrArg ByteArray.data this;simpa using this
mutual
theorem TyAt.uniq{w:World}{F F':Nat→Prop} : ∀(t t':Sx.Ty) (v:Value),TyAt w F t v→TyAt w F' t' v→t=t'
 | .mk n a,.mk n' a',v,h,h'=>by
  rw [TyAt] at h h';obtain⟨sv,xs,rfl,h1,h2⟩:=h;obtain⟨sn,yL,hv,yd,pW⟩:=h';simp only [Value.agg.injEq,List.toArray_inj,Array.mk.injEq,List.cons.injEq,and_true] at hv;obtain⟨hn,rfl⟩:=hv;obtain⟨hl,rfl⟩:=zhz h1 yd;rw [zqw hn,TysAt.uniq a a' xs h2 pW]
theorem TysAt.uniq{w:World}{F F':Nat→Prop} : ∀(ts ts':List Sx.Ty) (xs:List Value),TysAt w F ts xs→TysAt w F' ts' xs→ts=ts'
 | [],[],xs,h,h'=>rfl
 | [],t::r,xs,h,h'=>by
  rw [TysAt] at h;rw [TysAt] at h';obtain⟨a0,a1,ys,hx,_⟩:=h';rw [h] at hx;cases hx
 | t::r,[],xs,h,h'=>by
  rw [TysAt] at h;rw [TysAt] at h';obtain⟨a0,a1,ys,hx,_⟩:=h;rw [h'] at hx;cases hx
 | t::r,t'::r',xs,h,h'=>by
  rw [TysAt] at h;rw [TysAt] at h';obtain⟨a0,a1,ys,rfl,h1,h2⟩:=h;obtain⟨b0,b1,ys',hx,yd,pW⟩:=h';cases hx;rw [TyAt.uniq t t' _ h1 yd,TysAt.uniq r r' _ h2 pW]
end
mutual
theorem PaAt.uniq{w:World}{F F':Nat→Prop} : ∀(t t':Sx.Pa) (v:Value),PaAt w F t v→PaAt w F' t' v→t=t'
 | .mk k n a,.mk k' n' a',v,h,h'=>by
  rw [PaAt] at h h';obtain⟨sv,xs,rfl,h1,h2⟩:=h;obtain⟨sn,yL,hv,yd,pW⟩:=h';simp only [Value.agg.injEq,List.toArray_inj,Array.mk.injEq,List.cons.injEq,and_true,Value.int.injEq,true_and] at hv;obtain⟨rfl,hn,rfl⟩:=hv;obtain⟨hl,rfl⟩:=zhz h1 yd;rw [zqw hn,PasAt.uniq a a' xs h2 pW]
theorem PasAt.uniq{w:World}{F F':Nat→Prop} : ∀(ts ts':List Sx.Pa) (xs:List Value),PasAt w F ts xs→PasAt w F' ts' xs→ts=ts'
 | [],[],xs,h,h'=>rfl
 | [],t::r,xs,h,h'=>by
  rw [PasAt] at h;rw [PasAt] at h';obtain⟨a0,a1,a2,ys,hx,_⟩:=h';rw [h] at hx;cases hx
 | t::r,[],xs,h,h'=>by
  rw [PasAt] at h;rw [PasAt] at h';obtain⟨a0,a1,a2,ys,hx,_⟩:=h;rw [h'] at hx;cases hx
 | t::r,t'::r',xs,h,h'=>by
  rw [PasAt] at h;rw [PasAt] at h';obtain⟨a0,a1,a2,ys,rfl,h1,h2⟩:=h;obtain⟨b0,b1,b2,ys',hx,yd,pW⟩:=h';cases hx;rw [PaAt.uniq t t' _ h1 yd,PasAt.uniq r r' _ h2 pW]
end
mutual
theorem ExAt.uniq{w:World}{F F':Nat→Prop} : ∀(t t':Sx.Ex) (v:Value),ExAt w F t v→ExAt w F' t' v→t=t'
 | .mk k u n g a p,.mk k' u' n' g' a' p',v,h,h'=>by
  rw [ExAt] at h h';obtain⟨sv,xs,pv,ps,rfl,h1,h2,h3,h4⟩:=h;obtain⟨sn,yL,pv',ps',hv,yd,pW,h3',h4'⟩:=h';simp only [Value.agg.injEq,List.toArray_inj,Array.mk.injEq,List.cons.injEq,and_true,Value.int.injEq,true_and] at hv;obtain⟨rfl,rfl,hn,hg,rfl,rfl⟩:=hv;obtain⟨hl,rfl⟩:=zhz h1 yd;obtain⟨tI,rfl⟩:=zhz h3 h3';rw [zqw hn,zqw hg,ExsAt.uniq a a' xs h2 pW,PasAt.uniq p p' ps h4 h4']
theorem ExsAt.uniq{w:World}{F F':Nat→Prop} : ∀(ts ts':List Sx.Ex) (xs:List Value),ExsAt w F ts xs→ExsAt w F' ts' xs→ts=ts'
 | [],[],xs,h,h'=>rfl
 | [],t::r,xs,h,h'=>by
  rw [ExsAt] at h;rw [ExsAt] at h';obtain⟨a0,a1,a2,a3,a4,a5,ys,hx,_⟩:=h';rw [h] at hx;cases hx
 | t::r,[],xs,h,h'=>by
  rw [ExsAt] at h;rw [ExsAt] at h';obtain⟨a0,a1,a2,a3,a4,a5,ys,hx,_⟩:=h;rw [h'] at hx;cases hx
 | t::r,t'::r',xs,h,h'=>by
  rw [ExsAt] at h;rw [ExsAt] at h';obtain⟨a0,a1,a2,a3,a4,a5,ys,rfl,h1,h2⟩:=h;obtain⟨b0,b1,b2,b3,b4,b5,ys',hx,yd,pW⟩:=h';cases hx;rw [ExAt.uniq t t' _ h1 yd,ExsAt.uniq r r' _ h2 pW]
end
def keyF(ne np nt:Nat)(la lp lt:Option Addr):Value:=.agg #[.pointer (zar la ne),.pointer (zar lp np),.pointer (zar lt nt),.int .i64 ne,.int .i64 np,.int .i64 nt]
theorem FoAt.uniq{w:World}{F F':Nat→Prop}{f f':Sx.Fo}{la lp lt yG pz lt':Option Addr}{ca cp ct uD fE ct':Nat}
  (h:FoAt w F f (.agg #[.slice la f.es.length ca,.slice lp f.ps.length cp,.slice lt f.ts.length ct]))(h':FoAt w F' f' (.agg #[.slice yG f'.es.length uD,.slice pz f'.ps.length fE,.slice lt' f'.ts.length ct']))
  (hk:keyF f.es.length f.ps.length f.ts.length la lp lt=keyF f'.es.length f'.ps.length f'.ts.length yG pz lt'):f=f':=by
 unfold keyF at hk;simp only [Value.agg.injEq,Array.mk.injEq,List.cons.injEq,and_true,Value.pointer.injEq,Value.int.injEq,true_and,Int.natCast_inj,List.toArray_inj] at hk;obtain⟨k1,k2,k3,k4,k5,k6⟩:=hk;obtain⟨sv,xs,pv,ps,tv,ts,hv,h1,h2,h3,h4,h5,h6⟩:=h;obtain⟨sn,yL,pv',ps',tv',ts',rh,yd,pW,h3',h4',h5',h6'⟩:=h';cases hv;cases rh;have e1:xs=yL:=by
  refine zh0 (b':=0) (n:=f.es.length) h1.1 ?_ ?_ (c':=uD) (l':=yG)
  ·rw [k4];exact yd.1
  ·rw [k1,k4]
 have e2:ps=ps':=by
  refine zh0 (b':=0) (n:=f.ps.length) h3.1 ?_ ?_ (c':=fE) (l':=pz)
  ·rw [k5];exact h3'.1
  ·rw [k2,k5]
 have e3:ts=ts':=by
  refine zh0 (b':=0) (n:=f.ts.length) h5.1 ?_ ?_ (c':=ct') (l':=lt')
  ·rw [k6];exact h5'.1
  ·rw [k3,k6]
 subst e1 e2 e3;obtain⟨es,ps1,dm⟩:=f;obtain⟨es',ps1',ts1'⟩:=f';simp only at *
 rw [ExsAt.uniq es es' _ h2 pW,PasAt.uniq ps1 ps1' _ h4 h4',TysAt.uniq dm ts1' _ h6 h6']
def zhs(w:World)(a:Option Addr):Prop:=∀x,a=some x→∃cs t,w.heap[x.block]? = some (.cells cs t (0,0))
theorem ztw{w:World}{tp te:TypeId}{j:TypeInfo}(hp:Tryz.prog.underlying tp=some (.pointer te))(rp:Tryz.prog.info? te=some j)(qY:j.size≠0){a b:Option Addr}(ha:zhs w a)(hb:zhs w b)(d:Nat) :
  (Op.equalIn (d+1) tp (.pointer a) (.pointer b)).run Tryz.prog w=.ok (decide (a=b)) w:=by
 cases a with
 | none=>cases b <;> simp [Op.equalIn,run_underlying hp]
 | some x=>
  cases b with
  | none=>simp [Op.equalIn,run_underlying hp]
  | some y=>
   obtain⟨cs,t,h1⟩:=ha x rfl;obtain⟨cs',t',h2⟩:=hb y rfl
   by_cases hxy:x=y
   ·subst hxy;simp [Op.equalIn,run_underlying hp,sizeOf,typeInfo,rp,qY,run_sameAddr_same]
   ·simp [Op.equalIn,run_underlying hp,sizeOf,typeInfo,rp,qY,run_sameAddr_other w hxy h1 h2,hxy]
theorem zr6(b:Bool)(p1 p2 p3:Option Addr)(n1 n2 n3:Int)(w:World):(Instr.checkKey b 10000 190 (.agg #[.pointer p1,.pointer p2,.pointer p3,.int .i64 n1,.int .i64 n2,.int .i64 n3])).run Tryz.prog w=.ok () w:=by kernel_rfl
theorem zul(w:World)(a b:Int)(d:Nat):(Op.equalIn (d+1) 3 (.int .i64 a) (.int .i64 b)).run Tryz.prog w=.ok (a==b) w:=by
 simp [Op.equalIn,run_underlying Tryz.underlying3]
theorem zx5(w:World)(a b c:Int):(part 3 #[.int .i64 a,.int .i64 b,.int .i64 c] 0).run Tryz.prog w=.ok (.int .i64 a) w:=by kernel_rfl
theorem zot(w:World)(a b c:Int):(part 3 #[.int .i64 a,.int .i64 b,.int .i64 c] 1).run Tryz.prog w=.ok (.int .i64 b) w:=by kernel_rfl
theorem zt2(w:World)(a b c:Int):(part 3 #[.int .i64 a,.int .i64 b,.int .i64 c] 2).run Tryz.prog w=.ok (.int .i64 c) w:=by kernel_rfl
theorem zxw(w:World):(sizeOf 3).run Tryz.prog w=.ok 1 w:=by kernel_rfl
theorem zy8(w:World)(a1 a2 a3 b1 b2 b3:Int)(d:Nat):(Op.equalIn (d+2) 188 (.agg #[.int .i64 a1,.int .i64 a2,.int .i64 a3]) (.agg #[.int .i64 b1,.int .i64 b2,.int .i64 b3])).run Tryz.prog w=.ok (a1==b1&&a2==b2&&a3==b3) w:=by
 have i0:=zul w a1 b1 d;have i1:=zul w a2 b2 d;have i2:=zul w a3 b3 d;generalize (a1==b1)=x0 at i0 ⊢;generalize (a2==b2)=x1 at i1 ⊢;generalize (a3==b3)=x2 at i2 ⊢;rw [Op.equalIn];simp only [Sem.run_bind,run_underlying Tryz.underlying188,Result.andThen_ok,zxw,Std.Legacy.Range.forIn_eq_forIn_range',Std.Legacy.Range.size,Nat.sub_zero,Nat.add_one_sub_one,Nat.div_one,List.range'_succ,List.range'_zero,List.forIn_cons,List.forIn_nil,Nat.mul_one,zx5,zot,zt2,i0];cases x0
 ·simp
 ·cases x1
  ·simp [zot,i1]
  ·cases x2 <;> simp [zot,zt2,i1,i2]
theorem zlt(w:World)(p1 p2 p3:Option Addr)(n1 n2 n3:Int):(part 185 #[.pointer p1,.pointer p2,.pointer p3,.int .i64 n1,.int .i64 n2,.int .i64 n3] 0).run Tryz.prog w=.ok (.pointer p1) w:=by kernel_rfl
theorem zos(w:World)(p1 p2 p3:Option Addr)(n1 n2 n3:Int):(part 186 #[.pointer p1,.pointer p2,.pointer p3,.int .i64 n1,.int .i64 n2,.int .i64 n3] 1).run Tryz.prog w=.ok (.pointer p2) w:=by kernel_rfl
theorem ztz(w:World)(p1 p2 p3:Option Addr)(n1 n2 n3:Int):(part 187 #[.pointer p1,.pointer p2,.pointer p3,.int .i64 n1,.int .i64 n2,.int .i64 n3] 2).run Tryz.prog w=.ok (.pointer p3) w:=by kernel_rfl
theorem zx4(w:World)(p1 p2 p3:Option Addr)(n1 n2 n3:Int):(part 188 #[.pointer p1,.pointer p2,.pointer p3,.int .i64 n1,.int .i64 n2,.int .i64 n3] 3).run Tryz.prog w=.ok (.agg #[.int .i64 n1,.int .i64 n2,.int .i64 n3]) w:=by kernel_rfl
theorem zfv{t:TypeId}{n:Nat}(h:(Tryz.prog.info? t).map (·.size)=some n) : ∃j,Tryz.prog.info? t=some j∧j.size=n:=by
 obtain⟨j,hj,h⟩:=Option.map_eq_some_iff.1 h;exact⟨j,hj,h⟩
theorem sizeE:(Tryz.prog.info? 32).map (·.size)=some 6:=by kernel_rfl
theorem sizeP:(Tryz.prog.info? 37).map (·.size)=some 3:=by kernel_rfl
theorem sizeT:(Tryz.prog.info? 35).map (·.size)=some 2:=by kernel_rfl
theorem zp5:Tryz.prog.stoodInHeld 190=false:=by kernel_rfl
theorem zx9{w:World}{p1 p2 p3 q1 q2 q3:Option Addr}(n1 n2 n3 m1 m2 m3:Int)(h1:zhs w p1)(h2:zhs w p2)(h3:zhs w p3)(k1:zhs w q1)(k2:zhs w q2)(k3:zhs w q3)(d:Nat) :
  (Op.equalIn (d+3) 190 (.agg #[.pointer p1,.pointer p2,.pointer p3,.int .i64 n1,.int .i64 n2,.int .i64 n3]) (.agg #[.pointer q1,.pointer q2,.pointer q3,.int .i64 m1,.int .i64 m2,.int .i64 m3])).run Tryz.prog w=.ok (decide (p1=q1)&&(decide (p2=q2)&&(decide (p3=q3)&&(n1==m1&&n2==m2&&n3==m3)))) w:=by
 obtain⟨j0,e0,s0⟩:=zfv sizeE;have i0:=ztw (te:=32) (Tryz.underlying185) e0 (by omega) h1 k1 (d+1);obtain⟨j1,e1,s1⟩:=zfv sizeP;have i1:=ztw (te:=37) (Tryz.underlying186) e1 (by omega) h2 k2 (d+1);obtain⟨j2,e2,s2⟩:=zfv sizeT;have i2:=ztw (te:=35) (Tryz.underlying187) e2 (by omega) h3 k3 (d+1);have i3:=zy8 w n1 n2 n3 m1 m2 m3 d;generalize decide (p1=q1)=x0 at i0 ⊢;generalize decide (p2=q2)=x1 at i1 ⊢;generalize decide (p3=q3)=x2 at i2 ⊢;generalize (n1==m1&&n2==m2&&n3==m3)=x3 at i3 ⊢;rw [Op.equalIn];simp only [Sem.run_bind,run_underlying Tryz.underlying190,Result.andThen_ok];cases x0
 ·simp [zp5,zlt,i0]
 ·cases x1
  ·simp [zp5,zlt,zos,i0,i1]
  ·cases x2
   ·simp [zp5,zlt,zos,ztz,i0,i1,i2]
   ·cases x3 <;> simp [zp5,zlt,zos,ztz,zx4,i0,i1,i2,i3]
theorem ziz{w:World}{F:Nat→Prop}{e:TypeId}{size n c:Nat}{l:Option Addr}{xs:List Value}(h:RowAt w F e size (.slice l n c) n xs):zhs w (zar l n):=by
 intro x hx;unfold zar at hx;split at hx
 ·cases hx
 ·rename_i h0;rcases h.1.2 with ⟨_,h1⟩ | ⟨g,cap,vy,hv,_,hh,_⟩
  ·exact absurd h1 h0
  ·cases hv;cases hx;exact⟨_,_,hh⟩
theorem FoAt.plain{w:World}{F:Nat→Prop}{f:Sx.Fo}{la lp lt:Option Addr}{ca cp ct:Nat}(h:FoAt w F f (.agg #[.slice la f.es.length ca,.slice lp f.ps.length cp,.slice lt f.ts.length ct])) :
  zhs w (zar la f.es.length)∧zhs w (zar lp f.ps.length)∧zhs w (zar lt f.ts.length):=by
 obtain⟨sv,xs,pv,ps,tv,ts,hv,h1,h2,h3,h4,h5,h6⟩:=h;cases hv;exact⟨ziz h1,ziz h3,ziz h5⟩
def EntOk(W:World)(N0:Nat)(e:MapEntry):Prop:=
 ∃(f:Sx.Fo) (F:Nat→Prop) (la lp lt:Option Addr) (ca cp ct m:Nat),e.key=keyF f.es.length f.ps.length f.ts.length la lp lt∧e.val=.int .i64 (Sx.capD m f)∧Sx.capD m f≤m ∧
  FoAt W F f (.agg #[.slice la f.es.length ca,.slice lp f.ps.length cp,.slice lt f.ts.length ct])∧∀k,F k→k<N0
def MapAt(W:World)(B N0:Nat):Prop:=∃es vu,W.heap[B]? = some (.map es vu)∧∀e∈es.toList,EntOk W N0 e
theorem EntOk.keep{S:Nat→Prop}{W W':World}{N0:Nat}{e:MapEntry}(h:EntOk W N0 e)(hf:Fr S W W')(hn : ∀k,k<N0→¬S k):EntOk W' N0 e:=by
 obtain⟨f,F,la,lp,lt,ca,cp,ct,m,h1,h2,h3,h4,h5⟩:=h;exact⟨f,F,la,lp,lt,ca,cp,ct,m,h1,h2,h3,h4.keep hf (fun k hk=>hn k (h5 k hk)),h5⟩
theorem MapAt.keep{S:Nat→Prop}{W W':World}{B N0:Nat}(h:MapAt W B N0)(hf:Fr S W W')(hn : ∀k,k<N0→¬S k)(hB : ¬S B):MapAt W' B N0:=by
 obtain⟨es,vu,h1,h2⟩:=h;exact⟨es,vu,hf.heap h1 hB,fun e he=>(h2 e he).keep hf hn⟩
theorem MapAt.lt{W:World}{B N0:Nat}(h:MapAt W B N0):B<W.heap.size:=by
 obtain⟨es,vu,h1,h2⟩:=h;exact (Array.getElem?_eq_some_iff.1 h1).1
variable {W:World} {N0:Nat} {F:Nat→Prop} {f:Sx.Fo} {la lp lt:Option Addr} {ca cp ct:Nat}
theorem zy5(h:FoAt W F f (.agg #[.slice la f.es.length ca,.slice lp f.ps.length cp,.slice lt f.ts.length ct])){e:MapEntry}(he:EntOk W N0 e) :
  ∃b,(Op.equal 190 (keyF f.es.length f.ps.length f.ts.length la lp lt) e.key).run Tryz.prog W=.ok b W∧(b=true→e.key=keyF f.es.length f.ps.length f.ts.length la lp lt∧∃m,e.val=.int .i64 (Sx.capD m f)∧Sx.capD m f≤m):=by
 obtain⟨f',F',yG,pz,lt',uD,fE,ct',m,h1,h2,h3,h4,h5⟩:=he;obtain⟨p1,p2,p3⟩:=h.plain;obtain⟨q1,q2,q3⟩:=h4.plain;rw [h1];refine⟨_,zx9 f.es.length f.ps.length f.ts.length f'.es.length f'.ps.length f'.ts.length p1 p2 p3 q1 q2 q3 9997,fun hb => ?_⟩;simp only [Bool.and_eq_true,qyo,beq_iff_eq] at hb;obtain⟨g1,g2,g3,⟨g4,g5⟩,g6⟩:=hb;have hk:keyF f.es.length f.ps.length f.ts.length la lp lt=keyF f'.es.length f'.ps.length f'.ts.length yG pz lt':=by
  unfold keyF;rw [g1,g2,g3,g4,g5,g6]
 have:=h.uniq h4 hk;subst this;exact⟨hk.symm,m,h2,h3⟩
theorem zma(h:FoAt W F f (.agg #[.slice la f.es.length ca,.slice lp f.ps.length cp,.slice lt f.ts.length ct])) : ∀(es:List MapEntry) (i:Nat),(∀e∈es,EntOk W N0 e) →
  (Instr.findAsking 190 (keyF f.es.length f.ps.length f.ts.length la lp lt) es i).run Tryz.prog W=.ok none W ∨
  ∃j e m,(Instr.findAsking 190 (keyF f.es.length f.ps.length f.ts.length la lp lt) es i).run Tryz.prog W=.ok (some (i+j,e.val)) W∧es[j]? = some e∧e.key=keyF f.es.length f.ps.length f.ts.length la lp lt∧e.val=.int .i64 (Sx.capD m f)∧Sx.capD m f≤m
 | [],i,_=>.inl (by simp [Instr.findAsking])
 | e::es,i,ql=>by
  obtain⟨b,hr,hb⟩:=zy5 h (ql e (List.mem_cons_self ..));cases b with
  | true=>
   obtain⟨h1,m,h2,h3⟩:=hb rfl;exact .inr ⟨0,e,m,by simp [Instr.findAsking,hr],rfl,h1,h2,h3⟩
  | false=>
   rcases zma h es (i+1) (fun e he=>ql e (List.mem_cons_of_mem _ he)) with h1 | ⟨j,e',m,h1,h2,h3⟩
   ·exact .inl (by simp [Instr.findAsking,hr,h1])
   ·exact .inr ⟨j+1,e',m,by simp [Instr.findAsking,hr,h1];omega,h2,h3⟩
theorem zfp(key:Value)(es:List MapEntry)(W:World):(Instr.findKey 190 key es).run Tryz.prog W=(Instr.findAsking 190 key es).run Tryz.prog W:=by
 unfold Instr.findKey;cases es with
 | nil=>simp [run_underlying Tryz.underlying190,Instr.findNow,Instr.findAsking]
 | cons e es=>simp [run_underlying Tryz.underlying190,Instr.findNow,Instr.sameNow]
theorem zxo(w:World):(zeroValue 3).run Tryz.prog w=.ok (.int .i64 0) w:=by kernel_rfl
theorem zeu(b:Bool)(a c d:Nat)(w:World):(Instr.checkKey b 10000 190 (keyF a c d la lp lt)).run Tryz.prog w=.ok () w:=zr6 _ _ _ _ _ _ _ _
theorem MapAt.look{B:Nat}(hM:MapAt W B N0)(h:FoAt W F f (.agg #[.slice la f.es.length ca,.slice lp f.ps.length cp,.slice lt f.ts.length ct])) :
  (∃m,(Instr.lookup 183 (.map (some B)) (keyF f.es.length f.ps.length f.ts.length la lp lt) true).run Tryz.prog W=.ok (.tuple #[.int .i64 (Sx.capD m f),.bool true]) W∧Sx.capD m f≤m) ∨
  (Instr.lookup 183 (.map (some B)) (keyF f.es.length f.ps.length f.ts.length la lp lt) true).run Tryz.prog W=.ok (.tuple #[.int .i64 0,.bool false]) W:=by
 obtain⟨es,vu,hb,ql⟩:=hM;rcases zma h es.toList 0 ql with h1 | ⟨j,e,m,h1,h2,h3,h4,h5⟩
 ·refine .inr ?_;simp [Instr.lookup,run_underlying Tryz.underlying183,MapKept.run_getObj_map hb,zeu,zfp,h1,zxo]
 ·refine .inl ⟨m,?_,h5⟩;simp [Instr.lookup,run_underlying Tryz.underlying183,MapKept.run_getObj_map hb,zeu,zfp,h1,h4]
theorem zr7(a c d:Nat):Instr.sameBits 10000 (keyF a c d la lp lt) (keyF a c d la lp lt)=true:=by
 unfold keyF;simp [Instr.sameBits]
def setW(w:World)(b:Nat)(o:Obj):World := { w with heap:=w.heap.setIfInBounds b o }
theorem zm4{w:World}{b:Nat}(h:b<w.heap.size)(o:Obj):(setW w b o).heap[b]? = some o:=by simp [setW,h]
theorem Fr.setW(w:World)(b:Nat)(o:Obj):Fr (fun k=>k=b) w (setW w b o):=
 ⟨rfl,rfl,rfl,by simp [Proofs.YtclgbmmambkiaaaGreatDoor.setW],fun i _ hi=>by
  have zh:b≠i:=fun e=>hi e.symm;simp only [Proofs.YtclgbmmambkiaaaGreatDoor.setW];rw [Array.getElem?_setIfInBounds_ne zh]⟩
theorem MapAt.store{B:Nat}(hM:MapAt W B N0)(hB:N0≤B)(h:FoAt W F f (.agg #[.slice la f.es.length ca,.slice lp f.ps.length cp,.slice lt f.ts.length ct]))(hF : ∀k,F k→k<N0){m:Nat}(hm:Sx.capD m f≤m) :
  ∃W',(Instr.mapUpdate 183 (.map (some B)) (keyF f.es.length f.ps.length f.ts.length la lp lt) (.int .i64 (Sx.capD m f))).run Tryz.prog W=.ok () W'∧MapAt W' B N0∧Fr (fun k=>k=B) W W':=by
 have qx:=hM.lt;obtain⟨es,vu,hb,ql⟩:=hM;have xX : ∀W',Fr (fun k=>k=B) W W'→∀c,EntOk W' N0 { key:=keyF f.es.length f.ps.length f.ts.length la lp lt,val:=.int .i64 (Sx.capD m f),born:=c } := fun W' hf c=>
  ⟨f,F,la,lp,lt,ca,cp,ct,m,rfl,rfl,hm,h.keep hf (fun k hk e=>by have:=hF k hk;omega),hF⟩
 rcases zma h es.toList 0 ql with h1 | ⟨j,e,m',h1,h2,h3,h4,h5⟩
 ·refine⟨setW W B (.map (es.push { key:=keyF f.es.length f.ps.length f.ts.length la lp lt,val:=.int .i64 (Sx.capD m f),born:=vu }) (vu+1)),?_,⟨_,_,zm4 qx _,fun e he => ?_⟩,Fr.setW _ _ _⟩
  ·simp [Instr.mapUpdate,run_underlying Tryz.underlying183,MapKept.run_getObj_map hb,zeu,zfp,h1,MapKept.run_setObj_map _ hb,Result.andThen];rfl
  ·simp only [Array.toList_push,List.mem_append,List.mem_singleton] at he;rcases he with he | rfl
   ·exact (ql e he).keep (Fr.setW _ _ _) (fun k hk e=>by omega)
   ·exact xX _ (Fr.setW _ _ _) _
 ·have hj:es[j]? = some e:=by rw [← Array.getElem?_toList];exact h2
  have hstay : ∀w',(Instr.keyThatStays (((es[j]?).map (·.key)).getD (keyF f.es.length f.ps.length f.ts.length la lp lt)) (keyF f.es.length f.ps.length f.ts.length la lp lt)).run Tryz.prog w'=.ok (keyF f.es.length f.ps.length f.ts.length la lp lt) w':=fun w'=>by
   rw [hj];simp [Instr.keyThatStays,h3,zr7]
  refine⟨setW W B (.map (es.modify j fun e => { e with key:=keyF f.es.length f.ps.length f.ts.length la lp lt,val:=.int .i64 (Sx.capD m f) }) vu),?_,⟨_,_,zm4 qx _,fun e' he => ?_⟩,Fr.setW _ _ _⟩
  ·simp only [Instr.mapUpdate,Sem.run_bind,run_underlying Tryz.underlying183,MapKept.run_getObj_map hb,zeu,zfp,h1,Result.andThen,Nat.zero_add,hstay,MapKept.run_setObj_map _ hb];rfl
  ·rw [Array.toList_modify] at he;obtain⟨i,hi⟩:=List.mem_iff_getElem?.1 he;rw [List.getElem?_modify] at hi
   by_cases rK:j=i
   ·subst rK;rw [Array.getElem?_toList,hj] at hi;simp at hi;subst hi;exact xX _ (Fr.setW _ _ _) _
   ·simp [rK] at hi;exact (ql e' (List.mem_iff_getElem?.2 ⟨i,by simpa using hi⟩)).keep (Fr.setW _ _ _) (fun k hk e=>by omega)
theorem zsl(g c n:Nat)(la:Option Addr)(h:n=0∨la=some ⟨g,0,none⟩)(w:World) :
  Calls Tryz.prog 209 #[.slice la n c] w fun e w'=>e=.returned (.pointer (zar la n))∧w=w':=by
 unfold zar
 by_cases hn:n=0
 ·subst hn;rw [if_pos rfl]
  go_enter Tryz.func209,Tryz.ntmps209
  go_wp2;go_ret;exact⟨rfl,rfl⟩
 ·rw [if_neg hn];obtain rfl:=h.resolve_left hn;have h0:((n:Int)==0)=false:=by simp;omega
  have vR:0<n:=by omega
  clear h hn
  go_enter Tryz.func209,Tryz.ntmps209
  go_wp2;go_ret;exact⟨rfl,rfl⟩
theorem zsk(g c n:Nat)(la:Option Addr)(h:n=0∨la=some ⟨g,0,none⟩)(w:World) :
  Calls Tryz.prog 210 #[.slice la n c] w fun e w'=>e=.returned (.pointer (zar la n))∧w=w':=by
 unfold zar
 by_cases hn:n=0
 ·subst hn;rw [if_pos rfl]
  go_enter Tryz.func210,Tryz.ntmps210
  go_wp2;go_ret;exact⟨rfl,rfl⟩
 ·rw [if_neg hn];obtain rfl:=h.resolve_left hn;have h0:((n:Int)==0)=false:=by simp;omega
  have vR:0<n:=by omega
  clear h hn
  go_enter Tryz.func210,Tryz.ntmps210
  go_wp2;go_ret;exact⟨rfl,rfl⟩
theorem zsj(g c n:Nat)(la:Option Addr)(h:n=0∨la=some ⟨g,0,none⟩)(w:World) :
  Calls Tryz.prog 211 #[.slice la n c] w fun e w'=>e=.returned (.pointer (zar la n))∧w=w':=by
 unfold zar
 by_cases hn:n=0
 ·subst hn;rw [if_pos rfl]
  go_enter Tryz.func211,Tryz.ntmps211
  go_wp2;go_ret;exact⟨rfl,rfl⟩
 ·rw [if_neg hn];obtain rfl:=h.resolve_left hn;have h0:((n:Int)==0)=false:=by simp;omega
  have vR:0<n:=by omega
  clear h hn
  go_enter Tryz.func211,Tryz.ntmps211
  go_wp2;go_ret;exact⟨rfl,rfl⟩
theorem zou{w:World}{F:Nat→Prop}{e:TypeId}{size n c:Nat}{l:Option Addr}{xs:List Value}(h:RowAt w F e size (.slice l n c) n xs) : ∃g,n=0∨l=some ⟨g,0,none⟩:=by
 rcases h.1.2 with ⟨_,h0⟩ | ⟨g,cap,vy,hv,_⟩
 ·exact⟨0,.inl h0⟩
 ·cases hv;exact⟨g,.inr rfl⟩
theorem FoAt.heads{w:World}{F:Nat→Prop}{f:Sx.Fo}{la lp lt:Option Addr}{ca cp ct:Nat}(h:FoAt w F f (.agg #[.slice la f.es.length ca,.slice lp f.ps.length cp,.slice lt f.ts.length ct])) :
  ∃g1 g2 g3,(f.es.length=0∨la=some ⟨g1,0,none⟩)∧(f.ps.length=0∨lp=some ⟨g2,0,none⟩)∧(f.ts.length=0∨lt=some ⟨g3,0,none⟩):=by
 obtain⟨sv,xs,pv,ps,tv,ts,hv,h1,h2,h3,h4,h5,h6⟩:=h;cases hv;obtain⟨g1,h1⟩:=zou h1;obtain⟨g2,h3⟩:=zou h3;obtain⟨g3,h5⟩:=zou h5;exact⟨g1,g2,g3,h1,h3,h5⟩
theorem zt9(ne np nt ca cp ct:Nat)(la lp lt:Option Addr)(g1 g2 g3:Nat)(h1:ne=0∨la=some ⟨g1,0,none⟩)(h2:np=0∨lp=some ⟨g2,0,none⟩)(h3:nt=0∨lt=some ⟨g3,0,none⟩)(w:World) :
  Calls Tryz.prog 144 #[.agg #[.slice la ne ca,.slice lp np cp,.slice lt nt ct]] w fun e w'=>e=.returned (keyF ne np nt la lp lt)∧Old w w':=by
 have c1:=fun w=>zsl g1 ca ne la h1 w;have c2:=fun w=>zsk g2 cp np lp h2 w;have c3:=fun w=>zsj g3 ct nt lt h3 w;have C1:=qya c1;have C2:=qya c2;have C3:=qya c3;clear c1 c2 c3 h1 h2 h3
 go_enter Tryz.func144,Tryz.ntmps144
 go_wp2_with fail
 obtain⟨W3,qM⟩ : ∃W3,((w.alloc (.cells #[.slice la ne ca,.slice lp np cp,.slice lt nt ct] 120)).alloc (.cells #[.pointer none,.pointer none,.pointer none,.int .i64 0,.int .i64 0,.int .i64 0] 190)).alloc (.cells #[.int .i64 ne,.int .i64 np,.int .i64 nt] 188)=W3:=⟨_,rfl⟩;rw [qM];have kA:Blk W3 w.heap.size #[.slice la ne ca,.slice lp np cp,.slice lt nt ct] 120:=by rw [← qM];exact ((Blk.new w _ _).alloc _).alloc _
 have kB:Blk W3 (w.heap.size+1) #[.pointer none,.pointer none,.pointer none,.int .i64 0,.int .i64 0,.int .i64 0] 190:=by rw [← qM];exact (Blk.new' (by simp) _ _).alloc _
 have kC:Blk W3 (w.heap.size+1+1) #[.int .i64 ne,.int .i64 np,.int .i64 nt] 188:=by rw [← qM];exact Blk.new' (by simp) _ _
 have O3:Old w W3:=by rw [← qM];exact (((Old.refl w).alloc _).alloc _).alloc _
 clear qM;obtain⟨Wd,hWd⟩ : ∃Wd,W3.drew=Wd:=⟨_,rfl⟩;have lr:Blk Wd _ _ _:=hWd▸kA.drew;have tM:Blk Wd _ _ _:=hWd▸kB.drew;have kCd:Blk Wd _ _ _:=hWd▸kC.drew;have Od:Old w Wd:=hWd▸O3.drew;clear kA kB kC O3;obtain⟨a0,a1,a2⟩:=lr.c3;obtain⟨b0,b1,b2⟩:=kCd.c3;refine wp_region_still_tail 11 (by kernel_rfl) (by kernel_rfl) ?_;simp only [List.take_succ_cons,List.take_zero,List.drop_succ_cons,List.drop_zero];change wpStill _ _ W3.drew _ _ _;rw [hWd]
 still_step
 still_step
 still_call ((C1.out Wd).mono fun _ _ h=>⟨h.1,h.2.symm⟩)
 still_step
 still_step
 still_call ((C2.out Wd).mono fun _ _ h=>⟨h.1,h.2.symm⟩)
 still_step
 still_step
 still_call ((C3.out Wd).mono fun _ _ h=>⟨h.1,h.2.symm⟩)
 still_step
 still_step
 refine wpStill_nil ?_;obtain⟨vM,kp,kr,kJ,ko,ki⟩:=tM.c6;obtain⟨kq,kn,ke,xk,xv,xz⟩:=tM.f6;have qJ:=tM.lt;go_wp2;obtain⟨Wf,qv,S2,k3,-⟩:=tM.put6 (.pointer (zar la ne)) (.pointer (zar lp np)) (.pointer (zar lt nt)) (.int .i64 ne) (.int .i64 np) (.int .i64 nt);rw [qv];clear qv;obtain⟨qP,qC,qA,jv,jz,jj⟩:=k3.c6;refine bodyPost_ret (v:=keyF ne np nt la lp lt) (by simp [results,Tryz.results144,go_sem,qP,qC,qA,jv,jz,jj,keyF]) rfl ?_;exact⟨rfl,Od.trans' S2 (fun k hk e=>by omega)⟩
end Go.Proofs.YtclgbmmambkiaaaGreatDoor
namespace Lx
def whole(l:List B):Option (Int×Int):=
 match next l with
 | .tok k n j=>if l.length≤j then some (k,n) else none
 | .err _=>none
def kind(l:List B):Int:=match whole l with
 | some (k,_)=>k
 | none=>0
end Lx
namespace Go.Proofs.YtclgbmmambkiaaaGreatDoor
open Go.RowKit
def zob(w:World)(b:Nat)(s:ByteArray)(v:Value)(e:Ending)(w':World):Option (Int×Int)→Prop
 | some (k,n)=>e=.returned (.tuple #[tokV k n s 0,.bool true])∧St w' b s s.size v∧But b w w'
 | none=>e=.returned (.tuple #[tokV 0 0 ⟨#[]⟩ 0,.bool false])∧But b w w'
theorem zf8(w:World)(b:Nat)(t:ByteArray)(p:Nat)(v:Value)(h:St w b t p v)(hg:Gl w)(h6:6≤b)(s:ByteArray)(hs:s.size≤140737488355328) :
  Calls Tryz.prog 131 #[.pointer (some ⟨b,0,none⟩),.string s] w fun e w'=>zob w b s v e w' (Lx.whole s.data.toList):=by
 have hlen:s.data.toList.length=s.size:=by rw [qyv];rfl
 unfold Lx.whole;rw [hlen];cases hN:Lx.next s.data.toList with
 | err x=>exact zs3 w b t p v h hg h6 s hs x (qya hN)
 | tok k n j=>
  by_cases hj:s.size≤j
  ·have he:s.extract 0 j=s:=by
    apply ByteArray.ext;rw [ByteArray.data_extract,Array.extract_eq_self_of_le];exact hj
   simp only [if_pos hj];refine (zs2 w b t p v h hg h6 s hs k n j (qya hN) (qya (by simpa using hj)) he).mono ?_;rintro e w' ⟨eg,hS,hB⟩;have:j=s.size:=by
    have:=hS.le;omega
   subst this;exact⟨eg,hS,hB⟩
  ·simp only [if_neg hj];exact zq5 w b t p v h hg h6 s hs k n j (qya hN) (qya (by simpa using hj))
theorem zq6{w w':World}{b:Nat}{s:ByteArray}{v:Value}{e:Ending}(h:zob w b s v e w' (Lx.whole s.data.toList)) : ∃n x o,e=.returned (.tuple #[tokV (Lx.kind s.data.toList) n x 0,.bool o])∧But b w w':=by
 unfold Lx.kind;cases hW:Lx.whole s.data.toList with
 | none=>
  rw [hW] at h;exact⟨_,_,_,h⟩
 | some x=>
  obtain⟨k,n⟩:=x;rw [hW] at h;exact⟨_,_,_,h.1,h.2.2⟩
theorem Old.but'{w w1 w2:World}{b:Nat}(h:Old w w1)(hb:w.heap.size≤b)(k:But b w1 w2):Old w w2:=Fr.trans' h k (fun i hi e=>by omega)
theorem zgl(t:ByteArray)(ht:t.size≤140737488355328)(w:World)(hg:Gl w) :
  Calls Tryz.prog 200 #[.string t] w fun e w'=>e=.returned (.int .i64 (Lx.kind t.data.toList))∧Old w w':=by
 have h6:=hg.lt
 go_enter Tryz.func200,Tryz.ntmps200
 go_wp2_with fail
 refine (zt6 ⟨#[]⟩ w (by decide)).mono ?_;rintro e w1 ⟨rfl,hS,hC,hO⟩
 go_wp2_with fail
 refine (zf8 w1 w.heap.size _ _ _ hS (hg.old hO) h6 t ht).mono ?_;intro e w2 hP;obtain⟨n,x,o,rfl,hB⟩:=zq6 hP;have uH:=hO.but' (qyb _) hB;clear hP;go_wp2;go_ret;exact⟨rfl,uH.alloc _⟩
theorem zal(t:ByteArray)(ht:t.size≤140737488355328)(w:World)(hg:Gl w) :
  Calls Tryz.prog 152 #[.string t] w fun e w'=>e=.returned (.bool (Lx.kind t.data.toList==2))∧Old w w':=by
 go_enter Tryz.func152,Tryz.ntmps152
 go_wp2_with fail
 refine (zgl t ht w hg).mono ?_;rintro e w1 ⟨rfl,hO⟩;go_wp2;go_ret;exact⟨rfl,hO⟩
theorem zev(t:ByteArray)(ht:t.size≤140737488355328)(w:World)(hg:Gl w) :
  Calls Tryz.prog 217 #[.string t] w fun e w'=>e=.returned (.bool (Lx.kind t.data.toList==3))∧Old w w':=by
 go_enter Tryz.func217,Tryz.ntmps217
 go_wp2_with fail
 refine (zgl t ht w hg).mono ?_;rintro e w1 ⟨rfl,hO⟩;go_wp2;go_ret;exact⟨rfl,hO⟩
theorem zgm(t:ByteArray)(ht:t.size≤140737488355328)(w:World)(hg:Gl w) :
  Calls Tryz.prog 178 #[.string t] w fun e w'=>e=.returned (.bool (Lx.kind t.data.toList==4))∧Old w w':=by
 go_enter Tryz.func178,Tryz.ntmps178
 go_wp2_with fail
 refine (zgl t ht w hg).mono ?_;rintro e w1 ⟨rfl,hO⟩;go_wp2;go_ret;exact⟨rfl,hO⟩
theorem zhb(n:Int)(w:World):Calls Tryz.prog 153 #[.int .i64 n] w fun e w'=>e=.returned (.bool (decide (1≤n)&&decide (n≤16)))∧w'=w:=by
 cases h1:decide (1≤n) <;> cases h2:decide (n≤16)
 all_goals
  go_enter Tryz.func153,Tryz.ntmps153
  go_wp2;go_ret;exact⟨rfl,rfl⟩
def znh(s:ByteArray):Bool:=s.toList == [43]||s.toList == [45]||s.toList == [42]||s.toList == [47]||s.toList == [37]||s.toList == [60]||s.toList == [61]
theorem zl2(s:ByteArray)(w:World):Calls Tryz.prog 227 #[.string s] w fun e w'=>e=.returned (.bool (znh s))∧w'=w:=by
 have ho:znh s=(s.toList == [43]||s.toList == [45]||s.toList == [42]||s.toList == [47]||s.toList == [37]||s.toList == [60]||s.toList == [61]):=rfl;have HO:=qya ho;clear ho
 go_enter Tryz.func227,Tryz.ntmps227
 go_wp2
 all_goals first
  | (go_ret;refine⟨?_,rfl⟩;rw [HO.out];simp [*];done)
  | (exfalso;simp_all;done)
  | (go_ret;refine⟨?_,rfl⟩;rw [HO.out];simp_all;done)
  | skip
def conN(s:List UInt8)(n:Int):Bool:=if s=[44] then decide (2≤n)&&decide (n≤4) else decide (n≤16)&&(Lx.kind s==3)
theorem zsr{s:ByteArray}(h:(s.toList == [44])=true)(n:Int):conN s.toList n=(decide (2≤n)&&decide (n≤4)):=by
 unfold conN;rw [if_pos (by simpa using h)]
theorem zw5{s:ByteArray}(h:(s.toList == [44])=false)(n:Int):conN s.toList n=(decide (n≤16)&&(Lx.kind s.toList==3)):=by
 unfold conN;rw [if_neg (by simpa using h)]
theorem toList_data(s:ByteArray):s.data.toList=s.toList:=by
 have:=zcf s;rw [show bv s.toList=.string ⟨s.toList.toArray⟩ from rfl] at this;injection this with h
 have h2:=congrArg ByteArray.data h;simp only at h2;rw [← h2]
theorem zcx(s:ByteArray)(hs:s.size≤140737488355328)(n:Int)(w:World)(hg:Gl w):Calls Tryz.prog 179 #[.string s,.int .i64 n] w fun e w'=>e=.returned (.bool (conN s.toList n))∧Old w w':=by
 cases hc:(s.toList == [44])
 ·have hn:=zw5 hc n;have HN:=qya hn;clear hn;have pJ:=zev s hs w hg;rw [toList_data] at pJ;cases h1:decide (n≤16)
  ·go_enter Tryz.func179,Tryz.ntmps179
   go_wp2;go_ret;exact⟨by rw [HN.out,h1];rfl,Old.refl w⟩
  ·go_enter Tryz.func179,Tryz.ntmps179
   go_wp2_with fail
   refine pJ.mono ?_;rintro e w1 ⟨rfl,o1⟩;go_wp2;go_ret;exact⟨by rw [HN.out,h1];rfl,o1⟩
 ·have hn:=zsr hc n;have HN:=qya hn;clear hn;cases h1:decide (2≤n) <;> cases h2:decide (n≤4)
  all_goals
   go_enter Tryz.func179,Tryz.ntmps179
   go_wp2;go_ret;exact⟨by rw [HN.out,h1,h2];rfl,Old.refl w⟩
theorem PasAt.nth{F:Nat→Prop}{w:World} : ∀(ts:List Sx.Pa) (xs:List Value),PasAt w F ts xs→∀i (hi:i<ts.length),∃a0 a1 a2,xs[i*3]? = some a0∧xs[i*3+1]? = some a1∧xs[i*3+2]? = some a2∧PaAt w F ts[i] (.agg #[a0,a1,a2])
 | [],xs,_,i,hi=>absurd hi (Nat.not_lt_zero i)
 | t::r,xs,h,0,_=>by
  rw [PasAt] at h;obtain⟨a0,a1,a2,ys,rfl,h1,_⟩:=h;exact⟨a0,a1,a2,rfl,rfl,rfl,h1⟩
 | t::r,xs,h,i+1,hi=>by
  rw [PasAt] at h;obtain⟨b0,b1,b2,ys,rfl,_,h2⟩:=h;obtain⟨a0,a1,a2,e0,e1,e2,h3⟩:=PasAt.nth r ys h2 i (Nat.lt_of_succ_lt_succ hi);have hx : ∀j,(b0::b1::b2::ys)[(i+1)*3+j]? = ys[i*3+j]? := fun j=>by
   rw [show (i+1)*3+j=(i*3+j)+3 by omega];rfl
  exact⟨a0,a1,a2,(hx 0).trans e0,(hx 1).trans e1,(hx 2).trans e2,h3⟩
theorem zq0(is:Sx.Pa→Bool)(w:World)(F:Nat→Prop)(sv:Value)(ts:List Sx.Pa)(xs:List Value)(qK:RowAt w F 37 3 sv ts.length xs)(yP:PasAt w F ts xs)
  (ud : ∀p∈ts,∀(v:Value) (W:World),Old w W→PaAt W F p v→Calls Tryz.prog 108 #[v] W fun e W'=>e=.returned (.bool (is p))∧Old W W') :
  Calls Tryz.prog 173 #[sv,.func (.func 108) #[] #[]] w fun e w'=>e=.returned (.bool (ts.all is))∧Old w w':=by
 have qz:=qK.1;obtain⟨vB,qt,rfl⟩:=zad qz;have zi:ts.length≤maxLen:=by
  rcases qz.2 with ⟨_,h⟩ | ⟨g,cap,vy,hv,_,_,h1,h2,_⟩
  ·rw [h];exact qyi _
  ·cases hv;omega
 have cy:=qya ud;clear ud
 go_enter Tryz.func173,Tryz.ntmps173
 go_wp2_with fail
 go_loopg [9] ts.length (fun g s9 wr=>∃i:Nat,g=ts.length-i∧i≤ts.length∧s9=.int .i64 i∧(ts.take i).all is=true∧Old w wr)
 case atStart=>exact⟨0,rfl,qyi _,rfl,rfl,Old.refl w⟩
 case round=>
  obtain⟨i,hg,hi,rfl,ql,hO⟩:=hrel;have HG:=qya hg;have qL:=qya ql;have HN:=qya zi;clear hg ql;cases hd:decide ((i:Int)<(ts.length:Int))
  ·have he:i=ts.length:=(by simp only [qyn] at hd;omega);have hres:ts.all is=true:=(by have:=qL.out;rwa [he,List.take_length] at this);have HR:=qya hres;have xq:decide (i<ts.length)=false:=qyk (by omega);clear hres he hi zi;go_wp2;go_ret;exact⟨by rw [HR.out];rfl,hO⟩
  ·have qx:i<ts.length:=(by simp only [qyo] at hd;omega);have qk:=zaa qz hO (fun _ _ e=>e);obtain⟨a0,a1,a2,e0,e1,e2,vY⟩:=PasAt.nth ts xs yP i qx;have q8:ts[i]∈ts:=List.getElem_mem qx;have qB:(ts.take (i+1)).all is=is ts[i]:=by
    rw [qyt qx,List.all_append,qL.out];simp
   have qS:is ts[i]=false→ts.all is=false:=fun hf=>by
    rw [List.all_eq_false];exact⟨ts[i],q8,by rw [hf];decide⟩
   obtain⟨y,hy⟩ : ∃y,ts[i]=y:=⟨_,rfl⟩;rw [hy] at vY q8 qB qS;clear hy;have HM:=qya q8;have HT:=qya qB;have HF:=qya qS;clear q8 qB qS;have xE:=vY.keep hO (fun _ _ e=>e);obtain⟨kd,nm,l2,n2,c2,vr⟩:=xE.parts;cases vr;obtain⟨g,cap,xf,-,-⟩:=qk.form (by omega);cases xf;have d0:wr.cell? ⟨g,i*3,none⟩=some (.int .i64 kd):=(by rw [qk.cellAt (i*3) (by omega),e0]);have d1:wr.cell? ⟨g,i*3+1,none⟩=some (.string nm):=(by rw [qk.cellAt (i*3+1) (by omega),e1]);have d2:wr.cell? ⟨g,i*3+2,none⟩=some (.slice l2 n2 c2):=(by rw [qk.cellAt (i*3+2) (by omega),e2]);have jy:wrap64 ((i:Int)+1)=((i+1:Nat):Int):=by
    rw [IntWalk.wrap64_in _ (by unfold maxLen at zi;omega)];omega
   have zw:=qya qx;have ze:=qya jy;have xq:decide (i<ts.length)=true:=qyl qx;have kX:=Blk.new wr #[.int .i64 kd,.string nm,.slice l2 n2 c2] 37;obtain⟨x0,x1,x2⟩:=kX.c3;have oX:=hO.alloc (.cells #[.int .i64 kd,.string nm,.slice l2 n2 c2] 37);have bZ:=xE.keep ((Old.refl wr).alloc (.cells #[.int .i64 kd,.string nm,.slice l2 n2 c2] 37)) (fun _ _ e=>e);clear jy zi
   go_wp2_with fail
   (with_reducible refine (cy.out y HM.out _ _ oX bZ).mono ?_)
   rintro e w2 ⟨rfl,o2⟩;have u9:=oX.trans o2;cases hb:is y
   ·go_wp2;go_ret;exact⟨by rw [HF.out hb];rfl,u9⟩
   ·have jy:=ze.out;go_wp2
    go_roundg (ts.length-(i+1))
    case measure=>have:=zw.out;have:=HG.out;omega
    case rel=>exact⟨i+1,rfl,zw.out,by first | rfl | rw [ze.out],by rw [HT.out];exact hb,u9⟩
theorem TysAt.nth{F:Nat→Prop}{w:World} : ∀(ts:List Sx.Ty) (xs:List Value),TysAt w F ts xs→∀i (hi:i<ts.length),∃a0 a1,xs[i*2]? = some a0∧xs[i*2+1]? = some a1∧TyAt w F ts[i] (.agg #[a0,a1])
 | [],xs,_,i,hi=>absurd hi (Nat.not_lt_zero i)
 | t::r,xs,h,0,_=>by
  rw [TysAt] at h;obtain⟨a0,a1,ys,rfl,h1,_⟩:=h;exact⟨a0,a1,rfl,rfl,h1⟩
 | t::r,xs,h,i+1,hi=>by
  rw [TysAt] at h;obtain⟨b0,b1,ys,rfl,_,h2⟩:=h;obtain⟨a0,a1,e0,e1,h3⟩:=TysAt.nth r ys h2 i (Nat.lt_of_succ_lt_succ hi);have hx : ∀j,(b0::b1::ys)[(i+1)*2+j]? = ys[i*2+j]? := fun j=>by
   rw [show (i+1)*2+j=(i*2+j)+2 by omega];rfl
  exact⟨a0,a1,(hx 0).trans e0,(hx 1).trans e1,h3⟩
theorem zqz(is:Sx.Ty→Bool)(w:World)(F:Nat→Prop)(sv:Value)(ts:List Sx.Ty)(xs:List Value)(qK:RowAt w F 35 2 sv ts.length xs)(yP:TysAt w F ts xs)
  (ud : ∀p∈ts,∀(v:Value) (W:World),Old w W→TyAt W F p v→Calls Tryz.prog 101 #[v] W fun e W'=>e=.returned (.bool (is p))∧Old W W') :
  Calls Tryz.prog 177 #[sv,.func (.func 101) #[] #[]] w fun e w'=>e=.returned (.bool (ts.all is))∧Old w w':=by
 have qz:=qK.1;obtain⟨vB,qt,rfl⟩:=zad qz;have zi:ts.length≤maxLen:=by
  rcases qz.2 with ⟨_,h⟩ | ⟨g,cap,vy,hv,_,_,h1,h2,_⟩
  ·rw [h];exact qyi _
  ·cases hv;omega
 have cy:=qya ud;clear ud
 go_enter Tryz.func177,Tryz.ntmps177
 go_wp2_with fail
 go_loopg [9] ts.length (fun g s9 wr=>∃i:Nat,g=ts.length-i∧i≤ts.length∧s9=.int .i64 i∧(ts.take i).all is=true∧Old w wr)
 case atStart=>exact⟨0,rfl,qyi _,rfl,rfl,Old.refl w⟩
 case round=>
  obtain⟨i,hg,hi,rfl,ql,hO⟩:=hrel;have HG:=qya hg;have qL:=qya ql;have HN:=qya zi;clear hg ql;cases hd:decide ((i:Int)<(ts.length:Int))
  ·have he:i=ts.length:=(by simp only [qyn] at hd;omega);have hres:ts.all is=true:=(by have:=qL.out;rwa [he,List.take_length] at this);have HR:=qya hres;have xq:decide (i<ts.length)=false:=qyk (by omega);clear hres he hi zi;go_wp2;go_ret;exact⟨by rw [HR.out];rfl,hO⟩
  ·have qx:i<ts.length:=(by simp only [qyo] at hd;omega);have qk:=zaa qz hO (fun _ _ e=>e);obtain⟨a0,a1,e0,e1,vY⟩:=TysAt.nth ts xs yP i qx;have q8:ts[i]∈ts:=List.getElem_mem qx;have qB:(ts.take (i+1)).all is=is ts[i]:=by
    rw [qyt qx,List.all_append,qL.out];simp
   have qS:is ts[i]=false→ts.all is=false:=fun hf=>by
    rw [List.all_eq_false];exact⟨ts[i],q8,by rw [hf];decide⟩
   obtain⟨y,hy⟩ : ∃y,ts[i]=y:=⟨_,rfl⟩;rw [hy] at vY q8 qB qS;clear hy;have HM:=qya q8;have HT:=qya qB;have HF:=qya qS;clear q8 qB qS;have xE:=vY.keep hO (fun _ _ e=>e);obtain⟨nm,l2,n2,c2,vr⟩:=xE.parts;cases vr;obtain⟨g,cap,xf,-,-⟩:=qk.form (by omega);cases xf;have d0:wr.cell? ⟨g,i*2,none⟩=some (.string nm):=(by rw [qk.cellAt (i*2) (by omega),e0]);have d1:wr.cell? ⟨g,i*2+1,none⟩=some (.slice l2 n2 c2):=(by rw [qk.cellAt (i*2+1) (by omega),e1]);have jy:wrap64 ((i:Int)+1)=((i+1:Nat):Int):=by
    rw [IntWalk.wrap64_in _ (by unfold maxLen at zi;omega)];omega
   have zw:=qya qx;have ze:=qya jy;have xq:decide (i<ts.length)=true:=qyl qx;have kX:=Blk.new wr #[.string nm,.slice l2 n2 c2] 35;obtain⟨x0,x1⟩:=kX.c2;have oX:=hO.alloc (.cells #[.string nm,.slice l2 n2 c2] 35);have bZ:=xE.keep ((Old.refl wr).alloc (.cells #[.string nm,.slice l2 n2 c2] 35)) (fun _ _ e=>e);clear jy zi
   go_wp2_with fail
   (with_reducible refine (cy.out y HM.out _ _ oX bZ).mono ?_)
   rintro e w2 ⟨rfl,o2⟩;have u9:=oX.trans o2;cases hb:is y
   ·go_wp2;go_ret;exact⟨by rw [HF.out hb];rfl,u9⟩
   ·have jy:=ze.out;go_wp2
    go_roundg (ts.length-(i+1))
    case measure=>have:=zw.out;have:=HG.out;omega
    case rel=>exact⟨i+1,rfl,zw.out,by first | rfl | rw [ze.out],by rw [HT.out];exact hb,u9⟩
theorem zxc(is:Sx.Ex→Bool)(w:World)(F:Nat→Prop)(sv:Value)(ts:List Sx.Ex)(xs:List Value)(qK:RowAt w F 32 6 sv ts.length xs)(yP:ExsAt w F ts xs)
  (ud : ∀p∈ts,∀(v:Value) (W:World),Old w W→ExAt W F p v→Calls Tryz.prog 96 #[v] W fun e W'=>e=.returned (.bool (is p))∧Old W W') :
  Calls Tryz.prog 172 #[sv,.func (.func 96) #[] #[]] w fun e w'=>e=.returned (.bool (ts.all is))∧Old w w':=by
 have qz:=qK.1;obtain⟨vB,qt,rfl⟩:=zad qz;have zi:ts.length≤maxLen:=by
  rcases qz.2 with ⟨_,h⟩ | ⟨g,cap,vy,hv,_,_,h1,h2,_⟩
  ·rw [h];exact qyi _
  ·cases hv;omega
 have cy:=qya ud;clear ud
 go_enter Tryz.func172,Tryz.ntmps172
 go_wp2_with fail
 go_loopg [9] ts.length (fun g s9 wr=>∃i:Nat,g=ts.length-i∧i≤ts.length∧s9=.int .i64 i∧(ts.take i).all is=true∧Old w wr)
 case atStart=>exact⟨0,rfl,qyi _,rfl,rfl,Old.refl w⟩
 case round=>
  obtain⟨i,hg,hi,rfl,ql,hO⟩:=hrel;have HG:=qya hg;have qL:=qya ql;have HN:=qya zi;clear hg ql;cases hd:decide ((i:Int)<(ts.length:Int))
  ·have he:i=ts.length:=(by simp only [qyn] at hd;omega);have hres:ts.all is=true:=(by have:=qL.out;rwa [he,List.take_length] at this);have HR:=qya hres;have xq:decide (i<ts.length)=false:=qyk (by omega);clear hres he hi zi;go_wp2;go_ret;exact⟨by rw [HR.out];rfl,hO⟩
  ·have qx:i<ts.length:=(by simp only [qyo] at hd;omega);have qk:=zaa qz hO (fun _ _ e=>e);obtain⟨a0,a1,a2,a3,a4,a5,e0,e1,e2,e3,e4,e5,vY⟩:=ExsAt.nth ts xs yP i qx;have q8:ts[i]∈ts:=List.getElem_mem qx;have qB:(ts.take (i+1)).all is=is ts[i]:=by
    rw [qyt qx,List.all_append,qL.out];simp
   have qS:is ts[i]=false→ts.all is=false:=fun hf=>by
    rw [List.all_eq_false];exact⟨ts[i],q8,by rw [hf];decide⟩
   obtain⟨y,hy⟩ : ∃y,ts[i]=y:=⟨_,rfl⟩;rw [hy] at vY q8 qB qS;clear hy;have HM:=qya q8;have HT:=qya qB;have HF:=qya qS;clear q8 qB qS;have xE:=vY.keep hO (fun _ _ e=>e);obtain⟨kd,nu,nm,ag,la,na,ca,lp,np,cp,vr⟩:=xE.parts;cases vr;obtain⟨g,cap,xf,-,-⟩:=qk.form (by omega);cases xf;have d0:wr.cell? ⟨g,i*6,none⟩=some (.int .i64 kd):=(by rw [qk.cellAt (i*6) (by omega),e0]);have d1:wr.cell? ⟨g,i*6+1,none⟩=some (.int .i64 nu):=(by rw [qk.cellAt (i*6+1) (by omega),e1]);have d2:wr.cell? ⟨g,i*6+2,none⟩=some (.string nm):=(by rw [qk.cellAt (i*6+2) (by omega),e2]);have d3:wr.cell? ⟨g,i*6+3,none⟩=some (.string ag):=(by rw [qk.cellAt (i*6+3) (by omega),e3]);have d4:wr.cell? ⟨g,i*6+4,none⟩=some (.slice la na ca):=(by rw [qk.cellAt (i*6+4) (by omega),e4]);have d5:wr.cell? ⟨g,i*6+5,none⟩=some (.slice lp np cp):=(by rw [qk.cellAt (i*6+5) (by omega),e5]);have jy:wrap64 ((i:Int)+1)=((i+1:Nat):Int):=by
    rw [IntWalk.wrap64_in _ (by unfold maxLen at zi;omega)];omega
   have zw:=qya qx;have ze:=qya jy;have xq:decide (i<ts.length)=true:=qyl qx;have kX:=Blk.new wr #[.int .i64 kd,.int .i64 nu,.string nm,.string ag,.slice la na ca,.slice lp np cp] 32;obtain⟨x0,x1,x2,x3,x4,x5⟩:=kX.c6;have oX:=hO.alloc (.cells #[.int .i64 kd,.int .i64 nu,.string nm,.string ag,.slice la na ca,.slice lp np cp] 32);have bZ:=xE.keep ((Old.refl wr).alloc (.cells #[.int .i64 kd,.int .i64 nu,.string nm,.string ag,.slice la na ca,.slice lp np cp] 32)) (fun _ _ e=>e);clear jy zi
   go_wp2_with fail
   (with_reducible refine (cy.out y HM.out _ _ oX bZ).mono ?_)
   rintro e w2 ⟨rfl,o2⟩;have u9:=oX.trans o2;cases hb:is y
   ·go_wp2;go_ret;exact⟨by rw [HF.out hb];rfl,u9⟩
   ·have jy:=ze.out;go_wp2
    go_roundg (ts.length-(i+1))
    case measure=>have:=zw.out;have:=HG.out;omega
    case rel=>exact⟨i+1,rfl,zw.out,by first | rfl | rw [ze.out],by rw [HT.out];exact hb,u9⟩
theorem zh6(n:Nat):((n:Int)==0)=(n==0):=by
 rw [Bool.eq_iff_iff];simp
def zpj(k:Int)(s:List UInt8)(n:Nat)(b:Bool):Bool:=
 if k=1 then (s == [])&&(n==0) else if k=2 then (Lx.kind s==2)&&(n==0) else if k=3 then conN s n&&b else false
theorem zr9(k:Int)(nm:ByteArray)(hs:nm.size≤140737488355328)(la:Option Addr)(n c:Nat)(b:Bool)(W:World)(hg:Gl W)
  (ql : ∀W':World,Old W W'→Calls Tryz.prog 173 #[.slice la n c,.func (.func 108) #[] #[]] W' fun e kf=>e=.returned (.bool b)∧Old W' kf) :
  Calls Tryz.prog 108 #[.agg #[.int .i64 k,.string nm,.slice la n c]] W fun e W'=>e=.returned (.bool (zpj k nm.toList n b))∧Old W W':=by
 obtain⟨R,hR⟩ : ∃R,zpj k nm.toList n b=R:=⟨_,rfl⟩;rw [hR];have HR:=qya hR;have qL:=qya ql;clear hR ql;have O1:Old W (W.alloc (.cells #[.int .i64 k,.string nm,.slice la n c] 37)):=(Old.refl W).alloc _;have kX:=Blk.new W #[.int .i64 k,.string nm,.slice la n c] 37;obtain⟨x0,x1,x2⟩:=kX.c3;have sR:=zal nm hs _ (hg.old O1);rw [toList_data] at sR;have pJ:=zcx nm hs n _ (hg.old O1);cases h1:(k==1)
 ·cases h2:(k==2)
  ·cases h3:(k==3)
   ·have hr:R=false:=(by rw [← HR.out,zpj,if_neg (by simpa using h1),if_neg (by simpa using h2),if_neg (by simpa using h3)]);have uA:=qya hr;clear hr
    go_enter Tryz.func108,Tryz.ntmps108
    go_wp2;go_ret;exact⟨by rw [uA.out];rfl,O1⟩
   ·have hr:R=(conN nm.toList n&&b):=(by rw [← HR.out,zpj,if_neg (by simpa using h1),if_neg (by simpa using h2),if_pos (by simpa using h3)]);have uA:=qya hr;clear hr
    go_enter Tryz.func108,Tryz.ntmps108
    go_wp2_with fail
    (with_reducible refine pJ.mono ?_)
    rintro e w2 ⟨rfl,o2⟩;have y2:=(kX.keep o2 (fun e=>e)).c 2 (.slice la n c) rfl;cases hc:conN nm.toList n
    ·go_wp2;go_ret;exact⟨by rw [uA.out,hc];rfl,O1.trans o2⟩
    ·go_wp2_with fail
     (with_reducible refine (qL.out _ (O1.trans o2)).mono ?_)
     rintro e w3 ⟨rfl,o3⟩;go_wp2;go_ret;exact⟨by rw [uA.out,hc];rfl,(O1.trans o2).trans o3⟩
  ·have hr:R=((Lx.kind nm.toList==2)&&(n==0)):=(by rw [← HR.out,zpj,if_neg (by simpa using h1),if_pos (by simpa using h2)]);have uA:=qya hr;clear hr
   go_enter Tryz.func108,Tryz.ntmps108
   go_wp2_with fail
   (with_reducible refine sR.mono ?_)
   rintro e w2 ⟨rfl,o2⟩;have y2:=(kX.keep o2 (fun e=>e)).c 2 (.slice la n c) rfl;cases hc:(Lx.kind nm.toList==2)
   ·go_wp2;go_ret;exact⟨by rw [uA.out,hc];rfl,O1.trans o2⟩
   ·go_wp2;go_ret;exact⟨by rw [uA.out,hc];simp [zh6],O1.trans o2⟩
 ·have hr:R=((nm.toList == [])&&(n==0)):=by rw [← HR.out,zpj,if_pos (by simpa using h1)]
  have uA:=qya hr;clear hr
  go_enter Tryz.func108,Tryz.ntmps108
  cases hc:(nm.toList == [])
  ·go_wp2;go_ret;exact⟨by rw [uA.out,hc];rfl,O1⟩
  ·go_wp2;go_ret;exact⟨by rw [uA.out,hc];simp [zh6],O1⟩
mutual
def zsb:Sx.Pa→Bool
 | .mk k s args=>zpj k s args.length (zhi args)
def zhi:List Sx.Pa→Bool
 | []=>true
 | p::r=>zsb p&&zhi r
def zgx:Sx.Pa→Prop
 | .mk _ s args=>s.length≤140737488355328∧zc8 args
def zc8:List Sx.Pa→Prop
 | []=>True
 | p::r=>zgx p∧zc8 r
end
theorem zg9 : ∀(l:List Sx.Pa),zhi l=l.all zsb
 | []=>by rw [zhi];rfl
 | p::r=>by rw [zhi,zg9 r];rfl
theorem zfa : ∀(l:List Sx.Pa),zc8 l→∀p∈l,zgx p
 | [],_,p,hp=>by cases hp
 | a::r,h,p,hp=>by
  rw [zc8] at h;rcases List.mem_cons.1 hp with rfl | hp
  ·exact h.1
  ·exact zfa r h.2 p hp
theorem znv(p:Sx.Pa)(F:Nat→Prop)(v:Value)(W:World)(hs:zgx p)(h:PaAt W F p v)(hg:Gl W) :
  Calls Tryz.prog 108 #[v] W fun e W'=>e=.returned (.bool (zsb p))∧Old W W':=by
 match p with
 | .mk k s args=>
  rw [PaAt] at h;obtain⟨sv,xs,rfl,qK,yP⟩:=h;obtain⟨la,c,rfl⟩:=zad qK.1;rw [zgx] at hs;have hl:(⟨s.toArray⟩:ByteArray).toList=s:=qyw s;have qm:=zr9 k ⟨s.toArray⟩ (by show s.toArray.size≤_;simpa using hs.1) la args.length c (zhi args) W hg (fun W' o=>by
   rw [zg9];exact zq0 zsb W' F (.slice la args.length c) args xs (qK.keep o (fun _ _ e=>e)) (PasAt.keep o (fun _ _ e=>e) _ _ yP) (fun q hq v kf o' hv=>znv q F v kf (zfa args hs.2 q hq) hv (hg.old (o.trans o'))))
  rw [hl] at qm;rw [zsb];exact qm
termination_by SizeOf.sizeOf p
decreasing_by
 have:=List.sizeOf_lt_of_mem hq;simp;omega
def zph(s:List UInt8)(n:Nat)(b:Bool):Bool:=
 if s=[45,62] then (n==2)&&b else if n=0∧Lx.kind s=4 then true else conN s n&&b
theorem zpg(nm:ByteArray)(hs:nm.size≤140737488355328)(la:Option Addr)(n c:Nat)(b:Bool)(W:World)(hg:Gl W)
  (ql : ∀W':World,Old W W'→Calls Tryz.prog 177 #[.slice la n c,.func (.func 101) #[] #[]] W' fun e kf=>e=.returned (.bool b)∧Old W' kf) :
  Calls Tryz.prog 101 #[.agg #[.string nm,.slice la n c]] W fun e W'=>e=.returned (.bool (zph nm.toList n b))∧Old W W':=by
 obtain⟨R,hR⟩ : ∃R,zph nm.toList n b=R:=⟨_,rfl⟩;rw [hR];have HR:=qya hR;have qL:=qya ql;clear hR ql;have O1:Old W (W.alloc (.cells #[.string nm,.slice la n c] 35)):=(Old.refl W).alloc _;have kX:=Blk.new W #[.string nm,.slice la n c] 35;obtain⟨x0,x1⟩:=kX.c2;have wI:=zgm nm hs _ (hg.old O1);rw [toList_data] at wI;have pJ:=fun W' (o:Old W W')=>zcx nm hs n W' (hg.old o);have HCON:=qya pJ;clear pJ;cases ha:(nm.toList == [45,62])
 ·by_cases hn:n=0
  ·have hz:(n==0)=true:=(by simpa using hn);have wE:((n:Int)==0)=true:=(by rw [zh6];exact hz);have HN:=qya hn;clear hn;cases hk:(Lx.kind nm.toList==4)
   ·have hr:R=(conN nm.toList n&&b):=(by rw [← HR.out,zph,if_neg (by simpa using ha),if_neg (by rintro⟨_,h⟩;simp [h] at hk)]);have uA:=qya hr;clear hr
    go_enter Tryz.func101,Tryz.ntmps101
    go_wp2_with fail
    (with_reducible refine wI.mono ?_)
    rintro e w2 ⟨rfl,o2⟩;obtain⟨y0,y1⟩:=(kX.keep o2 (fun e=>e)).c2
    go_wp2_with fail
    (with_reducible refine (HCON.out _ (O1.trans o2)).mono ?_)
    rintro e w3 ⟨rfl,o3⟩;have u1:=((kX.keep o2 (fun e=>e)).keep o3 (fun e=>e)).c 1 (.slice la n c) rfl;cases hc:conN nm.toList n
    ·go_wp2;go_ret;exact⟨by rw [uA.out,hc];rfl,(O1.trans o2).trans o3⟩
    ·go_wp2_with fail
     (with_reducible refine (qL.out _ ((O1.trans o2).trans o3)).mono ?_)
     rintro e w4 ⟨rfl,o4⟩;go_wp2;go_ret;exact⟨by rw [uA.out,hc];rfl,((O1.trans o2).trans o3).trans o4⟩
   ·have hr:R=true:=(by rw [← HR.out,zph,if_neg (by simpa using ha),if_pos ⟨HN.out,by simpa using hk⟩]);have uA:=qya hr;clear hr
    go_enter Tryz.func101,Tryz.ntmps101
    go_wp2_with fail
    (with_reducible refine wI.mono ?_)
    rintro e w2 ⟨rfl,o2⟩;go_wp2;go_ret;exact⟨by rw [uA.out];rfl,O1.trans o2⟩
  ·have hr:R=(conN nm.toList n&&b):=(by rw [← HR.out,zph,if_neg (by simpa using ha),if_neg (fun h=>hn h.1)]);have hz:(n==0)=false:=(by simpa using hn);have wE:((n:Int)==0)=false:=(by rw [zh6];exact hz);have uA:=qya hr;clear hr hn
   go_enter Tryz.func101,Tryz.ntmps101
   go_wp2_with fail
   (with_reducible refine (HCON.out _ O1).mono ?_)
   rintro e w3 ⟨rfl,o3⟩;have u1:=(kX.keep o3 (fun e=>e)).c 1 (.slice la n c) rfl;cases hc:conN nm.toList n
   ·go_wp2;go_ret;exact⟨by rw [uA.out,hc];rfl,O1.trans o3⟩
   ·go_wp2_with fail
    (with_reducible refine (qL.out _ (O1.trans o3)).mono ?_)
    rintro e w4 ⟨rfl,o4⟩;go_wp2;go_ret;exact⟨by rw [uA.out,hc];rfl,(O1.trans o3).trans o4⟩
 ·have hr:R=((n==2)&&b):=by rw [← HR.out,zph,if_pos (by simpa using ha)]
  have uA:=qya hr;clear hr;cases hz:(n==2)
  ·have wE:((n:Int)==2)=false:=by rw [Bool.eq_false_iff];intro h;simp at h;simp at hz;omega
   go_enter Tryz.func101,Tryz.ntmps101
   go_wp2;go_ret;exact⟨by rw [uA.out,hz];rfl,O1⟩
  ·have wE:((n:Int)==2)=true:=by simp at hz;simp;omega
   go_enter Tryz.func101,Tryz.ntmps101
   go_wp2_with fail
   (with_reducible refine (qL.out _ O1).mono ?_)
   rintro e w4 ⟨rfl,o4⟩;go_wp2;go_ret;exact⟨by rw [uA.out,hz];rfl,O1.trans o4⟩
mutual
def zl1:Sx.Ty→Bool
 | .mk s args=>zph s args.length (zfg args)
def zfg:List Sx.Ty→Bool
 | []=>true
 | p::r=>zl1 p&&zfg r
def zfz:Sx.Ty→Prop
 | .mk s args=>s.length≤140737488355328∧zd1 args
def zd1:List Sx.Ty→Prop
 | []=>True
 | p::r=>zfz p∧zd1 r
end
theorem zks : ∀(l:List Sx.Ty),zfg l=l.all zl1
 | []=>by rw [zfg];rfl
 | p::r=>by rw [zfg,zks r];rfl
theorem ze9 : ∀(l:List Sx.Ty),zd1 l→∀p∈l,zfz p
 | [],_,p,hp=>by cases hp
 | a::r,h,p,hp=>by
  rw [zd1] at h;rcases List.mem_cons.1 hp with rfl | hp
  ·exact h.1
  ·exact ze9 r h.2 p hp
theorem zg8(p:Sx.Ty)(F:Nat→Prop)(v:Value)(W:World)(hs:zfz p)(h:TyAt W F p v)(hg:Gl W) :
  Calls Tryz.prog 101 #[v] W fun e W'=>e=.returned (.bool (zl1 p))∧Old W W':=by
 match p with
 | .mk s args=>
  rw [TyAt] at h;obtain⟨sv,xs,rfl,qK,yP⟩:=h;obtain⟨la,c,rfl⟩:=zad qK.1;rw [zfz] at hs;have hl:(⟨s.toArray⟩:ByteArray).toList=s:=qyw s;have qm:=zpg ⟨s.toArray⟩ (by show s.toArray.size≤_;simpa using hs.1) la args.length c (zfg args) W hg (fun W' o=>by
   rw [zks];exact zqz zl1 W' F (.slice la args.length c) args xs (qK.keep o (fun _ _ e=>e)) (TysAt.keep o (fun _ _ e=>e) _ _ yP) (fun q hq v kf o' hv=>zg8 q F v kf (ze9 args hs.2 q hq) hv (hg.old (o.trans o'))))
  rw [hl] at qm;rw [zl1];exact qm
termination_by SizeOf.sizeOf p
decreasing_by
 have:=List.sizeOf_lt_of_mem hq;simp;omega
theorem zpm(kd nu:Int)(nm ag:ByteArray)(la:Option Addr)(na ca:Nat)(lp:Option Addr)(np cp:Nat)(b0 b1 b2:Bool)(W:World)
  (sN : ∀W':World,Old W W'→Calls Tryz.prog 171 #[.agg #[.int .i64 kd,.int .i64 nu,.string nm,.string ag,.slice la na ca,.slice lp np cp]] W' fun e kf=>e=.returned (.bool b0)∧Old W' kf)
  (ql : ∀W':World,Old W W'→Calls Tryz.prog 172 #[.slice la na ca,.func (.func 96) #[] #[]] W' fun e kf=>e=.returned (.bool b1)∧Old W' kf)
  (hpat : ∀W':World,Old W W'→Calls Tryz.prog 173 #[.slice lp np cp,.func (.func 108) #[] #[]] W' fun e kf=>e=.returned (.bool b2)∧Old W' kf) :
  Calls Tryz.prog 96 #[.agg #[.int .i64 kd,.int .i64 nu,.string nm,.string ag,.slice la na ca,.slice lp np cp]] W fun e W'=>e=.returned (.bool (b0&&b1&&b2))∧Old W W':=by
 have HN:=qya sN;have HA:=qya ql;have HP:=qya hpat;clear sN ql hpat;have O1:Old W (W.alloc (.cells #[.int .i64 kd,.int .i64 nu,.string nm,.string ag,.slice la na ca,.slice lp np cp] 32)):=(Old.refl W).alloc _;have kX:=Blk.new W #[.int .i64 kd,.int .i64 nu,.string nm,.string ag,.slice la na ca,.slice lp np cp] 32;obtain⟨x0,x1,x2,x3,x4,x5⟩:=kX.c6
 go_enter Tryz.func96,Tryz.ntmps96
 go_wp2_with fail
 (with_reducible refine (HN.out _ O1).mono ?_)
 rintro e w2 ⟨rfl,o2⟩;have y4:=(kX.keep o2 (fun e=>e)).c 4 (.slice la na ca) rfl;cases b0
 ·go_wp2;go_ret;exact⟨rfl,O1.trans o2⟩
 ·go_wp2_with fail
  (with_reducible refine (HA.out _ (O1.trans o2)).mono ?_)
  rintro e w3 ⟨rfl,o3⟩;have y5:=((kX.keep o2 (fun e=>e)).keep o3 (fun e=>e)).c 5 (.slice lp np cp) rfl;cases b1
  ·go_wp2;go_ret;exact⟨rfl,(O1.trans o2).trans o3⟩
  ·go_wp2_with fail
   (with_reducible refine (HP.out _ ((O1.trans o2).trans o3)).mono ?_)
   rintro e w4 ⟨rfl,o4⟩;go_wp2;go_ret;exact⟨rfl,((O1.trans o2).trans o3).trans o4⟩
theorem zwn(nu:Int)(nm ag:ByteArray)(hs:nm.size≤140737488355328)(vE:ag.size≤140737488355328)(la:Option Addr)(na ca:Nat)(lp:Option Addr)(np cp:Nat)(po:np≤140737488355328)(W:World)(hg:Gl W) :
  Calls Tryz.prog 171 #[.agg #[.int .i64 1,.int .i64 nu,.string nm,.string ag,.slice la na ca,.slice lp 0 cp]] W fun e W'=>e=.returned (.bool ((nm.toList == [])&&(ag.toList == [])&&(na==0)))∧Old W W':=by
 obtain⟨R,hR⟩ : ∃R,((nm.toList == [])&&(ag.toList == [])&&(na==0))=R:=⟨_,rfl⟩;rw [hR];have HR:=qya hR;clear hR;have O1:Old W (W.alloc (.cells #[.int .i64 1,.int .i64 nu,.string nm,.string ag,.slice la na ca,.slice lp 0 cp] 32)):=(Old.refl W).alloc _;have kX:=Blk.new W #[.int .i64 1,.int .i64 nu,.string nm,.string ag,.slice la na ca,.slice lp 0 cp] 32;have vJ:=qya (fun W' (o:Old W W')=>zal nm hs W' (hg.old o));have uC:=qya (fun W' (o:Old W W')=>zal ag vE W' (hg.old o));rw [toList_data] at vJ uC;have sw:=qya (fun W' (o:Old W W')=>zcx nm hs na W' (hg.old o));obtain⟨yZ,yJ,yQ,yi,ya,yl⟩:=kX.c6
 go_enter Tryz.func171,Tryz.ntmps171
 cases h0:(nm.toList == [])
 ·go_wp2;go_ret;exact⟨by rw [← HR.out];simp [h0],O1⟩
 ·skip
  cases h1:(ag.toList == [])
  ·go_wp2;go_ret;exact⟨by rw [← HR.out];simp [h0,h1],O1⟩
  ·skip
   cases h2:(na==0)
   ·have wE:((na:Int)==0)=false:=(by rw [Bool.eq_false_iff];intro h;simp at h;simp at h2;omega);go_wp2;go_ret;exact⟨by rw [← HR.out];simp [h0,h1,h2],O1⟩
   ·have wE:((na:Int)==0)=true:=(by simp at h2;simp;omega);go_wp2;go_ret;exact⟨by rw [← HR.out];simp [h0,h1,h2],O1⟩
theorem zwm(nu:Int)(nm ag:ByteArray)(hs:nm.size≤140737488355328)(vE:ag.size≤140737488355328)(la:Option Addr)(na ca:Nat)(lp:Option Addr)(np cp:Nat)(po:np≤140737488355328)(W:World)(hg:Gl W) :
  Calls Tryz.prog 171 #[.agg #[.int .i64 2,.int .i64 0,.string nm,.string ag,.slice la na ca,.slice lp 0 cp]] W fun e W'=>e=.returned (.bool ((Lx.kind nm.toList==2)&&(ag.toList == [])&&(na==0)))∧Old W W':=by
 obtain⟨R,hR⟩ : ∃R,((Lx.kind nm.toList==2)&&(ag.toList == [])&&(na==0))=R:=⟨_,rfl⟩;rw [hR];have HR:=qya hR;clear hR;have O1:Old W (W.alloc (.cells #[.int .i64 2,.int .i64 0,.string nm,.string ag,.slice la na ca,.slice lp 0 cp] 32)):=(Old.refl W).alloc _;have kX:=Blk.new W #[.int .i64 2,.int .i64 0,.string nm,.string ag,.slice la na ca,.slice lp 0 cp] 32;have vJ:=qya (fun W' (o:Old W W')=>zal nm hs W' (hg.old o));have uC:=qya (fun W' (o:Old W W')=>zal ag vE W' (hg.old o));rw [toList_data] at vJ uC;have sw:=qya (fun W' (o:Old W W')=>zcx nm hs na W' (hg.old o));obtain⟨yZ,yJ,yQ,yi,ya,yl⟩:=kX.c6
 go_enter Tryz.func171,Tryz.ntmps171
 go_wp2_with fail
 (with_reducible refine (vJ.out _ O1).mono ?_)
 rintro e w2 ⟨rfl,o2⟩;obtain⟨ni,nl,ns,nr,nd,nh⟩:=(kX.keep o2 (fun e=>e)).c6;cases h0:(Lx.kind nm.toList==2)
 ·go_wp2;go_ret;exact⟨by rw [← HR.out];simp [h0],Fr.trans O1 o2⟩
 ·skip
  cases h1:(ag.toList == [])
  ·go_wp2;go_ret;exact⟨by rw [← HR.out];simp [h0,h1],Fr.trans O1 o2⟩
  ·skip
   cases h2:(na==0)
   ·have wE:((na:Int)==0)=false:=(by rw [Bool.eq_false_iff];intro h;simp at h;simp at h2;omega);go_wp2;go_ret;exact⟨by rw [← HR.out];simp [h0,h1,h2],Fr.trans O1 o2⟩
   ·have wE:((na:Int)==0)=true:=(by simp at h2;simp;omega);go_wp2;go_ret;exact⟨by rw [← HR.out];simp [h0,h1,h2],Fr.trans O1 o2⟩
theorem zwl(nu:Int)(nm ag:ByteArray)(hs:nm.size≤140737488355328)(vE:ag.size≤140737488355328)(la:Option Addr)(na ca:Nat)(lp:Option Addr)(np cp:Nat)(po:np≤140737488355328)(W:World)(hg:Gl W) :
  Calls Tryz.prog 171 #[.agg #[.int .i64 3,.int .i64 0,.string nm,.string ag,.slice la na ca,.slice lp 0 cp]] W fun e W'=>e=.returned (.bool (conN nm.toList na&&(ag.toList == [])))∧Old W W':=by
 obtain⟨R,hR⟩ : ∃R,(conN nm.toList na&&(ag.toList == []))=R:=⟨_,rfl⟩;rw [hR];have HR:=qya hR;clear hR;have O1:Old W (W.alloc (.cells #[.int .i64 3,.int .i64 0,.string nm,.string ag,.slice la na ca,.slice lp 0 cp] 32)):=(Old.refl W).alloc _;have kX:=Blk.new W #[.int .i64 3,.int .i64 0,.string nm,.string ag,.slice la na ca,.slice lp 0 cp] 32;have vJ:=qya (fun W' (o:Old W W')=>zal nm hs W' (hg.old o));have uC:=qya (fun W' (o:Old W W')=>zal ag vE W' (hg.old o));rw [toList_data] at vJ uC;have sw:=qya (fun W' (o:Old W W')=>zcx nm hs na W' (hg.old o));obtain⟨yZ,yJ,yQ,yi,ya,yl⟩:=kX.c6
 go_enter Tryz.func171,Tryz.ntmps171
 go_wp2_with fail
 (with_reducible refine (sw.out _ O1).mono ?_)
 rintro e w2 ⟨rfl,o2⟩;obtain⟨ni,nl,ns,nr,nd,nh⟩:=(kX.keep o2 (fun e=>e)).c6;cases h0:conN nm.toList na
 ·go_wp2;go_ret;exact⟨by rw [← HR.out];simp [h0],Fr.trans O1 o2⟩
 ·skip
  cases h1:(ag.toList == [])
  ·go_wp2;go_ret;exact⟨by rw [← HR.out];simp [h0,h1],Fr.trans O1 o2⟩
  ·go_wp2;go_ret;exact⟨by rw [← HR.out];simp [h0,h1],Fr.trans O1 o2⟩
theorem zwk(nu:Int)(nm ag:ByteArray)(hs:nm.size≤140737488355328)(vE:ag.size≤140737488355328)(la:Option Addr)(na ca:Nat)(lp:Option Addr)(np cp:Nat)(po:np≤140737488355328)(W:World)(hg:Gl W) :
  Calls Tryz.prog 171 #[.agg #[.int .i64 4,.int .i64 0,.string nm,.string ag,.slice la na ca,.slice lp 0 cp]] W fun e W'=>e=.returned (.bool ((nm.toList == [])&&(ag.toList == [])&&(na==2)))∧Old W W':=by
 obtain⟨R,hR⟩ : ∃R,((nm.toList == [])&&(ag.toList == [])&&(na==2))=R:=⟨_,rfl⟩;rw [hR];have HR:=qya hR;clear hR;have O1:Old W (W.alloc (.cells #[.int .i64 4,.int .i64 0,.string nm,.string ag,.slice la na ca,.slice lp 0 cp] 32)):=(Old.refl W).alloc _;have kX:=Blk.new W #[.int .i64 4,.int .i64 0,.string nm,.string ag,.slice la na ca,.slice lp 0 cp] 32;have vJ:=qya (fun W' (o:Old W W')=>zal nm hs W' (hg.old o));have uC:=qya (fun W' (o:Old W W')=>zal ag vE W' (hg.old o));rw [toList_data] at vJ uC;have sw:=qya (fun W' (o:Old W W')=>zcx nm hs na W' (hg.old o));obtain⟨yZ,yJ,yQ,yi,ya,yl⟩:=kX.c6
 go_enter Tryz.func171,Tryz.ntmps171
 cases h0:(nm.toList == [])
 ·go_wp2;go_ret;exact⟨by rw [← HR.out];simp [h0],O1⟩
 ·skip
  cases h1:(ag.toList == [])
  ·go_wp2;go_ret;exact⟨by rw [← HR.out];simp [h0,h1],O1⟩
  ·skip
   cases h2:(na==2)
   ·have wE:((na:Int)==2)=false:=(by rw [Bool.eq_false_iff];intro h;simp at h;simp at h2;omega);go_wp2;go_ret;exact⟨by rw [← HR.out];simp [h0,h1,h2],O1⟩
   ·have wE:((na:Int)==2)=true:=(by simp at h2;simp;omega);go_wp2;go_ret;exact⟨by rw [← HR.out];simp [h0,h1,h2],O1⟩
theorem zwj(nu:Int)(nm ag:ByteArray)(hs:nm.size≤140737488355328)(vE:ag.size≤140737488355328)(la:Option Addr)(na ca:Nat)(lp:Option Addr)(np cp:Nat)(po:np≤140737488355328)(W:World)(hg:Gl W) :
  Calls Tryz.prog 171 #[.agg #[.int .i64 5,.int .i64 0,.string nm,.string ag,.slice la na ca,.slice lp 0 cp]] W fun e W'=>e=.returned (.bool ((nm.toList == [])&&(Lx.kind ag.toList==2)&&(na==1)))∧Old W W':=by
 obtain⟨R,hR⟩ : ∃R,((nm.toList == [])&&(Lx.kind ag.toList==2)&&(na==1))=R:=⟨_,rfl⟩;rw [hR];have HR:=qya hR;clear hR;have O1:Old W (W.alloc (.cells #[.int .i64 5,.int .i64 0,.string nm,.string ag,.slice la na ca,.slice lp 0 cp] 32)):=(Old.refl W).alloc _;have kX:=Blk.new W #[.int .i64 5,.int .i64 0,.string nm,.string ag,.slice la na ca,.slice lp 0 cp] 32;have vJ:=qya (fun W' (o:Old W W')=>zal nm hs W' (hg.old o));have uC:=qya (fun W' (o:Old W W')=>zal ag vE W' (hg.old o));rw [toList_data] at vJ uC;have sw:=qya (fun W' (o:Old W W')=>zcx nm hs na W' (hg.old o));obtain⟨yZ,yJ,yQ,yi,ya,yl⟩:=kX.c6
 go_enter Tryz.func171,Tryz.ntmps171
 cases h0:(nm.toList == [])
 ·go_wp2;go_ret;exact⟨by rw [← HR.out];simp [h0],O1⟩
 ·skip
  go_wp2_with fail
  (with_reducible refine (uC.out _ O1).mono ?_)
  rintro e w2 ⟨rfl,o2⟩;obtain⟨ni,nl,ns,nr,nd,nh⟩:=(kX.keep o2 (fun e=>e)).c6;cases h1:(Lx.kind ag.toList==2)
  ·go_wp2;go_ret;exact⟨by rw [← HR.out];simp [h0,h1],Fr.trans O1 o2⟩
  ·skip
   cases h2:(na==1)
   ·have wE:((na:Int)==1)=false:=(by rw [Bool.eq_false_iff];intro h;simp at h;simp at h2;omega);go_wp2;go_ret;exact⟨by rw [← HR.out];simp [h0,h1,h2],Fr.trans O1 o2⟩
   ·have wE:((na:Int)==1)=true:=(by simp at h2;simp;omega);go_wp2;go_ret;exact⟨by rw [← HR.out];simp [h0,h1,h2],Fr.trans O1 o2⟩
theorem zwi(nu:Int)(nm ag:ByteArray)(hs:nm.size≤140737488355328)(vE:ag.size≤140737488355328)(la:Option Addr)(na ca:Nat)(lp:Option Addr)(np cp:Nat)(po:np≤140737488355328)(W:World)(hg:Gl W) :
  Calls Tryz.prog 171 #[.agg #[.int .i64 6,.int .i64 0,.string nm,.string ag,.slice la na ca,.slice lp 0 cp]] W fun e W'=>e=.returned (.bool ((Lx.kind nm.toList==2)&&(ag.toList == [])&&(na==2)))∧Old W W':=by
 obtain⟨R,hR⟩ : ∃R,((Lx.kind nm.toList==2)&&(ag.toList == [])&&(na==2))=R:=⟨_,rfl⟩;rw [hR];have HR:=qya hR;clear hR;have O1:Old W (W.alloc (.cells #[.int .i64 6,.int .i64 0,.string nm,.string ag,.slice la na ca,.slice lp 0 cp] 32)):=(Old.refl W).alloc _;have kX:=Blk.new W #[.int .i64 6,.int .i64 0,.string nm,.string ag,.slice la na ca,.slice lp 0 cp] 32;have vJ:=qya (fun W' (o:Old W W')=>zal nm hs W' (hg.old o));have uC:=qya (fun W' (o:Old W W')=>zal ag vE W' (hg.old o));rw [toList_data] at vJ uC;have sw:=qya (fun W' (o:Old W W')=>zcx nm hs na W' (hg.old o));obtain⟨yZ,yJ,yQ,yi,ya,yl⟩:=kX.c6
 go_enter Tryz.func171,Tryz.ntmps171
 go_wp2_with fail
 (with_reducible refine (vJ.out _ O1).mono ?_)
 rintro e w2 ⟨rfl,o2⟩;obtain⟨ni,nl,ns,nr,nd,nh⟩:=(kX.keep o2 (fun e=>e)).c6;cases h0:(Lx.kind nm.toList==2)
 ·go_wp2;go_ret;exact⟨by rw [← HR.out];simp [h0],Fr.trans O1 o2⟩
 ·skip
  cases h1:(ag.toList == [])
  ·go_wp2;go_ret;exact⟨by rw [← HR.out];simp [h0,h1],Fr.trans O1 o2⟩
  ·skip
   cases h2:(na==2)
   ·have wE:((na:Int)==2)=false:=(by rw [Bool.eq_false_iff];intro h;simp at h;simp at h2;omega);go_wp2;go_ret;exact⟨by rw [← HR.out];simp [h0,h1,h2],Fr.trans O1 o2⟩
   ·have wE:((na:Int)==2)=true:=(by simp at h2;simp;omega);go_wp2;go_ret;exact⟨by rw [← HR.out];simp [h0,h1,h2],Fr.trans O1 o2⟩
theorem zwh(nu:Int)(nm ag:ByteArray)(hs:nm.size≤140737488355328)(vE:ag.size≤140737488355328)(la:Option Addr)(na ca:Nat)(lp:Option Addr)(np cp:Nat)(po:np≤140737488355328)(W:World)(hg:Gl W) :
  Calls Tryz.prog 171 #[.agg #[.int .i64 7,.int .i64 0,.string nm,.string ag,.slice la na ca,.slice lp 0 cp]] W fun e W'=>e=.returned (.bool ((Lx.kind nm.toList==2)&&(Lx.kind ag.toList==2)&&(na==2)))∧Old W W':=by
 obtain⟨R,hR⟩ : ∃R,((Lx.kind nm.toList==2)&&(Lx.kind ag.toList==2)&&(na==2))=R:=⟨_,rfl⟩;rw [hR];have HR:=qya hR;clear hR;have O1:Old W (W.alloc (.cells #[.int .i64 7,.int .i64 0,.string nm,.string ag,.slice la na ca,.slice lp 0 cp] 32)):=(Old.refl W).alloc _;have kX:=Blk.new W #[.int .i64 7,.int .i64 0,.string nm,.string ag,.slice la na ca,.slice lp 0 cp] 32;have vJ:=qya (fun W' (o:Old W W')=>zal nm hs W' (hg.old o));have uC:=qya (fun W' (o:Old W W')=>zal ag vE W' (hg.old o));rw [toList_data] at vJ uC;have sw:=qya (fun W' (o:Old W W')=>zcx nm hs na W' (hg.old o));obtain⟨yZ,yJ,yQ,yi,ya,yl⟩:=kX.c6
 go_enter Tryz.func171,Tryz.ntmps171
 go_wp2_with fail
 (with_reducible refine (vJ.out _ O1).mono ?_)
 rintro e w2 ⟨rfl,o2⟩;obtain⟨ni,nl,ns,nr,nd,nh⟩:=(kX.keep o2 (fun e=>e)).c6;cases h0:(Lx.kind nm.toList==2)
 ·go_wp2;go_ret;exact⟨by rw [← HR.out];simp [h0],Fr.trans O1 o2⟩
 ·skip
  go_wp2_with fail
  (with_reducible refine (uC.out _ (Fr.trans O1 o2)).mono ?_)
  rintro e w3 ⟨rfl,o3⟩;obtain⟨x2_0,x2_1,x2_2,x2_3,x2_4,x2_5⟩:=((kX.keep o2 (fun e=>e)).keep o3 (fun e=>e)).c6;cases h1:(Lx.kind ag.toList==2)
  ·go_wp2;go_ret;exact⟨by rw [← HR.out];simp [h0,h1],Fr.trans (Fr.trans O1 o2) o3⟩
  ·skip
   cases h2:(na==2)
   ·have wE:((na:Int)==2)=false:=(by rw [Bool.eq_false_iff];intro h;simp at h;simp at h2;omega);go_wp2;go_ret;exact⟨by rw [← HR.out];simp [h0,h1,h2],Fr.trans (Fr.trans O1 o2) o3⟩
   ·have wE:((na:Int)==2)=true:=(by simp at h2;simp;omega);go_wp2;go_ret;exact⟨by rw [← HR.out];simp [h0,h1,h2],Fr.trans (Fr.trans O1 o2) o3⟩
theorem zwg(nu:Int)(nm ag:ByteArray)(hs:nm.size≤140737488355328)(vE:ag.size≤140737488355328)(la:Option Addr)(na ca:Nat)(lp:Option Addr)(np cp:Nat)(po:np≤140737488355328)(W:World)(hg:Gl W) :
  Calls Tryz.prog 171 #[.agg #[.int .i64 8,.int .i64 0,.string nm,.string ag,.slice la na ca,.slice lp np cp]] W fun e W'=>e=.returned (.bool ((nm.toList == [])&&(ag.toList == [])&&(decide ((1:Int)≤np)&&decide ((np:Int)≤16))&&(na==np+1)))∧Old W W':=by
 obtain⟨R,hR⟩ : ∃R,((nm.toList == [])&&(ag.toList == [])&&(decide ((1:Int)≤np)&&decide ((np:Int)≤16))&&(na==np+1))=R:=⟨_,rfl⟩;rw [hR];have HR:=qya hR;clear hR;have O1:Old W (W.alloc (.cells #[.int .i64 8,.int .i64 0,.string nm,.string ag,.slice la na ca,.slice lp np cp] 32)):=(Old.refl W).alloc _;have kX:=Blk.new W #[.int .i64 8,.int .i64 0,.string nm,.string ag,.slice la na ca,.slice lp np cp] 32;have vJ:=qya (fun W' (o:Old W W')=>zal nm hs W' (hg.old o));have uC:=qya (fun W' (o:Old W W')=>zal ag vE W' (hg.old o));rw [toList_data] at vJ uC;have sw:=qya (fun W' (o:Old W W')=>zcx nm hs na W' (hg.old o));obtain⟨yZ,yJ,yQ,yi,ya,yl⟩:=kX.c6
 go_enter Tryz.func171,Tryz.ntmps171
 cases h0:(nm.toList == [])
 ·go_wp2;go_ret;exact⟨by rw [← HR.out];simp [h0],O1⟩
 ·skip
  cases h1:(ag.toList == [])
  ·go_wp2;go_ret;exact⟨by rw [← HR.out];simp [h0,h1],O1⟩
  ·skip
   go_wp2_with fail
   (with_reducible refine (zhb np _).mono ?_)
   rintro e w2 ⟨rfl,rfl⟩;cases h2:(decide ((1:Int)≤np)&&decide ((np:Int)≤16))
   ·go_wp2;go_ret;exact⟨by rw [← HR.out];simp [h0,h1,h2],O1⟩
   ·skip
    have hwp:wrap64 ((np:Int)+1)=(np:Int)+1:=(by rw [IntWalk.wrap64_in _ (by omega)]);cases h3:(na==np+1)
    ·have wE:((na:Int)==((np:Int)+1))=false:=(by rw [Bool.eq_false_iff];intro h;simp at h;simp at h3;omega);go_wp2;go_ret;exact⟨by rw [← HR.out];simp [h0,h1,h2,h3],O1⟩
    ·have wE:((na:Int)==((np:Int)+1))=true:=(by simp at h3;simp;omega);go_wp2;go_ret;exact⟨by rw [← HR.out];simp [h0,h1,h2,h3],O1⟩
theorem zwf(nu:Int)(nm ag:ByteArray)(hs:nm.size≤140737488355328)(vE:ag.size≤140737488355328)(la:Option Addr)(na ca:Nat)(lp:Option Addr)(np cp:Nat)(po:np≤140737488355328)(W:World)(hg:Gl W) :
  Calls Tryz.prog 171 #[.agg #[.int .i64 9,.int .i64 0,.string nm,.string ag,.slice la na ca,.slice lp 0 cp]] W fun e W'=>e=.returned (.bool (znh nm&&(ag.toList == [])&&(na==2)))∧Old W W':=by
 obtain⟨R,hR⟩ : ∃R,(znh nm&&(ag.toList == [])&&(na==2))=R:=⟨_,rfl⟩;rw [hR];have HR:=qya hR;clear hR;have O1:Old W (W.alloc (.cells #[.int .i64 9,.int .i64 0,.string nm,.string ag,.slice la na ca,.slice lp 0 cp] 32)):=(Old.refl W).alloc _;have kX:=Blk.new W #[.int .i64 9,.int .i64 0,.string nm,.string ag,.slice la na ca,.slice lp 0 cp] 32;have vJ:=qya (fun W' (o:Old W W')=>zal nm hs W' (hg.old o));have uC:=qya (fun W' (o:Old W W')=>zal ag vE W' (hg.old o));rw [toList_data] at vJ uC;have sw:=qya (fun W' (o:Old W W')=>zcx nm hs na W' (hg.old o));obtain⟨yZ,yJ,yQ,yi,ya,yl⟩:=kX.c6
 go_enter Tryz.func171,Tryz.ntmps171
 go_wp2_with fail
 (with_reducible refine (zl2 nm _).mono ?_)
 rintro e w2 ⟨rfl,rfl⟩;cases h0:znh nm
 ·go_wp2;go_ret;exact⟨by rw [← HR.out];simp [h0],O1⟩
 ·skip
  cases h1:(ag.toList == [])
  ·go_wp2;go_ret;exact⟨by rw [← HR.out];simp [h0,h1],O1⟩
  ·skip
   cases h2:(na==2)
   ·have wE:((na:Int)==2)=false:=(by rw [Bool.eq_false_iff];intro h;simp at h;simp at h2;omega);go_wp2;go_ret;exact⟨by rw [← HR.out];simp [h0,h1,h2],O1⟩
   ·have wE:((na:Int)==2)=true:=(by simp at h2;simp;omega);go_wp2;go_ret;exact⟨by rw [← HR.out];simp [h0,h1,h2],O1⟩
theorem zsc(k nu:Int)(nm ag:ByteArray)(la:Option Addr)(na ca:Nat)(lp:Option Addr)(np cp:Nat)(W:World)(h1:(k != 1)=true)(h2:(nu != 0)=true) :
  Calls Tryz.prog 171 #[.agg #[.int .i64 k,.int .i64 nu,.string nm,.string ag,.slice la na ca,.slice lp np cp]] W fun e W'=>e=.returned (.bool false)∧Old W W':=by
 have O1:Old W (W.alloc (.cells #[.int .i64 k,.int .i64 nu,.string nm,.string ag,.slice la na ca,.slice lp np cp] 32)):=(Old.refl W).alloc _;have kX:=Blk.new W #[.int .i64 k,.int .i64 nu,.string nm,.string ag,.slice la na ca,.slice lp np cp] 32;obtain⟨yZ,yJ,yQ,yi,ya,yl⟩:=kX.c6
 go_enter Tryz.func171,Tryz.ntmps171
 go_wp2;go_ret;exact⟨rfl,O1⟩
theorem znw(k nu:Int)(nm ag:ByteArray)(la:Option Addr)(na ca:Nat)(lp:Option Addr)(np cp:Nat)(W:World)(h1:(1:Int)=1)(hp:decide ((0:Int)<np)=true)(hp2:decide (0<np)=true) :
  Calls Tryz.prog 171 #[.agg #[.int .i64 1,.int .i64 nu,.string nm,.string ag,.slice la na ca,.slice lp np cp]] W fun e W'=>e=.returned (.bool false)∧Old W W':=by
 have O1:Old W (W.alloc (.cells #[.int .i64 1,.int .i64 nu,.string nm,.string ag,.slice la na ca,.slice lp np cp] 32)):=(Old.refl W).alloc _;have kX:=Blk.new W #[.int .i64 1,.int .i64 nu,.string nm,.string ag,.slice la na ca,.slice lp np cp] 32;obtain⟨yZ,yJ,yQ,yi,ya,yl⟩:=kX.c6
 go_enter Tryz.func171,Tryz.ntmps171
 go_wp2;go_ret;exact⟨rfl,O1⟩
theorem zpk(k nu:Int)(nm ag:ByteArray)(la:Option Addr)(na ca:Nat)(lp:Option Addr)(np cp:Nat)(W:World)(h1:(k != 1)=true)(h8:(k != 8)=true)(hp:decide ((0:Int)<np)=true)(hp2:decide (0<np)=true) :
  Calls Tryz.prog 171 #[.agg #[.int .i64 k,.int .i64 0,.string nm,.string ag,.slice la na ca,.slice lp np cp]] W fun e W'=>e=.returned (.bool false)∧Old W W':=by
 have O1:Old W (W.alloc (.cells #[.int .i64 k,.int .i64 0,.string nm,.string ag,.slice la na ca,.slice lp np cp] 32)):=(Old.refl W).alloc _;have kX:=Blk.new W #[.int .i64 k,.int .i64 0,.string nm,.string ag,.slice la na ca,.slice lp np cp] 32;obtain⟨yZ,yJ,yQ,yi,ya,yl⟩:=kX.c6
 go_enter Tryz.func171,Tryz.ntmps171
 go_wp2;go_ret;exact⟨rfl,O1⟩
theorem zpl(k nu:Int)(nm ag:ByteArray)(la:Option Addr)(na ca:Nat)(lp:Option Addr)(np cp:Nat)(W:World)(h1:(k==1)=false)(h2:(k==2)=false)(h3:(k==3)=false)(h4:(k==4)=false)(h5:(k==5)=false)(h6:(k==6)=false)(h7:(k==7)=false)(h8:(k==8)=false)(h9:(k==9)=false)(m1:(k != 1)=true)(m8:(k != 8)=true) :
  Calls Tryz.prog 171 #[.agg #[.int .i64 k,.int .i64 0,.string nm,.string ag,.slice la na ca,.slice lp 0 cp]] W fun e W'=>e=.returned (.bool false)∧Old W W':=by
 have O1:Old W (W.alloc (.cells #[.int .i64 k,.int .i64 0,.string nm,.string ag,.slice la na ca,.slice lp 0 cp] 32)):=(Old.refl W).alloc _;have kX:=Blk.new W #[.int .i64 k,.int .i64 0,.string nm,.string ag,.slice la na ca,.slice lp 0 cp] 32;obtain⟨yZ,yJ,yQ,yi,ya,yl⟩:=kX.c6
 go_enter Tryz.func171,Tryz.ntmps171
 go_wp2;go_ret;exact⟨rfl,O1⟩
def opL(l:List UInt8):Bool:=l == [43]||l == [45]||l == [42]||l == [47]||l == [37]||l == [60]||l == [61]
def zwo(k nu:Int)(s g:List UInt8)(n p:Nat):Bool:=
 if (k≠1∧nu≠0)∨(k≠8∧0<p) then false
 else if k=1 then (s == [])&&(g == [])&&(n==0)
 else if k=2 then (Lx.kind s==2)&&(g == [])&&(n==0)
 else if k=3 then conN s n&&(g == [])
 else if k=4 then (s == [])&&(g == [])&&(n==2)
 else if k=5 then (s == [])&&(Lx.kind g==2)&&(n==1)
 else if k=6 then (Lx.kind s==2)&&(g == [])&&(n==2)
 else if k=7 then (Lx.kind s==2)&&(Lx.kind g==2)&&(n==2)
 else if k=8 then (s == [])&&(g == [])&&(decide ((1:Int)≤p)&&decide ((p:Int)≤16))&&(n==p+1)
 else if k=9 then opL s&&(g == [])&&(n==2)
 else false
theorem zsd(k nu:Int)(nm ag:ByteArray)(hs:nm.size≤140737488355328)(vE:ag.size≤140737488355328)(la:Option Addr)(na ca:Nat)(lp:Option Addr)(np cp:Nat)(po:np≤140737488355328)(W:World)(hg:Gl W) :
  Calls Tryz.prog 171 #[.agg #[.int .i64 k,.int .i64 nu,.string nm,.string ag,.slice la na ca,.slice lp np cp]] W fun e W'=>e=.returned (.bool (zwo k nu nm.toList ag.toList na np))∧Old W W':=by
 unfold zwo
 by_cases h1:k≠1∧nu≠0
 ·rw [if_pos (.inl h1)];exact zsc k nu nm ag la na ca lp np cp W (by simpa using h1.1) (by simpa using h1.2)
 ·by_cases h2:k≠8∧0<np
  ·rw [if_pos (.inr h2)];have d1:decide ((0:Int)<np)=true:=qyl (by omega);have d2:decide (0<np)=true:=qyl h2.2
   by_cases hk:k=1
   ·subst hk;exact znw 1 nu nm ag la na ca lp np cp W rfl d1 d2
   ·have hnu:nu=0:=(by omega);subst hnu;exact zpk k 0 nm ag la na ca lp np cp W (by simpa using hk) (by simpa using h2.1) d1 d2
  ·rw [if_neg (by rintro (h | h);exact h1 h;exact h2 h)]
   by_cases k1:k=1
   ·subst k1;have hp:np=0:=(by omega);subst hp;rw [if_pos rfl];exact zwn nu nm ag hs vE la na ca lp 0 cp (by omega) W hg
   ·have hnu:nu=0:=(by omega);subst hnu;rw [if_neg k1]
    by_cases k8:k=8
    ·subst k8;exact zwg 0 nm ag hs vE la na ca lp np cp po W hg
    ·have hp:np=0:=(by omega);subst hp
     by_cases k2:k=2
     ·subst k2;exact zwm 0 nm ag hs vE la na ca lp 0 cp (by omega) W hg
     ·rw [if_neg k2]
      by_cases k3:k=3
      ·subst k3;exact zwl 0 nm ag hs vE la na ca lp 0 cp (by omega) W hg
      ·rw [if_neg k3]
       by_cases k4:k=4
       ·subst k4;exact zwk 0 nm ag hs vE la na ca lp 0 cp (by omega) W hg
       ·rw [if_neg k4]
        by_cases k5:k=5
        ·subst k5;exact zwj 0 nm ag hs vE la na ca lp 0 cp (by omega) W hg
        ·rw [if_neg k5]
         by_cases k6:k=6
         ·subst k6;exact zwi 0 nm ag hs vE la na ca lp 0 cp (by omega) W hg
         ·rw [if_neg k6]
          by_cases k7:k=7
          ·subst k7;exact zwh 0 nm ag hs vE la na ca lp 0 cp (by omega) W hg
          ·rw [if_neg k7,if_neg k8]
           by_cases k9:k=9
           ·subst k9;exact zwf 0 nm ag hs vE la na ca lp 0 cp (by omega) W hg
           ·rw [if_neg k9];exact zpl k 0 nm ag la na ca lp 0 cp W (by simpa using k1) (by simpa using k2) (by simpa using k3) (by simpa using k4) (by simpa using k5) (by simpa using k6) (by simpa using k7) (by simpa using k8) (by simpa using k9) (by simpa using k1) (by simpa using k8)
mutual
def zha:Sx.Ex→Bool
 | .mk k u s g args pats=>zwo k u s g args.length pats.length&&zkv args&&zhi pats
def zkv:List Sx.Ex→Bool
 | []=>true
 | p::r=>zha p&&zkv r
def zci:Sx.Ex→Prop
 | .mk _ _ s g args pats=>s.length≤140737488355328∧g.length≤140737488355328∧zdm args∧zc8 pats∧pats.length≤140737488355328
def zdm:List Sx.Ex→Prop
 | []=>True
 | p::r=>zci p∧zdm r
end
theorem zku : ∀(l:List Sx.Ex),zkv l=l.all zha
 | []=>by rw [zkv];rfl
 | p::r=>by rw [zkv,zku r];rfl
theorem zhf : ∀(l:List Sx.Ex),zdm l→∀p∈l,zci p
 | [],_,p,hp=>by cases hp
 | a::r,h,p,hp=>by
  rw [zdm] at h;rcases List.mem_cons.1 hp with rfl | hp
  ·exact h.1
  ·exact zhf r h.2 p hp
theorem zbm{w:World}{F:Nat→Prop}{e:TypeId}{size n:Nat}{sv:Value}{xs:List Value}(h:RowAt w F e size sv n xs):n≤maxLen:=by
 rcases h.1.2 with ⟨_,h⟩ | ⟨g,cap,vy,hv,_,_,h1,h2,_⟩
 ·rw [h];exact qyi _
 ·omega
theorem zei(p:Sx.Ex)(F:Nat→Prop)(v:Value)(W:World)(hs:zci p)(h:ExAt W F p v)(hg:Gl W) :
  Calls Tryz.prog 96 #[v] W fun e W'=>e=.returned (.bool (zha p))∧Old W W':=by
 match p with
 | .mk k u s g args pats=>
  rw [ExAt] at h;obtain⟨sv,xs,pv,ps,rfl,qK,yP,sB,bW⟩:=h;obtain⟨la,c,rfl⟩:=zad qK.1;obtain⟨lp,cp,rfl⟩:=zad sB.1;rw [zci] at hs;have hl:(⟨s.toArray⟩:ByteArray).toList=s:=qyw s;have tI:(⟨g.toArray⟩:ByteArray).toList=g:=qyw g;have qm:=zpm k u ⟨s.toArray⟩ ⟨g.toArray⟩ la args.length c lp pats.length cp (zwo k u s g args.length pats.length) (zkv args) (zhi pats) W
   (fun W' o=>by
    have:=zsd k u ⟨s.toArray⟩ ⟨g.toArray⟩ (by show s.toArray.size≤_;simpa using hs.1) (by show g.toArray.size≤_;simpa using hs.2.1) la args.length c lp pats.length cp hs.2.2.2.2 W' (hg.old o)
    rwa [hl,tI] at this)
   (fun W' o=>by
    rw [zku];exact zxc zha W' F (.slice la args.length c) args xs (qK.keep o (fun _ _ e=>e)) (ExsAt.keep o (fun _ _ e=>e) _ _ yP) (fun q hq v kf o' hv=>zei q F v kf (zhf args hs.2.2.1 q hq) hv (hg.old (o.trans o'))))
   (fun W' o=>by
    rw [zg9];exact zq0 zsb W' F (.slice lp pats.length cp) pats ps (sB.keep o (fun _ _ e=>e)) (PasAt.keep o (fun _ _ e=>e) _ _ bW) (fun q hq v kf o' hv=>znv q F v kf (zfa pats hs.2.2.2.1 q hq) hv (hg.old (o.trans o'))))
  rw [zha];exact qm
termination_by SizeOf.sizeOf p
decreasing_by
 have:=List.sizeOf_lt_of_mem hq;simp;omega
end Go.Proofs.YtclgbmmambkiaaaGreatDoor
namespace Sx
theorem zwd(f:Fo):(kids f).length=f.es.length+(f.ps.length+f.ts.length):=by simp [kids]
theorem zyy{f:Fo}{i:Nat}(h:i<f.es.length):(kids f)[i]? = some (kidE f.es[i]):=by
 unfold kids;rw [List.getElem?_append_left (by simpa using h),List.getElem?_map,List.getElem?_eq_getElem h];rfl
theorem zyx{f:Fo}{i:Nat}(h:i<f.ps.length):(kids f)[f.es.length+i]? = some (kidP f.ps[i]):=by
 unfold kids;rw [List.getElem?_append_right (by simp),List.getElem?_append_left (by simpa using h),List.getElem?_map];simp [h]
theorem zyw{f:Fo}{i:Nat}(h:i<f.ts.length):(kids f)[f.es.length+(f.ps.length+i)]? = some (kidT f.ts[i]):=by
 unfold kids;rw [List.getElem?_append_right (by simp),List.getElem?_append_right (by simp),List.getElem?_map];simp [h]
end Sx
namespace Go.Proofs.YtclgbmmambkiaaaGreatDoor
open Go.RowKit
attribute [local go_sem] Oper.semAt_some
def zfr(N:Nat)(J:Nat→World→Prop)(QF:World→Prop)(i:Nat)(W:World)(e:Ending)(W':World):Prop:=
 Fr (fun k=>k<N) W W'∧((e=.returned (.bool true)∧J (i+1) W')∨(e=.returned (.bool false)∧QF W'))
def zvg(len:Nat)(J:Nat→World→Prop)(QF:World→Prop)(e:Ending)(W:World):Prop:=e=.returned (.tuple #[])∧(J len W∨QF W)
theorem zj6(n:Nat)(hn:1≤n)(l:Nat)(w:World)(f:Sx.Fo)(F:Nat→Prop)(la lp lt:Option Addr)(ca cp ct:Nat)
  (J:Nat→World→Prop)(QF:World→Prop)
  (hJ : ∀i W,J i W→FoAt W F f (.agg #[.slice la f.es.length ca,.slice lp f.ps.length cp,.slice lt f.ts.length ct]))
  (hO : ∀i W W',J i W→Old W W'→J i W')
  (hY : ∀(i:Nat) (k:Sx.Fo) (kv:Value) (W:World),(Sx.kids f)[i]? = some k→FoAt W F k kv→J i W→YieldAt Fence.wide (n-1) Tryz.prog l #[kv] W (zfr w.heap.size J QF i W))
  (h0:J 0 w) :
  CallsIn Fence.wide n Tryz.prog 135 #[.agg #[.slice la f.es.length ca,.slice lp f.ps.length cp,.slice lt f.ts.length ct],.func (.yield l) #[] #[]] w (zvg (Sx.kids f).length J QF):=by
 have hlen:=Sx.zwd f;have HLEN:=qya hlen;clear hlen;have h1:=hO _ _ _ h0 ((Old.refl w).alloc (.cells #[.slice la f.es.length ca,.slice lp f.ps.length cp,.slice lt f.ts.length ct] 120));have kB:=Blk.new w #[.slice la f.es.length ca,.slice lp f.ps.length cp,.slice lt f.ts.length ct] 120;have b0:=kB.c 0 (.slice la f.es.length ca) rfl;refine callsIn_of_wp Tryz.func135 rfl trivial ?_ rfl;simp only [Tryz.ntmps135,qxg,qxh,qxi,Nat.reduceAdd,Nat.reduceSub,qxj,qxk,qxl,qxm,qxn,qxo]
 gi_wp2_with fail
 gi_loopg [13] f.es.length (fun g s wr=>∃i:Nat,g=f.es.length-i∧i≤f.es.length∧s=.int .i64 i∧J (i) wr∧Blk wr w.heap.size #[.slice la f.es.length ca,.slice lp f.ps.length cp,.slice lt f.ts.length ct] 120)
 case atStart=>exact⟨0,rfl,qyi _,rfl,h1,kB⟩
 case round=>
  obtain⟨i,hg,hi,rfl,hj,hB⟩:=hrel;have HG:=qya hg;clear hg;cases hd:decide ((i:Int)<(f.es.length:Int))
  ·have he:i=f.es.length:=(by simp only [qyn] at hd;omega);have xq:decide (i<f.es.length)=false:=qyk (by omega);have hj1:J (f.es.length+0) wr:=(by rw [he] at hj;exact hj);have kB1:=hB;have bp:=hB.c 1 (.slice lp f.ps.length cp) rfl;clear he hi hj HG
   gi_wp2_with fail
   gi_loopg [29] f.ps.length (fun g s wr=>∃i:Nat,g=f.ps.length-i∧i≤f.ps.length∧s=.int .i64 i∧J (f.es.length+i) wr∧Blk wr w.heap.size #[.slice la f.es.length ca,.slice lp f.ps.length cp,.slice lt f.ts.length ct] 120)
   case atStart=>exact⟨0,rfl,qyi _,rfl,hj1,kB1⟩
   case round=>
    obtain⟨i,hg,hi,rfl,hj,hB⟩:=hrel;have HG:=qya hg;clear hg;cases hd:decide ((i:Int)<(f.ps.length:Int))
    ·have he:i=f.ps.length:=(by simp only [qyn] at hd;omega);have xq:decide (i<f.ps.length)=false:=qyk (by omega);have lM:J (f.es.length+(f.ps.length+0)) wr:=(by rw [he] at hj;exact hj);have fH:=hB;have bt:=hB.c 2 (.slice lt f.ts.length ct) rfl;clear he hi hj HG
     gi_wp2_with fail
     gi_loopg [43] f.ts.length (fun g s wr=>∃i:Nat,g=f.ts.length-i∧i≤f.ts.length∧s=.int .i64 i∧J (f.es.length+(f.ps.length+i)) wr∧Blk wr w.heap.size #[.slice la f.es.length ca,.slice lp f.ps.length cp,.slice lt f.ts.length ct] 120)
     case atStart=>exact⟨0,rfl,qyi _,rfl,lM,fH⟩
     case round=>
      obtain⟨i,hg,hi,rfl,hj,hB⟩:=hrel;have HG:=qya hg;clear hg;cases hd:decide ((i:Int)<(f.ts.length:Int))
      ·have he:i=f.ts.length:=(by simp only [qyn] at hd;omega);have xq:decide (i<f.ts.length)=false:=qyk (by omega);have hj3:J (Sx.kids f).length wr:=(by rw [HLEN.out];rw [he] at hj;exact hj);clear he hi hj HG;gi_wp2
       go_end0
       exact⟨rfl,.inl hj3⟩
      ·have qx:i<f.ts.length:=(by simp only [qyo] at hd;omega);have xq:decide (i<f.ts.length)=true:=qyl qx;obtain⟨sv,xs,pv,ps,tv,ts,hv,r1,r2,r3,r4,r5,r6⟩:=hJ _ _ hj;cases hv;have qY:f.ts.length≤maxLen:=zbm r5;obtain⟨a0,a1,e0,e1,vY⟩:=TysAt.nth f.ts ts r6 i qx;obtain⟨nm,l2,n2,c2,vr⟩:=vY.parts;cases vr;obtain⟨g,cap,xf,-,-⟩:=r5.1.form (by omega);cases xf;have d0:wr.cell? ⟨g,i*2,none⟩=some (.string nm):=(by rw [r5.1.cellAt (i*2) (by omega),e0]);have d1:wr.cell? ⟨g,i*2+1,none⟩=some (.slice l2 n2 c2):=(by rw [r5.1.cellAt (i*2+1) (by omega),e1]);have uh:=Sx.zyw qx;have bM:=vY.kid;obtain⟨y,hy⟩ : ∃y,Sx.kidT f.ts[i]=y:=⟨_,rfl⟩;rw [hy] at uh bM;clear hy vY r1 r2 r3 r4 r5 r6 e0 e1;have jy:wrap64 ((i:Int)+1)=((i+1:Nat):Int):=by
        rw [IntWalk.wrap64_in _ (by unfold maxLen at qY;omega)];omega
       have kX:=Blk.new wr #[.string nm,.slice l2 n2 c2] 35;obtain⟨x0,x1⟩:=kX.c2;have oX:=(Old.refl wr).alloc (.cells #[.string nm,.slice l2 n2 c2] 35);have sI:=hO _ _ _ hj oX;have sA:=bM.keep oX (fun _ _ e=>e);have hBX:=Blk.keep hB oX (fun e=>e);obtain⟨fn,tmps,assign,body,hy,vA⟩:=hY _ y _ _ uh sA sI;have ze:=qya jy;have zw:=qya qx;clear jy hi qY qx uh sI sA bM hj hB
       gi_wp2_with fail
       refine vA.mono ?_;rintro e w4 ⟨f4,⟨rfl,s6⟩ | ⟨rfl,hf⟩⟩
       ·have eK:=Blk.keep hBX f4 (by omega);have jy:=ze.out;clear hy vA;gi_wp2
        go_roundg (f.ts.length-(i+1))
        case measure=>have:=zw.out;have:=HG.out;omega
        case rel=>exact⟨i+1,rfl,zw.out,by first | rfl | rw [ze.out],s6,eK⟩
       ·clear hy vA;gi_wp2
        go_end0
        exact⟨rfl,.inr hf⟩
    ·have qx:i<f.ps.length:=(by simp only [qyo] at hd;omega);have xq:decide (i<f.ps.length)=true:=qyl qx;obtain⟨sv,xs,pv,ps,tv,ts,hv,r1,r2,r3,r4,r5,r6⟩:=hJ _ _ hj;cases hv;have qY:f.ps.length≤maxLen:=zbm r3;obtain⟨a0,a1,a2,e0,e1,e2,vY⟩:=PasAt.nth f.ps ps r4 i qx;obtain⟨kd,nm,l2,n2,c2,vr⟩:=vY.parts;cases vr;obtain⟨g,cap,xf,-,-⟩:=r3.1.form (by omega);cases xf;have d0:wr.cell? ⟨g,i*3,none⟩=some (.int .i64 kd):=(by rw [r3.1.cellAt (i*3) (by omega),e0]);have d1:wr.cell? ⟨g,i*3+1,none⟩=some (.string nm):=(by rw [r3.1.cellAt (i*3+1) (by omega),e1]);have d2:wr.cell? ⟨g,i*3+2,none⟩=some (.slice l2 n2 c2):=(by rw [r3.1.cellAt (i*3+2) (by omega),e2]);have uh:=Sx.zyx qx;have bM:=vY.kid;obtain⟨y,hy⟩ : ∃y,Sx.kidP f.ps[i]=y:=⟨_,rfl⟩;rw [hy] at uh bM;clear hy vY r1 r2 r3 r4 r5 r6 e0 e1 e2;have jy:wrap64 ((i:Int)+1)=((i+1:Nat):Int):=by
      rw [IntWalk.wrap64_in _ (by unfold maxLen at qY;omega)];omega
     have kX:=Blk.new wr #[.int .i64 kd,.string nm,.slice l2 n2 c2] 37;obtain⟨x0,x1,x2⟩:=kX.c3;have oX:=(Old.refl wr).alloc (.cells #[.int .i64 kd,.string nm,.slice l2 n2 c2] 37);have sI:=hO _ _ _ hj oX;have sA:=bM.keep oX (fun _ _ e=>e);have hBX:=Blk.keep hB oX (fun e=>e);obtain⟨fn,tmps,assign,body,hy,vA⟩:=hY _ y _ _ uh sA sI;have ze:=qya jy;have zw:=qya qx;clear jy hi qY qx uh sI sA bM hj hB
     gi_wp2_with fail
     refine vA.mono ?_;rintro e w4 ⟨f4,⟨rfl,s6⟩ | ⟨rfl,hf⟩⟩
     ·have eK:=Blk.keep hBX f4 (by omega);have jy:=ze.out;clear hy vA;gi_wp2
      go_roundg (f.ps.length-(i+1))
      case measure=>have:=zw.out;have:=HG.out;omega
      case rel=>exact⟨i+1,rfl,zw.out,by first | rfl | rw [ze.out],s6,eK⟩
     ·clear hy vA;gi_wp2
      go_end0
      exact⟨rfl,.inr hf⟩
  ·have qx:i<f.es.length:=(by simp only [qyo] at hd;omega);have xq:decide (i<f.es.length)=true:=qyl qx;obtain⟨sv,xs,pv,ps,tv,ts,hv,r1,r2,r3,r4,r5,r6⟩:=hJ _ _ hj;cases hv;have qY:f.es.length≤maxLen:=zbm r1;obtain⟨a0,a1,a2,a3,a4,a5,e0,e1,e2,e3,e4,e5,vY⟩:=ExsAt.nth f.es xs r2 i qx;obtain⟨kd,nu,nm,ag,l2,n2,c2,l3,n3,c3,vr⟩:=vY.parts;cases vr;obtain⟨g,cap,xf,-,-⟩:=r1.1.form (by omega);cases xf;have d0:wr.cell? ⟨g,i*6,none⟩=some (.int .i64 kd):=(by rw [r1.1.cellAt (i*6) (by omega),e0]);have d1:wr.cell? ⟨g,i*6+1,none⟩=some (.int .i64 nu):=(by rw [r1.1.cellAt (i*6+1) (by omega),e1]);have d2:wr.cell? ⟨g,i*6+2,none⟩=some (.string nm):=(by rw [r1.1.cellAt (i*6+2) (by omega),e2]);have d3:wr.cell? ⟨g,i*6+3,none⟩=some (.string ag):=(by rw [r1.1.cellAt (i*6+3) (by omega),e3]);have d4:wr.cell? ⟨g,i*6+4,none⟩=some (.slice l2 n2 c2):=(by rw [r1.1.cellAt (i*6+4) (by omega),e4]);have d5:wr.cell? ⟨g,i*6+5,none⟩=some (.slice l3 n3 c3):=(by rw [r1.1.cellAt (i*6+5) (by omega),e5]);have uh:=Sx.zyy qx;have bM:=vY.kid;obtain⟨y,hy⟩ : ∃y,Sx.kidE f.es[i]=y:=⟨_,rfl⟩;rw [hy] at uh bM;clear hy vY r1 r2 r3 r4 r5 r6 e0 e1 e2 e3 e4 e5;have jy:wrap64 ((i:Int)+1)=((i+1:Nat):Int):=by
    rw [IntWalk.wrap64_in _ (by unfold maxLen at qY;omega)];omega
   have kX:=Blk.new wr #[.int .i64 kd,.int .i64 nu,.string nm,.string ag,.slice l2 n2 c2,.slice l3 n3 c3] 32;obtain⟨x0,x1,x2,x3,x4,x5⟩:=kX.c6;have oX:=(Old.refl wr).alloc (.cells #[.int .i64 kd,.int .i64 nu,.string nm,.string ag,.slice l2 n2 c2,.slice l3 n3 c3] 32);have sI:=hO _ _ _ hj oX;have sA:=bM.keep oX (fun _ _ e=>e);have hBX:=Blk.keep hB oX (fun e=>e);obtain⟨fn,tmps,assign,body,hy,vA⟩:=hY _ y _ _ uh sA sI;have ze:=qya jy;have zw:=qya qx;clear jy hi qY qx uh sI sA bM hj hB
   gi_wp2_with fail
   refine vA.mono ?_;rintro e w4 ⟨f4,⟨rfl,s6⟩ | ⟨rfl,hf⟩⟩
   ·have eK:=Blk.keep hBX f4 (by omega);have jy:=ze.out;clear hy vA;gi_wp2
    go_roundg (f.es.length-(i+1))
    case measure=>have:=zw.out;have:=HG.out;omega
    case rel=>exact⟨i+1,rfl,zw.out,by first | rfl | rw [ze.out],s6,eK⟩
   ·clear hy vA;gi_wp2
    go_end0
    exact⟨rfl,.inr hf⟩
end Go.Proofs.YtclgbmmambkiaaaGreatDoor
namespace Sx
def ze1(most:Nat)(f:Fo)(i:Nat):Nat:=
 match most with
 | 0=>0
 | m+1=>maxL (((kids f).take i).map fun k=>capD m k+1)
theorem zkk(most:Nat)(f:Fo):ze1 most f 0=0:=by cases most <;> simp [ze1,maxL]
theorem zrq{m:Nat}{f k:Fo}{i:Nat}(h:(kids f)[i]? = some k):ze1 (m+1) f (i+1)=max (ze1 (m+1) f i) (capD m k+1):=by
 simp only [ze1];rw [List.take_add_one,h];simp only [Option.toList_some,List.map_append,List.map_cons,List.map_nil,zt8]
theorem zt0{m:Nat}{f:Fo} : ze1 (m+1) f (kids f).length=capD (m+1) f:=by
 simp only [ze1,List.take_length,capD]
end Sx
namespace Go.Proofs.YtclgbmmambkiaaaGreatDoor
open Go.RowKit
attribute [local go_sem] Oper.semAt_some
structure DSt(K D B N0:Nat)(W:World):Prop where
 k:Blk W K #[.map (some B)] 183
 d:Blk W D #[.func (.func 143) #[] #[.pointer (some ⟨K,0,none⟩),.pointer (some ⟨D,0,none⟩)]] 184
 m:MapAt W B N0
theorem DSt.keep{S:Nat→Prop}{K D B N0:Nat}{W W':World}(h:DSt K D B N0 W)(hf:Fr S W W')(hn : ∀k,k<N0→¬S k)(hK : ¬S K)(hD : ¬S D)(hB : ¬S B):DSt K D B N0 W':=
 ⟨h.k.keep hf hK,h.d.keep hf hD,h.m.keep hf hn hB⟩
def zgt(K D B N0:Nat)(r:Nat)(W:World)(e:Ending)(W':World):Prop:=e=.returned (.int .i64 r)∧DSt K D B N0 W'∧Fr (fun k=>k=B) W W'
structure DepAt(K D B N0 s q:Nat)(w0:World)(fv kv:Array Value)(most:Nat)(r dp:Int)(lo:Loop)(W:World):Prop where
 st:DSt K D B N0 W
 bf:Blk W s fv 120
 bm:Blk W (s+1) #[.int .i64 most] 3
 br:Blk W (s+2) #[.int .i64 r] 3
 bl:Blk W q kv 190
 bd:Blk W (q+1) #[.int .i64 dp] 3
 df:W.heap[q+2]? = some (.deferred (some []))
 lp:W.heap[q+3]? = some (.loop lo)
 fr:Fr (fun k=>k=B) w0 W
theorem DepAt.keep{S:Nat→Prop}{K D B N0 s q:Nat}{w0:World}{fv kv:Array Value}{most:Nat}{r dp:Int}{lo:Loop}{W W':World}(h:DepAt K D B N0 s q w0 fv kv most r dp lo W)(hf:Fr S W W')(hn : ∀k,k<s→¬S k)(h1 : ∀k,s≤k→k≤q+3→¬S k)(hK:K<s)(hD:D<s)(hB:B<s)(hN:N0≤s)(hq:s+3≤q)(hw:w0.heap.size=s):DepAt K D B N0 s q w0 fv kv most r dp lo W':=
 ⟨h.st.keep hf (fun k hk=>hn k (by omega)) (hn _ hK) (hn _ hD) (hn _ hB),h.bf.keep hf (h1 _ (by omega) (by omega)),h.bm.keep hf (h1 _ (by omega) (by omega)),h.br.keep hf (h1 _ (by omega) (by omega)),h.bl.keep hf (h1 _ (by omega) (by omega)),h.bd.keep hf (h1 _ (by omega) (by omega)),hf.heap h.df (h1 _ (by omega) (by omega)),hf.heap h.lp (h1 _ (by omega) (by omega)),h.fr.trans' hf (fun k hk e=>absurd e (hn k (by omega)))⟩
section
variable {K D B N0 s q:Nat} {w0:World} {fv kv:Array Value} {most:Nat} {r dp:Int} {lo:Loop} {W:World}
theorem DepAt.loopTo(h:DepAt K D B N0 s q w0 fv kv most r dp lo W)(hK:K<s)(hD:D<s)(hB:B<s)(hN:N0≤s)(hq:s+3≤q)(hw:w0.heap.size=s)(lz:Loop):DepAt K D B N0 s q w0 fv kv most r dp lz (W.putObj (q+3) (.loop lz)):=by
 have hf:Fr (fun k=>k=q+3) W (W.putObj (q+3) (.loop lz)):=(Fr.refl _ W).putObj _ _ (fun _=>rfl);exact⟨h.st.keep hf (fun k hk=>by omega) (by omega) (by omega) (by omega),h.bf.keep hf (by omega),h.bm.keep hf (by omega),h.br.keep hf (by omega),h.bl.keep hf (by omega),h.bd.keep hf (by omega),hf.heap h.df (by omega),World.putObj_heap_same (Array.getElem?_eq_some_iff.1 h.lp).1,h.fr.trans' hf (fun k hk e=>by omega)⟩
theorem DepAt.setR(h:DepAt K D B N0 s q w0 fv kv most r dp lo W)(hK:K<s)(hD:D<s)(hB:B<s)(hN:N0≤s)(hq:s+3≤q)(hw:w0.heap.size=s)(r':Int):DepAt K D B N0 s q w0 fv kv most r' dp lo (W.setCell ⟨s+2,0,none⟩ (.int .i64 r')):=by
 have hf:Fr (fun k=>k=s+2) W (W.setCell ⟨s+2,0,none⟩ (.int .i64 r')):=(Fr.refl (fun k=>k=s+2) W).setCell ⟨s+2,0,none⟩ (fun _=>rfl) _;exact⟨h.st.keep hf (fun k hk=>by omega) (by omega) (by omega) (by omega),h.bf.keep hf (by omega),h.bm.keep hf (by omega),h.br.set 0 _,h.bl.keep hf (by omega),h.bd.keep hf (by omega),hf.heap h.df (by omega),hf.heap h.lp (by omega),h.fr.trans' hf (fun k hk e=>by omega)⟩
theorem DepAt.setD(h:DepAt K D B N0 s q w0 fv kv most r dp lo W)(hK:K<s)(hD:D<s)(hB:B<s)(hN:N0≤s)(hq:s+3≤q)(hw:w0.heap.size=s)(d':Int):DepAt K D B N0 s q w0 fv kv most r d' lo (W.setCell ⟨q+1,0,none⟩ (.int .i64 d')):=by
 have hf:Fr (fun k=>k=q+1) W (W.setCell ⟨q+1,0,none⟩ (.int .i64 d')):=(Fr.refl (fun k=>k=q+1) W).setCell ⟨q+1,0,none⟩ (fun _=>rfl) _;exact⟨h.st.keep hf (fun k hk=>by omega) (by omega) (by omega) (by omega),h.bf.keep hf (by omega),h.bm.keep hf (by omega),h.br.keep hf (by omega),h.bl.keep hf (by omega),h.bd.set 0 _,hf.heap h.df (by omega),hf.heap h.lp (by omega),h.fr.trans' hf (fun k hk e=>by omega)⟩
theorem DepAt.call{W':World}(h:DepAt K D B N0 s q w0 fv kv most r dp lo W)(hB:B<s)(hq:s+3≤q)(hf:Fr (fun k=>k=B) W W')(hst:DSt K D B N0 W'):DepAt K D B N0 s q w0 fv kv most r dp lo W':=
 ⟨hst,h.bf.keep hf (by omega),h.bm.keep hf (by omega),h.br.keep hf (by omega),h.bl.keep hf (by omega),h.bd.keep hf (by omega),hf.heap h.df (by omega),hf.heap h.lp (by omega),h.fr.trans hf⟩
end
def DepJ(K D B N0 s q:Nat)(w0:World)(fv kv:Array Value)(most:Nat)(f:Sx.Fo)(qj:LoopState→Option Code→Loop)(i:Nat)(W:World):Prop:=
 DepAt K D B N0 s q w0 fv kv most 0 (Sx.ze1 most f i) (qj .ready none) W∧Sx.ze1 most f i≤most∧(most=0→i=0)
def DepF(K D B N0 s q:Nat)(w0:World)(fv kv:Array Value)(most:Nat)(f:Sx.Fo)(qj:LoopState→Option Code→Loop)(W:World):Prop:=
 ∃dp,DepAt K D B N0 s q w0 fv kv most (Sx.capD most f) dp (qj .done (some .ret)) W
theorem zpr(n:Nat)(w0:World)(fn:FuncId)(K D B N0 s q:Nat)(hK:K<s)(hD:D<s)(hB:B<s)(hN:N0≤s)(mh:N0≤K)(mp:N0≤D)(rF:N0≤B)(rH:K≠B)(rC:D≠B)(hq:s+3≤q)(hw:w0.heap.size=s)(fv kv:Array Value)
  (most:Nat)(hm:most≤100)(f:Sx.Fo)
  (Ac Bc:Code)(jI:zcj (Tryz.f143.body.getD .skip)=some (Ac,Bc))(tm:Array Value)
  (f0 f1 f8 f9 uL gm gr f14 gn gt gd gf fX fK fV fZ pG dL tl f26 f27 f28 f29 f30 f31 f32 f33 f34 f35 f36 f37 f38 f39 f40 f41 f42 f43 f44 f45 f46 f47:Value)
  (jS:tm=#[f0,f1,.pointer (some ⟨K,0,none⟩),.pointer (some ⟨D,0,none⟩),.pointer (some ⟨s,0,none⟩),.pointer (some ⟨s+1,0,none⟩),.pointer (some ⟨s+2,0,none⟩),.pointer (some ⟨q,0,none⟩),f8,f9,.pointer (some ⟨q+1,0,none⟩),uL,gm,gr,f14,gn,gt,gd,gf,fX,fK,fV,fZ,pG,dL,tl,f26,f27,f28,f29,f30,f31,f32,f33,f34,f35,f36,f37,f38,f39,f40,f41,f42,f43,f44,f45,f46,f47])
  (qj:LoopState→Option Code→Loop)(qu:qj=fun st pe => { state:=st,pending:=pe,fn,tmps:=tm,params:=#[28],assign:=Ac,body:=Bc,defers:=q+2 })
  (F:Nat→Prop)(hF : ∀k,F k→k<N0)
  (hC : ∀m,most=m+1→∀(k:Sx.Fo) (v:Value) (W:World),FoAt W F k v→DSt K D B N0 W→Calls Tryz.prog 143 #[v,.int .i64 m,.pointer (some ⟨K,0,none⟩),.pointer (some ⟨D,0,none⟩)] W (zgt K D B N0 (Sx.capD m k) W))
  (i:Nat)(k:Sx.Fo)(v:Value)(W:World)(hk:(Sx.kids f)[i]? = some k)(bN:FoAt W F k v)
  (h:DepJ K D B N0 s q w0 fv kv most f qj i W) :
  YieldAt Fence.wide n Tryz.prog (q+3) #[v] W (zfr (q+4) (DepJ K D B N0 s q w0 fv kv most f qj) (DepF K D B N0 s q w0 fv kv most f qj) i W):=by
 obtain⟨hM,qX,hz⟩:=h;have km:=hM.lp;have vP:=km;rw [qu] at vP;refine⟨fn,_,Ac,Bc,run_yield (P:=Tryz.prog) (args:=#[v]) vP rfl,roundIn_of_wpIn (F:=Fence.wide) trivial ?_⟩;have j8:=jI;simp only [Tryz.f143,Option.getD_some,zcj,Option.orElse_none,Option.orElse_some,Option.some.injEq,Prod.mk.injEq] at j8;obtain⟨yp,kw⟩:=j8;have gx:q+3<W.heap.size:=(Array.getElem?_eq_some_iff.1 km).1;obtain⟨la,ca,lp,cp,lt,ct,hv⟩:=bN.parts;have HKV:=qya bN;clear bN;subst hv;rw [jS];simp only [Array.foldl,Array.zip,List.zip];rw [← yp];have tF:=qya qu;clear jI yp vP qu;gi_wp2;have qu:=tF.out;clear tF;obtain⟨W1,qd⟩ : ∃W1,W.alloc (.cells #[.slice la k.es.length ca,.slice lp k.ps.length cp,.slice lt k.ts.length ct] 120)=W1:=⟨_,rfl⟩;rw [qd];have nT:Blk W1 W.heap.size #[.slice la k.es.length ca,.slice lp k.ps.length cp,.slice lt k.ts.length ct] 120:=by rw [← qd];exact Blk.new _ _ _
 have O1:Old W W1:=by rw [← qd];exact (Old.refl W).alloc _
 have M1:=hM.keep O1 (fun _ _ e=>e) (fun _ _ _ e=>e) hK hD hB hN hq hw;clear qd;refine⟨_,run_beginRound M1.lp (by rw [qu]),?_⟩;have gj:Hid ({ { qj .ready none with state:=.busy } with state:=.ready,pending:=none } = qj .ready none):=qya (by rw [qu]);have fD:Hid ({ { qj .ready none with state:=.busy } with state:=.done,pending:=some .ret } = qj .done (some .ret)):=qya (by rw [qu]);clear jS qu;have M2:=M1.loopTo hK hD hB hN hq hw { qj .ready none with state:=.busy };obtain⟨W2,jJ⟩ : ∃W2,W1.putObj (q+3) (.loop { qj .ready none with state:=.busy })=W2:=⟨_,rfl⟩;rw [jJ] at M2 ⊢;have F2:Fr (fun k=>k=q+3) W W2:=by rw [← jJ];exact (Fr.old O1).putObj _ _ (fun _=>rfl)
 have wq:Blk W2 W.heap.size #[.slice la k.es.length ca,.slice lp k.ps.length cp,.slice lt k.ts.length ct] 120:=by rw [← jJ];exact nT.putObj (by omega) _
 clear jJ M1 nT O1;have HB:=qya kw;rw [← kw];clear kw;have m0:=M2.bm.c 0 (.int .i64 most) rfl;cases most with
 | zero=>
  have r0:=M2.br.c 0 (.int .i64 0) rfl;have rg:=M2.br.free 0;have hi0:=hz rfl;gi_wp2;have M3:=M2.setR hK hD hB hN hq hw 1;obtain⟨W3,qM⟩ : ∃W3,W2.setCell ⟨s+2,0,none⟩ (.int .i64 1)=W3:=⟨_,rfl⟩;rw [qM] at M3 ⊢;have F3:Fr (fun k=>k=q+3∨k=s+2) W W3:=by rw [← qM];exact (F2.mono (S':=fun k=>k=q+3∨k=s+2) (fun k _ e=>.inl e)).setCell ⟨s+2,0,none⟩ (fun _=>.inr rfl) _
  clear qM;obtain⟨W',qv⟩ : ∃W',W3.putObj (q+3) (.loop (qj .done (some .ret)))=W':=⟨_,rfl⟩;have qy:=run_endRound (P:=Tryz.prog) (some .ret) M3.lp;have qe:(Instr.endRound (q+3) (some .ret)).run Tryz.prog W3=.ok (.bool false) W':=by rw [← qv,← fD.out];exact qy
  have M4:=M3.loopTo hK hD hB hN hq hw (qj .done (some .ret));have F4:Fr (fun k=>k<q+4) W W':=by rw [← qv];exact (F3.mono (S':=fun k=>k<q+4) (fun k _ e=>by omega)).putObj _ _ (fun _=>by omega)
  rw [qv] at M4;have hc:Sx.capD 0 f=1:=by
   unfold Sx.capD;cases hks:Sx.kids f with
   | nil=>rw [hks] at hk;cases hk
   | cons a r=>rfl
  refine⟨_,_,qe,F4,.inr ⟨rfl,Sx.ze1 0 f i,by rw [hc];exact M4⟩⟩
 | succ m=>
  obtain⟨ck,xH⟩ : ∃ck,Sx.capD m k=ck:=⟨_,rfl⟩;have fR:=Sx.zpv m k;have qs:=hC m rfl k _ W2 (HKV.out.keep F2 (fun k hk e=>by have:=hF k hk;omega)) M2.st;rw [xH] at fR qs;have bW:=Sx.zrq (m:=m) hk;rw [xH] at bW;have hov:m<ck→Sx.capD (m+1) f=m+2:=fun qx=>Sx.zu7 (List.mem_iff_getElem?.2 ⟨i,hk⟩) (by rw [xH];exact qx);have HOV:=qya hov;have HPS:=qya bW;have dh:=qya qX;have HCK:=qya xH;have d0:=M2.st.d.cell (i:=0) rfl;obtain⟨t0,t1,t2⟩:=wq.c3;have hnz:(((m+1:Nat):Int)==0)=false:=by simp;omega
  have lP:decide (((m+1:Nat):Int)=0)=false:=by simp;omega
  have hsub:wrap64 (((m+1:Nat):Int)-1)=(m:Int):=by
   rw [IntWalk.wrap64_in _ (by omega)];omega
  have hadd:wrap64 ((ck:Int)+1)=(ck:Int)+1:=by
   rw [IntWalk.wrap64_in _ (by omega)]
  have HADD:=qya hadd;clear hov bW qX xH hz hadd
  gi_wp2_with fail
  refine⟨trivial,fun e=>by simp [Fence.wide] at e,CallsIn.inRound (q+3) ((callsIn_wide.2 qs).mono ?_)⟩;rintro e w3 ⟨rfl,lY,f3⟩;clear hsub hC qs m0 d0 t0 t1 t2 hnz lP;have M3:=M2.call hB hq f3 lY;have m3:=M3.bm.c 0 (.int .i64 ((m+1:Nat):Int)) rfl;have r3:=M3.br.c 0 (.int .i64 0) rfl;have rg3:=M3.br.free 0;have d3:=M3.bd.c 0 (.int .i64 (Sx.ze1 (m+1) f i:Nat)) rfl;have dg3:=M3.bd.free 0
  by_cases qx:m<ck
  ·have g1:decide ((m:Int)+1<(ck:Int)+1)=true:=qyl (by omega);have g2:decide ((m:Int)<(ck:Int))=true:=qyl (by omega);have g3:decide (m<ck)=true:=qyl qx;have en:(0:Int)≤ck:=(by omega);have vK:(ck:Int)≤101:=(by omega);have gN:=qya (And.intro fR (And.intro gx (And.intro hK (And.intro hD (And.intro hB (And.intro hN (And.intro hq hw)))))));clear fR hm gx hK hD hB hN mh mp rF rH rC hq hw hF;gi_wp2;obtain⟨fR,gx,hK,hD,hB,hN,hq,hw⟩:=gN.out;have M4:=M3.setR hK hD hB hN hq hw ((ck:Int)+1);obtain⟨W4,ku⟩ : ∃W4,w3.setCell ⟨s+2,0,none⟩ (.int .i64 ((ck:Int)+1))=W4:=⟨_,rfl⟩;rw [ku] at M4 ⊢;have F4:Fr (fun k=>k=q+3∨k=B∨k=s+2) W W4:=by
    rw [← ku];exact (Fr.trans' (F2.mono (S':=fun k=>k=q+3∨k=B∨k=s+2) (fun k _ e=>.inl e)) f3 (fun k _ e=>.inr (.inl e))).setCell ⟨s+2,0,none⟩ (fun _=>.inr (.inr rfl)) _
   clear ku;obtain⟨W',qv⟩ : ∃W',W4.putObj (q+3) (.loop (qj .done (some .ret)))=W':=⟨_,rfl⟩;have qy:=run_endRound (P:=Tryz.prog) (some .ret) M4.lp;have qe:(Instr.endRound (q+3) (some .ret)).run Tryz.prog W4=.ok (.bool false) W':=(by rw [← qv,← fD.out];exact qy);have M5:=M4.loopTo hK hD hB hN hq hw (qj .done (some .ret));have F5:Fr (fun k=>k<q+4) W W':=(by rw [← qv];exact (F4.mono (S':=fun k=>k<q+4) (fun k _ e=>by omega)).putObj _ _ (fun _=>by omega));rw [qv] at M5;have hc:(ck:Int)+1=((Sx.capD (m+1) f:Nat):Int):=(by rw [HOV.out qx];omega);rw [hc] at M5;exact⟨_,_,qe,F5,.inr ⟨rfl,_,M5⟩⟩
  ·have g1:decide ((m:Int)+1<(ck:Int)+1)=false:=qyk (by omega);have g2:decide ((m:Int)<(ck:Int))=false:=qyk (by omega);have g3:decide (m<ck)=false:=qyk qx;have en:(0:Int)≤ck:=(by omega);have vK:(ck:Int)≤101:=(by omega);have ed:ck≤m:=(by omega);have gN:=qya (And.intro ed (And.intro gx (And.intro hK (And.intro hD (And.intro hB (And.intro hN (And.intro hq hw)))))));clear fR hm gx hK hD hB hN mh mp rF rH rC hq hw hF ed qx;gi_wp2;obtain⟨ed,gx,hK,hD,hB,hN,hq,hw⟩:=gN.out;have hmax:max ((Sx.ze1 (m+1) f i:Nat):Int) ((ck:Int)+1)=((Sx.ze1 (m+1) f (i+1):Nat):Int):=(by rw [HPS.out];omega);have M4:=M3.setD hK hD hB hN hq hw (max ((Sx.ze1 (m+1) f i:Nat):Int) ((ck:Int)+1));obtain⟨W4,ku⟩ : ∃W4,w3.setCell ⟨q+1,0,none⟩ (.int .i64 (max ((Sx.ze1 (m+1) f i:Nat):Int) ((ck:Int)+1)))=W4:=⟨_,rfl⟩;rw [ku] at M4 ⊢;have F4:Fr (fun k=>k=q+3∨k=B∨k=q+1) W W4:=by
    rw [← ku];exact (Fr.trans' (F2.mono (S':=fun k=>k=q+3∨k=B∨k=q+1) (fun k _ e=>.inl e)) f3 (fun k _ e=>.inr (.inl e))).setCell ⟨q+1,0,none⟩ (fun _=>.inr (.inr rfl)) _
   clear ku;obtain⟨W',qv⟩ : ∃W',W4.putObj (q+3) (.loop (qj .ready none))=W':=⟨_,rfl⟩;have qy:=run_endRound (P:=Tryz.prog) none M4.lp;have qe:(Instr.endRound (q+3) none).run Tryz.prog W4=.ok (.bool true) W':=(by rw [← qv,← gj.out];exact qy);have M5:=M4.loopTo hK hD hB hN hq hw (qj .ready none);have F5:Fr (fun k=>k<q+4) W W':=(by rw [← qv];exact (F4.mono (S':=fun k=>k<q+4) (fun k _ e=>by omega)).putObj _ _ (fun _=>by omega));rw [qv,hmax] at M5;have qX:=dh.out;exact⟨_,_,qe,F5,.inl ⟨rfl,M5,by rw [HPS.out];omega,fun e=>by omega⟩⟩
attribute [local go_sem] Oper.semAt_some
theorem Fr.one(W:World)(b i:Nat)(v:Value):Fr (fun k=>k=b) W (W.setCell ⟨b,i,none⟩ v):=(Fr.refl (fun k=>k=b) W).setCell ⟨b,i,none⟩ (fun _=>rfl) v
theorem FoAt.keyed{w:World}{F:Nat→Prop}{f:Sx.Fo}{la lp lt:Option Addr}{ca cp ct:Nat}(h:FoAt w F f (.agg #[.slice la f.es.length ca,.slice lp f.ps.length cp,.slice lt f.ts.length ct]))(W:World) :
  Calls Tryz.prog 144 #[.agg #[.slice la f.es.length ca,.slice lp f.ps.length cp,.slice lt f.ts.length ct]] W fun e w'=>e=.returned (keyF f.es.length f.ps.length f.ts.length la lp lt)∧Old W w':=by
 obtain⟨g1,g2,g3,h1,h2,h3⟩:=h.heads;exact zt9 _ _ _ _ _ _ _ _ _ g1 g2 g3 h1 h2 h3 W
theorem zjh(K D B N0:Nat)(mh:N0≤K)(mp:N0≤D)(rF:N0≤B)(rH:K≠B)(rC:D≠B)(most:Nat)(hm:most≤100)
    (hC : ∀m,most=m+1→∀(F:Nat→Prop),(∀k,F k→k<N0)→∀(k:Sx.Fo) (v:Value) (W:World),FoAt W F k v→DSt K D B N0 W→Calls Tryz.prog 143 #[v,.int .i64 m,.pointer (some ⟨K,0,none⟩),.pointer (some ⟨D,0,none⟩)] W (zgt K D B N0 (Sx.capD m k) W))
    (F:Nat→Prop)(hF : ∀k,F k→k<N0)(f:Sx.Fo)(la lp lt:Option Addr)(ca cp ct:Nat)(w0:World)(hf:FoAt w0 F f (.agg #[.slice la f.es.length ca,.slice lp f.ps.length cp,.slice lt f.ts.length ct]))(hst:DSt K D B N0 w0) :
    CallsIn Fence.wide 3 Tryz.prog 143 #[.agg #[.slice la f.es.length ca,.slice lp f.ps.length cp,.slice lt f.ts.length ct],.int .i64 most,.pointer (some ⟨K,0,none⟩),.pointer (some ⟨D,0,none⟩)] w0 (zgt K D B N0 (Sx.capD most f) w0):=by
  have vw:=mkf;have hK:=hst.k.lt;have hD:=hst.d.lt;have hB:=hst.m.lt;obtain⟨s,hs⟩ : ∃s,w0.heap.size=s:=⟨_,rfl⟩;have HC:=qya hC;clear hC;obtain⟨Wa,fS⟩ : ∃Wa,((w0.alloc (.cells #[.slice la f.es.length ca,.slice lp f.ps.length cp,.slice lt f.ts.length ct] 120)).alloc (.cells #[.int .i64 most] 3)).alloc (.cells #[.int .i64 0] 3)=Wa:=⟨_,rfl⟩;have kF:Blk Wa s #[.slice la f.es.length ca,.slice lp f.ps.length cp,.slice lt f.ts.length ct] 120:=by rw [← fS,← hs];exact ((Blk.new w0 _ _).alloc _).alloc _
  have kM:Blk Wa (s+1) #[.int .i64 most] 3:=by rw [← fS];exact (Blk.new' (by simp [hs]) _ _).alloc _
  have kR:Blk Wa (s+2) #[.int .i64 0] 3:=by rw [← fS];exact Blk.new' (by simp [hs]) _ _
  have Oa:Old w0 Wa:=by rw [← fS];exact (((Old.refl w0).alloc _).alloc _).alloc _
  have za:Wa.heap.size=s+3:=by rw [← fS];simp [hs]
  obtain⟨f0,f1,f2⟩:=kF.c3;rw [← hs] at f0 f1 f2;have HS:=qya hs;have HWA:=qya fS;have ZA:=qya za;rw [← fS] at f0 f1 f2;clear fS hs za;refine callsIn_of_wp_marks Tryz.func143 rfl trivial ?_ rfl;simp only [Tryz.ntmps143,qxg,qxh,qxi,Nat.reduceAdd,Nat.reduceSub,qxj,qxk,qxl,qxm,qxn,qxo]
  gi_wp2_with fail
  rw [HWA.out,HS.out];refine⟨trivial,(callsIn_wide.2 (hf.keyed Wa)).mono ?_⟩;rintro e w2 ⟨rfl,o2⟩;clear f0 f1 f2;obtain⟨q,hq⟩ : ∃q,w2.heap.size=q:=⟨_,rfl⟩;have uU:s+3≤q:=by have:=o2.size;have:=ZA.out;omega
  have hN:N0≤s:=by have:=HS.out;omega
  have tf:K<s:=by have:=HS.out;omega
  have tc:D<s:=by have:=HS.out;omega
  have cK:B<s:=by have:=HS.out;omega
  have O2:Old w0 w2:=Oa.trans o2;have O3:Old w0 (w2.alloc (.cells #[.pointer (zar la f.es.length),.pointer (zar lp f.ps.length),.pointer (zar lt f.ts.length),.int .i64 f.es.length,.int .i64 f.ps.length,.int .i64 f.ts.length] 190)):=O2.alloc _;have st3:DSt K D B N0 (w2.alloc (.cells #[.pointer (zar la f.es.length),.pointer (zar lp f.ps.length),.pointer (zar lt f.ts.length),.int .i64 f.es.length,.int .i64 f.ps.length,.int .i64 f.ts.length] 190)):=hst.keep O3 (fun _ _ e=>e) (fun e=>e) (fun e=>e) (fun e=>e);have kL:Blk (w2.alloc (.cells #[.pointer (zar la f.es.length),.pointer (zar lp f.ps.length),.pointer (zar lt f.ts.length),.int .i64 f.es.length,.int .i64 f.ps.length,.int .i64 f.ts.length] 190)) w2.heap.size #[.pointer (zar la f.es.length),.pointer (zar lp f.ps.length),.pointer (zar lt f.ts.length),.int .i64 f.es.length,.int .i64 f.ps.length,.int .i64 f.ts.length] 190:=Blk.new _ _ _;have F3:Blk (w2.alloc (.cells #[.pointer (zar la f.es.length),.pointer (zar lp f.ps.length),.pointer (zar lt f.ts.length),.int .i64 f.es.length,.int .i64 f.ps.length,.int .i64 f.ts.length] 190)) s _ _:=(kF.keep o2 (fun e=>e)).alloc _;have M3:Blk (w2.alloc (.cells #[.pointer (zar la f.es.length),.pointer (zar lp f.ps.length),.pointer (zar lt f.ts.length),.int .i64 f.es.length,.int .i64 f.ps.length,.int .i64 f.ts.length] 190)) (s+1) _ _:=(kM.keep o2 (fun e=>e)).alloc _;have R3:Blk (w2.alloc (.cells #[.pointer (zar la f.es.length),.pointer (zar lp f.ps.length),.pointer (zar lt f.ts.length),.int .i64 f.es.length,.int .i64 f.ps.length,.int .i64 f.ts.length] 190)) (s+2) _ _:=(kR.keep o2 (fun e=>e)).alloc _;have hf3:=hf.keep O3 (fun _ _ e=>e);have sS:=st3.m.look hf3;have k0:=st3.k.c 0 (.map (some B)) rfl;obtain⟨l0,l1,l2,l3,l4,l5⟩:=kL.c6;unfold keyF at sS ⊢;have HQ:=qya hq;have gN:=qya (And.intro uU (And.intro hN (And.intro tf (And.intro tc (And.intro cK (And.intro hK (And.intro hD hB)))))));clear hq uU hN tf tc cK hK hD hB;have m0:=M3.c 0 (.int .i64 most) rfl;rcases sS with ⟨m',xA,hm'⟩ | xA
  · obtain⟨d,hd⟩ : ∃d,Sx.capD m' f=d:=⟨_,rfl⟩;have hres:Sx.capD most f=min d (most+1):=(by rw [← hd];exact Sx.zu8 m' f hm' most);rw [hd] at xA;have fW:=qya hres;have r0:=R3.c 0 (.int .i64 0) rfl;have rg:=R3.free 0;have hm1:(most:Int)≤100:=(by omega);clear hres hd hm' HC;gi_wp2;obtain⟨uU,hN,tf,tc,cK,-⟩:=gN.out;have hm:min (d:Int) ((most:Int)+1)=((Sx.capD most f:Nat):Int):=(by rw [fW.out];omega);rw [hm];have R4:=R3.set 0 (.int .i64 (Sx.capD most f:Nat));have r4:=R4.c 0 (.int .i64 (Sx.capD most f:Nat)) rfl;refine⟨.int .i64 (Sx.capD most f:Nat),by simp [results,Tryz.results143,go_sem,r4],rfl,?_,?_⟩
    · exact st3.keep (S:=fun k=>k=s+2) (Fr.one _ (s+2) 0 _) (fun k hk=>by omega) (by omega) (by omega) (by omega)
    · exact (O3.mono (S':=fun k=>k=B) (fun k _ e=>e.elim)).trans' (S':=fun k=>k=s+2) (Fr.one _ (s+2) 0 _) (fun k hk e=>by have:=HS.out;omega)
  · have g0:=F3.cell (i:=0) (v:=.slice la f.es.length ca) rfl;have g1:=F3.c 1 (.slice lp f.ps.length cp) rfl;have g2:=F3.c 2 (.slice lt f.ts.length ct) rfl;have hs1:s<w2.heap.size:=(by have:=HQ.out;have:=gN.out.1;omega);gi_wp2;refine zg1 ?_;intro Ac Bc hA hB;have jI:zcj (Tryz.f143.body.getD .skip)=some (Ac,Bc):=(by rw [hA,hB];rfl);clear hA hB vw;obtain⟨uU,hN,tf,tc,cK,hK,hD,hB⟩:=gN.out;rw [HQ.out];obtain⟨W4,ku⟩ : ∃W4,(w2.alloc (.cells #[.pointer (zar la f.es.length),.pointer (zar lp f.ps.length),.pointer (zar lt f.ts.length),.int .i64 f.es.length,.int .i64 f.ps.length,.int .i64 f.ts.length] 190)).alloc (.cells #[.int .i64 0] 3)=W4:=⟨_,rfl⟩;rw [ku];have hs:=HS.out;have z4:W4.heap.size=q+2:=(by rw [← ku];simp [HQ.out]);have eS:Old (w2.alloc (.cells #[.pointer (zar la f.es.length),.pointer (zar lp f.ps.length),.pointer (zar lt f.ts.length),.int .i64 f.es.length,.int .i64 f.ps.length,.int .i64 f.ts.length] 190)) W4:=(by rw [← ku];exact (Old.refl _).alloc _);have bd4:Blk W4 (q+1) #[.int .i64 0] 3:=(by rw [← ku];exact Blk.new' (by simp [HQ.out]) _ _);have O4:Old w0 W4:=O3.trans eS;have bl4:Blk W4 q #[.pointer (zar la f.es.length),.pointer (zar lp f.ps.length),.pointer (zar lt f.ts.length),.int .i64 f.es.length,.int .i64 f.ps.length,.int .i64 f.ts.length] 190:=(by rw [← HQ.out];exact kL.keep eS (fun e=>e));have bf4:Blk W4 s #[.slice la f.es.length ca,.slice lp f.ps.length cp,.slice lt f.ts.length ct] 120:=Blk.keep F3 eS (fun e=>e);have bm4:Blk W4 (s+1) #[.int .i64 most] 3:=Blk.keep M3 eS (fun e=>e);have br4:Blk W4 (s+2) #[.int .i64 0] 3:=Blk.keep R3 eS (fun e=>e);have st4:=st3.keep eS (fun _ _ e=>e) (fun e=>e) (fun e=>e) (fun e=>e);clear ku xA k0 l0 l1 l2 l3 l4 l5 m0 g0 g1 g2 kL F3 M3 R3 st3 hf3 O3 eS;refine wpIn_rangeFunc ?_;intro fn _;obtain⟨tm,jS⟩ : ∃tm,tm=(#[.agg #[.slice la f.es.length ca,.slice lp f.ps.length cp,.slice lt f.ts.length ct],.int .i64 most,.pointer (some ⟨K,0,none⟩),.pointer (some ⟨D,0,none⟩),.pointer (some ⟨s,0,none⟩),.pointer (some ⟨s+1,0,none⟩),.pointer (some ⟨s+1+1,0,none⟩),.pointer (some ⟨q,0,none⟩),.int .i64 0,.bool false,.pointer (some ⟨q+1,0,none⟩),undef,undef,
      .agg #[.slice la f.es.length ca,.slice lp f.ps.length cp,.slice lt f.ts.length ct],.agg #[.pointer (zar la f.es.length),.pointer (zar lp f.ps.length),.pointer (zar lt f.ts.length),.int .i64 f.es.length,.int .i64 f.ps.length,.int .i64 f.ts.length],.tuple #[.int .i64 0,.bool false],.map (some B),.agg #[.pointer (zar la f.es.length),.pointer (zar lp f.ps.length),.pointer (zar lt f.ts.length),.int .i64 f.es.length,.int .i64 f.ps.length,.int .i64 f.ts.length],.tuple #[.int .i64 0,.bool false],.int .i64 0,.bool false,.bool false,undef,undef,undef,undef,.agg #[.slice la f.es.length ca,.slice lp f.ps.length cp,.slice lt f.ts.length ct],.func (.func 135) #[.agg #[.slice la f.es.length ca,.slice lp f.ps.length cp,.slice lt f.ts.length ct]] #[],
      undef,undef,undef,undef,undef,undef,undef,undef,undef,undef,undef,undef,undef,undef,undef,undef,undef,undef,undef,undef]:Array Value):=⟨_,rfl⟩
    obtain⟨qj,qu⟩ : ∃qj,qj=fun st pe=>({ state:=st,pending:=pe,fn,tmps:=tm,params:=#[28],assign:=Ac,body:=Bc,defers:=q+2 } : Loop):=⟨_,rfl⟩;obtain⟨W5,xD⟩ : ∃W5,(W4.alloc (.deferred (some []))).alloc (.loop (qj .ready none))=W5:=⟨_,rfl⟩;have O5:Old W4 W5:=(by rw [← xD];exact ((Old.refl W4).alloc _).alloc _);have z5:W5.heap.size=q+4:=(by rw [← xD];simp [z4]);have M5:DepAt K D B N0 s q w0 #[.slice la f.es.length ca,.slice lp f.ps.length cp,.slice lt f.ts.length ct] #[.pointer (zar la f.es.length),.pointer (zar lp f.ps.length),.pointer (zar lt f.ts.length),.int .i64 f.es.length,.int .i64 f.ps.length,.int .i64 f.ts.length] most 0 (Sx.ze1 most f 0:Nat) (qj .ready none) W5:=
      ⟨st4.keep O5 (fun _ _ e=>e) (fun e=>e) (fun e=>e) (fun e=>e),bf4.keep O5 (fun e=>e),bm4.keep O5 (fun e=>e),br4.keep O5 (fun e=>e),bl4.keep O5 (fun e=>e),by rw [Sx.zkk];exact bd4.keep O5 (fun e=>e),
       by rw [← xD,← z4];exact (Below.heap_alloc _ _ _ (by simp)).trans (World.alloc_heap_new W4 _),
       by rw [← xD];have:=World.alloc_heap_new (W4.alloc (.deferred (some []))) (.loop (qj .ready none));rwa [qyd,z4] at this,
       (O4.trans O5).mono (fun k _ e=>e.elim)⟩
    refine⟨q+3,[{ target:=.collected (q+2),args:=#[] }],W5,{ target:=.fn (.func 135) #[],args:=#[.agg #[.slice la f.es.length ca,.slice lp f.ps.length cp,.slice lt f.ts.length ct],.func (.yield (q+3)) #[] #[]] },W5,135,
      #[.agg #[.slice la f.es.length ca,.slice lp f.ps.length cp,.slice lt f.ts.length ct],.func (.yield (q+3)) #[] #[]],W5,?_,?_,fun _ _=>trivial,?_,fun e=>by simp [Fence.wide] at e,?_⟩
    · have:=run_enterLoop_outer (P:=Tryz.prog) (w:=W4) fn tm #[28] Ac Bc;rw [z4] at this;rw [← xD,qu];rw [jS] at this ⊢;exact this
    · simp [resolve,go_sem]
    · simp [invoke,go_sem]
    · refine (zj6 2 (by decide) (q+3) W5 f F la lp lt ca cp ct (DepJ K D B N0 s q w0 #[.slice la f.es.length ca,.slice lp f.ps.length cp,.slice lt f.ts.length ct] #[.pointer (zar la f.es.length),.pointer (zar lp f.ps.length),.pointer (zar lt f.ts.length),.int .i64 f.es.length,.int .i64 f.ps.length,.int .i64 f.ts.length] most f qj) (DepF K D B N0 s q w0 #[.slice la f.es.length ca,.slice lp f.ps.length cp,.slice lt f.ts.length ct] #[.pointer (zar la f.es.length),.pointer (zar lp f.ps.length),.pointer (zar lt f.ts.length),.int .i64 f.es.length,.int .i64 f.ps.length,.int .i64 f.ts.length] most f qj)
        (fun i W h=>hf.keep h.1.fr (fun k hk e=>by have:=hF k hk;omega))
        (fun i W W' h hO=>⟨h.1.keep hO (fun _ _ e=>e) (fun _ _ _ e=>e) tf tc cK hN uU hs,h.2⟩)
        (fun i k kv W hk bN h=>by
          rw [z5];exact zpr 1 w0 fn K D B N0 s q tf tc cK hN mh mp rF rH rC uU hs _ _ most hm f Ac Bc jI tm _ _ _ _ _ _ _ _ _ _ _ _ _ _ _ _ _ _ _ _ _ _ _ _ _ _ _ _ _ _ _ _ _ _ _ _ _ _ _ _ _ jS qj qu F hF (fun m e=>HC.out m e F hF) i k kv W hk bN h)
        ⟨M5,by rw [Sx.zkk];exact qyi _,fun _=>rfl⟩).mono ?_
      have hst:(qj .ready none).state=.ready∧(qj .ready none).pending=none∧(qj .done (some .ret)).state=.done∧(qj .done (some .ret)).pending=some .ret:=(by rw [qu];exact⟨rfl,rfl,rfl,rfl⟩);clear qu jI M5 xD O5 z5;rintro e W6 ⟨rfl,⟨M6,qX,hz⟩ | ⟨dp,M6⟩⟩
      · have sE:Sx.ze1 most f (Sx.kids f).length=Sx.capD most f:=by
          cases most with
          | zero=>
            have h0:=hz rfl;rw [h0];simp [Sx.ze1,Sx.capD,List.isEmpty_iff,List.length_eq_zero_iff.1 h0]
          | succ m=>exact Sx.zt0
        rw [sE] at qX M6;obtain⟨L',qy⟩ : ∃L',(Instr.endLoop (q+3)).run Tryz.prog W6=.ok none (W6.putObj (q+3) (.loop L')):=⟨_,by have:=run_endLoop (P:=Tryz.prog) M6.lp (by rw [hst.1];simp);rw [hst.2.1] at this;exact this⟩;have M7:=M6.loopTo tf tc cK hN uU hs L';obtain⟨W7,hW7⟩ : ∃W7,W6.putObj (q+3) (.loop L')=W7:=⟨_,rfl⟩;rw [hW7] at qy M7;clear hW7;refine⟨_,_,qy,?_⟩;obtain⟨W8,xA,hM8,F8⟩:=M7.st.m.store rF (hf.keep M7.fr (fun k hk e=>by have:=hF k hk;omega)) hF qX;unfold keyF at xA;have k0:=M7.st.k.c 0 (.map (some B)) rfl;obtain⟨l0,l1,l2,l3,l4,l5⟩:=M7.bl.c6;have d0:=M7.bd.c 0 (.int .i64 (Sx.capD most f:Nat)) rfl;have d8:=(M7.bd.keep F8 (by omega)).c 0 (.int .i64 (Sx.capD most f:Nat)) rfl;have R8:=M7.br.keep F8 (by omega);have r8:=R8.c 0 (.int .i64 0) rfl;have rg8:=R8.free 0;obtain⟨c,hc⟩ : ∃c,Sx.capD most f=c:=⟨_,rfl⟩;rw [hc] at xA d0 d8;have HCD:=qya hc;have M8:=M7.call cK uU F8 ⟨M7.st.k.keep F8 rH,M7.st.d.keep F8 rC,hM8⟩;have M9:=M8.setR tf tc cK hN uU hs c;clear hc;clear sE qX hm uU hN tf tc cK hK hD hB hs z4 HC;gi_wp2;obtain⟨uU,hN,tf,tc,cK,-⟩:=gN.out;have hs:=HS.out;refine⟨by simp,.inl ⟨_,_,rfl,run_takeDeferred M9.df,?_⟩⟩;have sh:Fr (fun k=>k=q+2) (W8.setCell ⟨s+2,0,none⟩ (.int .i64 c)) ((W8.setCell ⟨s+2,0,none⟩ (.int .i64 c)).putObj (q+2) (.deferred none)):=(Fr.refl _ _).putObj _ _ (fun _=>rfl);have fG:=(M9.br.keep sh (by omega)).c 0 (.int .i64 c) rfl;refine⟨.int .i64 c,by simp [results,Tryz.results143,go_sem,fG],by rw [HCD.out],?_,?_⟩
        · exact M9.st.keep sh (fun k hk=>by omega) (by omega) (by omega) (by omega)
        · exact M9.fr.trans' sh (fun k hk e=>by omega)
      · obtain⟨L',qy⟩ : ∃L',(Instr.endLoop (q+3)).run Tryz.prog W6=.ok (some .ret) (W6.putObj (q+3) (.loop L')):=⟨_,by have:=run_endLoop (P:=Tryz.prog) M6.lp (by rw [hst.2.2.1];simp);rw [hst.2.2.2] at this;exact this⟩;have M7:=M6.loopTo tf tc cK hN uU hs L';refine⟨_,_,qy,?_⟩;have r7:=M7.br.c 0 (.int .i64 (Sx.capD most f:Nat)) rfl;gi_wp2;refine⟨by simp,.inl ⟨_,_,rfl,run_takeDeferred M7.df,?_⟩⟩;have F8:Fr (fun k=>k=q+2) (W6.putObj (q+3) (.loop L')) ((W6.putObj (q+3) (.loop L')).putObj (q+2) (.deferred none)):=(Fr.refl _ _).putObj _ _ (fun _=>rfl);have r8:=(M7.br.keep F8 (by omega)).c 0 (.int .i64 (Sx.capD most f:Nat)) rfl;refine⟨.int .i64 (Sx.capD most f:Nat),by simp [results,Tryz.results143,go_sem,r8],rfl,?_,?_⟩
        · exact M7.st.keep F8 (fun k hk=>by omega) (by omega) (by omega) (by omega)
        · exact M7.fr.trans' F8 (fun k hk e=>by omega)
theorem zk1(K D B N0:Nat)(mh:N0≤K)(mp:N0≤D)(rF:N0≤B)(rH:K≠B)(rC:D≠B) : ∀(most:Nat),most≤100→∀(F:Nat→Prop),(∀k,F k→k<N0)→∀(f:Sx.Fo) (v:Value) (W:World),FoAt W F f v→DSt K D B N0 W →
  Calls Tryz.prog 143 #[v,.int .i64 most,.pointer (some ⟨K,0,none⟩),.pointer (some ⟨D,0,none⟩)] W (zgt K D B N0 (Sx.capD most f) W)
 | 0,hm,F,hF,f,v,W,hf,hst=>by
  obtain⟨la,ca,lp,cp,lt,ct,rfl⟩:=hf.parts;exact (callsIn_wide (n:=3)).1 (zjh K D B N0 mh mp rF rH rC 0 hm (fun m e=>by omega) F hF f la lp lt ca cp ct W hf hst)
 | m+1,hm,F,hF,f,v,W,hf,hst=>by
  obtain⟨la,ca,lp,cp,lt,ct,rfl⟩:=hf.parts;exact (callsIn_wide (n:=3)).1 (zjh K D B N0 mh mp rF rH rC (m+1) hm (fun m' e=>by
   obtain rfl:m=m':=(by omega);exact fun F hF k v W h1 h2=>zk1 K D B N0 mh mp rF rH rC m (by omega) F hF k v W h1 h2) F hF f la lp lt ca cp ct W hf hst)
end Go.Proofs.YtclgbmmambkiaaaGreatDoor

/- Part 09 -/
import Derived.Test.YtclgbmmambkiaaaGreatDoorMb08
import Derived.Laws.EntriesVeiled
import Derived.Deep.AppendLies
set_option maxRecDepth 100000
set_option maxHeartbeats 4000000
set_option linter.unusedVariables false
set_option linter.unusedSimpArgs false
namespace Go.Proofs.YtclgbmmambkiaaaGreatDoor
open Go.RowKit
theorem zn4(F:Nat→Prop)(f:Sx.Fo)(v:Value)(w:World)(hF : ∀k,F k→k<w.heap.size)(hf:FoAt w F f v) :
  Calls Tryz.prog 69 #[v] w fun e w'=>e=.returned (.int .i64 (Sx.capD 100 f))∧Old w w':=by
 have hmm:=@run_makeMap Tryz.prog;obtain⟨la,ca,lp,cp,lt,ct,rfl⟩:=hf.parts;have kF:=Blk.new w #[.slice la f.es.length ca,.slice lp f.ps.length cp,.slice lt f.ts.length ct] 120;obtain⟨f0,f1,f2⟩:=kF.c3;have HD:=qya (fun (K D B:Nat) h1 h2 h3 h4 h5 (W:World) h6 h7=>zk1 K D B w.heap.size h1 h2 h3 h4 h5 100 (qyb _) F hF f (.agg #[.slice la f.es.length ca,.slice lp f.ps.length cp,.slice lt f.ts.length ct]) W h6 h7);have O4:Old w ((((w.alloc (.cells #[.slice la f.es.length ca,.slice lp f.ps.length cp,.slice lt f.ts.length ct] 120)).alloc (.map #[] 0)).alloc (.cells #[.map (some (w.heap.size+1))] 183)).alloc (.cells #[(.func (.func 143) #[] #[.pointer (some ⟨w.heap.size+1+1,0,none⟩),.pointer (some ⟨w.heap.size+1+1+1,0,none⟩)])] 184)):=((((Old.refl w).alloc _).alloc _).alloc _).alloc _;have kK:Blk ((((w.alloc (.cells #[.slice la f.es.length ca,.slice lp f.ps.length cp,.slice lt f.ts.length ct] 120)).alloc (.map #[] 0)).alloc (.cells #[.map (some (w.heap.size+1))] 183)).alloc (.cells #[(.func (.func 143) #[] #[.pointer (some ⟨w.heap.size+1+1,0,none⟩),.pointer (some ⟨w.heap.size+1+1+1,0,none⟩)])] 184)) (w.heap.size+1+1) #[.map (some (w.heap.size+1))] 183:=(Blk.new' (by simp) _ _).alloc _;have kD:Blk ((((w.alloc (.cells #[.slice la f.es.length ca,.slice lp f.ps.length cp,.slice lt f.ts.length ct] 120)).alloc (.map #[] 0)).alloc (.cells #[.map (some (w.heap.size+1))] 183)).alloc (.cells #[(.func (.func 143) #[] #[.pointer (some ⟨w.heap.size+1+1,0,none⟩),.pointer (some ⟨w.heap.size+1+1+1,0,none⟩)])] 184)) (w.heap.size+1+1+1) #[(.func (.func 143) #[] #[.pointer (some ⟨w.heap.size+1+1,0,none⟩),.pointer (some ⟨w.heap.size+1+1+1,0,none⟩)])] 184:=Blk.new' (by simp) _ _;have hM:((((w.alloc (.cells #[.slice la f.es.length ca,.slice lp f.ps.length cp,.slice lt f.ts.length ct] 120)).alloc (.map #[] 0)).alloc (.cells #[.map (some (w.heap.size+1))] 183)).alloc (.cells #[(.func (.func 143) #[] #[.pointer (some ⟨w.heap.size+1+1,0,none⟩),.pointer (some ⟨w.heap.size+1+1+1,0,none⟩)])] 184)).heap[w.heap.size+1]? = some (.map #[] 0):=by
  have h1:((w.alloc (.cells #[.slice la f.es.length ca,.slice lp f.ps.length cp,.slice lt f.ts.length ct] 120)).alloc (.map #[] 0)).heap[w.heap.size+1]? = some (.map #[] 0):=by
   have:=World.alloc_heap_new (w.alloc (.cells #[.slice la f.es.length ca,.slice lp f.ps.length cp,.slice lt f.ts.length ct] 120)) (.map #[] 0)
   rwa [qyd] at this
  exact (((Old.refl _).alloc (.cells #[.map (some (w.heap.size+1))] 183)).alloc (.cells #[(.func (.func 143) #[] #[.pointer (some ⟨w.heap.size+1+1,0,none⟩),.pointer (some ⟨w.heap.size+1+1+1,0,none⟩)])] 184)).heap h1 (fun e=>e)
 have st:DSt (w.heap.size+1+1) (w.heap.size+1+1+1) (w.heap.size+1) w.heap.size ((((w.alloc (.cells #[.slice la f.es.length ca,.slice lp f.ps.length cp,.slice lt f.ts.length ct] 120)).alloc (.map #[] 0)).alloc (.cells #[.map (some (w.heap.size+1))] 183)).alloc (.cells #[(.func (.func 143) #[] #[.pointer (some ⟨w.heap.size+1+1,0,none⟩),.pointer (some ⟨w.heap.size+1+1+1,0,none⟩)])] 184)):=⟨kK,kD,⟨#[],0,hM,fun e he=>by simp at he⟩⟩;have qs:=HD.out (w.heap.size+1+1) (w.heap.size+1+1+1) (w.heap.size+1) (by omega) (by omega) (by omega) (by omega) (by omega) ((((w.alloc (.cells #[.slice la f.es.length ca,.slice lp f.ps.length cp,.slice lt f.ts.length ct] 120)).alloc (.map #[] 0)).alloc (.cells #[.map (some (w.heap.size+1))] 183)).alloc (.cells #[(.func (.func 143) #[] #[.pointer (some ⟨w.heap.size+1+1,0,none⟩),.pointer (some ⟨w.heap.size+1+1+1,0,none⟩)])] 184)) (hf.keep O4 (fun k hk e=>e)) st;rw [show ((100:Nat):Int)=100 from rfl] at qs;have d1:=st.d.cell (i:=0) rfl;have HF5:=qya O4;clear HD st hM kK kD O4 kF
 go_enter Tryz.func69,Tryz.ntmps69
 go_wp2_with fail
 (with_reducible refine qs.mono ?_)
 rintro e w2 ⟨rfl,-,f2⟩;clear qs;go_wp2;go_ret;exact⟨rfl,HF5.out.trans' f2 (fun k hk e=>by omega)⟩
end Go.Proofs.YtclgbmmambkiaaaGreatDoor
namespace Sx
def zf4(most:Nat)(f:Fo)(i:Nat):Nat:=
 match most with
 | 0=>0
 | m+1=>sumL (((kids f).take i).map fun k=>1+cnt m k)
theorem zrr(most:Nat)(f:Fo):zf4 most f 0=0:=by cases most <;> simp [zf4,sumL]
theorem zrs{m:Nat}{f k:Fo}{i:Nat}(h:(kids f)[i]? = some k):zf4 (m+1) f (i+1)=zf4 (m+1) f i+(1+cnt m k):=by
 simp only [zf4];rw [List.take_add_one,h];simp only [Option.toList_some,List.map_append,List.map_cons,List.map_nil,zs8]
theorem zt1{most:Nat}{f:Fo}(h:most=0→(kids f).length=0):zf4 most f (kids f).length=cnt most f:=by
 cases most with
 | zero=>rfl
 | succ m=>simp only [zf4,List.take_length,cnt]
theorem zv6(most:Nat)(f:Fo)(i:Nat):zf4 most f i≤cnt most f:=by
 cases most with
 | zero=>exact Nat.le_refl _
 | succ m=>
  simp only [zf4,cnt];have h:=zoj (((kids f).take i).map fun k=>1+cnt m k) (((kids f).drop i).map fun k=>1+cnt m k);rw [← List.map_append,List.take_append_drop] at h;omega
end Sx
namespace Go.Proofs.YtclgbmmambkiaaaGreatDoor
open Go.RowKit
attribute [local go_sem] Oper.semAt_some
structure SSt(C E:Nat)(n:Int)(W:World):Prop where
 c:Blk W C #[.int .i64 n] 3
 e:Blk W E #[.func (.func 134) #[] #[.pointer (some ⟨C,0,none⟩),.pointer (some ⟨E,0,none⟩)]] 178
theorem SSt.keep{S:Nat→Prop}{C E:Nat}{n:Int}{W W':World}(h:SSt C E n W)(hf:Fr S W W')(hC : ¬S C)(hE : ¬S E):SSt C E n W':=⟨h.c.keep hf hC,h.e.keep hf hE⟩
def zfi(C E:Nat)(n:Nat)(W:World)(e:Ending)(W':World):Prop:=e=.returned (.tuple #[])∧SSt C E n W'∧Fr (fun k=>k=C) W W'
structure CtAt(C E s:Nat)(w0:World)(fv:Array Value)(most:Nat)(n:Int)(lo:Loop)(W:World):Prop where
 st:SSt C E n W
 bf:Blk W s fv 120
 bm:Blk W (s+1) #[.int .i64 most] 3
 df:W.heap[s+2]? = some (.deferred (some []))
 lp:W.heap[s+3]? = some (.loop lo)
 fr:Fr (fun k=>k=C) w0 W
section
variable {C E s:Nat} {w0:World} {fv:Array Value} {most:Nat} {n:Int} {lo:Loop} {W:World}
theorem CtAt.keep{S:Nat→Prop}{W':World}(h:CtAt C E s w0 fv most n lo W)(hf:Fr S W W')(hn : ∀k,k≤s+3→¬S k)(hC:C<s)(hE:E<s)(hw:w0.heap.size=s):CtAt C E s w0 fv most n lo W':=
 ⟨h.st.keep hf (hn _ (by omega)) (hn _ (by omega)),h.bf.keep hf (hn _ (by omega)),h.bm.keep hf (hn _ (by omega)),hf.heap h.df (hn _ (by omega)),hf.heap h.lp (hn _ (by omega)),h.fr.trans' hf (fun k hk e=>absurd e (hn k (by omega)))⟩
theorem CtAt.loopTo(h:CtAt C E s w0 fv most n lo W)(hC:C<s)(hE:E<s)(hw:w0.heap.size=s)(lz:Loop):CtAt C E s w0 fv most n lz (W.putObj (s+3) (.loop lz)):=by
 have hf:Fr (fun k=>k=s+3) W (W.putObj (s+3) (.loop lz)):=(Fr.refl _ W).putObj _ _ (fun _=>rfl);exact⟨h.st.keep hf (by omega) (by omega),h.bf.keep hf (by omega),h.bm.keep hf (by omega),hf.heap h.df (by omega),World.putObj_heap_same (Array.getElem?_eq_some_iff.1 h.lp).1,h.fr.trans' hf (fun k hk e=>by omega)⟩
theorem CtAt.call{W':World}{n':Int}(h:CtAt C E s w0 fv most n lo W)(hC:C<s)(hf:Fr (fun k=>k=C) W W')(hst:SSt C E n' W'):CtAt C E s w0 fv most n' lo W':=
 ⟨hst,h.bf.keep hf (by omega),h.bm.keep hf (by omega),hf.heap h.df (by omega),hf.heap h.lp (by omega),h.fr.trans hf⟩
theorem CtAt.setC(h:CtAt C E s w0 fv most n lo W)(hC:C<s)(rB:C≠E)(n':Int):CtAt C E s w0 fv most n' lo (W.setCell ⟨C,0,none⟩ (.int .i64 n')):=
 h.call hC (Fr.one W C 0 _) ⟨h.st.c.set 0 _,h.st.e.other ⟨C,0,none⟩ (fun e=>rB e.symm) _⟩
end
def CtJ(C E s:Nat)(w0:World)(fv:Array Value)(most n:Nat)(f:Sx.Fo)(qj:LoopState→Option Code→Loop)(i:Nat)(W:World):Prop:=
 CtAt C E s w0 fv most (min (n+Sx.zf4 most f i) 2001:Nat) (qj .ready none) W∧(most=0→i=0)
def CtF(C E s:Nat)(w0:World)(fv:Array Value)(most n:Nat)(f:Sx.Fo)(qj:LoopState→Option Code→Loop)(W:World):Prop:=
 CtAt C E s w0 fv most (min (n+Sx.cnt most f) 2001:Nat) (qj .done (some .ret)) W
theorem zps(nn:Nat)(w0:World)(fn:FuncId)(C E s N0:Nat)(hC:C<s)(hE:E<s)(rB:C≠E)(mc:N0≤C)(hw:w0.heap.size=s)(fv:Array Value)
  (most:Nat)(hm:most≤100)(n:Nat)(hn:n≤2001)(f:Sx.Fo)
  (Ac Bc:Code)(jI:zcj (Tryz.f134.body.getD .skip)=some (Ac,Bc))(tm:Array Value)
  (f0 f1 f6 f7 f8 f9 fY uL gm gr f14 gn gt gd gf fX fK fV fZ:Value)
  (jS:tm=#[f0,f1,.pointer (some ⟨C,0,none⟩),.pointer (some ⟨E,0,none⟩),.pointer (some ⟨s,0,none⟩),.pointer (some ⟨s+1,0,none⟩),f6,f7,f8,f9,fY,uL,gm,gr,f14,gn,gt,gd,gf,fX,fK,fV,fZ])
  (qj:LoopState→Option Code→Loop)(qu:qj=fun st pe => { state:=st,pending:=pe,fn,tmps:=tm,params:=#[9],assign:=Ac,body:=Bc,defers:=s+2 })
  (F:Nat→Prop)(hF : ∀k,F k→k<N0)
  (hCa : ∀m,most=m+1→∀(n:Nat),n≤2001→∀(k:Sx.Fo) (v:Value) (W:World),FoAt W F k v→SSt C E n W→Calls Tryz.prog 134 #[v,.int .i64 m,.pointer (some ⟨C,0,none⟩),.pointer (some ⟨E,0,none⟩)] W (zfi C E (min (n+Sx.cnt m k) 2001) W))
  (i:Nat)(k:Sx.Fo)(v:Value)(W:World)(hk:(Sx.kids f)[i]? = some k)(bN:FoAt W F k v)
  (h:CtJ C E s w0 fv most n f qj i W) :
  YieldAt Fence.wide nn Tryz.prog (s+3) #[v] W (zfr (s+4) (CtJ C E s w0 fv most n f qj) (CtF C E s w0 fv most n f qj) i W):=by
 obtain⟨hM,hz⟩:=h;have km:=hM.lp;have vP:=km;rw [qu] at vP;refine⟨fn,_,Ac,Bc,run_yield (P:=Tryz.prog) (args:=#[v]) vP rfl,roundIn_of_wpIn (F:=Fence.wide) trivial ?_⟩;have j8:=jI;simp only [Tryz.f134,Option.getD_some,zcj,Option.orElse_none,Option.orElse_some,Option.some.injEq,Prod.mk.injEq] at j8;obtain⟨yp,kw⟩:=j8;have gx:s+3<W.heap.size:=(Array.getElem?_eq_some_iff.1 km).1;obtain⟨la,ca,lp,cp,lt,ct,hv⟩:=bN.parts;have HKV:=qya bN;clear bN;subst hv;rw [jS];simp only [Array.foldl,Array.zip,List.zip];rw [← yp];have tF:=qya qu;clear jI yp vP qu;gi_wp2;have qu:=tF.out;clear tF;obtain⟨W1,qd⟩ : ∃W1,W.alloc (.cells #[.slice la k.es.length ca,.slice lp k.ps.length cp,.slice lt k.ts.length ct] 120)=W1:=⟨_,rfl⟩;rw [qd];have nT:Blk W1 W.heap.size #[.slice la k.es.length ca,.slice lp k.ps.length cp,.slice lt k.ts.length ct] 120:=by rw [← qd];exact Blk.new _ _ _
 have O1:Old W W1:=by rw [← qd];exact (Old.refl W).alloc _
 have M1:=hM.keep O1 (fun _ _ e=>e) hC hE hw;clear qd;refine⟨_,run_beginRound M1.lp (by rw [qu]),?_⟩;have gj:Hid ({ { qj .ready none with state:=.busy } with state:=.ready,pending:=none } = qj .ready none):=qya (by rw [qu]);have fD:Hid ({ { qj .ready none with state:=.busy } with state:=.done,pending:=some .ret } = qj .done (some .ret)):=qya (by rw [qu]);clear jS qu;have M2:=M1.loopTo hC hE hw { qj .ready none with state:=.busy };obtain⟨W2,jJ⟩ : ∃W2,W1.putObj (s+3) (.loop { qj .ready none with state:=.busy })=W2:=⟨_,rfl⟩;rw [jJ] at M2 ⊢;have F2:Fr (fun k=>k=s+3) W W2:=by rw [← jJ];exact (Fr.old O1).putObj _ _ (fun _=>rfl)
 have wq:Blk W2 W.heap.size #[.slice la k.es.length ca,.slice lp k.ps.length cp,.slice lt k.ts.length ct] 120:=by rw [← jJ];exact nT.putObj (by omega) _
 clear jJ M1 nT O1;have HB:=qya kw;rw [← kw];clear kw;obtain⟨c,hc⟩ : ∃c,min (n+Sx.zf4 most f i) 2001=c:=⟨_,rfl⟩;have fR:c≤2001:=by omega
 have vW:=Sx.zv6 most f i;rw [hc] at M2;have m0:=M2.bm.c 0 (.int .i64 most) rfl;have c0:=M2.st.c.c 0 (.int .i64 c) rfl;have cg:=M2.st.c.free 0;have vg:(most=0∨2000<c)→∃v w',(Instr.endRound (s+3) (some .ret)).run Tryz.prog W2=.ok v w'∧zfr (s+4) (CtJ C E s w0 fv most n f qj) (CtF C E s w0 fv most n f qj) i W (.returned v) w':=fun qZ=>by
  obtain⟨W',qv⟩ : ∃W',W2.putObj (s+3) (.loop (qj .done (some .ret)))=W':=⟨_,rfl⟩;have qy:=run_endRound (P:=Tryz.prog) (some .ret) M2.lp;have qe:(Instr.endRound (s+3) (some .ret)).run Tryz.prog W2=.ok (.bool false) W':=by rw [← qv,← fD.out];exact qy
  have M4:=M2.loopTo hC hE hw (qj .done (some .ret));have F4:Fr (fun k=>k<s+4) W W':=by rw [← qv];exact (F2.mono (S':=fun k=>k<s+4) (fun k _ e=>by omega)).putObj _ _ (fun _=>by omega)
  rw [qv] at M4;have pV:min (n+Sx.cnt most f) 2001=c:=by
   rcases qZ with h0 | h0
   ·subst h0;have h1:Sx.zf4 0 f i=0:=rfl;have h2:Sx.cnt 0 f=0:=rfl;rw [h1] at hc;rw [h2];exact hc
   ·omega
  refine⟨_,_,qe,F4,.inr ⟨rfl,?_⟩⟩;unfold CtF;rw [pV];exact M4
 have mD:=qya vg;have HZ:=qya hz;clear vg hz;cases most with
 | zero=>
  gi_wp2;exact mD.out (by simp)
 | succ m=>
  have hnz:(((m+1:Nat):Int)==0)=false:=by simp;omega
  have lP:decide (((m+1:Nat):Int)=0)=false:=by simp;omega
  by_cases qx:2000<c
  ·have g1:decide ((2000:Int)<(c:Int))=true:=qyl (by omega);have g2:decide (2000<c)=true:=qyl qx;have HC:=qya hc;clear hc fR vW gx hC hE hw mc hn hm hCa;gi_wp2;exact mD.out (.inr qx)
  ·have g1:decide ((2000:Int)<(c:Int))=false:=qyk (by omega);have g2:decide (2000<c)=false:=qyk qx;have ul:n+Sx.zf4 (m+1) f i=c:=(by omega);have bW:=Sx.zrs (m:=m) hk;obtain⟨ck,xH⟩ : ∃ck,Sx.cnt m k=ck:=⟨_,rfl⟩;rw [xH] at bW;have M3:=M2.setC hC rB ((c:Int)+1);have F3:Fr (fun k=>k=s+3∨k=C) W (W2.setCell ⟨C,0,none⟩ (.int .i64 ((c:Int)+1))):=(F2.mono (S':=fun k=>k=s+3∨k=C) (fun k _ e=>.inl e)).setCell ⟨C,0,none⟩ (fun _=>.inr rfl) _;have qs:=hCa m rfl (c+1) (by omega) k _ (W2.setCell ⟨C,0,none⟩ (.int .i64 ((c:Int)+1))) (HKV.out.keep F3 (fun k hk e=>by have:=hF k hk;omega)) M3.st;rw [xH] at qs;have nT3:=wq.other ⟨C,0,none⟩ (by show W.heap.size≠C;omega) (.int .i64 ((c:Int)+1));have e3:=M3.st.e.cell (i:=0) rfl;have m3:=M3.bm.c 0 (.int .i64 ((m+1:Nat):Int)) rfl;obtain⟨t0,t1,t2⟩:=nT3.c3;have hm0:(0:Int)≤m:=(by omega);have hm1:(m:Int)≤100:=(by omega);have en:(0:Int)≤c:=(by omega);have vK:(c:Int)≤2000:=(by omega);have gN:=qya (And.intro ul (And.intro gx (And.intro hC (And.intro hE (And.intro hw bW)))));clear ul bW hc fR vW gx hC hE hw mc hn hm hCa xH qx wq nT3
   gi_wp2_with fail
   refine⟨trivial,fun e=>by simp [Fence.wide] at e,CallsIn.inRound (s+3) ((callsIn_wide.2 qs).mono ?_)⟩;rintro e w3 ⟨rfl,lY,f3⟩;clear qs e3 m3 t0 t1 t2 m0 c0 cg hnz lP g1 g2;gi_wp2;obtain⟨ul,gx,hC,hE,hw,bW⟩:=gN.out;have M4:=M3.call hC f3 lY;have F4:Fr (fun k=>k=s+3∨k=C) W w3:=F3.trans' f3 (fun k _ e=>.inr e);obtain⟨W',qv⟩ : ∃W',w3.putObj (s+3) (.loop (qj .ready none))=W':=⟨_,rfl⟩;have qy:=run_endRound (P:=Tryz.prog) none M4.lp;have qe:(Instr.endRound (s+3) none).run Tryz.prog w3=.ok (.bool true) W':=(by rw [← qv,← gj.out];exact qy);have M5:=M4.loopTo hC hE hw (qj .ready none);have F5:Fr (fun k=>k<s+4) W W':=(by rw [← qv];exact (F4.mono (S':=fun k=>k<s+4) (fun k _ e=>by omega)).putObj _ _ (fun _=>by omega));rw [qv] at M5;have uR:min (n+Sx.zf4 (m+1) f (i+1)) 2001=min (c+1+ck) 2001:=(by rw [bW];omega);refine⟨_,_,qe,F5,.inl ⟨rfl,?_,fun e=>by omega⟩⟩;rw [uR];exact M5
attribute [local go_sem] Oper.semAt_some
theorem zkb(C E N0:Nat)(mc:N0≤C)(rB:C≠E)(most:Nat)(hm:most≤100)(n:Nat)(hn:n≤2001)
    (hCa : ∀m,most=m+1→∀(F:Nat→Prop),(∀k,F k→k<N0)→∀(n:Nat),n≤2001→∀(k:Sx.Fo) (v:Value) (W:World),FoAt W F k v→SSt C E n W→Calls Tryz.prog 134 #[v,.int .i64 m,.pointer (some ⟨C,0,none⟩),.pointer (some ⟨E,0,none⟩)] W (zfi C E (min (n+Sx.cnt m k) 2001) W))
    (F:Nat→Prop)(hF : ∀k,F k→k<N0)(f:Sx.Fo)(la lp lt:Option Addr)(ca cp ct:Nat)(w0:World)(hf:FoAt w0 F f (.agg #[.slice la f.es.length ca,.slice lp f.ps.length cp,.slice lt f.ts.length ct]))(hst:SSt C E n w0) :
    CallsIn Fence.wide 3 Tryz.prog 134 #[.agg #[.slice la f.es.length ca,.slice lp f.ps.length cp,.slice lt f.ts.length ct],.int .i64 most,.pointer (some ⟨C,0,none⟩),.pointer (some ⟨E,0,none⟩)] w0 (zfi C E (min (n+Sx.cnt most f) 2001) w0):=by
  have vw:=mkf;have hC:=hst.c.lt;have hE:=hst.e.lt;obtain⟨s,hs⟩ : ∃s,w0.heap.size=s:=⟨_,rfl⟩;have HC:=qya hCa;clear hCa;obtain⟨Wa,fS⟩ : ∃Wa,(w0.alloc (.cells #[.slice la f.es.length ca,.slice lp f.ps.length cp,.slice lt f.ts.length ct] 120)).alloc (.cells #[.int .i64 most] 3)=Wa:=⟨_,rfl⟩;have kF:Blk Wa s #[.slice la f.es.length ca,.slice lp f.ps.length cp,.slice lt f.ts.length ct] 120:=by rw [← fS,← hs];exact (Blk.new w0 _ _).alloc _
  have kM:Blk Wa (s+1) #[.int .i64 most] 3:=by rw [← fS];exact Blk.new' (by simp [hs]) _ _
  have Oa:Old w0 Wa:=by rw [← fS];exact ((Old.refl w0).alloc _).alloc _
  have za:Wa.heap.size=s+2:=by rw [← fS];simp [hs]
  obtain⟨f0,f1,f2⟩:=kF.c3;rw [← hs] at f0 f1 f2;rw [← fS] at f0 f1 f2;have HS:=qya hs;have HWA:=qya fS;have gN:=qya (And.intro hC (And.intro hE (And.intro hn hm)));clear fS hs hC hE hn hm;refine callsIn_of_wp_marks Tryz.func134 rfl trivial ?_ rfl;simp only [Tryz.ntmps134,qxg,qxh,qxi,Nat.reduceAdd,Nat.reduceSub,qxj,qxk,qxl,qxm,qxn,qxo];gi_wp2;refine zg1 ?_;intro Ac Bc hA hB;have jI:zcj (Tryz.f134.body.getD .skip)=some (Ac,Bc):=by rw [hA,hB];rfl
  clear hA hB vw f0 f1 f2;rw [HWA.out,HS.out];obtain⟨hC,hE,hn,hm⟩:=gN.out;have hs:=HS.out;rw [hs] at hC hE;refine wpIn_rangeFunc ?_;intro fn _;obtain⟨tm,jS⟩ : ∃tm,tm=(#[.agg #[.slice la f.es.length ca,.slice lp f.ps.length cp,.slice lt f.ts.length ct],.int .i64 most,.pointer (some ⟨C,0,none⟩),.pointer (some ⟨E,0,none⟩),.pointer (some ⟨s,0,none⟩),.pointer (some ⟨s+1,0,none⟩),undef,.agg #[.slice la f.es.length ca,.slice lp f.ps.length cp,.slice lt f.ts.length ct],.func (.func 135) #[.agg #[.slice la f.es.length ca,.slice lp f.ps.length cp,.slice lt f.ts.length ct]] #[],
    undef,undef,undef,undef,undef,undef,undef,undef,undef,undef,undef,undef,undef,undef]:Array Value):=⟨_,rfl⟩
  obtain⟨qj,qu⟩ : ∃qj,qj=fun st pe=>({ state:=st,pending:=pe,fn,tmps:=tm,params:=#[9],assign:=Ac,body:=Bc,defers:=s+2 } : Loop):=⟨_,rfl⟩;obtain⟨W5,xD⟩ : ∃W5,(Wa.alloc (.deferred (some []))).alloc (.loop (qj .ready none))=W5:=⟨_,rfl⟩;have O5:Old Wa W5:=by rw [← xD];exact ((Old.refl Wa).alloc _).alloc _
  have z5:W5.heap.size=s+4:=by rw [← xD];simp [za]
  have M5:CtAt C E s w0 #[.slice la f.es.length ca,.slice lp f.ps.length cp,.slice lt f.ts.length ct] most (min (n+Sx.zf4 most f 0) 2001:Nat) (qj .ready none) W5:=
    ⟨by rw [Sx.zrr,show min (n+0) 2001=n by omega];exact hst.keep (Oa.trans O5) (fun e=>e) (fun e=>e),kF.keep O5 (fun e=>e),kM.keep O5 (fun e=>e),
     by rw [← xD,← za];exact (Below.heap_alloc _ _ _ (by simp)).trans (World.alloc_heap_new Wa _),
     by rw [← xD];have:=World.alloc_heap_new (Wa.alloc (.deferred (some []))) (.loop (qj .ready none));rwa [qyd,za] at this,
     (Oa.trans O5).mono (fun k _ e=>e.elim)⟩
  refine⟨s+3,[{ target:=.collected (s+2),args:=#[] }],W5,{ target:=.fn (.func 135) #[],args:=#[.agg #[.slice la f.es.length ca,.slice lp f.ps.length cp,.slice lt f.ts.length ct],.func (.yield (s+3)) #[] #[]] },W5,135,
    #[.agg #[.slice la f.es.length ca,.slice lp f.ps.length cp,.slice lt f.ts.length ct],.func (.yield (s+3)) #[] #[]],W5,?_,?_,fun _ _=>trivial,?_,fun e=>by simp [Fence.wide] at e,?_⟩
  · have:=run_enterLoop_outer (P:=Tryz.prog) (w:=Wa) fn tm #[9] Ac Bc;rw [za] at this;rw [← xD,qu];rw [jS] at this ⊢;exact this
  · simp [resolve,go_sem]
  · simp [invoke,go_sem]
  · refine (zj6 2 (by decide) (s+3) W5 f F la lp lt ca cp ct (CtJ C E s w0 #[.slice la f.es.length ca,.slice lp f.ps.length cp,.slice lt f.ts.length ct] most n f qj) (CtF C E s w0 #[.slice la f.es.length ca,.slice lp f.ps.length cp,.slice lt f.ts.length ct] most n f qj)
      (fun i W h=>hf.keep h.1.fr (fun k hk e=>by have:=hF k hk;omega))
      (fun i W W' h hO=>⟨h.1.keep hO (fun _ _ e=>e) hC hE hs,h.2⟩)
      (fun i k kv W hk bN h=>by
        rw [z5];exact zps 1 w0 fn C E s N0 hC hE rB mc hs _ most hm n hn f Ac Bc jI tm _ _ _ _ _ _ _ _ _ _ _ _ _ _ _ _ _ _ _ jS qj qu F hF (fun m e=>HC.out m e F hF) i k kv W hk bN h)
      ⟨M5,fun _=>rfl⟩).mono ?_
    have hst:(qj .ready none).state=.ready∧(qj .ready none).pending=none∧(qj .done (some .ret)).state=.done∧(qj .done (some .ret)).pending=some .ret:=(by rw [qu];exact⟨rfl,rfl,rfl,rfl⟩);clear qu jI M5 xD O5 z5;have s7 : ∀(W6:World) (lo:Loop),CtAt C E s w0 #[.slice la f.es.length ca,.slice lp f.ps.length cp,.slice lt f.ts.length ct] most (min (n+Sx.cnt most f) 2001:Nat) lo W6→zfi C E (min (n+Sx.cnt most f) 2001) w0 (.returned (.tuple #[])) (W6.putObj (s+2) (.deferred none)):=fun W6 lo M7=>by
      have F8:Fr (fun k=>k=s+2) W6 (W6.putObj (s+2) (.deferred none)):=(Fr.refl _ _).putObj _ _ (fun _=>rfl);exact⟨rfl,M7.st.keep F8 (by omega) (by omega),M7.fr.trans' F8 (fun k hk e=>by omega)⟩
    have HE2:=qya s7;clear s7;rintro e W6 ⟨rfl,⟨M6,hz⟩ | M6⟩
    · have hz':most=0→(Sx.kids f).length=0:=fun e=>hz e;rw [Sx.zt1 hz'] at M6;obtain⟨L',qy⟩ : ∃L',(Instr.endLoop (s+3)).run Tryz.prog W6=.ok none (W6.putObj (s+3) (.loop L')):=⟨_,by have:=run_endLoop (P:=Tryz.prog) M6.lp (by rw [hst.1];simp);rw [hst.2.1] at this;exact this⟩;have M7:=M6.loopTo hC hE hs L';refine⟨_,_,qy,?_⟩;have HP:=qya (HE2.out _ _ M7);have D7:=M7.df;clear HE2 HC hm hn hz hz' hC hE hs za qy M6;gi_wp2;refine⟨by simp,.inl ⟨_,_,rfl,run_takeDeferred D7,?_⟩⟩;refine⟨.tuple #[],by simp [results,Tryz.results134,go_sem],HP.out⟩
    · obtain⟨L',qy⟩ : ∃L',(Instr.endLoop (s+3)).run Tryz.prog W6=.ok (some .ret) (W6.putObj (s+3) (.loop L')):=⟨_,by have:=run_endLoop (P:=Tryz.prog) M6.lp (by rw [hst.2.2.1];simp);rw [hst.2.2.2] at this;exact this⟩;have M7:=CtAt.loopTo M6 hC hE hs L';refine⟨_,_,qy,?_⟩;have HP:=qya (HE2.out _ _ M7);have D7:=M7.df;clear HE2 HC hm hn hC hE hs za qy M6;gi_wp2;refine⟨by simp,.inl ⟨_,_,rfl,run_takeDeferred D7,?_⟩⟩;refine⟨.tuple #[],by simp [results,Tryz.results134,go_sem],HP.out⟩
theorem zm1(C E N0:Nat)(mc:N0≤C)(rB:C≠E) : ∀(most:Nat),most≤100→∀(F:Nat→Prop),(∀k,F k→k<N0)→∀(n:Nat),n≤2001→∀(f:Sx.Fo) (v:Value) (W:World),FoAt W F f v→SSt C E n W →
  Calls Tryz.prog 134 #[v,.int .i64 most,.pointer (some ⟨C,0,none⟩),.pointer (some ⟨E,0,none⟩)] W (zfi C E (min (n+Sx.cnt most f) 2001) W)
 | 0,hm,F,hF,n,hn,f,v,W,hf,hst=>by
  obtain⟨la,ca,lp,cp,lt,ct,rfl⟩:=hf.parts;exact (callsIn_wide (n:=3)).1 (zkb C E N0 mc rB 0 hm n hn (fun m e=>by omega) F hF f la lp lt ca cp ct W hf hst)
 | m+1,hm,F,hF,n,hn,f,v,W,hf,hst=>by
  obtain⟨la,ca,lp,cp,lt,ct,rfl⟩:=hf.parts;exact (callsIn_wide (n:=3)).1 (zkb C E N0 mc rB (m+1) hm n hn (fun m' e=>by
   obtain rfl:m=m':=(by omega);exact fun F hF n hn k v W h1 h2=>zm1 C E N0 mc rB m (by omega) F hF n hn k v W h1 h2) F hF f la lp lt ca cp ct W hf hst)
theorem zp7(F:Nat→Prop)(f:Sx.Fo)(v:Value)(w:World)(hF : ∀k,F k→k<w.heap.size)(hf:FoAt w F f v) :
  Calls Tryz.prog 66 #[v] w fun e w'=>e=.returned (.int .i64 (min (Sx.cnt 100 f) 2001:Nat))∧Old w w':=by
 obtain⟨la,ca,lp,cp,lt,ct,rfl⟩:=hf.parts;have kF:=Blk.new w #[.slice la f.es.length ca,.slice lp f.ps.length cp,.slice lt f.ts.length ct] 120;obtain⟨f0,f1,f2⟩:=kF.c3;have O4:Old w (((w.alloc (.cells #[.slice la f.es.length ca,.slice lp f.ps.length cp,.slice lt f.ts.length ct] 120)).alloc (.cells #[.int .i64 0] 3)).alloc (.cells #[(.func (.func 134) #[] #[.pointer (some ⟨w.heap.size+1,0,none⟩),.pointer (some ⟨w.heap.size+1+1,0,none⟩)])] 178)):=(((Old.refl w).alloc _).alloc _).alloc _;have kC:Blk (((w.alloc (.cells #[.slice la f.es.length ca,.slice lp f.ps.length cp,.slice lt f.ts.length ct] 120)).alloc (.cells #[.int .i64 0] 3)).alloc (.cells #[(.func (.func 134) #[] #[.pointer (some ⟨w.heap.size+1,0,none⟩),.pointer (some ⟨w.heap.size+1+1,0,none⟩)])] 178)) (w.heap.size+1) #[.int .i64 0] 3:=(Blk.new' (by simp) _ _).alloc _;have kE:Blk (((w.alloc (.cells #[.slice la f.es.length ca,.slice lp f.ps.length cp,.slice lt f.ts.length ct] 120)).alloc (.cells #[.int .i64 0] 3)).alloc (.cells #[(.func (.func 134) #[] #[.pointer (some ⟨w.heap.size+1,0,none⟩),.pointer (some ⟨w.heap.size+1+1,0,none⟩)])] 178)) (w.heap.size+1+1) #[(.func (.func 134) #[] #[.pointer (some ⟨w.heap.size+1,0,none⟩),.pointer (some ⟨w.heap.size+1+1,0,none⟩)])] 178:=Blk.new' (by simp) _ _;have st:SSt (w.heap.size+1) (w.heap.size+1+1) (0:Nat) (((w.alloc (.cells #[.slice la f.es.length ca,.slice lp f.ps.length cp,.slice lt f.ts.length ct] 120)).alloc (.cells #[.int .i64 0] 3)).alloc (.cells #[(.func (.func 134) #[] #[.pointer (some ⟨w.heap.size+1,0,none⟩),.pointer (some ⟨w.heap.size+1+1,0,none⟩)])] 178)):=⟨kC,kE⟩;have qs:=zm1 (w.heap.size+1) (w.heap.size+1+1) w.heap.size (by omega) (by omega) 100 (qyb _) F hF 0 (by omega) f _ (((w.alloc (.cells #[.slice la f.es.length ca,.slice lp f.ps.length cp,.slice lt f.ts.length ct] 120)).alloc (.cells #[.int .i64 0] 3)).alloc (.cells #[(.func (.func 134) #[] #[.pointer (some ⟨w.heap.size+1,0,none⟩),.pointer (some ⟨w.heap.size+1+1,0,none⟩)])] 178)) (hf.keep O4 (fun k hk e=>e)) st;rw [show ((100:Nat):Int)=100 from rfl,Nat.zero_add] at qs;obtain⟨c,hc⟩ : ∃c,min (Sx.cnt 100 f) 2001=c:=⟨_,rfl⟩;rw [hc] at qs ⊢;have d1:=st.e.cell (i:=0) rfl;have HF5:=qya O4;clear st kC kE O4 kF hc
 go_enter Tryz.func66,Tryz.ntmps66
 go_wp2_with fail
 (with_reducible refine qs.mono ?_)
 rintro e w2 ⟨rfl,st2,f2⟩;have c0:=st2.c.c 0 (.int .i64 c) rfl;clear qs;go_wp2;go_ret;exact⟨rfl,HF5.out.trans' f2 (fun k hk e=>by omega)⟩
def znx(f:Sx.Fun):Bool:=(Lx.kind f.name==2)&&(Lx.kind f.arg==2)&&zha f.body
def znz(c:Sx.Con):Bool:=(Lx.kind c.name==3)&&decide (c.args.length≤16)&&zfg c.args
theorem zuf(f:Sx.Fun)(F:Nat→Prop)(v:Value)(W:World)(h1:f.name.length≤140737488355328)(h2:f.arg.length≤140737488355328)(h3:zci f.body)(h:FunAt W F f v)(hg:Gl W) :
  Calls Tryz.prog 155 #[v] W fun e W'=>e=.returned (.bool (znx f))∧Old W W':=by
 obtain⟨s,t,a0,a1,a2,a3,a4,a5,rfl,e1,e2,hx⟩:=h;obtain⟨kd,nu,nm,ag,la,na,ca,lp,np,cp,he⟩:=hx.parts;cases he;unfold znx;have qY:s.size≤140737488355328:=by rw [← e1,← toList_data,qyv] at h1;exact h1
 have tsz:t.size≤140737488355328:=by rw [← e2,← toList_data,qyv] at h2;exact h2
 rw [← e1,← e2];have O1:Old W (W.alloc (.cells #[.string s,.string t,.int .i64 kd,.int .i64 nu,.string nm,.string ag,.slice la na ca,.slice lp np cp] 144)):=(Old.refl W).alloc _;have kX:=Blk.new W #[.string s,.string t,.int .i64 kd,.int .i64 nu,.string nm,.string ag,.slice la na ca,.slice lp np cp] 144;have vJ:=qya (fun W' (o:Old W W')=>zal s qY W' (hg.old o));have uC:=qya (fun W' (o:Old W W')=>zal t tsz W' (hg.old o));rw [toList_data] at vJ uC;have HEX:=qya (fun W' (o:Old W W')=>zei f.body F _ W' h3 (hx.keep o (fun _ _ e=>e)) (hg.old o));have x0:=kX.cell (i:=0) (v:=.string s) rfl;have x1:=kX.cell (i:=1) (v:=.string t) rfl;obtain⟨b,hb⟩ : ∃b,zha f.body=b:=⟨_,rfl⟩;rw [hb] at HEX ⊢;clear hb e1 e2 hx
 go_enter Tryz.func155,Tryz.ntmps155
 go_wp2_with fail
 (with_reducible refine (vJ.out _ O1).mono ?_)
 rintro e w2 ⟨rfl,o2⟩;have k2:=kX.keep o2 (fun e=>e);have y1:=k2.cell (i:=1) (v:=.string t) rfl;cases hc1:(Lx.kind s.toList==2)
 ·go_wp2;go_ret;exact⟨by rw [hc1];rfl,O1.trans o2⟩
 ·go_wp2_with fail
  (with_reducible refine (uC.out _ (O1.trans o2)).mono ?_)
  rintro e w3 ⟨rfl,o3⟩;have k3:=k2.keep o3 (fun e=>e);have u2:=k3.cell (i:=2) (v:=.int .i64 kd) rfl;have u3:=k3.cell (i:=3) (v:=.int .i64 nu) rfl;have u4:=k3.cell (i:=4) (v:=.string nm) rfl;have u5:=k3.cell (i:=5) (v:=.string ag) rfl;have u6:=k3.cell (i:=6) (v:=.slice la na ca) rfl;have u7:=k3.cell (i:=7) (v:=.slice lp np cp) rfl;cases hc2:(Lx.kind t.toList==2)
  ·go_wp2;go_ret;exact⟨by rw [hc1,hc2];rfl,(O1.trans o2).trans o3⟩
  ·go_wp2_with fail
   (with_reducible refine (HEX.out _ ((O1.trans o2).trans o3)).mono ?_)
   rintro e w4 ⟨rfl,o4⟩;go_wp2;go_ret;exact⟨by rw [hc1,hc2];rfl,((O1.trans o2).trans o3).trans o4⟩
theorem zkr(F:Nat→Prop)(f:Sx.Fo)(v:Value)(w:World)(hF : ∀k,F k→k<w.heap.size)(hf:FoAt w F f v) :
  Calls Tryz.prog 75 #[v] w fun e w'=>e=.returned (.int .i64 (Sx.limV f))∧Old w w':=by
 obtain⟨la,ca,lp,cp,lt,ct,rfl⟩:=hf.parts;obtain⟨R,hR⟩ : ∃R,Sx.limV f=R:=⟨_,rfl⟩;rw [hR];have O1:Old w (w.alloc (.cells #[.slice la f.es.length ca,.slice lp f.ps.length cp,.slice lt f.ts.length ct] 120)):=(Old.refl w).alloc _;have HD:=qya (fun (W:World) (o:Old w W)=>zn4 F f (.agg #[.slice la f.es.length ca,.slice lp f.ps.length cp,.slice lt f.ts.length ct]) W (fun k hk=>qyc (hF k hk) o.size) (hf.keep o (fun _ _ e=>e)));have HS:=qya (fun (W:World) (o:Old w W)=>zp7 F f (.agg #[.slice la f.es.length ca,.slice lp f.ps.length cp,.slice lt f.ts.length ct]) W (fun k hk=>qyc (hF k hk) o.size) (hf.keep o (fun _ _ e=>e)));have kF:=Blk.new w #[.slice la f.es.length ca,.slice lp f.ps.length cp,.slice lt f.ts.length ct] 120;obtain⟨f0,f1,f2⟩:=kF.c3;unfold Sx.limV at hR;obtain⟨d,hd⟩ : ∃d,Sx.capD 100 f=d:=⟨_,rfl⟩;obtain⟨c,hc⟩ : ∃c,min (Sx.cnt 100 f) 2001=c:=⟨_,rfl⟩;have pV:(2000<Sx.cnt 100 f) ↔ (2000<c):=by omega
 rw [hd] at hR HD;rw [hc] at HS
 by_cases h1:100<d
 ·rw [if_pos h1] at hR;have g1:decide ((100:Int)<(d:Int))=true:=qyl (by omega);have g2:decide (100<d)=true:=qyl h1;have HR:=qya hR;clear hR hd hc pV h1
  go_enter Tryz.func75,Tryz.ntmps75
  go_wp2_with fail
  (with_reducible refine (HD.out _ O1).mono ?_)
  rintro e w2 ⟨rfl,o2⟩;go_wp2;go_ret;exact⟨by rw [← HR.out];rfl,O1.trans o2⟩
 ·rw [if_neg h1] at hR;have g1:decide ((100:Int)<(d:Int))=false:=qyk (by omega);have g2:decide (100<d)=false:=qyk h1
  by_cases h2:2000<c
  ·rw [if_pos (pV.2 h2)] at hR;have g3:decide ((2000:Int)<(c:Int))=true:=qyl (by omega);have g4:decide (2000<c)=true:=qyl h2;have HR:=qya hR;clear hR hd hc pV h1 h2
   go_enter Tryz.func75,Tryz.ntmps75
   go_wp2_with fail
   (with_reducible refine (HD.out _ O1).mono ?_)
   rintro e w2 ⟨rfl,o2⟩;have k2:=kF.keep o2 (fun e=>e);obtain⟨f0,f1,f2⟩:=k2.c3
   go_wp2_with fail
   (with_reducible refine (HS.out _ (O1.trans o2)).mono ?_)
   rintro e w3 ⟨rfl,o3⟩;go_wp2;go_ret;exact⟨by rw [← HR.out];rfl,(O1.trans o2).trans o3⟩
  ·rw [if_neg (fun h=>h2 (pV.1 h))] at hR;have g3:decide ((2000:Int)<(c:Int))=false:=qyk (by omega);have g4:decide (2000<c)=false:=qyk h2;have HR:=qya hR;clear hR hd hc pV h1 h2
   go_enter Tryz.func75,Tryz.ntmps75
   go_wp2_with fail
   (with_reducible refine (HD.out _ O1).mono ?_)
   rintro e w2 ⟨rfl,o2⟩;have k2:=kF.keep o2 (fun e=>e);obtain⟨f0,f1,f2⟩:=k2.c3
   go_wp2_with fail
   (with_reducible refine (HS.out _ (O1.trans o2)).mono ?_)
   rintro e w3 ⟨rfl,o3⟩;go_wp2;go_ret;exact⟨by rw [← HR.out];rfl,(O1.trans o2).trans o3⟩
def chkV(pk:Int)(b:Bool):Int:=if pk≠0 then pk else if b then 0 else 21
theorem zj4(f:Sx.Fo)(F:Nat→Prop)(fv:Value)(kd nu:Int)(nm ag:ByteArray)(la:Option Addr)(na ca:Nat)(lp:Option Addr)(np cp:Nat)(b:Bool)(w:World)(hF : ∀k,F k→k<w.heap.size)(hf:FoAt w F f fv)
  (ud : ∀W,Old w W→Calls Tryz.prog 96 #[.agg #[.int .i64 kd,.int .i64 nu,.string nm,.string ag,.slice la na ca,.slice lp np cp]] W fun e W'=>e=.returned (.bool b)∧Old W W') :
  Calls Tryz.prog 95 #[.agg #[.int .i64 kd,.int .i64 nu,.string nm,.string ag,.slice la na ca,.slice lp np cp],fv,.func (.func 96) #[] #[]] w fun e w'=>e=.returned (.int .i64 (chkV (Sx.limV f) b))∧Old w w':=by
 obtain⟨l1,c1,l2,c2,l3,c3,rfl⟩:=hf.parts;have OX:Old w (w.alloc (.cells #[.int .i64 kd,.int .i64 nu,.string nm,.string ag,.slice la na ca,.slice lp np cp] 32)):=(Old.refl w).alloc _;have O1:Old w ((w.alloc (.cells #[.int .i64 kd,.int .i64 nu,.string nm,.string ag,.slice la na ca,.slice lp np cp] 32)).alloc (.cells #[.slice l1 f.es.length c1,.slice l2 f.ps.length c2,.slice l3 f.ts.length c3] 120)):=OX.alloc _;have HL:=qya (zkr F f _ _ (fun k hk=>qyc (hF k hk) O1.size) (hf.keep O1 (fun _ _ e=>e)));have HI:=qya ud;clear ud;have kX:Blk ((w.alloc (.cells #[.int .i64 kd,.int .i64 nu,.string nm,.string ag,.slice la na ca,.slice lp np cp] 32)).alloc (.cells #[.slice l1 f.es.length c1,.slice l2 f.ps.length c2,.slice l3 f.ts.length c3] 120)) w.heap.size #[.int .i64 kd,.int .i64 nu,.string nm,.string ag,.slice la na ca,.slice lp np cp] 32:=(Blk.new w _ _).alloc _;have kF:Blk ((w.alloc (.cells #[.int .i64 kd,.int .i64 nu,.string nm,.string ag,.slice la na ca,.slice lp np cp] 32)).alloc (.cells #[.slice l1 f.es.length c1,.slice l2 f.ps.length c2,.slice l3 f.ts.length c3] 120)) (w.heap.size+1) #[.slice l1 f.es.length c1,.slice l2 f.ps.length c2,.slice l3 f.ts.length c3] 120:=Blk.new' (by simp) _ _;obtain⟨f0,f1,f2⟩:=kF.c3;obtain⟨pk,dP⟩ : ∃pk,Sx.limV f=pk:=⟨_,rfl⟩;rw [dP] at HL ⊢;obtain⟨R,hR⟩ : ∃R,chkV pk b=R:=⟨_,rfl⟩;rw [hR];unfold chkV at hR;clear dP
 by_cases h0:pk=0
 ·subst h0;rw [if_neg (by simp)] at hR;have HR:=qya hR;clear hR
  go_enter Tryz.func95,Tryz.ntmps95
  go_wp2_with fail
  (with_reducible refine HL.out.mono ?_)
  rintro e w2 ⟨rfl,o2⟩;have k2:=kX.keep o2 (fun e=>e);obtain⟨y0,y1,y2,y3,y4,y5⟩:=k2.c6
  go_wp2_with fail
  (with_reducible refine (HI.out _ (O1.trans o2)).mono ?_)
  rintro e w3 ⟨rfl,o3⟩;cases b
  ·go_wp2;go_ret;exact⟨by rw [← HR.out];rfl,(O1.trans o2).trans o3⟩
  ·go_wp2;go_ret;exact⟨by rw [← HR.out];rfl,(O1.trans o2).trans o3⟩
 ·rw [if_pos h0] at hR;subst hR;have g1:(pk != 0)=true:=by simpa using h0
  have g2:(pk==0)=false:=by simpa using h0
  clear h0
  go_enter Tryz.func95,Tryz.ntmps95
  go_wp2_with fail
  (with_reducible refine HL.out.mono ?_)
  rintro e w2 ⟨rfl,o2⟩;go_wp2;go_ret;exact⟨rfl,O1.trans o2⟩
def ckE(x:Sx.Ex):Int:=chkV (Sx.limV ⟨[x],[],[]⟩) (zha x)
theorem zk2(x:Sx.Ex)(v:Value)(F:Nat→Prop)(w:World)(hs:zci x)(hx:ExAt w F x v)(hF : ∀k,F k→k<w.heap.size)(hg:Gl w) :
  Calls Tryz.prog 44 #[v] w fun e w'=>e=.returned (.int .i64 (ckE x))∧Old w w':=by
 obtain⟨kd,nu,nm,ag,la,na,ca,lp,np,cp,rfl⟩:=hx.parts;have O1:Old w (w.alloc (.cells #[.int .i64 kd,.int .i64 nu,.string nm,.string ag,.slice la na ca,.slice lp np cp] 32)):=(Old.refl w).alloc _;have kX:=Blk.new w #[.int .i64 kd,.int .i64 nu,.string nm,.string ag,.slice la na ca,.slice lp np cp] 32;obtain⟨x0,x1,x2,x3,x4,x5⟩:=kX.c6;have O2:Old w ((w.alloc (.cells #[.int .i64 kd,.int .i64 nu,.string nm,.string ag,.slice la na ca,.slice lp np cp] 32)).alloc (.cells #[.int .i64 kd,.int .i64 nu,.string nm,.string ag,.slice la na ca,.slice lp np cp] 32)):=O1.alloc _;have kL:Blk ((w.alloc (.cells #[.int .i64 kd,.int .i64 nu,.string nm,.string ag,.slice la na ca,.slice lp np cp] 32)).alloc (.cells #[.int .i64 kd,.int .i64 nu,.string nm,.string ag,.slice la na ca,.slice lp np cp] 32)) (w.heap.size+1) #[.int .i64 kd,.int .i64 nu,.string nm,.string ag,.slice la na ca,.slice lp np cp] 32:=Blk.new' (by simp) _ _;have bh:=hx.keep O2 (fun _ _ e=>e);have qK:RowAt ((w.alloc (.cells #[.int .i64 kd,.int .i64 nu,.string nm,.string ag,.slice la na ca,.slice lp np cp] 32)).alloc (.cells #[.int .i64 kd,.int .i64 nu,.string nm,.string ag,.slice la na ca,.slice lp np cp] 32)) (fun k=>F k∨k=w.heap.size+1) 32 6 (.slice (some ⟨w.heap.size+1,0,none⟩) 1 1) 1 [.int .i64 kd,.int .i64 nu,.string nm,.string ag,.slice la na ca,.slice lp np cp]:=
  ⟨⟨rfl,.inr ⟨w.heap.size+1,1,_,rfl,qyi _,kL,qyb _,by unfold maxLen;omega,rfl,rfl⟩⟩,fun k hk=>by cases hk;exact .inr rfl⟩
 have dj:FoAt ((w.alloc (.cells #[.int .i64 kd,.int .i64 nu,.string nm,.string ag,.slice la na ca,.slice lp np cp] 32)).alloc (.cells #[.int .i64 kd,.int .i64 nu,.string nm,.string ag,.slice la na ca,.slice lp np cp] 32)) (fun k=>F k∨k=w.heap.size+1) ⟨[x],[],[]⟩ (.agg #[.slice (some ⟨w.heap.size+1,0,none⟩) 1 1,.slice none 0 0,.slice none 0 0]):=by
  refine⟨_,_,_,[],_,[],rfl,qK,by rw [ExsAt];exact⟨_,_,_,_,_,_,[],rfl,bh.more (fun _ h=>.inl h),by rw [ExsAt]⟩,RowAt.none ..,by rw [PasAt],RowAt.none ..,by rw [TysAt]⟩
 have qs:=zj4 ⟨[x],[],[]⟩ (fun k=>F k∨k=w.heap.size+1) _ kd nu nm ag la na ca lp np cp (zha x) _ (fun k hk=>by
   have:((w.alloc (.cells #[.int .i64 kd,.int .i64 nu,.string nm,.string ag,.slice la na ca,.slice lp np cp] 32)).alloc (.cells #[.int .i64 kd,.int .i64 nu,.string nm,.string ag,.slice la na ca,.slice lp np cp] 32)).heap.size=w.heap.size+1+1:=(by simp);rw [this];rcases hk with hk | hk
   ·have:=hF k hk;omega
   ·omega) dj (fun W o=>zei x F _ W hs (bh.keep o (fun _ _ e=>e)) (hg.old (O2.trans o)))
 have HC:=qya qs;clear qs dj qK bh hx hs
 go_enter Tryz.func44,Tryz.ntmps44
 go_wp2_with fail
 (with_reducible refine HC.out.mono ?_)
 rintro e w3 ⟨rfl,o3⟩;go_wp2;go_ret;exact⟨rfl,O2.trans o3⟩
theorem ElsAt.nth{α : Type}{At : α→Value→Prop}{m:Nat} : ∀(ts:List α) (xs:List Value),ElsAt At m ts xs→∀i (hi:i<ts.length),∃hd:List Value,hd.length=m∧At ts[i] (.agg hd.toArray)∧∀j,j<m→xs[i*m+j]? = hd[j]?
 | [],xs,_,i,hi=>absurd hi (Nat.not_lt_zero i)
 | t::r,xs,⟨hd,ys,h1,h2,h3,h4⟩,0,_=>⟨hd,h2,h3,fun j hj=>by rw [h1,Nat.zero_mul,Nat.zero_add,List.getElem?_append_left (by omega)]⟩
 | t::r,xs,⟨hd,ys,h1,h2,h3,h4⟩,i+1,hi=>by
  obtain⟨hd',k1,k2,k3⟩:=ElsAt.nth r ys h4 i (Nat.lt_of_succ_lt_succ hi);refine⟨hd',k1,k2,fun j hj => ?_⟩;rw [h1,List.getElem?_append_right (by rw [h2,Nat.succ_mul];omega),h2,← k3 j hj]
  congr 1
  rw [Nat.succ_mul];omega
theorem zj1{hd l:List Value}(h:Value.agg hd.toArray=.agg l.toArray):hd=l:=by
 simpa using h
theorem zxd(is:Sx.Decl→Bool)(w:World)(F:Nat→Prop)(sv:Value)(ts:List Sx.Decl)(ug:LsAt DeclAt 84 14 w F ts sv)
  (ud : ∀p∈ts,∀(v:Value) (W:World),Old w W→DeclAt W F p v→Calls Tryz.prog 77 #[v] W fun e W'=>e=.returned (.bool (is p))∧Old W W') :
  Calls Tryz.prog 76 #[sv,.func (.func 77) #[] #[]] w fun e w'=>e=.returned (.bool (ts.all is))∧Old w w':=by
 obtain⟨xs,qK,yP⟩:=ug;have qz:=qK.1;obtain⟨vB,qt,rfl⟩:=zad qz;have zi:ts.length≤maxLen:=zbm qK;have cy:=qya ud;clear ud
 go_enter Tryz.func76,Tryz.ntmps76
 go_wp2_with fail
 go_loopg [9] ts.length (fun g s9 wr=>∃i:Nat,g=ts.length-i∧i≤ts.length∧s9=.int .i64 i∧(ts.take i).all is=true∧Old w wr)
 case atStart=>exact⟨0,rfl,qyi _,rfl,rfl,Old.refl w⟩
 case round=>
  obtain⟨i,hg,hi,rfl,ql,hO⟩:=hrel;have HG:=qya hg;have qL:=qya ql;have HN:=qya zi;clear hg ql;cases hd:decide ((i:Int)<(ts.length:Int))
  ·have he:i=ts.length:=(by simp only [qyn] at hd;omega);have hres:ts.all is=true:=(by have:=qL.out;rwa [he,List.take_length] at this);have HR:=qya hres;have xq:decide (i<ts.length)=false:=qyk (by omega);clear hres he hi zi;go_wp2;go_ret;exact⟨by rw [HR.out];rfl,hO⟩
  ·have qx:i<ts.length:=(by simp only [qyo] at hd;omega);have qk:=zaa qz hO (fun _ _ e=>e);obtain⟨cells,hm,vY,qn⟩:=ElsAt.nth ts xs yP i qx;have q8:ts[i]∈ts:=List.getElem_mem qx;have qB:(ts.take (i+1)).all is=is ts[i]:=by
    rw [qyt qx,List.all_append,qL.out];simp
   have qS:is ts[i]=false→ts.all is=false:=fun hf=>by
    rw [List.all_eq_false];exact⟨ts[i],q8,by rw [hf];decide⟩
   obtain⟨y,hy⟩ : ∃y,ts[i]=y:=⟨_,rfl⟩;rw [hy] at vY q8 qB qS;clear hy;have HM:=qya q8;have HT:=qya qB;have HF:=qya qS;clear q8 qB qS;have xE:DeclAt wr F y (.agg cells.toArray):=zcc.keep hO (fun _ _ e=>e) _ _ vY;obtain⟨k0,s1,l2,n2,c2,l3,n3,c3,s4,s5,l6,n6,c6,l7,n7,c7,k8,k9,s10,s11,l12,n12,c12,l13,n13,c13,vr⟩:=xE.parts;have pZ:=zj1 vr;subst pZ;obtain⟨g,cap,xf,-,-⟩:=qk.form (by omega);cases xf;have d0:wr.cell? ⟨g,i*14,none⟩=some (.int .i64 k0):=(by rw [qk.cellAt (i*14) (by omega),show i*14=i*14+0 from rfl,qn 0 (by omega)];rfl);have d1:wr.cell? ⟨g,i*14+1,none⟩=some (.string s1):=(by rw [qk.cellAt (i*14+1) (by omega),qn 1 (by omega)];rfl);have d2:wr.cell? ⟨g,i*14+2,none⟩=some (.slice l2 n2 c2):=(by rw [qk.cellAt (i*14+2) (by omega),qn 2 (by omega)];rfl);have d3:wr.cell? ⟨g,i*14+3,none⟩=some (.slice l3 n3 c3):=(by rw [qk.cellAt (i*14+3) (by omega),qn 3 (by omega)];rfl);have d4:wr.cell? ⟨g,i*14+4,none⟩=some (.string s4):=(by rw [qk.cellAt (i*14+4) (by omega),qn 4 (by omega)];rfl);have d5:wr.cell? ⟨g,i*14+5,none⟩=some (.string s5):=(by rw [qk.cellAt (i*14+5) (by omega),qn 5 (by omega)];rfl);have d6:wr.cell? ⟨g,i*14+6,none⟩=some (.slice l6 n6 c6):=(by rw [qk.cellAt (i*14+6) (by omega),qn 6 (by omega)];rfl);have d7:wr.cell? ⟨g,i*14+7,none⟩=some (.slice l7 n7 c7):=(by rw [qk.cellAt (i*14+7) (by omega),qn 7 (by omega)];rfl);have d8:wr.cell? ⟨g,i*14+8,none⟩=some (.int .i64 k8):=(by rw [qk.cellAt (i*14+8) (by omega),qn 8 (by omega)];rfl);have d9:wr.cell? ⟨g,i*14+9,none⟩=some (.int .i64 k9):=(by rw [qk.cellAt (i*14+9) (by omega),qn 9 (by omega)];rfl);have d10:wr.cell? ⟨g,i*14+10,none⟩=some (.string s10):=(by rw [qk.cellAt (i*14+10) (by omega),qn 10 (by omega)];rfl);have d11:wr.cell? ⟨g,i*14+11,none⟩=some (.string s11):=(by rw [qk.cellAt (i*14+11) (by omega),qn 11 (by omega)];rfl);have d12:wr.cell? ⟨g,i*14+12,none⟩=some (.slice l12 n12 c12):=(by rw [qk.cellAt (i*14+12) (by omega),qn 12 (by omega)];rfl);have d13:wr.cell? ⟨g,i*14+13,none⟩=some (.slice l13 n13 c13):=(by rw [qk.cellAt (i*14+13) (by omega),qn 13 (by omega)];rfl);have jy:wrap64 ((i:Int)+1)=((i+1:Nat):Int):=by
    rw [IntWalk.wrap64_in _ (by unfold maxLen at zi;omega)];omega
   have zw:=qya qx;have ze:=qya jy;have xq:decide (i<ts.length)=true:=qyl qx;have kX:=Blk.new wr #[.int .i64 k0,.string s1,.slice l2 n2 c2,.slice l3 n3 c3,.string s4,.string s5,.slice l6 n6 c6,.slice l7 n7 c7,.int .i64 k8,.int .i64 k9,.string s10,.string s11,.slice l12 n12 c12,.slice l13 n13 c13] 84;obtain⟨x0,x1,x2,x3,x4,x5,x6,x7,x8,x9,ym,yr,yn,yb⟩:=kX.c14;have oX:=hO.alloc (.cells #[.int .i64 k0,.string s1,.slice l2 n2 c2,.slice l3 n3 c3,.string s4,.string s5,.slice l6 n6 c6,.slice l7 n7 c7,.int .i64 k8,.int .i64 k9,.string s10,.string s11,.slice l12 n12 c12,.slice l13 n13 c13] 84);have bZ:=zcc.keep ((Old.refl wr).alloc (.cells #[.int .i64 k0,.string s1,.slice l2 n2 c2,.slice l3 n3 c3,.string s4,.string s5,.slice l6 n6 c6,.slice l7 n7 c7,.int .i64 k8,.int .i64 k9,.string s10,.string s11,.slice l12 n12 c12,.slice l13 n13 c13] 84)) (fun _ _ e=>e) _ _ xE;clear jy zi vr qn hm
   go_wp2_with fail
   (with_reducible refine (cy.out y HM.out _ _ oX bZ).mono ?_)
   rintro e w2 ⟨rfl,o2⟩;have u9:=oX.trans o2;cases hb:is y
   ·go_wp2;go_ret;exact⟨by rw [HF.out hb];rfl,u9⟩
   ·have jy:=ze.out;go_wp2
    go_roundg (ts.length-(i+1))
    case measure=>have:=zw.out;have:=HG.out;omega
    case rel=>exact⟨i+1,rfl,zw.out,by first | rfl | rw [ze.out],by rw [HT.out];exact hb,u9⟩
theorem zxb(is:Sx.Fun→Bool)(w:World)(F:Nat→Prop)(sv:Value)(ts:List Sx.Fun)(ug:LsAt FunAt 144 8 w F ts sv)
  (ud : ∀p∈ts,∀(v:Value) (W:World),Old w W→FunAt W F p v→Calls Tryz.prog 155 #[v] W fun e W'=>e=.returned (.bool (is p))∧Old W W') :
  Calls Tryz.prog 154 #[sv,.func (.func 155) #[] #[]] w fun e w'=>e=.returned (.bool (ts.all is))∧Old w w':=by
 obtain⟨xs,qK,yP⟩:=ug;have qz:=qK.1;obtain⟨vB,qt,rfl⟩:=zad qz;have zi:ts.length≤maxLen:=zbm qK;have cy:=qya ud;clear ud
 go_enter Tryz.func154,Tryz.ntmps154
 go_wp2_with fail
 go_loopg [9] ts.length (fun g s9 wr=>∃i:Nat,g=ts.length-i∧i≤ts.length∧s9=.int .i64 i∧(ts.take i).all is=true∧Old w wr)
 case atStart=>exact⟨0,rfl,qyi _,rfl,rfl,Old.refl w⟩
 case round=>
  obtain⟨i,hg,hi,rfl,ql,hO⟩:=hrel;have HG:=qya hg;have qL:=qya ql;have HN:=qya zi;clear hg ql;cases hd:decide ((i:Int)<(ts.length:Int))
  ·have he:i=ts.length:=(by simp only [qyn] at hd;omega);have hres:ts.all is=true:=(by have:=qL.out;rwa [he,List.take_length] at this);have HR:=qya hres;have xq:decide (i<ts.length)=false:=qyk (by omega);clear hres he hi zi;go_wp2;go_ret;exact⟨by rw [HR.out];rfl,hO⟩
  ·have qx:i<ts.length:=(by simp only [qyo] at hd;omega);have qk:=zaa qz hO (fun _ _ e=>e);obtain⟨cells,hm,vY,qn⟩:=ElsAt.nth ts xs yP i qx;have q8:ts[i]∈ts:=List.getElem_mem qx;have qB:(ts.take (i+1)).all is=is ts[i]:=by
    rw [qyt qx,List.all_append,qL.out];simp
   have qS:is ts[i]=false→ts.all is=false:=fun hf=>by
    rw [List.all_eq_false];exact⟨ts[i],q8,by rw [hf];decide⟩
   obtain⟨y,hy⟩ : ∃y,ts[i]=y:=⟨_,rfl⟩;rw [hy] at vY q8 qB qS;clear hy;have HM:=qya q8;have HT:=qya qB;have HF:=qya qS;clear q8 qB qS;have xE:FunAt wr F y (.agg cells.toArray):=zb0.keep hO (fun _ _ e=>e) _ _ vY;obtain⟨s0,s1,b0,b1,b2,b3,b4,b5,vr,hn1,hn2,hbx⟩:=id xE;obtain⟨k2,k3,s4,s5,l6,n6,c6,l7,n7,c7,kW⟩:=hbx.parts;simp only [Value.agg.injEq,Array.mk.injEq,List.cons.injEq,and_true] at kW;obtain⟨rfl,rfl,rfl,rfl,rfl,rfl⟩:=kW;have pZ:=zj1 vr;subst pZ;obtain⟨g,cap,xf,-,-⟩:=qk.form (by omega);cases xf;have d0:wr.cell? ⟨g,i*8,none⟩=some (.string s0):=(by rw [qk.cellAt (i*8) (by omega),show i*8=i*8+0 from rfl,qn 0 (by omega)];rfl);have d1:wr.cell? ⟨g,i*8+1,none⟩=some (.string s1):=(by rw [qk.cellAt (i*8+1) (by omega),qn 1 (by omega)];rfl);have d2:wr.cell? ⟨g,i*8+2,none⟩=some (.int .i64 k2):=(by rw [qk.cellAt (i*8+2) (by omega),qn 2 (by omega)];rfl);have d3:wr.cell? ⟨g,i*8+3,none⟩=some (.int .i64 k3):=(by rw [qk.cellAt (i*8+3) (by omega),qn 3 (by omega)];rfl);have d4:wr.cell? ⟨g,i*8+4,none⟩=some (.string s4):=(by rw [qk.cellAt (i*8+4) (by omega),qn 4 (by omega)];rfl);have d5:wr.cell? ⟨g,i*8+5,none⟩=some (.string s5):=(by rw [qk.cellAt (i*8+5) (by omega),qn 5 (by omega)];rfl);have d6:wr.cell? ⟨g,i*8+6,none⟩=some (.slice l6 n6 c6):=(by rw [qk.cellAt (i*8+6) (by omega),qn 6 (by omega)];rfl);have d7:wr.cell? ⟨g,i*8+7,none⟩=some (.slice l7 n7 c7):=(by rw [qk.cellAt (i*8+7) (by omega),qn 7 (by omega)];rfl);have jy:wrap64 ((i:Int)+1)=((i+1:Nat):Int):=by
    rw [IntWalk.wrap64_in _ (by unfold maxLen at zi;omega)];omega
   have zw:=qya qx;have ze:=qya jy;have xq:decide (i<ts.length)=true:=qyl qx;have kX:=Blk.new wr #[.string s0,.string s1,.int .i64 k2,.int .i64 k3,.string s4,.string s5,.slice l6 n6 c6,.slice l7 n7 c7] 144;obtain⟨x0,x1,x2,x3,x4,x5,x6,x7⟩:=kX.c8;have oX:=hO.alloc (.cells #[.string s0,.string s1,.int .i64 k2,.int .i64 k3,.string s4,.string s5,.slice l6 n6 c6,.slice l7 n7 c7] 144);have bZ:=zb0.keep ((Old.refl wr).alloc (.cells #[.string s0,.string s1,.int .i64 k2,.int .i64 k3,.string s4,.string s5,.slice l6 n6 c6,.slice l7 n7 c7] 144)) (fun _ _ e=>e) _ _ xE;clear jy zi vr qn hm hn1 hn2 hbx
   go_wp2_with fail
   (with_reducible refine (cy.out y HM.out _ _ oX bZ).mono ?_)
   rintro e w2 ⟨rfl,o2⟩;have u9:=oX.trans o2;cases hb:is y
   ·go_wp2;go_ret;exact⟨by rw [HF.out hb];rfl,u9⟩
   ·have jy:=ze.out;go_wp2
    go_roundg (ts.length-(i+1))
    case measure=>have:=zw.out;have:=HG.out;omega
    case rel=>exact⟨i+1,rfl,zw.out,by first | rfl | rw [ze.out],by rw [HT.out];exact hb,u9⟩
theorem zxe(is:Sx.Con→Bool)(w:World)(F:Nat→Prop)(sv:Value)(ts:List Sx.Con)(ug:LsAt ConAt 177 2 w F ts sv)
  (ud : ∀p∈ts,∀(v:Value) (W:World),Old w W→ConAt W F p v→Calls Tryz.prog 220 #[v] W fun e W'=>e=.returned (.bool (is p))∧Old W W') :
  Calls Tryz.prog 219 #[sv,.func (.func 220) #[] #[]] w fun e w'=>e=.returned (.bool (ts.all is))∧Old w w':=by
 obtain⟨xs,qK,yP⟩:=ug;have qz:=qK.1;obtain⟨vB,qt,rfl⟩:=zad qz;have zi:ts.length≤maxLen:=zbm qK;have cy:=qya ud;clear ud
 go_enter Tryz.func219,Tryz.ntmps219
 go_wp2_with fail
 go_loopg [9] ts.length (fun g s9 wr=>∃i:Nat,g=ts.length-i∧i≤ts.length∧s9=.int .i64 i∧(ts.take i).all is=true∧Old w wr)
 case atStart=>exact⟨0,rfl,qyi _,rfl,rfl,Old.refl w⟩
 case round=>
  obtain⟨i,hg,hi,rfl,ql,hO⟩:=hrel;have HG:=qya hg;have qL:=qya ql;have HN:=qya zi;clear hg ql;cases hd:decide ((i:Int)<(ts.length:Int))
  ·have he:i=ts.length:=(by simp only [qyn] at hd;omega);have hres:ts.all is=true:=(by have:=qL.out;rwa [he,List.take_length] at this);have HR:=qya hres;have xq:decide (i<ts.length)=false:=qyk (by omega);clear hres he hi zi;go_wp2;go_ret;exact⟨by rw [HR.out];rfl,hO⟩
  ·have qx:i<ts.length:=(by simp only [qyo] at hd;omega);have qk:=zaa qz hO (fun _ _ e=>e);obtain⟨cells,hm,vY,qn⟩:=ElsAt.nth ts xs yP i qx;have q8:ts[i]∈ts:=List.getElem_mem qx;have qB:(ts.take (i+1)).all is=is ts[i]:=by
    rw [qyt qx,List.all_append,qL.out];simp
   have qS:is ts[i]=false→ts.all is=false:=fun hf=>by
    rw [List.all_eq_false];exact⟨ts[i],q8,by rw [hf];decide⟩
   obtain⟨y,hy⟩ : ∃y,ts[i]=y:=⟨_,rfl⟩;rw [hy] at vY q8 qB qS;clear hy;have HM:=qya q8;have HT:=qya qB;have HF:=qya qS;clear q8 qB qS;have xE:ConAt wr F y (.agg cells.toArray):=zb1.keep hO (fun _ _ e=>e) _ _ vY;obtain⟨s0,l1,n1,c1,vr⟩:=xE.parts;have pZ:=zj1 vr;subst pZ;obtain⟨g,cap,xf,-,-⟩:=qk.form (by omega);cases xf;have d0:wr.cell? ⟨g,i*2,none⟩=some (.string s0):=(by rw [qk.cellAt (i*2) (by omega),show i*2=i*2+0 from rfl,qn 0 (by omega)];rfl);have d1:wr.cell? ⟨g,i*2+1,none⟩=some (.slice l1 n1 c1):=(by rw [qk.cellAt (i*2+1) (by omega),qn 1 (by omega)];rfl);have jy:wrap64 ((i:Int)+1)=((i+1:Nat):Int):=by
    rw [IntWalk.wrap64_in _ (by unfold maxLen at zi;omega)];omega
   have zw:=qya qx;have ze:=qya jy;have xq:decide (i<ts.length)=true:=qyl qx;have kX:=Blk.new wr #[.string s0,.slice l1 n1 c1] 177;obtain⟨x0,x1⟩:=kX.c2;have oX:=hO.alloc (.cells #[.string s0,.slice l1 n1 c1] 177);have bZ:=zb1.keep ((Old.refl wr).alloc (.cells #[.string s0,.slice l1 n1 c1] 177)) (fun _ _ e=>e) _ _ xE;clear jy zi vr qn hm
   go_wp2_with fail
   (with_reducible refine (cy.out y HM.out _ _ oX bZ).mono ?_)
   rintro e w2 ⟨rfl,o2⟩;have u9:=oX.trans o2;cases hb:is y
   ·go_wp2;go_ret;exact⟨by rw [HF.out hb];rfl,u9⟩
   ·have jy:=ze.out;go_wp2
    go_roundg (ts.length-(i+1))
    case measure=>have:=zw.out;have:=HG.out;omega
    case rel=>exact⟨i+1,rfl,zw.out,by first | rfl | rw [ze.out],by rw [HT.out];exact hb,u9⟩
theorem zxa(w:World)(F:Nat→Prop)(sv:Value)(ts:List (List UInt8))(qK:RowAt w F 9 1 sv ts.length (ts.map bv))(hs : ∀t∈ts,t.length≤140737488355328)(qQ:Gl w) :
  Calls Tryz.prog 218 #[sv,.func (.func 178) #[] #[]] w fun e w'=>e=.returned (.bool (ts.all fun t=>Lx.kind t==4))∧Old w w':=by
 have qz:=qK.1;obtain⟨vB,qt,rfl⟩:=zad qz;have zi:ts.length≤maxLen:=zbm qK;have ud : ∀t∈ts,∀W,Old w W→Calls Tryz.prog 178 #[bv t] W fun e W'=>e=.returned (.bool (Lx.kind t==4))∧Old W W':=fun t ht W o=>by
  have h:=zgm ⟨t.toArray⟩ (by show t.toArray.size≤_;simpa using hs t ht) W (qQ.old o);rw [toList_data,qyw t] at h;exact h
 have cy:=qya ud;clear ud
 go_enter Tryz.func218,Tryz.ntmps218
 go_wp2_with fail
 go_loopg [9] ts.length (fun g s9 wr=>∃i:Nat,g=ts.length-i∧i≤ts.length∧s9=.int .i64 i∧((ts.take i).all fun t=>Lx.kind t==4)=true∧Old w wr)
 case atStart=>exact⟨0,rfl,qyi _,rfl,rfl,Old.refl w⟩
 case round=>
  obtain⟨i,hg,hi,rfl,ql,hO⟩:=hrel;have HG:=qya hg;have qL:=qya ql;have HN:=qya zi;clear hg ql;cases hd:decide ((i:Int)<(ts.length:Int))
  ·have he:i=ts.length:=(by simp only [qyn] at hd;omega);have hres:(ts.all fun t=>Lx.kind t==4)=true:=(by have:=qL.out;rwa [he,List.take_length] at this);have HR:=qya hres;have xq:decide (i<ts.length)=false:=qyk (by omega);clear hres he hi zi;go_wp2;go_ret;exact⟨by rw [HR.out];rfl,hO⟩
  ·have qx:i<ts.length:=(by simp only [qyo] at hd;omega);have qk:=zaa qz hO (fun _ _ e=>e);have dv:(ts.map bv)[i]? = some (bv ts[i]):=(by rw [List.getElem?_map,List.getElem?_eq_getElem qx];rfl);have q8:ts[i]∈ts:=List.getElem_mem qx;have qB:((ts.take (i+1)).all fun t=>Lx.kind t==4)=(Lx.kind ts[i]==4):=by
    rw [qyt qx,List.all_append,qL.out];simp
   have qS:(Lx.kind ts[i]==4)=false→(ts.all fun t=>Lx.kind t==4)=false:=fun hf=>by
    rw [List.all_eq_false];exact⟨ts[i],q8,by rw [hf];decide⟩
   obtain⟨y,hy⟩ : ∃y,ts[i]=y:=⟨_,rfl⟩;rw [hy] at dv q8 qB qS;clear hy;have HT:=qya qB;have HF:=qya qS;obtain⟨g,cap,xf,-,-⟩:=qk.form (by omega);cases xf;have d0:wr.cell? ⟨g,i,none⟩=some (bv y):=(by rw [qk.cellAt i (by omega),dv]);have d0':wr.cell? ⟨g,i*1,none⟩=some (bv y):=(by rw [Nat.mul_one];exact d0);have jy:wrap64 ((i:Int)+1)=((i+1:Nat):Int):=by
    rw [IntWalk.wrap64_in _ (by unfold maxLen at zi;omega)];omega
   have zw:=qya qx;have ze:=qya jy;have xq:decide (i<ts.length)=true:=qyl qx;have qs:=cy.out y q8 wr hO;obtain⟨b,hb⟩ : ∃b,(Lx.kind y==4)=b:=⟨_,rfl⟩;rw [hb] at qs;have HB:=qya hb;clear jy zi qB qS q8 dv hb
   go_wp2_with fail
   (with_reducible refine qs.mono ?_)
   rintro e w2 ⟨rfl,o2⟩;have u9:=hO.trans o2;clear qs;cases b
   ·go_wp2;go_ret;exact⟨by rw [HF.out HB.out];rfl,u9⟩
   ·have jy:=ze.out;go_wp2
    go_roundg (ts.length-(i+1))
    case measure=>have:=zw.out;have:=HG.out;omega
    case rel=>exact⟨i+1,rfl,zw.out,by first | rfl | rw [ze.out],by rw [HT.out];exact HB.out,u9⟩
def zlm(c:Sx.Con):Prop:=c.name.length≤140737488355328∧zd1 c.args
def zpp(n:List UInt8)(vs:List (List UInt8))(cs:List Sx.Con):Bool:=
 (Lx.kind n==3)&&(decide (vs.length≤16)&&((vs.all fun t=>Lx.kind t==4)&&((decide ((1:Int)≤cs.length)&&decide ((cs.length:Int)≤16))&&cs.all znz)))
theorem zi8 : ∀(l:List Sx.Ty),zfg l=l.all zl1
 | []=>by rw [zfg];rfl
 | p::r=>by rw [zfg,zi8 r];rfl
theorem zj0(c:Sx.Con)(F:Nat→Prop)(v:Value)(W:World)(hs:zlm c)(h:ConAt W F c v)(hg:Gl W) :
  Calls Tryz.prog 220 #[v] W fun e W'=>e=.returned (.bool (znz c))∧Old W W':=by
 obtain⟨s,sv,xs,rfl,e1,qK,yP⟩:=h;obtain⟨la,ca,rfl⟩:=zad qK.1;obtain⟨hs1,vE⟩:=hs;unfold znz;have qY:s.size≤140737488355328:=by rw [← e1,← toList_data,qyv] at hs1;exact hs1
 have O1:Old W (W.alloc (.cells #[.string s,.slice la c.args.length ca] 177)):=(Old.refl W).alloc _;have kX:=Blk.new W #[.string s,.slice la c.args.length ca] 177;have dF:=fun W' (o:Old W W')=>zev s qY W' (hg.old o);rw [toList_data,e1] at dF;have vJ:=qya dF;have ql:=fun W' (o:Old W W')=>zqz zl1 W' F (.slice la c.args.length ca) c.args xs (qK.keep o (fun _ _ e=>e)) (TysAt.keep o (fun _ _ e=>e) _ _ yP) (fun q hq v kf o' hv=>zg8 q F v kf (ze9 c.args vE q hq) hv (hg.old (o.trans o')));rw [← zi8 c.args] at ql;have qL:=qya ql;clear dF ql;obtain⟨b1,vK⟩ : ∃b,(Lx.kind c.name==3)=b:=⟨_,rfl⟩;obtain⟨b3,wv⟩ : ∃b,zfg c.args=b:=⟨_,rfl⟩;obtain⟨n,hn⟩ : ∃n,c.args.length=n:=⟨_,rfl⟩;rw [hn] at O1 kX qL ⊢;rw [vK] at vJ ⊢;rw [wv] at qL ⊢;clear vK wv qK yP hn e1;have x0:=kX.c 0 (.string s) rfl
 go_enter Tryz.func220,Tryz.ntmps220
 go_wp2_with fail
 (with_reducible refine (vJ.out _ O1).mono ?_)
 rintro e w2 ⟨rfl,o2⟩;have k2:=kX.keep o2 (fun e=>e);have y1:=k2.c 1 (.slice la n ca) rfl;cases b1
 ·go_wp2;go_ret;exact⟨rfl,O1.trans o2⟩
 ·by_cases hlen:n≤16
  ·have g1:decide ((n:Int)≤16)=true:=qyl (by omega);have g2:decide (n≤16)=true:=qyl hlen;clear hlen
   go_wp2_with fail
   (with_reducible refine (qL.out _ (O1.trans o2)).mono ?_)
   rintro e w3 ⟨rfl,o3⟩;go_wp2;go_ret;exact⟨by rw [g2];rfl,(O1.trans o2).trans o3⟩
  ·have g1:decide ((n:Int)≤16)=false:=qyk (by omega);have g2:decide (n≤16)=false:=qyk hlen;clear hlen;go_wp2;go_ret;exact⟨by rw [g2];rfl,O1.trans o2⟩
theorem zsg(n:List UInt8)(vs:List (List UInt8))(cs:List Sx.Con)(F:Nat→Prop)(v:Value)(W:World)(h1:n.length≤140737488355328)(h2 : ∀t∈vs,t.length≤140737488355328)(h3 : ∀c∈cs,zlm c)(h:DataAt W F (n,vs,cs) v)(hg:Gl W) :
  Calls Tryz.prog 151 #[v] W fun e W'=>e=.returned (.bool (zpp n vs cs))∧Old W W':=by
 obtain⟨s,vv,cv,rfl,e1,qK,ug⟩:=h;obtain⟨lv,cv1,rfl⟩:=zad qK.1;obtain⟨lc,cc,rfl⟩:=ug.parts;have e1:s.toList=n:=e1;have qK:RowAt W F 9 1 (.slice lv vs.length cv1) vs.length (vs.map bv):=qK;have ug:LsAt ConAt 177 2 W F cs (.slice lc cs.length cc):=ug;show Calls Tryz.prog 151 #[.agg #[.string s,.slice lv vs.length cv1,.slice lc cs.length cc]] W _;have qY:s.size≤140737488355328:=by rw [← e1,← toList_data,qyv] at h1;exact h1
 unfold zpp;have O1:Old W (W.alloc (.cells #[.string s,.slice lv vs.length cv1,.slice lc cs.length cc] 81)):=(Old.refl W).alloc _;have kX:=Blk.new W #[.string s,.slice lv vs.length cv1,.slice lc cs.length cc] 81;have dF:=fun W' (o:Old W W')=>zev s qY W' (hg.old o);rw [toList_data,e1] at dF;have vJ:=qya dF;have HVS:=qya (fun W' (o:Old W W')=>zxa W' F (.slice lv vs.length cv1) vs (qK.keep o (fun _ _ e=>e)) h2 (hg.old o));have HCS:=qya (fun W' (o:Old W W')=>zxe znz W' F (.slice lc cs.length cc) cs ((zb1.ls _ _).keep o (fun _ _ e=>e) _ _ ug) (fun q hq v kf o' hv=>zj0 q F v kf (h3 q hq) hv (hg.old (o.trans o'))));clear dF;obtain⟨b1,vK⟩ : ∃b,(Lx.kind n==3)=b:=⟨_,rfl⟩;obtain⟨b2,kt⟩ : ∃b,(vs.all fun t=>Lx.kind t==4)=b:=⟨_,rfl⟩;obtain⟨b3,wv⟩ : ∃b,cs.all znz=b:=⟨_,rfl⟩;obtain⟨nv,hnv⟩ : ∃k,vs.length=k:=⟨_,rfl⟩;obtain⟨nc,hnc⟩ : ∃k,cs.length=k:=⟨_,rfl⟩;rw [vK] at vJ ⊢;rw [kt] at HVS ⊢;rw [wv] at HCS ⊢;rw [hnv] at O1 kX HVS ⊢;rw [hnc] at O1 kX HCS ⊢;clear vK kt wv qK ug hnv hnc e1;have x0:=kX.c 0 (.string s) rfl
 go_enter Tryz.func151,Tryz.ntmps151
 go_wp2_with fail
 (with_reducible refine (vJ.out _ O1).mono ?_)
 rintro e w2 ⟨rfl,o2⟩;have k2:=kX.keep o2 (fun e=>e);have y1:=k2.c 1 (.slice lv nv cv1) rfl;cases b1
 ·go_wp2;go_ret;exact⟨rfl,O1.trans o2⟩
 ·by_cases hlen:nv≤16
  ·have g1:decide ((nv:Int)≤16)=true:=qyl (by omega);have g2:decide (nv≤16)=true:=qyl hlen;clear hlen
   go_wp2_with fail
   (with_reducible refine (HVS.out _ (O1.trans o2)).mono ?_)
   rintro e w3 ⟨rfl,o3⟩;have k3:=k2.keep o3 (fun e=>e);have z2:=k3.c 2 (.slice lc nc cc) rfl;cases b2
   ·go_wp2;go_ret;exact⟨by rw [g2];rfl,(O1.trans o2).trans o3⟩
   ·go_wp2_with fail
    (with_reducible refine (zhb nc w3).mono ?_)
    rintro e w4 ⟨rfl,rfl⟩;obtain⟨b4,nj⟩ : ∃b,(decide ((1:Int)≤nc)&&decide ((nc:Int)≤16))=b:=⟨_,rfl⟩;have HB4:=qya nj;rw [nj];clear nj;cases b4
    ·go_wp2;go_ret;exact⟨by rw [g2,HB4.out];rfl,(O1.trans o2).trans o3⟩
    ·go_wp2_with fail
     (with_reducible refine (HCS.out _ ((O1.trans o2).trans o3)).mono ?_)
     rintro e w5 ⟨rfl,o5⟩;go_wp2;go_ret;exact⟨by rw [g2,HB4.out];rfl,((O1.trans o2).trans o3).trans o5⟩
  ·have g1:decide ((nv:Int)≤16)=false:=qyk (by omega);have g2:decide (nv≤16)=false:=qyk hlen;clear hlen;go_wp2;go_ret;exact⟨by rw [g2];rfl,O1.trans o2⟩
def zvt(f:Sx.Fun):Prop:=f.name.length≤140737488355328∧f.arg.length≤140737488355328∧zci f.body
def zge:Sx.Decl→Prop
 | .data n vs cs=>n.length≤140737488355328∧(∀t∈vs,t.length≤140737488355328)∧∀c∈cs,zlm c
 | .input n t=>n.length≤140737488355328∧zfz t
 | .funs fs=>∀f∈fs,zvt f
 | .val n e=>n.length≤140737488355328∧zci e
 | .output n e=>n.length≤140737488355328∧zci e
def zl4:Sx.Decl→Bool
 | .data n vs cs=>zpp n vs cs
 | .input n t=>(Lx.kind n==2)&&zl1 t
 | .funs fs=>(decide ((1:Int)≤fs.length)&&decide ((fs.length:Int)≤16))&&fs.all znx
 | .val n e=>(Lx.kind n==2)&&zha e
 | .output n e=>(Lx.kind n==2)&&zha e
theorem zuk(W:World):Calls Tryz.prog 156 #[.agg #[.int .i64 1,.string ⟨#[]⟩,.slice none 0 0,.slice none 0 0,.string ⟨#[]⟩,.string ⟨#[]⟩,.slice none 0 0,.slice none 0 0,.int .i64 0,.int .i64 0,.string ⟨#[]⟩,.string ⟨#[]⟩,.slice none 0 0,.slice none 0 0]] W fun e W'=>e=.returned (.bool true)∧Old W W':=by
 have O1:Old W (W.alloc (.cells #[.int .i64 1,.string ⟨#[]⟩,.slice none 0 0,.slice none 0 0,.string ⟨#[]⟩,.string ⟨#[]⟩,.slice none 0 0,.slice none 0 0,.int .i64 0,.int .i64 0,.string ⟨#[]⟩,.string ⟨#[]⟩,.slice none 0 0,.slice none 0 0] 84)):=(Old.refl W).alloc _
 go_enter Tryz.func156,Tryz.ntmps156
 go_wp2;go_ret;exact⟨rfl,O1⟩
theorem zuj(W:World):Calls Tryz.prog 156 #[.agg #[.int .i64 2,.string ⟨#[]⟩,.slice none 0 0,.slice none 0 0,.string ⟨#[]⟩,.string ⟨#[]⟩,.slice none 0 0,.slice none 0 0,.int .i64 0,.int .i64 0,.string ⟨#[]⟩,.string ⟨#[]⟩,.slice none 0 0,.slice none 0 0]] W fun e W'=>e=.returned (.bool true)∧Old W W':=by
 have O1:Old W (W.alloc (.cells #[.int .i64 2,.string ⟨#[]⟩,.slice none 0 0,.slice none 0 0,.string ⟨#[]⟩,.string ⟨#[]⟩,.slice none 0 0,.slice none 0 0,.int .i64 0,.int .i64 0,.string ⟨#[]⟩,.string ⟨#[]⟩,.slice none 0 0,.slice none 0 0] 84)):=(Old.refl W).alloc _
 go_enter Tryz.func156,Tryz.ntmps156
 go_wp2;go_ret;exact⟨rfl,O1⟩
theorem zui(W:World):Calls Tryz.prog 156 #[.agg #[.int .i64 3,.string ⟨#[]⟩,.slice none 0 0,.slice none 0 0,.string ⟨#[]⟩,.string ⟨#[]⟩,.slice none 0 0,.slice none 0 0,.int .i64 0,.int .i64 0,.string ⟨#[]⟩,.string ⟨#[]⟩,.slice none 0 0,.slice none 0 0]] W fun e W'=>e=.returned (.bool true)∧Old W W':=by
 have O1:Old W (W.alloc (.cells #[.int .i64 3,.string ⟨#[]⟩,.slice none 0 0,.slice none 0 0,.string ⟨#[]⟩,.string ⟨#[]⟩,.slice none 0 0,.slice none 0 0,.int .i64 0,.int .i64 0,.string ⟨#[]⟩,.string ⟨#[]⟩,.slice none 0 0,.slice none 0 0] 84)):=(Old.refl W).alloc _
 go_enter Tryz.func156,Tryz.ntmps156
 go_wp2;go_ret;exact⟨rfl,O1⟩
theorem zuh(W:World):Calls Tryz.prog 156 #[.agg #[.int .i64 4,.string ⟨#[]⟩,.slice none 0 0,.slice none 0 0,.string ⟨#[]⟩,.string ⟨#[]⟩,.slice none 0 0,.slice none 0 0,.int .i64 0,.int .i64 0,.string ⟨#[]⟩,.string ⟨#[]⟩,.slice none 0 0,.slice none 0 0]] W fun e W'=>e=.returned (.bool true)∧Old W W':=by
 have O1:Old W (W.alloc (.cells #[.int .i64 4,.string ⟨#[]⟩,.slice none 0 0,.slice none 0 0,.string ⟨#[]⟩,.string ⟨#[]⟩,.slice none 0 0,.slice none 0 0,.int .i64 0,.int .i64 0,.string ⟨#[]⟩,.string ⟨#[]⟩,.slice none 0 0,.slice none 0 0] 84)):=(Old.refl W).alloc _
 go_enter Tryz.func156,Tryz.ntmps156
 go_wp2;go_ret;exact⟨rfl,O1⟩
theorem zug(W:World):Calls Tryz.prog 156 #[.agg #[.int .i64 5,.string ⟨#[]⟩,.slice none 0 0,.slice none 0 0,.string ⟨#[]⟩,.string ⟨#[]⟩,.slice none 0 0,.slice none 0 0,.int .i64 0,.int .i64 0,.string ⟨#[]⟩,.string ⟨#[]⟩,.slice none 0 0,.slice none 0 0]] W fun e W'=>e=.returned (.bool true)∧Old W W':=by
 have O1:Old W (W.alloc (.cells #[.int .i64 5,.string ⟨#[]⟩,.slice none 0 0,.slice none 0 0,.string ⟨#[]⟩,.string ⟨#[]⟩,.slice none 0 0,.slice none 0 0,.int .i64 0,.int .i64 0,.string ⟨#[]⟩,.string ⟨#[]⟩,.slice none 0 0,.slice none 0 0] 84)):=(Old.refl W).alloc _
 go_enter Tryz.func156,Tryz.ntmps156
 go_wp2;go_ret;exact⟨rfl,O1⟩
theorem zpo(s:ByteArray)(lv:Option Addr)(nv cv:Nat)(lc:Option Addr)(nc cc:Nat)(b:Bool)(W:World)
  (hc : ∀W',Old W W'→Calls Tryz.prog 151 #[.agg #[.string s,.slice lv nv cv,.slice lc nc cc]] W' fun e kf=>e=.returned (.bool b)∧Old W' kf) :
  Calls Tryz.prog 77 #[.agg #[.int .i64 1,.string s,.slice lv nv cv,.slice lc nc cc,.string ⟨#[]⟩,.string ⟨#[]⟩,.slice none 0 0,.slice none 0 0,.int .i64 0,.int .i64 0,.string ⟨#[]⟩,.string ⟨#[]⟩,.slice none 0 0,.slice none 0 0]] W fun e W'=>e=.returned (.bool (b))∧Old W W':=by
 have O2:Old W ((W.alloc (.cells #[.int .i64 1,.string s,.slice lv nv cv,.slice lc nc cc,.string ⟨#[]⟩,.string ⟨#[]⟩,.slice none 0 0,.slice none 0 0,.int .i64 0,.int .i64 0,.string ⟨#[]⟩,.string ⟨#[]⟩,.slice none 0 0,.slice none 0 0] 84)).alloc (.cells #[.int .i64 1,.string s,.slice lv nv cv,.slice lc nc cc,.string ⟨#[]⟩,.string ⟨#[]⟩,.slice none 0 0,.slice none 0 0,.int .i64 0,.int .i64 0,.string ⟨#[]⟩,.string ⟨#[]⟩,.slice none 0 0,.slice none 0 0] 84)):=((Old.refl W).alloc _).alloc _;have kR:Blk ((W.alloc (.cells #[.int .i64 1,.string s,.slice lv nv cv,.slice lc nc cc,.string ⟨#[]⟩,.string ⟨#[]⟩,.slice none 0 0,.slice none 0 0,.int .i64 0,.int .i64 0,.string ⟨#[]⟩,.string ⟨#[]⟩,.slice none 0 0,.slice none 0 0] 84)).alloc (.cells #[.int .i64 1,.string s,.slice lv nv cv,.slice lc nc cc,.string ⟨#[]⟩,.string ⟨#[]⟩,.slice none 0 0,.slice none 0 0,.int .i64 0,.int .i64 0,.string ⟨#[]⟩,.string ⟨#[]⟩,.slice none 0 0,.slice none 0 0] 84)) (W.heap.size+1) #[.int .i64 1,.string s,.slice lv nv cv,.slice lc nc cc,.string ⟨#[]⟩,.string ⟨#[]⟩,.slice none 0 0,.slice none 0 0,.int .i64 0,.int .i64 0,.string ⟨#[]⟩,.string ⟨#[]⟩,.slice none 0 0,.slice none 0 0] 84:=Blk.new' (by simp) _ _;have kD:Blk ((W.alloc (.cells #[.int .i64 1,.string s,.slice lv nv cv,.slice lc nc cc,.string ⟨#[]⟩,.string ⟨#[]⟩,.slice none 0 0,.slice none 0 0,.int .i64 0,.int .i64 0,.string ⟨#[]⟩,.string ⟨#[]⟩,.slice none 0 0,.slice none 0 0] 84)).alloc (.cells #[.int .i64 1,.string s,.slice lv nv cv,.slice lc nc cc,.string ⟨#[]⟩,.string ⟨#[]⟩,.slice none 0 0,.slice none 0 0,.int .i64 0,.int .i64 0,.string ⟨#[]⟩,.string ⟨#[]⟩,.slice none 0 0,.slice none 0 0] 84)) W.heap.size #[.int .i64 1,.string s,.slice lv nv cv,.slice lc nc cc,.string ⟨#[]⟩,.string ⟨#[]⟩,.slice none 0 0,.slice none 0 0,.int .i64 0,.int .i64 0,.string ⟨#[]⟩,.string ⟨#[]⟩,.slice none 0 0,.slice none 0 0] 84:=(Blk.new W _ _).alloc _;have HC:=qya hc;clear hc;obtain⟨x0,x1,x2,x3,x4,x5,x6,x7,x8,x9,ym,yr,yn,yb⟩:=kD.c14
 go_enter Tryz.func77,Tryz.ntmps77
 go_wp2_with fail
 (with_reducible refine (HC.out _ (O2)).mono ?_)
 rintro e w2 ⟨rfl,o2⟩;have rj:=Blk.keep (kD) o2 (fun e=>e);obtain⟨x0,x1,x2,x3,x4,x5,x6,x7,x8,x9,ym,yr,yn,yb⟩:=rj.c14;cases b
 ·have k9:=Blk.keep (kR) o2 (fun e=>e);obtain⟨r0,r1,r2,r3,r4,r5,r6,r7,r8,r9,fG,pT,da,de⟩:=k9.c14;obtain⟨-,rg1,rg2,rg3,-,-,-,-,-,-,-,-,-,-⟩:=k9.f14;have qJ:=k9.lt;go_wp2;go_ret;refine⟨by simp,?_⟩
  first | exact ((O2).trans o2).trans' (S':=fun k=>k=W.heap.size+1) ((((Fr.refl (fun k=>k=W.heap.size+1) _).setCell ⟨W.heap.size+1,1,none⟩ (fun _=>rfl) (.string ⟨#[]⟩)).setCell ⟨W.heap.size+1,2,none⟩ (fun _=>rfl) (.slice none 0 0)).setCell ⟨W.heap.size+1,3,none⟩ (fun _=>rfl) (.slice none 0 0)) (fun k hk e=>by omega) | exact ((Old.refl W).alloc _).alloc _
 ·have k9:=Blk.keep (kR) o2 (fun e=>e);obtain⟨r0,r1,r2,r3,r4,r5,r6,r7,r8,r9,fG,pT,da,de⟩:=k9.c14;obtain⟨-,rg1,rg2,rg3,-,-,-,-,-,-,-,-,-,-⟩:=k9.f14;have qJ:=k9.lt
  go_wp2_with fail
  (with_reducible refine (zuk _).mono ?_)
  rintro e w9 ⟨rfl,o9⟩;go_wp2;go_ret;refine⟨by simp,?_⟩;exact (((O2).trans o2).trans' (S':=fun k=>k=W.heap.size+1) ((((Fr.refl (fun k=>k=W.heap.size+1) _).setCell ⟨W.heap.size+1,1,none⟩ (fun _=>rfl) (.string ⟨#[]⟩)).setCell ⟨W.heap.size+1,2,none⟩ (fun _=>rfl) (.slice none 0 0)).setCell ⟨W.heap.size+1,3,none⟩ (fun _=>rfl) (.slice none 0 0)) (fun k hk e=>by omega)).trans o9
theorem zny(s:ByteArray)(hs:s.size≤140737488355328)(u:ByteArray)(l:Option Addr)(n c:Nat)(b:Bool)(W:World)(hg:Gl W)
  (hc : ∀W',Old W W'→Calls Tryz.prog 101 #[.agg #[.string u,.slice l n c]] W' fun e kf=>e=.returned (.bool b)∧Old W' kf) :
  Calls Tryz.prog 77 #[.agg #[.int .i64 2,.string ⟨#[]⟩,.slice none 0 0,.slice none 0 0,.string s,.string u,.slice l n c,.slice none 0 0,.int .i64 0,.int .i64 0,.string ⟨#[]⟩,.string ⟨#[]⟩,.slice none 0 0,.slice none 0 0]] W fun e W'=>e=.returned (.bool ((Lx.kind s.toList==2)&&b))∧Old W W':=by
 have O2:Old W ((W.alloc (.cells #[.int .i64 2,.string ⟨#[]⟩,.slice none 0 0,.slice none 0 0,.string s,.string u,.slice l n c,.slice none 0 0,.int .i64 0,.int .i64 0,.string ⟨#[]⟩,.string ⟨#[]⟩,.slice none 0 0,.slice none 0 0] 84)).alloc (.cells #[.int .i64 2,.string ⟨#[]⟩,.slice none 0 0,.slice none 0 0,.string s,.string u,.slice l n c,.slice none 0 0,.int .i64 0,.int .i64 0,.string ⟨#[]⟩,.string ⟨#[]⟩,.slice none 0 0,.slice none 0 0] 84)):=((Old.refl W).alloc _).alloc _;have kR:Blk ((W.alloc (.cells #[.int .i64 2,.string ⟨#[]⟩,.slice none 0 0,.slice none 0 0,.string s,.string u,.slice l n c,.slice none 0 0,.int .i64 0,.int .i64 0,.string ⟨#[]⟩,.string ⟨#[]⟩,.slice none 0 0,.slice none 0 0] 84)).alloc (.cells #[.int .i64 2,.string ⟨#[]⟩,.slice none 0 0,.slice none 0 0,.string s,.string u,.slice l n c,.slice none 0 0,.int .i64 0,.int .i64 0,.string ⟨#[]⟩,.string ⟨#[]⟩,.slice none 0 0,.slice none 0 0] 84)) (W.heap.size+1) #[.int .i64 2,.string ⟨#[]⟩,.slice none 0 0,.slice none 0 0,.string s,.string u,.slice l n c,.slice none 0 0,.int .i64 0,.int .i64 0,.string ⟨#[]⟩,.string ⟨#[]⟩,.slice none 0 0,.slice none 0 0] 84:=Blk.new' (by simp) _ _;have kD:Blk ((W.alloc (.cells #[.int .i64 2,.string ⟨#[]⟩,.slice none 0 0,.slice none 0 0,.string s,.string u,.slice l n c,.slice none 0 0,.int .i64 0,.int .i64 0,.string ⟨#[]⟩,.string ⟨#[]⟩,.slice none 0 0,.slice none 0 0] 84)).alloc (.cells #[.int .i64 2,.string ⟨#[]⟩,.slice none 0 0,.slice none 0 0,.string s,.string u,.slice l n c,.slice none 0 0,.int .i64 0,.int .i64 0,.string ⟨#[]⟩,.string ⟨#[]⟩,.slice none 0 0,.slice none 0 0] 84)) W.heap.size #[.int .i64 2,.string ⟨#[]⟩,.slice none 0 0,.slice none 0 0,.string s,.string u,.slice l n c,.slice none 0 0,.int .i64 0,.int .i64 0,.string ⟨#[]⟩,.string ⟨#[]⟩,.slice none 0 0,.slice none 0 0] 84:=(Blk.new W _ _).alloc _;have qY:s.size≤140737488355328:=hs;have vJ:=qya (fun W' (o:Old W W')=>zal s qY W' (hg.old o));rw [toList_data] at vJ;obtain⟨b1,vK⟩ : ∃b,(Lx.kind s.toList==2)=b:=⟨_,rfl⟩;rw [vK] at vJ ⊢;clear vK;have HC:=qya hc;clear hc;obtain⟨x0,x1,x2,x3,x4,x5,x6,x7,x8,x9,ym,yr,yn,yb⟩:=kD.c14
 go_enter Tryz.func77,Tryz.ntmps77
 go_wp2_with fail
 (with_reducible refine (vJ.out _ (O2)).mono ?_)
 rintro e w2 ⟨rfl,o2⟩;have rj:=Blk.keep (kD) o2 (fun e=>e);obtain⟨x0,x1,x2,x3,x4,x5,x6,x7,x8,x9,ym,yr,yn,yb⟩:=rj.c14;cases b1
 ·have k9:=Blk.keep (kR) o2 (fun e=>e);obtain⟨r0,r1,r2,r3,r4,r5,r6,r7,r8,r9,fG,pT,da,de⟩:=k9.c14;obtain⟨-,-,-,-,nY,rg5,rg6,-,-,-,-,-,-,-⟩:=k9.f14;have qJ:=k9.lt;go_wp2;go_ret;refine⟨by simp,?_⟩
  first | exact ((O2).trans o2).trans' (S':=fun k=>k=W.heap.size+1) ((((Fr.refl (fun k=>k=W.heap.size+1) _).setCell ⟨W.heap.size+1,4,none⟩ (fun _=>rfl) (.string ⟨#[]⟩)).setCell ⟨W.heap.size+1,5,none⟩ (fun _=>rfl) (.string ⟨#[]⟩)).setCell ⟨W.heap.size+1,6,none⟩ (fun _=>rfl) (.slice none 0 0)) (fun k hk e=>by omega) | exact ((Old.refl W).alloc _).alloc _
 ·go_wp2_with fail
  (with_reducible refine (HC.out _ ((O2).trans o2)).mono ?_)
  rintro e w3 ⟨rfl,o3⟩;have ld:=Blk.keep (Blk.keep (kD) o2 (fun e=>e)) o3 (fun e=>e);obtain⟨x0,x1,x2,x3,x4,x5,x6,x7,x8,x9,ym,yr,yn,yb⟩:=ld.c14;cases b
  ·have k9:=Blk.keep (Blk.keep (kR) o2 (fun e=>e)) o3 (fun e=>e);obtain⟨r0,r1,r2,r3,r4,r5,r6,r7,r8,r9,fG,pT,da,de⟩:=k9.c14;obtain⟨-,-,-,-,nY,rg5,rg6,-,-,-,-,-,-,-⟩:=k9.f14;have qJ:=k9.lt;go_wp2;go_ret;refine⟨by simp,?_⟩
   first | exact (((O2).trans o2).trans o3).trans' (S':=fun k=>k=W.heap.size+1) ((((Fr.refl (fun k=>k=W.heap.size+1) _).setCell ⟨W.heap.size+1,4,none⟩ (fun _=>rfl) (.string ⟨#[]⟩)).setCell ⟨W.heap.size+1,5,none⟩ (fun _=>rfl) (.string ⟨#[]⟩)).setCell ⟨W.heap.size+1,6,none⟩ (fun _=>rfl) (.slice none 0 0)) (fun k hk e=>by omega) | exact ((Old.refl W).alloc _).alloc _
  ·have k9:=Blk.keep (Blk.keep (kR) o2 (fun e=>e)) o3 (fun e=>e);obtain⟨r0,r1,r2,r3,r4,r5,r6,r7,r8,r9,fG,pT,da,de⟩:=k9.c14;obtain⟨-,-,-,-,nY,rg5,rg6,-,-,-,-,-,-,-⟩:=k9.f14;have qJ:=k9.lt
   go_wp2_with fail
   (with_reducible refine (zuj _).mono ?_)
   rintro e w9 ⟨rfl,o9⟩;go_wp2;go_ret;refine⟨by simp,?_⟩;exact ((((O2).trans o2).trans o3).trans' (S':=fun k=>k=W.heap.size+1) ((((Fr.refl (fun k=>k=W.heap.size+1) _).setCell ⟨W.heap.size+1,4,none⟩ (fun _=>rfl) (.string ⟨#[]⟩)).setCell ⟨W.heap.size+1,5,none⟩ (fun _=>rfl) (.string ⟨#[]⟩)).setCell ⟨W.heap.size+1,6,none⟩ (fun _=>rfl) (.slice none 0 0)) (fun k hk e=>by omega)).trans o9
theorem zpn(l:Option Addr)(n c:Nat)(b:Bool)(W:World)
  (hc : ∀W',Old W W'→Calls Tryz.prog 154 #[.slice l n c,.func (.func 155) #[] #[]] W' fun e kf=>e=.returned (.bool b)∧Old W' kf) :
  Calls Tryz.prog 77 #[.agg #[.int .i64 3,.string ⟨#[]⟩,.slice none 0 0,.slice none 0 0,.string ⟨#[]⟩,.string ⟨#[]⟩,.slice none 0 0,.slice l n c,.int .i64 0,.int .i64 0,.string ⟨#[]⟩,.string ⟨#[]⟩,.slice none 0 0,.slice none 0 0]] W fun e W'=>e=.returned (.bool ((decide ((1:Int)≤n)&&decide ((n:Int)≤16))&&b))∧Old W W':=by
 have O2:Old W ((W.alloc (.cells #[.int .i64 3,.string ⟨#[]⟩,.slice none 0 0,.slice none 0 0,.string ⟨#[]⟩,.string ⟨#[]⟩,.slice none 0 0,.slice l n c,.int .i64 0,.int .i64 0,.string ⟨#[]⟩,.string ⟨#[]⟩,.slice none 0 0,.slice none 0 0] 84)).alloc (.cells #[.int .i64 3,.string ⟨#[]⟩,.slice none 0 0,.slice none 0 0,.string ⟨#[]⟩,.string ⟨#[]⟩,.slice none 0 0,.slice l n c,.int .i64 0,.int .i64 0,.string ⟨#[]⟩,.string ⟨#[]⟩,.slice none 0 0,.slice none 0 0] 84)):=((Old.refl W).alloc _).alloc _;have kR:Blk ((W.alloc (.cells #[.int .i64 3,.string ⟨#[]⟩,.slice none 0 0,.slice none 0 0,.string ⟨#[]⟩,.string ⟨#[]⟩,.slice none 0 0,.slice l n c,.int .i64 0,.int .i64 0,.string ⟨#[]⟩,.string ⟨#[]⟩,.slice none 0 0,.slice none 0 0] 84)).alloc (.cells #[.int .i64 3,.string ⟨#[]⟩,.slice none 0 0,.slice none 0 0,.string ⟨#[]⟩,.string ⟨#[]⟩,.slice none 0 0,.slice l n c,.int .i64 0,.int .i64 0,.string ⟨#[]⟩,.string ⟨#[]⟩,.slice none 0 0,.slice none 0 0] 84)) (W.heap.size+1) #[.int .i64 3,.string ⟨#[]⟩,.slice none 0 0,.slice none 0 0,.string ⟨#[]⟩,.string ⟨#[]⟩,.slice none 0 0,.slice l n c,.int .i64 0,.int .i64 0,.string ⟨#[]⟩,.string ⟨#[]⟩,.slice none 0 0,.slice none 0 0] 84:=Blk.new' (by simp) _ _;have kD:Blk ((W.alloc (.cells #[.int .i64 3,.string ⟨#[]⟩,.slice none 0 0,.slice none 0 0,.string ⟨#[]⟩,.string ⟨#[]⟩,.slice none 0 0,.slice l n c,.int .i64 0,.int .i64 0,.string ⟨#[]⟩,.string ⟨#[]⟩,.slice none 0 0,.slice none 0 0] 84)).alloc (.cells #[.int .i64 3,.string ⟨#[]⟩,.slice none 0 0,.slice none 0 0,.string ⟨#[]⟩,.string ⟨#[]⟩,.slice none 0 0,.slice l n c,.int .i64 0,.int .i64 0,.string ⟨#[]⟩,.string ⟨#[]⟩,.slice none 0 0,.slice none 0 0] 84)) W.heap.size #[.int .i64 3,.string ⟨#[]⟩,.slice none 0 0,.slice none 0 0,.string ⟨#[]⟩,.string ⟨#[]⟩,.slice none 0 0,.slice l n c,.int .i64 0,.int .i64 0,.string ⟨#[]⟩,.string ⟨#[]⟩,.slice none 0 0,.slice none 0 0] 84:=(Blk.new W _ _).alloc _;have HC:=qya hc;have HCT:=qya (fun W'=>zhb n W');obtain⟨b1,vK⟩ : ∃b,(decide ((1:Int)≤n)&&decide ((n:Int)≤16))=b:=⟨_,rfl⟩;rw [vK] at HCT ⊢;clear hc vK;obtain⟨x0,x1,x2,x3,x4,x5,x6,x7,x8,x9,ym,yr,yn,yb⟩:=kD.c14
 go_enter Tryz.func77,Tryz.ntmps77
 go_wp2_with fail
 (with_reducible refine (HCT.out _).mono ?_)
 rintro e w2 ⟨rfl,rfl⟩;have rj:=kD;obtain⟨x0,x1,x2,x3,x4,x5,x6,x7,x8,x9,ym,yr,yn,yb⟩:=rj.c14;cases b1
 ·have k9:=kR;obtain⟨r0,r1,r2,r3,r4,r5,r6,r7,r8,r9,fG,pT,da,de⟩:=k9.c14;have rg7:=k9.free 7;have qJ:=k9.lt;go_wp2;go_ret;refine⟨by simp,?_⟩
  first | exact (O2).trans' (S':=fun k=>k=W.heap.size+1) ((Fr.refl (fun k=>k=W.heap.size+1) _).setCell ⟨W.heap.size+1,7,none⟩ (fun _=>rfl) (.slice none 0 0)) (fun k hk e=>by omega) | exact ((Old.refl W).alloc _).alloc _
 ·go_wp2_with fail
  (with_reducible refine (HC.out _ (O2)).mono ?_)
  rintro e w3 ⟨rfl,o3⟩;have ld:=Blk.keep (kD) o3 (fun e=>e);obtain⟨x0,x1,x2,x3,x4,x5,x6,x7,x8,x9,ym,yr,yn,yb⟩:=ld.c14;cases b
  ·have k9:=Blk.keep (kR) o3 (fun e=>e);obtain⟨r0,r1,r2,r3,r4,r5,r6,r7,r8,r9,fG,pT,da,de⟩:=k9.c14;have rg7:=k9.free 7;have qJ:=k9.lt;go_wp2;go_ret;refine⟨by simp,?_⟩
   first | exact ((O2).trans o3).trans' (S':=fun k=>k=W.heap.size+1) ((Fr.refl (fun k=>k=W.heap.size+1) _).setCell ⟨W.heap.size+1,7,none⟩ (fun _=>rfl) (.slice none 0 0)) (fun k hk e=>by omega) | exact ((Old.refl W).alloc _).alloc _
  ·have k9:=Blk.keep (kR) o3 (fun e=>e);obtain⟨r0,r1,r2,r3,r4,r5,r6,r7,r8,r9,fG,pT,da,de⟩:=k9.c14;have rg7:=k9.free 7;have qJ:=k9.lt
   go_wp2_with fail
   (with_reducible refine (zui _).mono ?_)
   rintro e w9 ⟨rfl,o9⟩;go_wp2;go_ret;refine⟨by simp,?_⟩;exact (((O2).trans o3).trans' (S':=fun k=>k=W.heap.size+1) ((Fr.refl (fun k=>k=W.heap.size+1) _).setCell ⟨W.heap.size+1,7,none⟩ (fun _=>rfl) (.slice none 0 0)) (fun k hk e=>by omega)).trans o9
theorem zse(s:ByteArray)(hs:s.size≤140737488355328)(kd nu:Int)(nm ag:ByteArray)(la:Option Addr)(na ca:Nat)(lp:Option Addr)(np cp:Nat)(b:Bool)(W:World)(hg:Gl W)
  (hc : ∀W',Old W W'→Calls Tryz.prog 96 #[.agg #[.int .i64 kd,.int .i64 nu,.string nm,.string ag,.slice la na ca,.slice lp np cp]] W' fun e kf=>e=.returned (.bool b)∧Old W' kf) :
  Calls Tryz.prog 77 #[.agg #[.int .i64 4,.string ⟨#[]⟩,.slice none 0 0,.slice none 0 0,.string s,.string ⟨#[]⟩,.slice none 0 0,.slice none 0 0,.int .i64 kd,.int .i64 nu,.string nm,.string ag,.slice la na ca,.slice lp np cp]] W fun e W'=>e=.returned (.bool ((Lx.kind s.toList==2)&&b))∧Old W W':=by
 have O2:Old W ((W.alloc (.cells #[.int .i64 4,.string ⟨#[]⟩,.slice none 0 0,.slice none 0 0,.string s,.string ⟨#[]⟩,.slice none 0 0,.slice none 0 0,.int .i64 kd,.int .i64 nu,.string nm,.string ag,.slice la na ca,.slice lp np cp] 84)).alloc (.cells #[.int .i64 4,.string ⟨#[]⟩,.slice none 0 0,.slice none 0 0,.string s,.string ⟨#[]⟩,.slice none 0 0,.slice none 0 0,.int .i64 kd,.int .i64 nu,.string nm,.string ag,.slice la na ca,.slice lp np cp] 84)):=((Old.refl W).alloc _).alloc _;have kR:Blk ((W.alloc (.cells #[.int .i64 4,.string ⟨#[]⟩,.slice none 0 0,.slice none 0 0,.string s,.string ⟨#[]⟩,.slice none 0 0,.slice none 0 0,.int .i64 kd,.int .i64 nu,.string nm,.string ag,.slice la na ca,.slice lp np cp] 84)).alloc (.cells #[.int .i64 4,.string ⟨#[]⟩,.slice none 0 0,.slice none 0 0,.string s,.string ⟨#[]⟩,.slice none 0 0,.slice none 0 0,.int .i64 kd,.int .i64 nu,.string nm,.string ag,.slice la na ca,.slice lp np cp] 84)) (W.heap.size+1) #[.int .i64 4,.string ⟨#[]⟩,.slice none 0 0,.slice none 0 0,.string s,.string ⟨#[]⟩,.slice none 0 0,.slice none 0 0,.int .i64 kd,.int .i64 nu,.string nm,.string ag,.slice la na ca,.slice lp np cp] 84:=Blk.new' (by simp) _ _;have kD:Blk ((W.alloc (.cells #[.int .i64 4,.string ⟨#[]⟩,.slice none 0 0,.slice none 0 0,.string s,.string ⟨#[]⟩,.slice none 0 0,.slice none 0 0,.int .i64 kd,.int .i64 nu,.string nm,.string ag,.slice la na ca,.slice lp np cp] 84)).alloc (.cells #[.int .i64 4,.string ⟨#[]⟩,.slice none 0 0,.slice none 0 0,.string s,.string ⟨#[]⟩,.slice none 0 0,.slice none 0 0,.int .i64 kd,.int .i64 nu,.string nm,.string ag,.slice la na ca,.slice lp np cp] 84)) W.heap.size #[.int .i64 4,.string ⟨#[]⟩,.slice none 0 0,.slice none 0 0,.string s,.string ⟨#[]⟩,.slice none 0 0,.slice none 0 0,.int .i64 kd,.int .i64 nu,.string nm,.string ag,.slice la na ca,.slice lp np cp] 84:=(Blk.new W _ _).alloc _;have qY:s.size≤140737488355328:=hs;have vJ:=qya (fun W' (o:Old W W')=>zal s qY W' (hg.old o));rw [toList_data] at vJ;obtain⟨b1,vK⟩ : ∃b,(Lx.kind s.toList==2)=b:=⟨_,rfl⟩;rw [vK] at vJ ⊢;clear vK;have HC:=qya hc;clear hc;obtain⟨x0,x1,x2,x3,x4,x5,x6,x7,x8,x9,ym,yr,yn,yb⟩:=kD.c14
 go_enter Tryz.func77,Tryz.ntmps77
 go_wp2_with fail
 (with_reducible refine (vJ.out _ (O2)).mono ?_)
 rintro e w2 ⟨rfl,o2⟩;have rj:=Blk.keep (kD) o2 (fun e=>e);obtain⟨x0,x1,x2,x3,x4,x5,x6,x7,x8,x9,ym,yr,yn,yb⟩:=rj.c14;cases b1
 ·have k9:=Blk.keep (kR) o2 (fun e=>e);obtain⟨r0,r1,r2,r3,r4,r5,r6,r7,r8,r9,fG,pT,da,de⟩:=k9.c14;obtain⟨-,-,-,-,nY,-,-,-,rg8,rg9,cM,cS,cR,cN⟩:=k9.f14;have qJ:=k9.lt;go_wp2;go_ret;refine⟨by simp,?_⟩
  first | exact ((O2).trans o2).trans' (S':=fun k=>k=W.heap.size+1) ((((((((Fr.refl (fun k=>k=W.heap.size+1) _).setCell ⟨W.heap.size+1,4,none⟩ (fun _=>rfl) (.string ⟨#[]⟩)).setCell ⟨W.heap.size+1,8,none⟩ (fun _=>rfl) (.int .i64 0)).setCell ⟨W.heap.size+1,9,none⟩ (fun _=>rfl) (.int .i64 0)).setCell ⟨W.heap.size+1,10,none⟩ (fun _=>rfl) (.string ⟨#[]⟩)).setCell ⟨W.heap.size+1,11,none⟩ (fun _=>rfl) (.string ⟨#[]⟩)).setCell ⟨W.heap.size+1,12,none⟩ (fun _=>rfl) (.slice none 0 0)).setCell ⟨W.heap.size+1,13,none⟩ (fun _=>rfl) (.slice none 0 0)) (fun k hk e=>by omega) | exact ((Old.refl W).alloc _).alloc _
 ·go_wp2_with fail
  (with_reducible refine (HC.out _ ((O2).trans o2)).mono ?_)
  rintro e w3 ⟨rfl,o3⟩;have ld:=Blk.keep (Blk.keep (kD) o2 (fun e=>e)) o3 (fun e=>e);obtain⟨x0,x1,x2,x3,x4,x5,x6,x7,x8,x9,ym,yr,yn,yb⟩:=ld.c14;cases b
  ·have k9:=Blk.keep (Blk.keep (kR) o2 (fun e=>e)) o3 (fun e=>e);obtain⟨r0,r1,r2,r3,r4,r5,r6,r7,r8,r9,fG,pT,da,de⟩:=k9.c14;obtain⟨-,-,-,-,nY,-,-,-,rg8,rg9,cM,cS,cR,cN⟩:=k9.f14;have qJ:=k9.lt;go_wp2;go_ret;refine⟨by simp,?_⟩
   first | exact (((O2).trans o2).trans o3).trans' (S':=fun k=>k=W.heap.size+1) ((((((((Fr.refl (fun k=>k=W.heap.size+1) _).setCell ⟨W.heap.size+1,4,none⟩ (fun _=>rfl) (.string ⟨#[]⟩)).setCell ⟨W.heap.size+1,8,none⟩ (fun _=>rfl) (.int .i64 0)).setCell ⟨W.heap.size+1,9,none⟩ (fun _=>rfl) (.int .i64 0)).setCell ⟨W.heap.size+1,10,none⟩ (fun _=>rfl) (.string ⟨#[]⟩)).setCell ⟨W.heap.size+1,11,none⟩ (fun _=>rfl) (.string ⟨#[]⟩)).setCell ⟨W.heap.size+1,12,none⟩ (fun _=>rfl) (.slice none 0 0)).setCell ⟨W.heap.size+1,13,none⟩ (fun _=>rfl) (.slice none 0 0)) (fun k hk e=>by omega) | exact ((Old.refl W).alloc _).alloc _
  ·have k9:=Blk.keep (Blk.keep (kR) o2 (fun e=>e)) o3 (fun e=>e);obtain⟨r0,r1,r2,r3,r4,r5,r6,r7,r8,r9,fG,pT,da,de⟩:=k9.c14;obtain⟨-,-,-,-,nY,-,-,-,rg8,rg9,cM,cS,cR,cN⟩:=k9.f14;have qJ:=k9.lt
   go_wp2_with fail
   (with_reducible refine (zuh _).mono ?_)
   rintro e w9 ⟨rfl,o9⟩;go_wp2;go_ret;refine⟨by simp,?_⟩;exact ((((O2).trans o2).trans o3).trans' (S':=fun k=>k=W.heap.size+1) ((((((((Fr.refl (fun k=>k=W.heap.size+1) _).setCell ⟨W.heap.size+1,4,none⟩ (fun _=>rfl) (.string ⟨#[]⟩)).setCell ⟨W.heap.size+1,8,none⟩ (fun _=>rfl) (.int .i64 0)).setCell ⟨W.heap.size+1,9,none⟩ (fun _=>rfl) (.int .i64 0)).setCell ⟨W.heap.size+1,10,none⟩ (fun _=>rfl) (.string ⟨#[]⟩)).setCell ⟨W.heap.size+1,11,none⟩ (fun _=>rfl) (.string ⟨#[]⟩)).setCell ⟨W.heap.size+1,12,none⟩ (fun _=>rfl) (.slice none 0 0)).setCell ⟨W.heap.size+1,13,none⟩ (fun _=>rfl) (.slice none 0 0)) (fun k hk e=>by omega)).trans o9
theorem zl3(s:ByteArray)(hs:s.size≤140737488355328)(kd nu:Int)(nm ag:ByteArray)(la:Option Addr)(na ca:Nat)(lp:Option Addr)(np cp:Nat)(b:Bool)(W:World)(hg:Gl W)
  (hc : ∀W',Old W W'→Calls Tryz.prog 96 #[.agg #[.int .i64 kd,.int .i64 nu,.string nm,.string ag,.slice la na ca,.slice lp np cp]] W' fun e kf=>e=.returned (.bool b)∧Old W' kf) :
  Calls Tryz.prog 77 #[.agg #[.int .i64 5,.string ⟨#[]⟩,.slice none 0 0,.slice none 0 0,.string s,.string ⟨#[]⟩,.slice none 0 0,.slice none 0 0,.int .i64 kd,.int .i64 nu,.string nm,.string ag,.slice la na ca,.slice lp np cp]] W fun e W'=>e=.returned (.bool ((Lx.kind s.toList==2)&&b))∧Old W W':=by
 have O2:Old W ((W.alloc (.cells #[.int .i64 5,.string ⟨#[]⟩,.slice none 0 0,.slice none 0 0,.string s,.string ⟨#[]⟩,.slice none 0 0,.slice none 0 0,.int .i64 kd,.int .i64 nu,.string nm,.string ag,.slice la na ca,.slice lp np cp] 84)).alloc (.cells #[.int .i64 5,.string ⟨#[]⟩,.slice none 0 0,.slice none 0 0,.string s,.string ⟨#[]⟩,.slice none 0 0,.slice none 0 0,.int .i64 kd,.int .i64 nu,.string nm,.string ag,.slice la na ca,.slice lp np cp] 84)):=((Old.refl W).alloc _).alloc _;have kR:Blk ((W.alloc (.cells #[.int .i64 5,.string ⟨#[]⟩,.slice none 0 0,.slice none 0 0,.string s,.string ⟨#[]⟩,.slice none 0 0,.slice none 0 0,.int .i64 kd,.int .i64 nu,.string nm,.string ag,.slice la na ca,.slice lp np cp] 84)).alloc (.cells #[.int .i64 5,.string ⟨#[]⟩,.slice none 0 0,.slice none 0 0,.string s,.string ⟨#[]⟩,.slice none 0 0,.slice none 0 0,.int .i64 kd,.int .i64 nu,.string nm,.string ag,.slice la na ca,.slice lp np cp] 84)) (W.heap.size+1) #[.int .i64 5,.string ⟨#[]⟩,.slice none 0 0,.slice none 0 0,.string s,.string ⟨#[]⟩,.slice none 0 0,.slice none 0 0,.int .i64 kd,.int .i64 nu,.string nm,.string ag,.slice la na ca,.slice lp np cp] 84:=Blk.new' (by simp) _ _;have kD:Blk ((W.alloc (.cells #[.int .i64 5,.string ⟨#[]⟩,.slice none 0 0,.slice none 0 0,.string s,.string ⟨#[]⟩,.slice none 0 0,.slice none 0 0,.int .i64 kd,.int .i64 nu,.string nm,.string ag,.slice la na ca,.slice lp np cp] 84)).alloc (.cells #[.int .i64 5,.string ⟨#[]⟩,.slice none 0 0,.slice none 0 0,.string s,.string ⟨#[]⟩,.slice none 0 0,.slice none 0 0,.int .i64 kd,.int .i64 nu,.string nm,.string ag,.slice la na ca,.slice lp np cp] 84)) W.heap.size #[.int .i64 5,.string ⟨#[]⟩,.slice none 0 0,.slice none 0 0,.string s,.string ⟨#[]⟩,.slice none 0 0,.slice none 0 0,.int .i64 kd,.int .i64 nu,.string nm,.string ag,.slice la na ca,.slice lp np cp] 84:=(Blk.new W _ _).alloc _;have qY:s.size≤140737488355328:=hs;have vJ:=qya (fun W' (o:Old W W')=>zal s qY W' (hg.old o));rw [toList_data] at vJ;obtain⟨b1,vK⟩ : ∃b,(Lx.kind s.toList==2)=b:=⟨_,rfl⟩;rw [vK] at vJ ⊢;clear vK;have HC:=qya hc;clear hc;obtain⟨x0,x1,x2,x3,x4,x5,x6,x7,x8,x9,ym,yr,yn,yb⟩:=kD.c14
 go_enter Tryz.func77,Tryz.ntmps77
 go_wp2_with fail
 (with_reducible refine (vJ.out _ (O2)).mono ?_)
 rintro e w2 ⟨rfl,o2⟩;have rj:=Blk.keep (kD) o2 (fun e=>e);obtain⟨x0,x1,x2,x3,x4,x5,x6,x7,x8,x9,ym,yr,yn,yb⟩:=rj.c14;cases b1
 ·have k9:=Blk.keep (kR) o2 (fun e=>e);obtain⟨r0,r1,r2,r3,r4,r5,r6,r7,r8,r9,fG,pT,da,de⟩:=k9.c14;obtain⟨-,-,-,-,nY,-,-,-,rg8,rg9,cM,cS,cR,cN⟩:=k9.f14;have qJ:=k9.lt;go_wp2;go_ret;refine⟨by simp,?_⟩
  first | exact ((O2).trans o2).trans' (S':=fun k=>k=W.heap.size+1) ((((((((Fr.refl (fun k=>k=W.heap.size+1) _).setCell ⟨W.heap.size+1,4,none⟩ (fun _=>rfl) (.string ⟨#[]⟩)).setCell ⟨W.heap.size+1,8,none⟩ (fun _=>rfl) (.int .i64 0)).setCell ⟨W.heap.size+1,9,none⟩ (fun _=>rfl) (.int .i64 0)).setCell ⟨W.heap.size+1,10,none⟩ (fun _=>rfl) (.string ⟨#[]⟩)).setCell ⟨W.heap.size+1,11,none⟩ (fun _=>rfl) (.string ⟨#[]⟩)).setCell ⟨W.heap.size+1,12,none⟩ (fun _=>rfl) (.slice none 0 0)).setCell ⟨W.heap.size+1,13,none⟩ (fun _=>rfl) (.slice none 0 0)) (fun k hk e=>by omega) | exact ((Old.refl W).alloc _).alloc _
 ·go_wp2_with fail
  (with_reducible refine (HC.out _ ((O2).trans o2)).mono ?_)
  rintro e w3 ⟨rfl,o3⟩;have ld:=Blk.keep (Blk.keep (kD) o2 (fun e=>e)) o3 (fun e=>e);obtain⟨x0,x1,x2,x3,x4,x5,x6,x7,x8,x9,ym,yr,yn,yb⟩:=ld.c14;cases b
  ·have k9:=Blk.keep (Blk.keep (kR) o2 (fun e=>e)) o3 (fun e=>e);obtain⟨r0,r1,r2,r3,r4,r5,r6,r7,r8,r9,fG,pT,da,de⟩:=k9.c14;obtain⟨-,-,-,-,nY,-,-,-,rg8,rg9,cM,cS,cR,cN⟩:=k9.f14;have qJ:=k9.lt;go_wp2;go_ret;refine⟨by simp,?_⟩
   first | exact (((O2).trans o2).trans o3).trans' (S':=fun k=>k=W.heap.size+1) ((((((((Fr.refl (fun k=>k=W.heap.size+1) _).setCell ⟨W.heap.size+1,4,none⟩ (fun _=>rfl) (.string ⟨#[]⟩)).setCell ⟨W.heap.size+1,8,none⟩ (fun _=>rfl) (.int .i64 0)).setCell ⟨W.heap.size+1,9,none⟩ (fun _=>rfl) (.int .i64 0)).setCell ⟨W.heap.size+1,10,none⟩ (fun _=>rfl) (.string ⟨#[]⟩)).setCell ⟨W.heap.size+1,11,none⟩ (fun _=>rfl) (.string ⟨#[]⟩)).setCell ⟨W.heap.size+1,12,none⟩ (fun _=>rfl) (.slice none 0 0)).setCell ⟨W.heap.size+1,13,none⟩ (fun _=>rfl) (.slice none 0 0)) (fun k hk e=>by omega) | exact ((Old.refl W).alloc _).alloc _
  ·have k9:=Blk.keep (Blk.keep (kR) o2 (fun e=>e)) o3 (fun e=>e);obtain⟨r0,r1,r2,r3,r4,r5,r6,r7,r8,r9,fG,pT,da,de⟩:=k9.c14;obtain⟨-,-,-,-,nY,-,-,-,rg8,rg9,cM,cS,cR,cN⟩:=k9.f14;have qJ:=k9.lt
   go_wp2_with fail
   (with_reducible refine (zug _).mono ?_)
   rintro e w9 ⟨rfl,o9⟩;go_wp2;go_ret;refine⟨by simp,?_⟩;exact ((((O2).trans o2).trans o3).trans' (S':=fun k=>k=W.heap.size+1) ((((((((Fr.refl (fun k=>k=W.heap.size+1) _).setCell ⟨W.heap.size+1,4,none⟩ (fun _=>rfl) (.string ⟨#[]⟩)).setCell ⟨W.heap.size+1,8,none⟩ (fun _=>rfl) (.int .i64 0)).setCell ⟨W.heap.size+1,9,none⟩ (fun _=>rfl) (.int .i64 0)).setCell ⟨W.heap.size+1,10,none⟩ (fun _=>rfl) (.string ⟨#[]⟩)).setCell ⟨W.heap.size+1,11,none⟩ (fun _=>rfl) (.string ⟨#[]⟩)).setCell ⟨W.heap.size+1,12,none⟩ (fun _=>rfl) (.slice none 0 0)).setCell ⟨W.heap.size+1,13,none⟩ (fun _=>rfl) (.slice none 0 0)) (fun k hk e=>by omega)).trans o9
end Go.Proofs.YtclgbmmambkiaaaGreatDoor
namespace Go
section
variable {P:Program} (w:World)
theorem zjx(t ty:TypeId)(base:Nat)(e:TypeId)(i:TypeInfo)(z:Value)(size bytes:Nat)(ht:P.underlying t=some (.slice e))(hi:P.info? e=some i)(hz:i.zero=some z)
  (fg:i.size=size)(hby:i.bytes=bytes)(rk:z.cells.size=size)(qY:0<size)
  (v:Value)(n:Nat)(xs:List Value)(qz:w.ownsRow base e size v n xs)(u:Value)(m:Nat)(jw:List Value)(b':Nat)(hu:w.ownsRow b' e size u m jw)(h1 : ∀a∈jw,a.oneCell'=true)
  (h63:n+m≤maxLen)(ue:(n+m)*bytes≤140737488355328)(ua:base≤w.heap.size) :
  ∃v' w',(Builtin.append_ #[t,t] ty #[v,u]).run P w=.ok v' w'∧w'.ownsRow base e size v' (n+m) (xs++jw)∧w.grownBy w' v.ownBlock∧(v'.ownBlock=v.ownBlock∨v'.ownBlock=some w.heap.size):=by
 obtain⟨hl,hu⟩:=hu;rcases hu with ⟨rfl,rfl⟩ | ⟨g,cap,vy,rfl,_,hg,hmc,fR,qn,vN⟩
 ·have hn0:jw=[]:=by rw [Nat.zero_mul] at hl;exact List.length_eq_zero_iff.1 hl
  subst hn0;have xA:(Builtin.append_ #[t,t] ty #[v,.slice none 0 0]).run P w=.ok v w:=by
   rcases qz.2 with ⟨rfl,rfl⟩ | ⟨g,cap,vy,rfl,_,hg,qX,_⟩
   ·simp [Builtin.append_,run_underlying ht,sizeOf,typeInfo,hi,Builtin.lenOf,Builtin.firstCells,storeCells]
   ·simp [Builtin.append_,run_underlying ht,sizeOf,typeInfo,hi,Builtin.lenOf,Builtin.firstCells,storeCells,qX]
  exact⟨v,w,xA,by rw [List.append_nil,Nat.add_zero];exact qz,⟨rfl,rfl,rfl,Nat.le_refl _,fun _ _ _=>rfl⟩,.inl rfl⟩
 ·obtain⟨v',w',hr,h2,h3,_,h5⟩:=run_append_own_at (P:=P) w base t ty e i z size bytes ht hi hz fg hby rk qY v n xs qz ⟨g,0,none⟩ m cap jw hl (fun j u hj=>by
   have lS:=(List.getElem?_eq_some_iff.1 hj).1;have hc:w.cell? ⟨g,j,none⟩=vy[j]? := by simp [World.cell?,hg]
   have lM:vy.toList[j]? = some u:=by
    rw [← vN] at hj;rw [List.getElem?_take] at hj;split at hj
    ·exact hj
    ·cases hj
   have:(⟨g,0,none⟩:Addr).add j=⟨g,j,none⟩:=(by (simp [Addr.add];intro h;omega));rw [this,hc,← Array.getElem?_toList];exact lM) h1 h63 ue ua
  exact⟨v',w',hr,h2,h3,h5⟩
end
theorem zb8{P:Program}(w:World){ops:Array Oper}{rest:List Oper}{o:Oper}{a:Act}{Q:Exit→Act→World→Prop}(hgd:o.guard=none)(s x:Operand)(t:TypeId)
  (ho:o.op=.call { callee:=.builtin .append,args:=#[s,x],argTypes:=#[t,t] })
  (base:Nat)(e:TypeId)(i:TypeInfo)(z:Value)(size bytes:Nat)(ht:P.underlying t=some (.slice e))(hi:P.info? e=some i)(hz:i.zero=some z)
  (fg:i.size=size)(hby:i.bytes=bytes)(rk:z.cells.size=size)(qY:0<size)
  (v:Value)(n:Nat)(xs:List Value)(hs:a.eval s=v)(qz:w.ownsRow base e size v n xs)(u:Value)(m:Nat)(jw:List Value)(b':Nat)(hx:a.eval x=u)(hu:w.ownsRow b' e size u m jw)(h1 : ∀a∈jw,a.oneCell'=true)
  (h63:n+m≤maxLen)(ue:(n+m)*bytes≤140737488355328)(ua:base≤w.heap.size)
  (h : ∀v' w',w'.ownsRow base e size v' (n+m) (xs++jw)→w.grownBy w' v.ownBlock→(v'.ownBlock=v.ownBlock∨v'.ownBlock=some w.heap.size)→wpList P ops Q rest (a.put o.dst v') w'):wpList P ops Q (o::rest) a w:=by
 refine wpList_plain hgd fun _ hK => ?_;obtain⟨v',w',hr,h2,h3,h4⟩:=zjx (P:=P) w t o.type base e i z size bytes ht hi hz fg hby rk qY v n xs qz u m jw b' hu h1 h63 ue ua;unfold Oper.wp execOp;simp only [ho,resolve,invoke,builtin,Sem.run_bind,Sem.run_pure,Result.andThen_ok,List.map_toArray,List.map_cons,List.map_nil,hs,hx,hr];exact hK _ _ (h v' w' h2 h3 h4)
theorem zea{P:Program}{ops:Array Oper}{rest:List Oper}{o:Oper}{a:Act}{w:World}{Q:Exit→Act→World→Prop}(az:Array Operand)(tz:Array TypeId)(ho:o.op=.call { callee:=.builtin .append,args:=az,argTypes:=tz })(h:Go.Proofs.YtclgbmmambkiaaaGreatDoor.Stop (wpList P ops Q (o::rest) a w)):wpList P ops Q (o::rest) a w:=h
end Go
namespace Go.Proofs.YtclgbmmambkiaaaGreatDoor
open Go.RowKit
theorem ExsAt.cells1{w:World}{F:Nat→Prop} : ∀(ts:List Sx.Ex) (xs:List Value),ExsAt w F ts xs→∀u∈xs,u.oneCell'=true
 | [],xs,h,u,hu=>by rw [ExsAt] at h;subst h;cases hu
 | t::r,xs,h,u,hu=>by
  rw [ExsAt] at h;obtain⟨a0,a1,a2,a3,a4,a5,ys,rfl,h1,h2⟩:=h;obtain⟨kd,nu,nm,ag,la,na,ca,lp,np,cp,he⟩:=h1.parts;cases he;simp only [List.mem_cons] at hu;rcases hu with rfl | rfl | rfl | rfl | rfl | rfl | hu
  ·rfl
  ·rfl
  ·rfl
  ·rfl
  ·rfl
  ·rfl
  ·exact ExsAt.cells1 r ys h2 u hu
theorem TysAt.cells1{w:World}{F:Nat→Prop} : ∀(ts:List Sx.Ty) (xs:List Value),TysAt w F ts xs→∀u∈xs,u.oneCell'=true
 | [],xs,h,u,hu=>by rw [TysAt] at h;subst h;cases hu
 | t::r,xs,h,u,hu=>by
  rw [TysAt] at h;obtain⟨a0,a1,ys,rfl,h1,h2⟩:=h;obtain⟨nm,la,na,ca,he⟩:=h1.parts;cases he;simp only [List.mem_cons] at hu;rcases hu with rfl | rfl | hu
  ·rfl
  ·rfl
  ·exact TysAt.cells1 r ys h2 u hu
theorem ExsAt.append{w:World}{F:Nat→Prop} : ∀(ts:List Sx.Ex) (xs:List Value) (us:List Sx.Ex) (ys:List Value),ExsAt w F ts xs→ExsAt w F us ys→ExsAt w F (ts++us) (xs++ys)
 | [],xs,us,ys,h,h2=>by rw [ExsAt] at h;subst h;exact h2
 | t::r,xs,us,ys,h,h2=>by
  rw [ExsAt] at h;obtain⟨a0,a1,a2,a3,a4,a5,zs,rfl,h1,h3⟩:=h;show ExsAt w F (t::(r++us)) (a0::a1::a2::a3::a4::a5::(zs++ys));rw [ExsAt];exact⟨a0,a1,a2,a3,a4,a5,_,rfl,h1,ExsAt.append r zs us ys h3 h2⟩
theorem TysAt.append{w:World}{F:Nat→Prop} : ∀(ts:List Sx.Ty) (xs:List Value) (us:List Sx.Ty) (ys:List Value),TysAt w F ts xs→TysAt w F us ys→TysAt w F (ts++us) (xs++ys)
 | [],xs,us,ys,h,h2=>by rw [TysAt] at h;subst h;exact h2
 | t::r,xs,us,ys,h,h2=>by
  rw [TysAt] at h;obtain⟨a0,a1,zs,rfl,h1,h3⟩:=h;show TysAt w F (t::(r++us)) (a0::a1::(zs++ys));rw [TysAt];exact⟨a0,a1,_,rfl,h1,TysAt.append r zs us ys h3 h2⟩
end Go.Proofs.YtclgbmmambkiaaaGreatDoor
namespace Sx
def zb7:Decl→Fo
 | .data _ _ cs=>⟨[],[],cs.flatMap Con.args⟩
 | .input _ t=>⟨[],[],[t]⟩
 | .funs fs=>⟨fs.map Fun.body,[],[]⟩
 | .val _ e=>⟨[e],[],[]⟩
 | .output _ e=>⟨[e],[],[]⟩
def zav(ds:List Decl):Fo:=⟨ds.flatMap fun d=>(zb7 d).es,[],ds.flatMap fun d=>(zb7 d).ts⟩
theorem zgo{α β : Type}(g : α→List β)(l:List α)(i:Nat)(h:i<l.length):(l.take (i+1)).flatMap g=(l.take i).flatMap g++g l[i]:=by
 rw [List.take_succ_eq_append_getElem h,List.flatMap_append];simp
theorem zpq{α β : Type}(g : α→List β)(l:List α)(i:Nat)(h:i<l.length):((l.take i).flatMap g).length+(g l[i]).length≤(l.flatMap g).length:=by
 have h1:(l.take (i+1)).flatMap g++(l.drop (i+1)).flatMap g=l.flatMap g:=by rw [← List.flatMap_append,List.take_append_drop]
 rw [zgo g l i h] at h1;have:=congrArg List.length h1;simp only [List.length_append] at this;omega
end Sx
namespace Go.Proofs.YtclgbmmambkiaaaGreatDoor
open Go.RowKit
theorem zy2:(Tryz.prog.info? 32).map (fun i=>(i.zero,i.size,i.bytes))=some (some (.agg #[.int .i64 0,.int .i64 0,.string ⟨#[]⟩,.string ⟨#[]⟩,.slice none 0 0,.slice none 0 0]),6,96):=by kernel_rfl
theorem zyz:(Tryz.prog.info? 35).map (fun i=>(i.zero,i.size,i.bytes))=some (some (.agg #[.string ⟨#[]⟩,.slice none 0 0]),2,40):=by kernel_rfl
structure TrAt(s:Nat)(w0:World)(F:Nat→Prop)(pv:Value)(es:List Sx.Ex)(ts:List Sx.Ty)(ve vt:Value)(W:World):Prop where
 bp:Blk W s #[pv] 25
 br:Blk W (s+1) #[.slice none 0 0,.slice none 0 0,.slice none 0 0] 120
 bf:Blk W (s+2) #[ve,.slice none 0 0,vt] 120
 oe : ∃xs,W.ownsRow (s+3) 32 6 ve es.length xs∧ExsAt W F es xs
 ot : ∃xs,W.ownsRow (s+3) 35 2 vt ts.length xs∧TysAt W F ts xs
 fr:Old w0 W
theorem zkl{w:World}{b b':Nat}{e e':TypeId}{z z' n n':Nat}{v v':Value}{xs yL:List Value}(h:w.ownsRow b e z v n xs)(h':w.ownsRow b' e' z' v' n' yL)(zh:e≠e'){k:Nat}(hk:v.ownBlock=some k)(hk':v'.ownBlock=some k):False:=by
 rcases h.2 with ⟨rfl,_⟩ | ⟨g,cap,vy,rfl,_,hg,_⟩
 ·cases hk
 ·rcases h'.2 with ⟨rfl,_⟩ | ⟨g',dI,cur',rfl,_,kI,_⟩
  ·cases hk'
  ·cases hk;cases hk';rw [hg] at kI;cases kI;exact zh rfl
section
variable {s:Nat} {w0:World} {F:Nat→Prop} {pv:Value} {es:List Sx.Ex} {ts:List Sx.Ty} {ve vt:Value} {W:World}
theorem TrAt.old{W':World}(h:TrAt s w0 F pv es ts ve vt W)(o:Old W W'):TrAt s w0 F pv es ts ve vt W':=by
 obtain⟨xs,h1,h2⟩:=h.oe;obtain⟨ys,h3,h4⟩:=h.ot;exact⟨h.bp.keep o (fun e=>e),h.br.keep o (fun e=>e),h.bf.keep o (fun e=>e),⟨xs,zaa h1 o (fun _ _ e=>e),ExsAt.keep o (fun _ _ e=>e) _ _ h2⟩,⟨ys,zaa h3 o (fun _ _ e=>e),TysAt.keep o (fun _ _ e=>e) _ _ h4⟩,h.fr.trans o⟩
theorem TrAt.addE(h:TrAt s w0 F pv es ts ve vt W)(hs:w0.heap.size=s)(hF : ∀k,F k→k<s){xs jw:List Value}{us:List Sx.Ex}{v':Value}{w1:World}(h0:W.ownsRow (s+3) 32 6 ve es.length xs)(hx:ExsAt W F es xs)(hu:ExsAt W F us jw)(ho:w1.ownsRow (s+3) 32 6 v' (es.length+us.length) (xs++jw))(hg:W.grownBy w1 ve.ownBlock)(qZ:v'.ownBlock=ve.ownBlock∨v'.ownBlock=some W.heap.size) :
  TrAt s w0 F pv (es++us) ts v' vt (w1.setCell ⟨s+2,0,none⟩ v'):=by
 have hsW:s≤W.heap.size:=by have:=h.fr.size;omega
 have qx:=h.bf.lt;have F1:Fr (fun k=>ve.ownBlock=some k) W w1:=(Fr.refl (fun k=>ve.ownBlock=some k) W).grown hg (fun k e _=>e);have jQ : ∀k,ve.ownBlock=some k→s+3≤k:=fun k hk=>(h0.lt k hk).1;have F2:Fr (fun k=>k=s+2∨ve.ownBlock=some k) W (w1.setCell ⟨s+2,0,none⟩ v'):=(F1.mono (S':=fun k=>k=s+2∨ve.ownBlock=some k) (fun k _ e=>.inr e)).setCell ⟨s+2,0,none⟩ (fun _=>.inl rfl) _;obtain⟨ys,h3,h4⟩:=h.ot;have hvt : ∀k,vt.ownBlock=some k→¬(k=s+2∨ve.ownBlock=some k):=fun k hk e=>by
  have:=(h3.lt k hk).1;rcases e with e | e
  ·omega
  ·exact zkl h0 h3 (by decide) e hk
 have eQ : ∀k,F k→¬(k=s+2∨ve.ownBlock=some k):=fun k hk e=>by
  have:=hF k hk;rcases e with e | e
  ·omega
  ·have:=jQ k e;omega
 have ho':(w1.setCell ⟨s+2,0,none⟩ v').ownsRow (s+3) 32 6 v' (es.length+us.length) (xs++jw):=zaa ho (Fr.one w1 (s+2) 0 v') (fun k hk e=>by
  rcases qZ with e' | e'
  ·rw [e'] at hk;have:=jQ k hk;omega
  ·rw [e'] at hk;have:W.heap.size=k:=qyj hk;omega)
 refine⟨h.bp.keep F2 ?_,h.br.keep F2 ?_,?_,⟨xs++jw,by rw [qye];exact ho',ExsAt.append es xs us jw (ExsAt.keep F2 eQ _ _ hx) (ExsAt.keep F2 eQ _ _ hu)⟩,⟨ys,zaa h3 F2 hvt,TysAt.keep F2 eQ _ _ h4⟩,h.fr.trans' F2 ?_⟩
 ·rintro (e | e)
  ·omega
  ·have:=jQ _ e;omega
 ·rintro (e | e)
  ·omega
  ·have:=jQ _ e;omega
 ·exact (h.bf.keep F1 (fun e=>by have:=jQ _ e;omega)).set 0 v'
 ·rintro k hk (e | e)
  ·omega
  ·have:=jQ _ e;omega
theorem TrAt.addT(h:TrAt s w0 F pv es ts ve vt W)(hs:w0.heap.size=s)(hF : ∀k,F k→k<s){xs jw:List Value}{us:List Sx.Ty}{v':Value}{w1:World}(h0:W.ownsRow (s+3) 35 2 vt ts.length xs)(hx:TysAt W F ts xs)(hu:TysAt W F us jw)(ho:w1.ownsRow (s+3) 35 2 v' (ts.length+us.length) (xs++jw))(hg:W.grownBy w1 vt.ownBlock)(qZ:v'.ownBlock=vt.ownBlock∨v'.ownBlock=some W.heap.size) :
  TrAt s w0 F pv es (ts++us) ve v' (w1.setCell ⟨s+2,2,none⟩ v'):=by
 have hsW:s≤W.heap.size:=by have:=h.fr.size;omega
 have qx:=h.bf.lt;have F1:Fr (fun k=>vt.ownBlock=some k) W w1:=(Fr.refl (fun k=>vt.ownBlock=some k) W).grown hg (fun k e _=>e);have jQ : ∀k,vt.ownBlock=some k→s+3≤k:=fun k hk=>(h0.lt k hk).1;have F2:Fr (fun k=>k=s+2∨vt.ownBlock=some k) W (w1.setCell ⟨s+2,2,none⟩ v'):=(F1.mono (S':=fun k=>k=s+2∨vt.ownBlock=some k) (fun k _ e=>.inr e)).setCell ⟨s+2,2,none⟩ (fun _=>.inl rfl) _;obtain⟨ys,h3,h4⟩:=h.oe;have hvt : ∀k,ve.ownBlock=some k→¬(k=s+2∨vt.ownBlock=some k):=fun k hk e=>by
  have:=(h3.lt k hk).1;rcases e with e | e
  ·omega
  ·exact zkl h0 h3 (by decide) e hk
 have eQ : ∀k,F k→¬(k=s+2∨vt.ownBlock=some k):=fun k hk e=>by
  have:=hF k hk;rcases e with e | e
  ·omega
  ·have:=jQ k e;omega
 have ho':(w1.setCell ⟨s+2,2,none⟩ v').ownsRow (s+3) 35 2 v' (ts.length+us.length) (xs++jw):=zaa ho (Fr.one w1 (s+2) 2 v') (fun k hk e=>by
  rcases qZ with e' | e'
  ·rw [e'] at hk;have:=jQ k hk;omega
  ·rw [e'] at hk;have:W.heap.size=k:=qyj hk;omega)
 refine⟨h.bp.keep F2 ?_,h.br.keep F2 ?_,?_,⟨ys,zaa h3 F2 hvt,ExsAt.keep F2 eQ _ _ h4⟩,⟨xs++jw,by rw [qye];exact ho',TysAt.append ts xs us jw (TysAt.keep F2 eQ _ _ hx) (TysAt.keep F2 eQ _ _ hu)⟩,h.fr.trans' F2 ?_⟩
 ·rintro (e | e)
  ·omega
  ·have:=jQ _ e;omega
 ·rintro (e | e)
  ·omega
  ·have:=jQ _ e;omega
 ·exact (h.bf.keep F1 (fun e=>by have:=jQ _ e;omega)).set 2 v'
 ·rintro k hk (e | e)
  ·omega
  ·have:=jQ _ e;omega
end
end Go.Proofs.YtclgbmmambkiaaaGreatDoor

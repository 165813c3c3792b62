/- Part 03 -/
import Derived.Test.YtclgbmmambkiaaaGreatDoorMb02
import Derived.Laws.Strings
import Derived.Deep.Onto
import Derived.Deep.CutBlock
set_option maxRecDepth 100000
set_option maxHeartbeats 4000000
set_option linter.unusedVariables false
set_option linter.unusedSimpArgs false
namespace Go.Proofs.YtclgbmmambkiaaaGreatDoor.P
open Go.RowKit
attribute [local go_sem] Oper.semAt_some
theorem own_ne_one{w:World}{base:Nat}{e:TypeId}{v u:Value}{n:Nat}{xs:List Value}{T:TypeId}(h:w.ownsRow base e 3 v n xs){k:Nat}(hk:v.ownBlock=some k)(ho:Blk w k #[u] T):False:=by
 rcases h.2 with ⟨hv,_⟩ | ⟨g,cap,vy,hv,_,hh,_,_,hc,_⟩
 ·rw [hv] at hk;cases hk
 ·rw [hv] at hk;cases hk;unfold Blk at ho;rw [ho] at hh;cases hh;simp at hc;omega
structure ManyAt(w0:World)(b A E R l D:Nat)(bf ef:Value)(st:Loop)(ts:List Sx.Pa)(W:World):Prop where
 bg : ∃T,Blk W A #[bf] T
 el : ∃T,Blk W E #[ef] T
 box : ∃v xs F,Blk W R #[v] 30∧W.ownsRow w0.heap.size 37 3 v ts.length xs∧PasAt W F ts xs∧∀k,F k→w0.heap.size≤k∧k<W.heap.size∧k≠R∧k≠l∧v.ownBlock≠some k∧k≠D
 L:W.heap[l]? = some (.loop st)
 K:W.heap[D]? = some (.deferred (some []))
 but:But b w0 W
theorem ManyAt.old{w0:World}{b A E R l D:Nat}{bf ef:Value}{st:Loop}{ts:List Sx.Pa}{W W':World}(h:ManyAt w0 b A E R l D bf ef st ts W)(hb:b<w0.heap.size)(hA:b<A)(hE:b<E)(hR:b<R)(hl:b<l)(hD:b<D)(hf:But b W W'):ManyAt w0 b A E R l D bf ef st ts W':=by
 obtain⟨v,xs,F,h1,h2,h3,h4⟩:=h.box;obtain⟨TA,kx⟩:=h.bg;obtain⟨TE,q9⟩:=h.el;refine⟨⟨TA,kx.keep hf (by omega)⟩,⟨TE,q9.keep hf (by omega)⟩,⟨v,xs,F,h1.keep hf (by omega),zaa h2 hf (fun k hk e => ?_),h3.keep hf (fun k hk e => ?_),fun k hk => ?_⟩,hf.heap h.L (by omega),hf.heap h.K (by omega),h.but.trans hf⟩
 ·have:=(h2.lt k hk).1;omega
 ·have:=(h4 k hk).1;omega
 ·obtain⟨g1,g2,g3⟩:=h4 k hk;exact⟨g1,qyc g2 hf.size,g3⟩
theorem ManyAt.loop{w0:World}{b A E R l D:Nat}{bf ef:Value}{st gS:Loop}{ts:List Sx.Pa}{W W':World}(h:ManyAt w0 b A E R l D bf ef st ts W)(hl:w0.heap.size≤l)(xd:A≠l)(yh:E≠l)(qJ:R≠l)(yB:D≠l)(hf:Fr (fun k=>k=b∨k=l) W W')(hA:A≠b)(hE:E≠b)(hR:R≠b)(hD:D≠b)(hb:b<w0.heap.size)(hL:W'.heap[l]? = some (.loop gS)):ManyAt w0 b A E R l D bf ef gS ts W':=by
 obtain⟨v,xs,F,h1,h2,h3,h4⟩:=h.box;obtain⟨TA,kx⟩:=h.bg;obtain⟨TE,q9⟩:=h.el;have tA : ∀k,v.ownBlock=some k→k≠l:=fun k hk e=>by
  subst e;rcases h2.2 with ⟨hv,_⟩ | ⟨g,cap,vy,hv,_,hh,_⟩
  ·rw [hv] at hk;cases hk
  ·rw [hv] at hk;cases hk;rw [h.L] at hh;cases hh
 refine⟨⟨TA,kx.keep hf (by omega)⟩,⟨TE,q9.keep hf (by omega)⟩,⟨v,xs,F,h1.keep hf (by omega),zaa h2 hf (fun k hk e => ?_),h3.keep hf (fun k hk e => ?_),fun k hk => ?_⟩,hL,hf.heap h.K (by omega),h.but.trans' hf ?_⟩
 ·have:=(h2.lt k hk).1;have:=tA k hk;omega
 ·obtain⟨g1,g2,g3,g4,g5⟩:=h4 k hk;omega
 ·obtain⟨g1,g2,g3⟩:=h4 k hk;exact⟨g1,qyc g2 hf.size,g3⟩
 ·intro k hk e;rcases e with e | e
  ·exact e
  ·omega
def ManyJ(w0:World)(b A E R l D:Nat)(bf ef:Value)(qj:LoopState→Option Code→Loop)(la:Option Addr)(lc:Nat)(L:List RT)(toks:List Lx.Tok)(q0:Nat)(bg:Lx.Tok→Bool)(el:List Lx.Tok→Sx.Res Sx.Pa)(M0:Sx.Res (List Sx.Pa))(q:Nat)(W:World):Prop:=
 ∃ts m,ManyAt w0 b A E R l D bf ef (qj .ready none) ts W∧Rd W b la lc L q∧q≤toks.length∧toks.length-q≤m∧q0+ts.length≤q∧M0=(Sx.many bg el m (toks.drop q)).map (ts ++ ·)
def ManyF(w0:World)(b A E R l D:Nat)(bf ef:Value)(qj:LoopState→Option Code→Loop)(la:Option Addr)(lc:Nat)(L:List RT)(toks:List Lx.Tok)(q0:Nat)(M0:Sx.Res (List Sx.Pa))(W:World):Prop:=
 ∃ts q,ManyAt w0 b A E R l D bf ef (qj .done (some (.exit 0))) ts W∧Rd W b la lc L q∧q≤toks.length∧q0+ts.length≤q∧M0=.ok ts (toks.drop q)
def ManyP(w0:World)(b D:Nat)(len:Int)(M0:Sx.Res (List Sx.Pa))(c:List PanicEntry)(W:World):Prop:=
 ∃rest,M0=.bad rest∧Ending.panicked c=panS (zah len rest)∧But b w0 W∧W.heap[D]? = some (.deferred (some []))
theorem manyX_yield(n:Nat)(w0:World)(b A E R l D:Nat)(hb:b<w0.heap.size)(hA:w0.heap.size≤A)(hE:w0.heap.size≤E)(hR:w0.heap.size≤R)(hl:w0.heap.size≤l)(hD:w0.heap.size≤D)(xd:A≠l)(yh:E≠l)(qJ:R≠l)(yB:D≠l)(rT:A≠R)(eJ:E≠R)(rD:D≠R)
  (Ac Bc:Code)(jI:zay (Tryz.f105.body.getD .skip)=some (Ac,Bc))(tm:Array Value)
  (f0 f1 f2 f3 f6 f8 f9 fY uL gm gr f14 gn gt gd gf fX fK fV fZ pG dL tl:Value)
  (jS:tm=#[f0,f1,f2,f3,.pointer (some ⟨A,0,none⟩),.pointer (some ⟨E,0,none⟩),f6,.pointer (some ⟨R,0,none⟩),f8,f9,fY,uL,gm,gr,f14,gn,gt,gd,gf,fX,fK,fV,fZ,pG,dL,tl])
  (qj:LoopState→Option Code→Loop)(qu:qj=fun st pe => { state:=st,pending:=pe,fn:=105,tmps:=tm,params:=#[12],assign:=Ac,body:=Bc,defers:=D })
  (la:Option Addr)(lc:Nat)(L:List RT)(toks:List Lx.Tok)(len:Int)(hL:RtOf L toks len)(qE : ∀g,la=some g→g.block<w0.heap.size)
  (bg:Lx.Tok→Bool)(kx : ∀(t:Lx.Tok) (W:World),Calls Tryz.prog 106 #[rtV (rt t)] W fun e W'=>e=.returned (.bool (bg t))∧Old W W')
  (q0:Nat)(el:List Lx.Tok→Sx.Res Sx.Pa)(q9 : ∀(q:Nat) (W:World),q0≤q→Rd W b la lc L q→q<toks.length→Calls Tryz.prog 103 #[.pointer (some ⟨b,0,none⟩)] W (zaf PaAt b la lc L toks len (el (toks.drop q)) q W))
  (M0:Sx.Res (List Sx.Pa))(q:Nat)(x:RT)(W:World)(hx:L[q]? = some x)(hk:x.k≠0)
  (h:ManyJ w0 b A E R l D (.func (.func 106) #[] #[]) (.func (.func 103) #[.pointer (some ⟨b,0,none⟩)] #[]) qj la lc L toks q0 bg el M0 q W) :
  YieldAt Fence.wide n Tryz.prog l #[rtV x] W (zdj (ManyJ w0 b A E R l D (.func (.func 106) #[] #[]) (.func (.func 103) #[.pointer (some ⟨b,0,none⟩)] #[]) qj la lc L toks q0 bg el M0) q
   (ManyF w0 b A E R l D (.func (.func 106) #[] #[]) (.func (.func 103) #[.pointer (some ⟨b,0,none⟩)] #[]) qj la lc L toks q0 M0) (ManyP w0 b D len M0)):=by
 obtain⟨ts,m,hM,jc,dU,hm,ci,qV⟩:=h;obtain⟨t,r,hq,qW,rfl⟩:=zep hL hx hk;have km:=hM.L;have vP:=km;rw [qu] at vP;refine⟨105,_,Ac,Bc,run_yield (P:=Tryz.prog) (args:=#[rtV (rt t)]) vP rfl,roundIn_of_wpIn_panics (F:=Fence.wide) (fn:=Tryz.f105) trivial Tryz.func105 ?_⟩;have j8:=jI;simp only [Tryz.f105,Option.getD_some,zay,Option.orElse_none,Option.orElse_some,Option.some.injEq,Prod.mk.injEq] at j8;obtain⟨yp,kw⟩:=j8;rw [jS];simp only [Array.foldl,Array.zip,List.zip];rw [← yp];clear jI yp vP;gi_wp2;obtain⟨W1,qd⟩ : ∃W1,W.alloc (.cells #[.int .i64 (rt t).k,.int .i64 (rt t).n,.string (rt t).s,.int .i64 (rt t).a] 59)=W1:=⟨_,rfl⟩;rw [qd];have nT:Blk W1 W.heap.size #[.int .i64 (rt t).k,.int .i64 (rt t).n,.string (rt t).s,.int .i64 (rt t).a] 59:=by rw [← qd];exact Blk.new _ _ _
 have O1:Old W W1:=by rw [← qd];exact (Old.refl W).alloc _
 have L1:W1.heap[l]? = some (.loop (qj .ready none)):=O1.heap km (by simp);clear qd;refine⟨_,run_beginRound L1 (by rw [qu]),?_⟩;have gj:Hid ({ { qj .ready none with state:=.busy } with state:=.ready,pending:=none } = qj .ready none):=qya (by rw [qu]);have fD:Hid ({ { qj .ready none with state:=.busy } with state:=.done,pending:=some (.exit 0) } = qj .done (some (.exit 0))):=qya (by rw [qu]);clear jS qu;obtain⟨W2,jJ⟩ : ∃W2,W1.putObj l (.loop { qj .ready none with state:=.busy })=W2:=⟨_,rfl⟩;rw [jJ];obtain⟨v,xs,F,fL,qz,uv,hF⟩:=hM.box;obtain⟨TA,yT⟩:=hM.bg;obtain⟨TE,uM⟩:=hM.el;have hRW:R<W.heap.size:=fL.lt;have gx:l<W.heap.size:=zaj km;have dH:W.heap.size≠l:=by omega
 have F2:Fr (fun k=>k=l) W W2:=by rw [← jJ];exact (Fr.old O1).putObj l _ (fun _=>rfl)
 have wq:Blk W2 W.heap.size #[.int .i64 (rt t).k,.int .i64 (rt t).n,.string (rt t).s,.int .i64 (rt t).a] 59:=by rw [← jJ];exact nT.putObj dH _
 have L2:W2.heap[l]? = some (.loop { qj .ready none with state:=.busy }):=by rw [← jJ];exact World.putObj_heap_same (zaj L1)
 clear jJ;have qG:Rd W2 b la lc L q:=jc.keep F2 (by omega) (fun g hg=>by have:=qE g hg;omega);have dy:=yT.keep F2 xd;have vI:=uM.keep F2 yh;have xi:=fL.keep F2 qJ;obtain⟨n0,n1,n2,n3,-⟩:=wq.four;have a0:=dy.cell (i:=0) rfl;have e0:=vI.cell (i:=0) rfl;have HB:=qya kw;rw [← kw];clear kw;cases hbx:bg t
 ·have kh:=qya hbx
  gi_wp2_with fail
  refine⟨trivial,fun e=>by simp [Fence.wide] at e,CallsIn.inRound l ((callsIn_wide.2 (kx t W2)).mono ?_)⟩;rintro e w3 ⟨rfl,O3⟩;rw [kh.out];have L3:=O3.heap L2 (fun e=>e);have qN:=qG.old O3;gi_wp2;obtain⟨W',qv⟩ : ∃W',w3.putObj l (.loop (qj .done (some (.exit 0))))=W':=⟨_,rfl⟩;have qy:=run_endRound (P:=Tryz.prog) (some (.exit 0)) L3;have qe:(Instr.endRound l (some (.exit 0))).run Tryz.prog w3=.ok (.bool false) W':=by rw [← qv,← fD.out];exact qy
  have F3:Fr (fun k=>k=b∨k=l) W W':=by rw [← qv];exact ((Fr.trans' F2 O3 (fun _ _ e=>False.elim e)).mono (fun k _ e=>.inr e)).putObj l _ (fun _=>.inr rfl)
  refine⟨_,_,qe,.inr (.inl ⟨rfl,ts,q,hM.loop hl xd yh qJ yB F3 (by omega) (by omega) (by omega) (by omega) hb (by rw [← qv];exact World.putObj_heap_same (zaj L3)),?_,dU,ci,?_⟩)⟩
  ·rw [← qv];exact qN.keep ((Fr.refl (fun k=>k=l) w3).putObj l _ (fun _=>rfl)) (by omega) (fun g hg=>by have:=qE g hg;omega)
  ·rw [qV,Sx.zgk (by rw [qW];exact kh.out)];simp [Sx.Res.map]
 ·have kh:=qya hbx
  gi_wp2_with fail
  refine⟨trivial,fun e=>by simp [Fence.wide] at e,CallsIn.inRound l ((callsIn_wide.2 (kx t W2)).mono ?_)⟩;rintro e w3 ⟨rfl,O3⟩;rw [kh.out];have L3:=O3.heap L2 (fun e=>e);have qN:=qG.old O3;have e3:=(Blk.keep vI O3 (fun e=>e)).cell (i:=0) rfl;have vf:=Blk.keep xi O3 (fun e=>e);have bC : ∃m',m=m'+1:=⟨m-1,by omega⟩;obtain⟨m',rfl⟩:=bC;have qm:Sx.many bg el (m'+1) (toks.drop q)=(el (toks.drop q)).bind fun x r=>(Sx.many bg el m' r).map (x :: ·):=by
   rw [Sx.many,if_pos ⟨by rw [qW];exact hk,by rw [qW];exact kh.out⟩]
  have uE:=qya qm;have zX:=qya qV;clear qm qV
  gi_wp2_with fail
  refine⟨trivial,fun e=>by simp [Fence.wide] at e,CallsIn.inRound l ((callsIn_wide.2 (q9 q w3 (by omega) qN hq)).mono ?_)⟩;rintro e w4 ⟨f4,hp⟩;have F4:Fr (fun k=>k=b∨k=l) W w4:=Fr.trans' (Fr.trans' (F2.mono (S':=fun k=>k=b∨k=l) (fun k _ e=>.inr e)) O3 (fun _ _ e=>False.elim e)) f4 (fun k _ e=>.inl e);cases hres:el (toks.drop q) with
  | bad rest=>
   rw [hres] at hp;have hp:e=panS (zah len rest):=hp;subst hp;have xB:=qya hres;clear hres;gi_wp2;refine⟨rfl,.inr (.inr ⟨_,rfl,rest,?_,rfl,hM.but.trans' F4 (fun k hk e=>by omega),F4.heap hM.K (by omega)⟩)⟩;rw [zX.out,uE.out,xB.out];rfl
  | ok y rest=>
   rw [hres] at hp;obtain⟨yv,q',rfl,qq,qx,qX,gz,zq⟩:=hp;have xB:=qya hres;clear hres;obtain⟨kd,nm,l2,n2,c2,rfl⟩:=zq.parts;have L4:=f4.heap L3 (by omega);have dk:=vf.keep f4 (by omega);have pi : ∀k,v.ownBlock=some k→k≠l:=fun k hk e=>zan qz hk (e▸hM.L) (by intro cs fr;exact fun e=>by cases e);have bP : ∀k,v.ownBlock=some k→k≠D:=fun k hk e=>zan qz hk (e▸hM.K) (by intro cs fr;exact fun e=>by cases e);have ri : ∀k,v.ownBlock=some k→k≠A:=fun k hk e=>own_ne_one qz hk (e▸yT);have lH : ∀k,v.ownBlock=some k→k≠E:=fun k hk e=>own_ne_one qz hk (e▸uM);have uu:=zaa qz F4 (fun k hk e=>by
    have:=(qz.lt k hk).1;have:=pi k hk;omega)
   have lX:W.heap.size≤w3.heap.size:=qyu F2.size O3.size;have lK:=f4.size
   gi_wp2_with fail
   refine zcz (by kernel_rfl) (by intro o ho c;simp at ho;rcases ho with rfl | rfl | rfl | rfl | rfl | rfl | rfl | rfl <;> simp) (by rintro⟨a',w',jq⟩;exact jq) ?_;have fM:=Blk.new w4 #[.int .i64 kd,.string nm,.slice l2 n2 c2] 37;have dS:=dk.alloc (.cells #[.int .i64 kd,.string nm,.slice l2 n2 c2] 37);have kH:=uu.alloc (.cells #[.int .i64 kd,.string nm,.slice l2 n2 c2] 37);have L5:(w4.alloc (.cells #[.int .i64 kd,.string nm,.slice l2 n2 c2] 37)).heap[l]? = _:=((Old.refl w4).alloc _).heap L4 (fun e=>e);have O5:Old w4 (w4.alloc (.cells #[.int .i64 kd,.string nm,.slice l2 n2 c2] 37)):=(Old.refl w4).alloc _;have z5:(w4.alloc (.cells #[.int .i64 kd,.string nm,.slice l2 n2 c2] 37)).heap.size=w4.heap.size+1:=qyd _ _;obtain⟨w5,bi⟩ : ∃w5,w4.alloc (.cells #[.int .i64 kd,.string nm,.slice l2 n2 c2] 37)=w5:=⟨_,rfl⟩;rw [bi] at fM dS kH L5 O5 z5 ⊢;clear bi;refine snocP rfl (by intro c a' d u w' jq;cases d <;> exact jq) _ _ _ _ _ _ _ _ _ _ _ _ _ _ _ _ _ _ _ _ _ _ _ _ _ w5 R w4.heap.size w0.heap.size ts.length v xs kd nm l2 n2 c2 dS fM (fun e => ?_) kH (by have:=hM.but.size;omega) (by have:=jc.few;have:=jc.le;omega) ?_
   ·have:=(qz.lt _ e).2;omega
   rintro a' w6 ⟨hds,g,cap,j7,xC,mt,qZ,xm⟩;have L6:=mt.heap L5 (fun e=>e.elim (fun e=>qJ e.symm) (fun e=>pi _ e rfl));obtain⟨W',qv⟩ : ∃W',w6.putObj l (.loop (qj .ready none))=W':=⟨_,rfl⟩;have qy:=run_endRound (P:=Tryz.prog) none L6;have qe:(Instr.endRound l none).run Tryz.prog w6=.ok (.bool true) W':=(by rw [← qv,← gj.out];exact qy);have F7:Fr (fun k=>k=l∨k=R∨v.ownBlock=some k) w4 W':=by
    rw [← qv];exact ((Fr.trans' (Fr.old O5) mt (fun k hk e=>.inr e))).putObj l _ (fun _=>.inl rfl)
   have F8:Fr (fun k=>k=b∨k=l∨k=R∨v.ownBlock=some k) W W':=Fr.trans' (F4.mono (fun k _ e=>e.elim .inl (fun e=>.inr (.inl e)))) F7 (fun k _ e=>.inr e);have yf:Blk W' R #[.slice (some ⟨g,0,none⟩) (ts.length+1) cap] 30:=(by rw [← qv];exact xC.putObj qJ _);have qQ:g≠l:=fun e=>qZ.elim (fun h=>pi g h e) (fun h=>by omega);have j6:=zaa j7 ((Fr.refl (fun k=>k=l) w6).putObj l (.loop (qj .ready none)) (fun _=>rfl)) (fun k hk e=>by cases hk;exact qQ e);rw [qv] at j6;have zy : ∀k,v.ownBlock=some k→w0.heap.size≤k∧k<W.heap.size:=fun k hk=>qz.lt k hk;have L7:W'.heap[l]? = some (.loop (qj .ready none)):=(by rw [← qv];exact World.putObj_heap_same (zaj L6));refine⟨_,_,qe,.inl ⟨rfl,q',qx,ts++[y],m',⟨⟨TA,yT.keep F8 ?_⟩,⟨TE,uM.keep F8 ?_⟩,⟨_,xs++[.int .i64 kd,.string nm,.slice l2 n2 c2],fun k=>F k∨(w3.heap.size≤k∧k<w4.heap.size),yf,?_,PasAt.snoc ts xs y (.int .i64 kd) (.string nm) (.slice l2 n2 c2) ?_ ?_,?_⟩,L7,F8.heap hM.K ?_,hM.but.trans' F8 ?_⟩,?_,qX,?_,?_,?_⟩⟩
   ·rintro (e | e | e | e)
    ·omega
    ·exact xd e
    ·exact rT e
    ·exact ri _ e rfl
   ·rintro (e | e | e | e)
    ·omega
    ·exact yh e
    ·exact eJ e
    ·exact lH _ e rfl
   ·rw [qye,qyh];exact j6
   ·refine PasAt.more (fun k hk=>.inl hk) _ _ (uv.keep F8 ?_);rintro k hk (e | e | e | e)
    ·have:=(hF k hk).1;omega
    ·exact (hF k hk).2.2.2.1 e
    ·exact (hF k hk).2.2.1 e
    ·exact (hF k hk).2.2.2.2.1 e
   ·refine PaAt.more (fun k hk=>.inr hk) _ _ (zq.keep F7 ?_);rintro k hk (e | e | e)
    ·omega
    ·omega
    ·have:=zy k e;omega
   ·have h7:=F7.size;rintro k (hk | hk)
    ·obtain⟨g1,g2,g3,g4,g5⟩:=hF k hk;refine⟨g1,by omega,g3,g4,fun e => ?_,g5.2⟩;have e':g=k:=qyj (show some g=some k from e);subst e';exact qZ.elim g5.1 (fun h=>by omega)
    ·have hk1:=hk.1;have hk2:=hk.2;have hDW:=zaj hM.K;refine⟨by omega,by omega,by omega,by omega,fun e => ?_,by omega⟩;have e':g=k:=qyj (show some g=some k from e);rcases qZ with h | h
     ·have:=(zy _ h).2;omega
     ·omega
   ·rintro (e | e | e | e)
    ·omega
    ·exact yB e
    ·exact rD e
    ·exact bP _ e rfl
   ·rintro k hk (e | e | e | e)
    ·exact e
    ·omega
    ·omega
    ·have:=zy _ e;omega
   ·refine gz.keep F7 ?_ (fun g' kI => ?_)
    ·rintro (e | e | e)
     ·omega
     ·omega
     ·have:=zy _ e;omega
    ·have:=qE g' kI;rintro (e | e | e)
     ·omega
     ·omega
     ·have:=zy _ e;omega
   ·omega
   ·rw [qye,qyh];omega
   ·rw [zX.out,uE.out,xB.out,qq];show ((Sx.many bg el m' (toks.drop q')).map (y :: ·)).map (ts ++ ·)=_;cases Sx.many bg el m' (toks.drop q') with
    | ok z zr=>simp [Sx.Res.map]
    | bad zr=>rfl
end Go.Proofs.YtclgbmmambkiaaaGreatDoor.P
namespace Go.Proofs.YtclgbmmambkiaaaGreatDoor
open Go.RowKit
attribute [local go_sem] Oper.semAt_some
theorem zb2{F:Fence}{n:Nat}{P:Program}{f₀ : FuncId}{g:Operand}{ps:Array Tmp}{assign body:Code}{Q:Exit→Act→World→Prop}{a:Act}{w:World}
  (h : ∀A B,A=assign→B=body→(Code.rangeFunc g ps A B).wpAt f₀ F n P Q a w):(Code.rangeFunc g ps assign body).wpAt f₀ F n P Q a w:=h _ _ rfl rfl
def ManyPost(b:Nat)(la:Option Addr)(lc:Nat)(L:List RT)(toks:List Lx.Tok)(len:Int)(q:Nat)(r:Sx.Res (List Sx.Ty))(w0:World)(e:Ending)(W':World):Prop:=
 But b w0 W'∧match r with
  | .ok ts rest=>∃v xs F q',e=.returned v∧rest=toks.drop q'∧q≤q'∧q'≤toks.length∧Rd W' b la lc L q'∧W'.ownsRow w0.heap.size 35 2 v ts.length xs∧TysAt W' F ts xs∧∀k,F k→w0.heap.size≤k∧k<W'.heap.size
  | .bad rest=>e=panS (zah len rest)
theorem zh4{L:List RT}{toks:List Lx.Tok}{len:Int}(h:RtOf L toks len){q:Nat}{x:RT}(hx:L[q]? = some x)(hk:x.k=0){α : Type}{bg:Lx.Tok→Bool}{el:List Lx.Tok→Sx.Res α}{m:Nat} : Sx.many bg el m (toks.drop q)=.ok [] (toks.drop q):=by
 have hz:(Sx.hd (toks.drop q)).kind=0:=by
  by_cases hq:q<toks.length
  ·unfold RtOf at h;subst h;rw [List.getElem?_append_left (by simpa using hq),List.getElem?_map,List.getElem?_eq_getElem hq] at hx;rw [List.drop_eq_getElem_cons hq];have:=qyj hx;rw [← this] at hk;exact hk
  ·rw [List.drop_eq_nil_of_le (by omega)];rfl
 cases m with
 | zero=>rfl
 | succ m=>rw [Sx.many,if_neg (by rintro⟨h,_⟩;exact h hz)]
theorem znr(w0:World)(b:Nat)(la:Option Addr)(lc:Nat)(L:List RT)(toks:List Lx.Tok)(len:Int)(hL:RtOf L toks len)(q:Nat)(jc:Rd w0 b la lc L q)(hq:q≤toks.length)
    (bg:Lx.Tok→Bool)(kx : ∀(t:Lx.Tok) (W:World),Calls Tryz.prog 176 #[rtV (rt t)] W fun e W'=>e=.returned (.bool (bg t))∧Old W W')
    (el:List Lx.Tok→Sx.Res Sx.Ty)(q9 : ∀(q':Nat) (W:World),q≤q'→Rd W b la lc L q'→q'<toks.length→Calls Tryz.prog 174 #[.pointer (some ⟨b,0,none⟩)] W (zaf TyAt b la lc L toks len (el (toks.drop q')) q' W))
    (m:Nat)(hm:toks.length-q≤m) :
    CallsIn Fence.wide 3 Tryz.prog 175 #[.pointer (some ⟨b,0,none⟩),.func (.func 176) #[] #[],.func (.func 174) #[.pointer (some ⟨b,0,none⟩)] #[]] w0 (ManyPost b la lc L toks len q (Sx.many bg el m (toks.drop q)) w0):=by
  have vw:=mkf;have hb:=jc.blk.lt;refine callsIn_of_wpAt_marks Tryz.func175 rfl trivial ?_ rfl;simp only [Tryz.ntmps175,qxg,qxh,qxi,Nat.reduceAdd,Nat.reduceSub,qxj,qxk,qxl,qxm,qxn,qxo];refine wpAt_seq_in (fun K hK => ?_);gi_wp2;refine wpAt_scope ?_;refine wpAt_seq_in (fun K hK => ?_);gi_wp2;refine wpAt_seq_in (fun K hK=>wpIn_label ?_);refine hK _ _ ?_;clear hK K;refine wpAt_seq ?_;refine wpAt_seq_in (fun K hK => ?_);gi_wp2;refine wpAt_block ?_;refine zb2 ?_;intro A B hA hB;have jI:zay (Tryz.f175.body.getD .skip)=some (A,B):=by rw [hA,hB];rfl
  clear hA hB vw;obtain⟨W0,qF⟩ : ∃W0,(((w0.alloc (.cells #[.func (.func 176) #[] #[]] 112)).alloc (.cells #[.func (.func 174) #[.pointer (some ⟨b,0,none⟩)] #[]] 95)).alloc (.cells #[.slice none 0 0] 33))=W0:=⟨_,rfl⟩;rw [qF];have F0:Old w0 W0:=by rw [← qF];exact (((Old.refl w0).alloc _).alloc _).alloc _
  have z0:W0.heap.size=w0.heap.size+3:=by rw [← qF];simp
  have bA:Blk W0 w0.heap.size #[.func (.func 176) #[] #[]] 112:=by rw [← qF];exact ((Blk.new w0 _ _).alloc _).alloc _
  have bE:Blk W0 (w0.heap.size+1) #[.func (.func 174) #[.pointer (some ⟨b,0,none⟩)] #[]] 95:=by rw [← qF];exact (Blk.new' (by simp) _ _).alloc _
  have bR:Blk W0 (w0.heap.size+2) #[.slice none 0 0] 33:=by rw [← qF];exact Blk.new' (by simp) _ _
  clear qF;refine wpAt_rangeFunc ?_;obtain⟨tm,jS⟩ : ∃tm,tm=(#[.pointer (some ⟨b,0,none⟩),.func (.func 176) #[] #[],.func (.func 174) #[.pointer (some ⟨b,0,none⟩)] #[],undef,.pointer (some ⟨w0.heap.size,0,none⟩),.pointer (some ⟨w0.heap.size+1,0,none⟩),.slice none 0 0,.pointer (some ⟨w0.heap.size+1+1,0,none⟩),undef,undef,.pointer (some ⟨b,0,none⟩),
    .func (.func 72) #[.pointer (some ⟨b,0,none⟩)] #[],undef,undef,undef,undef,undef,undef,undef,undef,undef,undef,undef,undef,undef,undef]:Array Value):=⟨_,rfl⟩
  obtain⟨qj,qu⟩ : ∃qj,qj=fun st pe=>({ state:=st,pending:=pe,fn:=175,tmps:=tm,params:=#[12],assign:=A,body:=B,defers:=W0.heap.size } : Loop):=⟨_,rfl⟩;obtain⟨W1,qd⟩ : ∃W1,(W0.alloc (.deferred (some []))).alloc (.loop (qj .ready none))=W1:=⟨_,rfl⟩;have F1:Old w0 W1:=by rw [← qd];exact (F0.alloc _).alloc _
  have ka:Old W0 W1:=by rw [← qd];exact ((Old.refl W0).alloc _).alloc _
  have z1:W1.heap.size=W0.heap.size+2:=by rw [← qd];simp
  have qE : ∀g,la=some g→g.block<w0.heap.size:=jc.glt (by rw [hL];simp;omega);have hlen:L.length=toks.length+1:=by rw [hL];simp
  have xF:ManyAt w0 b w0.heap.size (w0.heap.size+1) (w0.heap.size+1+1) (W0.heap.size+1) W0.heap.size (.func (.func 176) #[] #[]) (.func (.func 174) #[.pointer (some ⟨b,0,none⟩)] #[]) (qj .ready none) [] W1:=
    ⟨⟨_,bA.keep ka (fun e=>e)⟩,⟨_,bE.keep ka (fun e=>e)⟩,⟨_,[],fun _=>False,bR.keep ka (fun e=>e),⟨rfl,.inl ⟨rfl,rfl⟩⟩,by rw [TysAt],fun k hk=>hk.elim⟩,
     by rw [← qd];have:=World.alloc_heap_new (W0.alloc (.deferred (some []))) (.loop (qj .ready none));rwa [qyd] at this,
     by rw [← qd];exact (Below.heap_alloc _ _ _ (by simp)).trans (World.alloc_heap_new W0 _),F1.but b⟩
  refine⟨W0.heap.size+1,[{ target:=.collected W0.heap.size,args:=#[] }],W1,{ target:=.fn (.func 72) #[],args:=#[.pointer (some ⟨b,0,none⟩),.func (.yield (W0.heap.size+1)) #[] #[]] },W1,72,
    #[.pointer (some ⟨b,0,none⟩),.func (.yield (W0.heap.size+1)) #[] #[]],W1,?_,?_,fun _ _=>trivial,?_,fun e=>by simp [Fence.wide] at e,?_⟩
  · rw [← qd,qu,jS];exact run_enterLoop_outer _ _ _ _ _
  · simp [resolve,go_sem]
  · simp [invoke,go_sem]
  · refine (zdx 2 (by decide) (W0.heap.size+1) W1 b la lc L q
      (ManyJ w0 b w0.heap.size (w0.heap.size+1) (w0.heap.size+1+1) (W0.heap.size+1) W0.heap.size (.func (.func 176) #[] #[]) (.func (.func 174) #[.pointer (some ⟨b,0,none⟩)] #[]) qj la lc L toks q bg el (Sx.many bg el m (toks.drop q)))
      (ManyF w0 b w0.heap.size (w0.heap.size+1) (w0.heap.size+1+1) (W0.heap.size+1) W0.heap.size (.func (.func 176) #[] #[]) (.func (.func 174) #[.pointer (some ⟨b,0,none⟩)] #[]) qj la lc L toks q (Sx.many bg el m (toks.drop q)))
      (ManyP w0 b W0.heap.size len (Sx.many bg el m (toks.drop q)))
      (fun q' W h=>by obtain⟨ts,m',h1,h2,h3,_⟩:=h;exact⟨h2,by omega⟩)
      (fun q' W W' h hO=>by
        obtain⟨ts,m',h1,h2,h3⟩:=h;exact⟨ts,m',h1.old hb (by omega) (by omega) (by omega) (by omega) (by omega) (hO.but b),h2.old hO,h3⟩)
      (fun q' x W hx hk h=>zo7 1 w0 b w0.heap.size (w0.heap.size+1) (w0.heap.size+1+1) (W0.heap.size+1) W0.heap.size hb (by omega) (by omega) (by omega) (by omega) (by omega) (by omega) (by omega) (by omega) (by omega) (by omega) (by omega) (by omega) A B jI tm _ _ _ _ _ _ _ _ _ _ _ _ _ _ _ _ _ _ _ _ _ _ _ jS qj qu la lc L toks len hL qE bg kx q el q9 _ q' x W hx hk h)
      ⟨[],m,xF,jc.old F1,hq,hm,by simp,by cases Sx.many bg el m (toks.drop q) <;> simp [Sx.Res.map]⟩).mono ?_
    have hst:(qj .ready none).state=.ready∧(qj .ready none).pending=none∧(qj .done (some (.exit 0))).state=.done∧(qj .done (some (.exit 0))).pending=some (.exit 0):=(by rw [qu];exact⟨rfl,rfl,rfl,rfl⟩);clear qu jI xF qd;rintro e W2 (⟨rfl,⟨q',x,⟨ts,m',zt,qG,xw,tE,fC,qV⟩,hx,dZ⟩ | ⟨ts,q',zt,qG,xw,fC,qV⟩⟩ | ⟨c,rfl,rest,qV,hc,zb,hK⟩)
    · have zd:Sx.many bg el m (toks.drop q)=.ok ts (toks.drop q'):=by
        rw [qV,zh4 hL hx dZ];simp [Sx.Res.map]
      obtain⟨L',qy⟩ : ∃L',(Instr.endLoop (W0.heap.size+1)).run Tryz.prog W2=.ok none (W2.putObj (W0.heap.size+1) (.loop L')):=⟨_,by have:=run_endLoop (P:=Tryz.prog) zt.L (by rw [hst.1];simp);rw [hst.2.1] at this;exact this⟩;obtain⟨W3,qM⟩ : ∃W3,W2.putObj (W0.heap.size+1) (.loop L')=W3:=⟨_,rfl⟩;rw [qM] at qy;have F3:Fr (fun k=>k=W0.heap.size+1) W2 W3:=(by rw [← qM];exact (Fr.refl _ W2).putObj _ _ (fun _=>rfl));have jx:=zt.loop (by omega) (by omega) (by omega) (by omega) (by omega) (F3.mono (fun k _ e=>.inr e)) (by omega) (by omega) (by omega) (by omega) hb (by rw [← qM];exact World.putObj_heap_same (zaj zt.L));have qN:Rd W3 b la lc L q':=qG.keep F3 (by omega) (fun g hg=>by have:=qE g hg;omega);clear qM;refine⟨none,W3,qy,wpAt_of_wpIn ?_⟩;obtain⟨v,xs,F,vf,qf,xL,zz⟩:=jx.box;have x0:=vf.c 0 v rfl;have zX:=qya zd;have Z0:=qya z0;clear qy zd qV z0;gi_wp2;have z0:=Z0.out;refine⟨by simp,.inl ⟨_,_,rfl,run_takeDeferred jx.K,?_⟩⟩;have F5:Fr (fun k=>k=W0.heap.size) W3 (W3.putObj W0.heap.size (.deferred none)):=(Fr.refl _ W3).putObj _ _ (fun _=>rfl);refine⟨v,by simp [results,Tryz.results175,go_sem],?_⟩;unfold ManyPost;rw [zX.out];refine⟨jx.but.trans' F5 (fun k hk e=>by omega),v,xs,F,q',rfl,rfl,by omega,xw,qN.keep F5 (by omega) (fun g hg=>by have:=qE g hg;omega),zaa qf F5 (fun k hk e=>zan qf hk (e▸jx.K) (by intro cs fr;exact fun e=>by cases e)),xL.keep F5 (fun k hk e=>(zz k hk).2.2.2.2.2 e),fun k hk=>⟨(zz k hk).1,qyc (zz k hk).2.1 F5.size⟩⟩
    · obtain⟨L',qy⟩ : ∃L',(Instr.endLoop (W0.heap.size+1)).run Tryz.prog W2=.ok (some (.exit 0)) (W2.putObj (W0.heap.size+1) (.loop L')):=⟨_,by have:=run_endLoop (P:=Tryz.prog) zt.L (by rw [hst.2.2.1];simp);rw [hst.2.2.2] at this;exact this⟩;obtain⟨W3,qM⟩ : ∃W3,W2.putObj (W0.heap.size+1) (.loop L')=W3:=⟨_,rfl⟩;rw [qM] at qy;have F3:Fr (fun k=>k=W0.heap.size+1) W2 W3:=(by rw [← qM];exact (Fr.refl _ W2).putObj _ _ (fun _=>rfl));have jx:=zt.loop (by omega) (by omega) (by omega) (by omega) (by omega) (F3.mono (fun k _ e=>.inr e)) (by omega) (by omega) (by omega) (by omega) hb (by rw [← qM];exact World.putObj_heap_same (zaj zt.L));have qN:Rd W3 b la lc L q':=qG.keep F3 (by omega) (fun g hg=>by have:=qE g hg;omega);clear qM;refine⟨some (.exit 0),W3,qy,wpIn_exit ?_⟩;simp only [Exit.inBlock,if_true];refine wpAt_of_wpIn ?_;obtain⟨v,xs,F,vf,qf,xL,zz⟩:=jx.box;have x0:=vf.c 0 v rfl;have zX:=qya qV;have Z0:=qya z0;clear qy qV z0;gi_wp2;have z0:=Z0.out;refine⟨by simp,.inl ⟨_,_,rfl,run_takeDeferred jx.K,?_⟩⟩;have F5:Fr (fun k=>k=W0.heap.size) W3 (W3.putObj W0.heap.size (.deferred none)):=(Fr.refl _ W3).putObj _ _ (fun _=>rfl);refine⟨v,by simp [results,Tryz.results175,go_sem],?_⟩;unfold ManyPost;rw [zX.out];refine⟨jx.but.trans' F5 (fun k hk e=>by omega),v,xs,F,q',rfl,rfl,by omega,xw,qN.keep F5 (by omega) (fun g hg=>by have:=qE g hg;omega),zaa qf F5 (fun k hk e=>zan qf hk (e▸jx.K) (by intro cs fr;exact fun e=>by cases e)),xL.keep F5 (fun k hk e=>(zz k hk).2.2.2.2.2 e),fun k hk=>⟨(zz k hk).1,qyc (zz k hk).2.1 F5.size⟩⟩
    · refine⟨by simp,.inl ⟨_,_,rfl,run_takeDeferred hK,?_⟩⟩;have F5:Fr (fun k=>k=W0.heap.size) W2 (W2.putObj W0.heap.size (.deferred none)):=(Fr.refl _ W2).putObj _ _ (fun _=>rfl);show ManyPost b la lc L toks len q (Sx.many bg el m (toks.drop q)) w0 (.panicked c) _;unfold ManyPost;rw [qV];exact⟨zb.trans' F5 (fun k hk e=>by omega),hc⟩
end Go.Proofs.YtclgbmmambkiaaaGreatDoor
namespace Go.Proofs.YtclgbmmambkiaaaGreatDoor.P
open Go.RowKit
attribute [local go_sem] Oper.semAt_some
def ManyPost(b:Nat)(la:Option Addr)(lc:Nat)(L:List RT)(toks:List Lx.Tok)(len:Int)(q:Nat)(r:Sx.Res (List Sx.Pa))(w0:World)(e:Ending)(W':World):Prop:=
 But b w0 W'∧match r with
  | .ok ts rest=>∃v xs F q',e=.returned v∧rest=toks.drop q'∧q≤q'∧q'≤toks.length∧Rd W' b la lc L q'∧W'.ownsRow w0.heap.size 37 3 v ts.length xs∧PasAt W' F ts xs∧∀k,F k→w0.heap.size≤k∧k<W'.heap.size
  | .bad rest=>e=panS (zah len rest)
theorem manyX_any(w0:World)(b:Nat)(la:Option Addr)(lc:Nat)(L:List RT)(toks:List Lx.Tok)(len:Int)(hL:RtOf L toks len)(q:Nat)(jc:Rd w0 b la lc L q)(hq:q≤toks.length)
    (bg:Lx.Tok→Bool)(kx : ∀(t:Lx.Tok) (W:World),Calls Tryz.prog 106 #[rtV (rt t)] W fun e W'=>e=.returned (.bool (bg t))∧Old W W')
    (el:List Lx.Tok→Sx.Res Sx.Pa)(q9 : ∀(q':Nat) (W:World),q≤q'→Rd W b la lc L q'→q'<toks.length→Calls Tryz.prog 103 #[.pointer (some ⟨b,0,none⟩)] W (zaf PaAt b la lc L toks len (el (toks.drop q')) q' W))
    (m:Nat)(hm:toks.length-q≤m) :
    CallsIn Fence.wide 3 Tryz.prog 105 #[.pointer (some ⟨b,0,none⟩),.func (.func 106) #[] #[],.func (.func 103) #[.pointer (some ⟨b,0,none⟩)] #[]] w0 (ManyPost b la lc L toks len q (Sx.many bg el m (toks.drop q)) w0):=by
  have vw:=mkf;have hb:=jc.blk.lt;refine callsIn_of_wpAt_marks Tryz.func105 rfl trivial ?_ rfl;simp only [Tryz.ntmps105,qxg,qxh,qxi,Nat.reduceAdd,Nat.reduceSub,qxj,qxk,qxl,qxm,qxn,qxo];refine wpAt_seq_in (fun K hK => ?_);gi_wp2;refine wpAt_scope ?_;refine wpAt_seq_in (fun K hK => ?_);gi_wp2;refine wpAt_seq_in (fun K hK=>wpIn_label ?_);refine hK _ _ ?_;clear hK K;refine wpAt_seq ?_;refine wpAt_seq_in (fun K hK => ?_);gi_wp2;refine wpAt_block ?_;refine zb2 ?_;intro A B hA hB;have jI:zay (Tryz.f105.body.getD .skip)=some (A,B):=by rw [hA,hB];rfl
  clear hA hB vw;obtain⟨W0,qF⟩ : ∃W0,(((w0.alloc (.cells #[.func (.func 106) #[] #[]] 112)).alloc (.cells #[.func (.func 103) #[.pointer (some ⟨b,0,none⟩)] #[]] 99)).alloc (.cells #[.slice none 0 0] 30))=W0:=⟨_,rfl⟩;rw [qF];have F0:Old w0 W0:=by rw [← qF];exact (((Old.refl w0).alloc _).alloc _).alloc _
  have z0:W0.heap.size=w0.heap.size+3:=by rw [← qF];simp
  have bA:Blk W0 w0.heap.size #[.func (.func 106) #[] #[]] 112:=by rw [← qF];exact ((Blk.new w0 _ _).alloc _).alloc _
  have bE:Blk W0 (w0.heap.size+1) #[.func (.func 103) #[.pointer (some ⟨b,0,none⟩)] #[]] 99:=by rw [← qF];exact (Blk.new' (by simp) _ _).alloc _
  have bR:Blk W0 (w0.heap.size+2) #[.slice none 0 0] 30:=by rw [← qF];exact Blk.new' (by simp) _ _
  clear qF;refine wpAt_rangeFunc ?_;obtain⟨tm,jS⟩ : ∃tm,tm=(#[.pointer (some ⟨b,0,none⟩),.func (.func 106) #[] #[],.func (.func 103) #[.pointer (some ⟨b,0,none⟩)] #[],undef,.pointer (some ⟨w0.heap.size,0,none⟩),.pointer (some ⟨w0.heap.size+1,0,none⟩),.slice none 0 0,.pointer (some ⟨w0.heap.size+1+1,0,none⟩),undef,undef,.pointer (some ⟨b,0,none⟩),
    .func (.func 72) #[.pointer (some ⟨b,0,none⟩)] #[],undef,undef,undef,undef,undef,undef,undef,undef,undef,undef,undef,undef,undef,undef]:Array Value):=⟨_,rfl⟩
  obtain⟨qj,qu⟩ : ∃qj,qj=fun st pe=>({ state:=st,pending:=pe,fn:=105,tmps:=tm,params:=#[12],assign:=A,body:=B,defers:=W0.heap.size } : Loop):=⟨_,rfl⟩;obtain⟨W1,qd⟩ : ∃W1,(W0.alloc (.deferred (some []))).alloc (.loop (qj .ready none))=W1:=⟨_,rfl⟩;have F1:Old w0 W1:=by rw [← qd];exact (F0.alloc _).alloc _
  have ka:Old W0 W1:=by rw [← qd];exact ((Old.refl W0).alloc _).alloc _
  have z1:W1.heap.size=W0.heap.size+2:=by rw [← qd];simp
  have qE : ∀g,la=some g→g.block<w0.heap.size:=jc.glt (by rw [hL];simp;omega);have hlen:L.length=toks.length+1:=by rw [hL];simp
  have xF:ManyAt w0 b w0.heap.size (w0.heap.size+1) (w0.heap.size+1+1) (W0.heap.size+1) W0.heap.size (.func (.func 106) #[] #[]) (.func (.func 103) #[.pointer (some ⟨b,0,none⟩)] #[]) (qj .ready none) [] W1:=
    ⟨⟨_,bA.keep ka (fun e=>e)⟩,⟨_,bE.keep ka (fun e=>e)⟩,⟨_,[],fun _=>False,bR.keep ka (fun e=>e),⟨rfl,.inl ⟨rfl,rfl⟩⟩,by rw [PasAt],fun k hk=>hk.elim⟩,
     by rw [← qd];have:=World.alloc_heap_new (W0.alloc (.deferred (some []))) (.loop (qj .ready none));rwa [qyd] at this,
     by rw [← qd];exact (Below.heap_alloc _ _ _ (by simp)).trans (World.alloc_heap_new W0 _),F1.but b⟩
  refine⟨W0.heap.size+1,[{ target:=.collected W0.heap.size,args:=#[] }],W1,{ target:=.fn (.func 72) #[],args:=#[.pointer (some ⟨b,0,none⟩),.func (.yield (W0.heap.size+1)) #[] #[]] },W1,72,
    #[.pointer (some ⟨b,0,none⟩),.func (.yield (W0.heap.size+1)) #[] #[]],W1,?_,?_,fun _ _=>trivial,?_,fun e=>by simp [Fence.wide] at e,?_⟩
  · rw [← qd,qu,jS];exact run_enterLoop_outer _ _ _ _ _
  · simp [resolve,go_sem]
  · simp [invoke,go_sem]
  · refine (zdx 2 (by decide) (W0.heap.size+1) W1 b la lc L q
      (ManyJ w0 b w0.heap.size (w0.heap.size+1) (w0.heap.size+1+1) (W0.heap.size+1) W0.heap.size (.func (.func 106) #[] #[]) (.func (.func 103) #[.pointer (some ⟨b,0,none⟩)] #[]) qj la lc L toks q bg el (Sx.many bg el m (toks.drop q)))
      (ManyF w0 b w0.heap.size (w0.heap.size+1) (w0.heap.size+1+1) (W0.heap.size+1) W0.heap.size (.func (.func 106) #[] #[]) (.func (.func 103) #[.pointer (some ⟨b,0,none⟩)] #[]) qj la lc L toks q (Sx.many bg el m (toks.drop q)))
      (ManyP w0 b W0.heap.size len (Sx.many bg el m (toks.drop q)))
      (fun q' W h=>by obtain⟨ts,m',h1,h2,h3,_⟩:=h;exact⟨h2,by omega⟩)
      (fun q' W W' h hO=>by
        obtain⟨ts,m',h1,h2,h3⟩:=h;exact⟨ts,m',h1.old hb (by omega) (by omega) (by omega) (by omega) (by omega) (hO.but b),h2.old hO,h3⟩)
      (fun q' x W hx hk h=>manyX_yield 1 w0 b w0.heap.size (w0.heap.size+1) (w0.heap.size+1+1) (W0.heap.size+1) W0.heap.size hb (by omega) (by omega) (by omega) (by omega) (by omega) (by omega) (by omega) (by omega) (by omega) (by omega) (by omega) (by omega) A B jI tm _ _ _ _ _ _ _ _ _ _ _ _ _ _ _ _ _ _ _ _ _ _ _ jS qj qu la lc L toks len hL qE bg kx q el q9 _ q' x W hx hk h)
      ⟨[],m,xF,jc.old F1,hq,hm,by simp,by cases Sx.many bg el m (toks.drop q) <;> simp [Sx.Res.map]⟩).mono ?_
    have hst:(qj .ready none).state=.ready∧(qj .ready none).pending=none∧(qj .done (some (.exit 0))).state=.done∧(qj .done (some (.exit 0))).pending=some (.exit 0):=(by rw [qu];exact⟨rfl,rfl,rfl,rfl⟩);clear qu jI xF qd;rintro e W2 (⟨rfl,⟨q',x,⟨ts,m',zt,qG,xw,tE,fC,qV⟩,hx,dZ⟩ | ⟨ts,q',zt,qG,xw,fC,qV⟩⟩ | ⟨c,rfl,rest,qV,hc,zb,hK⟩)
    · have zd:Sx.many bg el m (toks.drop q)=.ok ts (toks.drop q'):=by
        rw [qV,zh4 hL hx dZ];simp [Sx.Res.map]
      obtain⟨L',qy⟩ : ∃L',(Instr.endLoop (W0.heap.size+1)).run Tryz.prog W2=.ok none (W2.putObj (W0.heap.size+1) (.loop L')):=⟨_,by have:=run_endLoop (P:=Tryz.prog) zt.L (by rw [hst.1];simp);rw [hst.2.1] at this;exact this⟩;obtain⟨W3,qM⟩ : ∃W3,W2.putObj (W0.heap.size+1) (.loop L')=W3:=⟨_,rfl⟩;rw [qM] at qy;have F3:Fr (fun k=>k=W0.heap.size+1) W2 W3:=(by rw [← qM];exact (Fr.refl _ W2).putObj _ _ (fun _=>rfl));have jx:=zt.loop (by omega) (by omega) (by omega) (by omega) (by omega) (F3.mono (fun k _ e=>.inr e)) (by omega) (by omega) (by omega) (by omega) hb (by rw [← qM];exact World.putObj_heap_same (zaj zt.L));have qN:Rd W3 b la lc L q':=qG.keep F3 (by omega) (fun g hg=>by have:=qE g hg;omega);clear qM;refine⟨none,W3,qy,wpAt_of_wpIn ?_⟩;obtain⟨v,xs,F,vf,qf,xL,zz⟩:=jx.box;have x0:=vf.c 0 v rfl;have zX:=qya zd;have Z0:=qya z0;clear qy zd qV z0;gi_wp2;have z0:=Z0.out;refine⟨by simp,.inl ⟨_,_,rfl,run_takeDeferred jx.K,?_⟩⟩;have F5:Fr (fun k=>k=W0.heap.size) W3 (W3.putObj W0.heap.size (.deferred none)):=(Fr.refl _ W3).putObj _ _ (fun _=>rfl);refine⟨v,by simp [results,Tryz.results105,go_sem],?_⟩;unfold ManyPost;rw [zX.out];refine⟨jx.but.trans' F5 (fun k hk e=>by omega),v,xs,F,q',rfl,rfl,by omega,xw,qN.keep F5 (by omega) (fun g hg=>by have:=qE g hg;omega),zaa qf F5 (fun k hk e=>zan qf hk (e▸jx.K) (by intro cs fr;exact fun e=>by cases e)),xL.keep F5 (fun k hk e=>(zz k hk).2.2.2.2.2 e),fun k hk=>⟨(zz k hk).1,qyc (zz k hk).2.1 F5.size⟩⟩
    · obtain⟨L',qy⟩ : ∃L',(Instr.endLoop (W0.heap.size+1)).run Tryz.prog W2=.ok (some (.exit 0)) (W2.putObj (W0.heap.size+1) (.loop L')):=⟨_,by have:=run_endLoop (P:=Tryz.prog) zt.L (by rw [hst.2.2.1];simp);rw [hst.2.2.2] at this;exact this⟩;obtain⟨W3,qM⟩ : ∃W3,W2.putObj (W0.heap.size+1) (.loop L')=W3:=⟨_,rfl⟩;rw [qM] at qy;have F3:Fr (fun k=>k=W0.heap.size+1) W2 W3:=(by rw [← qM];exact (Fr.refl _ W2).putObj _ _ (fun _=>rfl));have jx:=zt.loop (by omega) (by omega) (by omega) (by omega) (by omega) (F3.mono (fun k _ e=>.inr e)) (by omega) (by omega) (by omega) (by omega) hb (by rw [← qM];exact World.putObj_heap_same (zaj zt.L));have qN:Rd W3 b la lc L q':=qG.keep F3 (by omega) (fun g hg=>by have:=qE g hg;omega);clear qM;refine⟨some (.exit 0),W3,qy,wpIn_exit ?_⟩;simp only [Exit.inBlock,if_true];refine wpAt_of_wpIn ?_;obtain⟨v,xs,F,vf,qf,xL,zz⟩:=jx.box;have x0:=vf.c 0 v rfl;have zX:=qya qV;have Z0:=qya z0;clear qy qV z0;gi_wp2;have z0:=Z0.out;refine⟨by simp,.inl ⟨_,_,rfl,run_takeDeferred jx.K,?_⟩⟩;have F5:Fr (fun k=>k=W0.heap.size) W3 (W3.putObj W0.heap.size (.deferred none)):=(Fr.refl _ W3).putObj _ _ (fun _=>rfl);refine⟨v,by simp [results,Tryz.results105,go_sem],?_⟩;unfold ManyPost;rw [zX.out];refine⟨jx.but.trans' F5 (fun k hk e=>by omega),v,xs,F,q',rfl,rfl,by omega,xw,qN.keep F5 (by omega) (fun g hg=>by have:=qE g hg;omega),zaa qf F5 (fun k hk e=>zan qf hk (e▸jx.K) (by intro cs fr;exact fun e=>by cases e)),xL.keep F5 (fun k hk e=>(zz k hk).2.2.2.2.2 e),fun k hk=>⟨(zz k hk).1,qyc (zz k hk).2.1 F5.size⟩⟩
    · refine⟨by simp,.inl ⟨_,_,rfl,run_takeDeferred hK,?_⟩⟩;have F5:Fr (fun k=>k=W0.heap.size) W2 (W2.putObj W0.heap.size (.deferred none)):=(Fr.refl _ W2).putObj _ _ (fun _=>rfl);show ManyPost b la lc L toks len q (Sx.many bg el m (toks.drop q)) w0 (.panicked c) _;unfold ManyPost;rw [qV];exact⟨zb.trans' F5 (fun k hk e=>by omega),hc⟩
end Go.Proofs.YtclgbmmambkiaaaGreatDoor.P
namespace Go.Proofs.YtclgbmmambkiaaaGreatDoor
open Go.RowKit
theorem zd7(t:Lx.Tok):(rt t).s.toList=t.text:=by
 show (⟨t.text.toArray⟩:ByteArray).toList=t.text;exact qyw _
theorem zgr(t:Lx.Tok)(W:World):Calls Tryz.prog 176 #[rtV (rt t)] W fun e W'=>e=.returned (.bool (Sx.za7 t))∧Old W W':=by
 have hk:=zc5 (rt t);have ht:=zfj (rt t)
 go_enter Tryz.func176,Tryz.ntmps176
 have hx:Sx.za7 t=((rt t).k==4||(rt t).k==3||(rt t).s.toList == [40]):=by
  rw [zd7];unfold Sx.za7;show (decide (t.kind=4)||decide (t.kind=3)||decide (t.text=[40]))=((t.kind==4)||(t.kind==3)||(t.text == [40]));rw [Bool.beq_eq_decide_eq,Bool.beq_eq_decide_eq,Bool.beq_eq_decide_eq]
 have HX:=qya hx;clear hx;go_wp2
 all_goals
  go_ret;refine⟨?_,(Old.refl W).alloc _⟩;rw [HX.out];simp [*]
theorem zc2{L:List RT}{toks:List Lx.Tok}{len:Int}(h:RtOf L toks len){q:Nat}{x:RT}(hx:L[q]? = some x)(hq:q≤toks.length):(Sx.hd (toks.drop q)).kind=x.k∧(Sx.hd (toks.drop q)).text=x.s.toList∧zah len (toks.drop q)=x.a:=by
 unfold RtOf at h;subst h
 by_cases qx:q<toks.length
 ·rw [List.getElem?_append_left (by simpa using qx),List.getElem?_map,List.getElem?_eq_getElem qx] at hx;have:=qyj hx;rw [List.drop_eq_getElem_cons qx,← this];exact⟨rfl,(zd7 _).symm,rfl⟩
 ·have he:q=toks.length:=by omega
  subst he;rw [List.getElem?_append_right (by simp)] at hx;simp at hx;rw [List.drop_eq_nil_of_le (qyb _),← hx];exact⟨rfl,(qyw []).symm,rfl⟩
theorem zu1(w:World)(b:Nat)(la:Option Addr)(lc:Nat)(L:List RT)(p:Nat)(h:Rd w b la lc L p)(x:RT)(hx:L[p]? = some x)(hk:(x.k != 3)=false) :
  Calls Tryz.prog 104 #[.pointer (some ⟨b,0,none⟩)] w fun e w'=>e=.returned (.string x.s)∧Rd w' b la lc L (p+1)∧But b w w':=by
 have HX:=qya hx;have HK:=qya hk;clear hx hk
 go_enter Tryz.func104,Tryz.ntmps104
 go_wp2_with fail
 (with_reducible refine (zle w b la lc L p h x HX.out 3 HK.out).mono ?_)
 rintro e w1 ⟨rfl,h1,f1⟩;go_wp2;go_ret;exact⟨rfl,h1,f1⟩
theorem zme(b:Nat)(la:Option Addr)(lc:Nat)(L:List RT)(toks:List Lx.Tok)(len:Int)(hL:RtOf L toks len)(f:Nat)
  (q:Nat)(fo : ∀(q':Nat) (W:World),q≤q'→Rd W b la lc L q'→q'≤toks.length→Calls Tryz.prog 174 #[.pointer (some ⟨b,0,none⟩)] W (zaf TyAt b la lc L toks len (Sx.zak f (toks.drop q')) q' W))
  (w:World)(h:Rd w b la lc L q)(hq:q≤toks.length) :
  Calls Tryz.prog 98 #[.pointer (some ⟨b,0,none⟩)] w (zaf TyAt b la lc L toks len (Sx.zaw (f+1) (toks.drop q)) q w):=by
 obtain⟨x,hx⟩ : ∃x,L[q]? = some x:=⟨_,List.getElem?_eq_getElem (by rw [hL];simp;omega)⟩;obtain⟨jb,hd2,-⟩:=zc2 hL hx hq;have hk:=zc5 x;have hb:=h.blk.lt;have qQ:=h.glt (by rw [hL];simp;omega);have HX:=qya hx;clear hx;cases hc:(x.k != 3)
 ·have hc2:x.k=3:=by simpa using hc
  have jT:q<toks.length:=by
   obtain⟨t,r,h1,_⟩:=zep hL HX.out (by omega);exact h1
  have HC:=qya hc;have tB:=qya hc2;have H1:=qya jb;have H2:=qya hd2;clear hc2 jb hd2
  go_enter Tryz.func98,Tryz.ntmps98
  go_wp2_with fail
  (with_reducible refine (zbt _ b la lc L q (h.old ((Old.refl w).alloc _)) x HX.out).mono ?_)
  rintro e w1 ⟨rfl,o1⟩;have O1:=((Old.refl w).alloc (.cells #[.string ⟨#[]⟩,.slice none 0 0] 35)).trans o1;have h1:=h.old O1
  go_wp2_with fail
  (with_reducible refine (zu1 _ b la lc L q h1 x HX.out HC.out).mono ?_)
  rintro e w2 ⟨rfl,h2,f2⟩;have hm:=callsIn_wide.1 (znr w2 b la lc L toks len hL (q+1) h2 jT Sx.za7 zgr (Sx.zak f) (fun q' W hl h hq=>fo q' W (Nat.le_of_succ_le hl) h (Nat.le_of_lt hq)) (toks.drop q).length (by simp;omega));have qm:Sx.zaw (f+1) (toks.drop q)=(Sx.many Sx.za7 (Sx.zak f) (toks.drop q).length (toks.drop (q+1))).map fun xs=>.mk x.s.toList xs:=by
   rw [Sx.zaw,if_pos (by rw [H1.out];exact tB.out),H2.out];simp
  rw [qm];have uE:=qya qm;clear qm;have kR:=(Blk.new w #[.string ⟨#[]⟩,.slice none 0 0] 35).keep o1 (fun e=>e);have j5:=o1.size;rw [qyd] at j5;have jE:=f2.size
  go_wp2_with fail
  (with_reducible refine hm.mono ?_)
  rintro e w3 ⟨f3,hp⟩;have uY:=f3.size;cases hres:Sx.many Sx.za7 (Sx.zak f) (toks.drop q).length (toks.drop (q+1)) with
  | bad rest=>
   rw [hres] at hp;have hp:e=panS (zah len rest):=hp;subst hp;have HR:=qya hres;clear hres;go_wp2;refine⟨rfl,(Fr.trans (Old.but O1 b) (Fr.trans f2 f3)),?_⟩
   first | rw [uE.out,HR.out] | rw [HR.out]
   rfl
  | ok ts rest=>
   rw [hres] at hp;obtain⟨v,xs,F,q',rfl,qq,qx,qX,h3,qz,uv,hF⟩:=hp;obtain⟨l2,c2,rfl⟩:=zad qz;have jL:=(kR.keep f2 (by omega)).keep f3 (by omega);obtain⟨r0,r1⟩:=jL.c2;obtain⟨g0,g1⟩:=jL.f2;have qJ:=jL.lt;have HR:=qya hres;have tG:=qya qq;clear hres qq;go_wp2;have S2:=(((Fr.refl (fun k=>k=w.heap.size) w3).setCell ⟨w.heap.size,0,none⟩ (fun _=>rfl) (.string x.s)).setCell ⟨w.heap.size,1,none⟩ (fun _=>rfl) (.slice l2 ts.length c2));have k3:=(jL.set 0 (.string x.s)).set 1 (.slice l2 ts.length c2);obtain⟨W',qv⟩ : ∃W',(w3.setCell ⟨w.heap.size,0,none⟩ (.string x.s)).setCell ⟨w.heap.size,1,none⟩ (.slice l2 ts.length c2)=W':=⟨_,rfl⟩;rw [qv] at S2 k3 ⊢;clear qv;obtain⟨s0,s1⟩:=k3.c2;refine bodyPost_ret (v:=.agg #[.string x.s,.slice l2 ts.length c2]) (by simp [results,Tryz.results98,go_sem,s0,s1]) rfl ?_;refine⟨(Fr.trans (Old.but O1 b) (Fr.trans f2 f3)).trans' S2 (fun k hk e=>by omega),?_⟩
   first | rw [uE.out,HR.out] | rw [HR.out]
   refine⟨_,q',rfl,tG.out,by omega,qX,h3.keep S2 (by omega) (fun g hg=>by have:=qQ g hg;omega),?_⟩;rw [TyAt];refine⟨_,xs,by rw [show bv x.s.toList=.string x.s from by show Value.string ⟨x.s.toList.toArray⟩=.string x.s;rw [ByteArray.toList_eq]],⟨zaa (qz.mono (qyi _)) S2 (fun k hk e=>by have:=(qz.lt k hk).1;omega),fun k hk=>⟨by have:=(qz.lt k hk).1;omega,qyc (qz.lt k hk).2 S2.size⟩⟩,TysAt.more (fun k hk=>⟨by have:=(hF k hk).1;omega,qyc (hF k hk).2 S2.size⟩) _ _ (uv.keep S2 (fun k hk e=>by have:=(hF k hk).1;omega))⟩
 ·have ux:Sx.zaw (f+1) (toks.drop q)=Sx.zak f (toks.drop q):=by
   rw [Sx.zaw,if_neg (by rw [jb];simpa using hc)]
  rw [ux];have jb:=qya jb;have hd2:=qya hd2
  go_enter Tryz.func98,Tryz.ntmps98
  go_wp2_with fail
  (with_reducible refine (zbt _ b la lc L q (h.old ((Old.refl w).alloc _)) x HX.out).mono ?_)
  rintro e w1 ⟨rfl,o1⟩;have O1:=((Old.refl w).alloc (.cells #[.string ⟨#[]⟩,.slice none 0 0] 35)).trans o1;have h1:=h.old O1;have kR:=(Blk.new w #[.string ⟨#[]⟩,.slice none 0 0] 35).keep o1 (fun e=>e);have j5:=o1.size;rw [qyd] at j5
  go_wp2_with fail
  (with_reducible refine (fo q w1 (qyb q) h1 hq).mono ?_)
  rintro e w2 ⟨f2,hp⟩;cases hres:Sx.zak f (toks.drop q) with
  | bad rest=>
   rw [hres] at hp;have hp:e=panS (zah len rest):=hp;subst hp;have HR:=qya hres;clear hres;go_wp2;refine⟨rfl,Fr.trans (Old.but O1 b) f2,?_⟩;rfl
  | ok y rest=>
   rw [hres] at hp;obtain⟨yv,q',rfl,qq,qx,qX,h2,zq⟩:=hp;obtain⟨nm,l2,n2,c2,rfl⟩:=zq.parts;have jL:=kR.keep f2 (by omega);obtain⟨r0,r1⟩:=jL.c2;obtain⟨g0,g1⟩:=jL.f2;have qJ:=jL.lt;have HR:=qya hres;have HR0:=qya ux;have tG:=qya qq;clear hres ux qq;go_wp2;have S2:=(((Fr.refl (fun k=>k=w.heap.size) w2).setCell ⟨w.heap.size,0,none⟩ (fun _=>rfl) (.string nm)).setCell ⟨w.heap.size,1,none⟩ (fun _=>rfl) (.slice l2 n2 c2));have k3:=(jL.set 0 (.string nm)).set 1 (.slice l2 n2 c2);obtain⟨W',qv⟩ : ∃W',(w2.setCell ⟨w.heap.size,0,none⟩ (.string nm)).setCell ⟨w.heap.size,1,none⟩ (.slice l2 n2 c2)=W':=⟨_,rfl⟩;rw [qv] at S2 k3 ⊢;clear qv;obtain⟨s0,s1⟩:=k3.c2;refine bodyPost_ret (v:=.agg #[.string nm,.slice l2 n2 c2]) (by simp [results,Tryz.results98,go_sem,s0,s1]) rfl ?_;refine⟨(Fr.trans (Old.but O1 b) f2).trans' S2 (fun k hk e=>by omega),?_⟩;rw [HR.out];refine⟨_,q',rfl,tG.out,qx,qX,h2.keep S2 (by omega) (fun g hg=>by have:=qQ g hg;omega),TyAt.more (fun k hk=>⟨by omega,qyc hk.2 S2.size⟩) _ _ (zq.keep S2 (fun k hk e=>by omega))⟩
theorem zvh(b:Nat)(la:Option Addr)(lc:Nat)(L:List RT)(toks:List Lx.Tok)(len:Int)(hL:RtOf L toks len)(f:Nat)
  (q:Nat)(hda : ∀(W:World),Rd W b la lc L q→q≤toks.length→Calls Tryz.prog 98 #[.pointer (some ⟨b,0,none⟩)] W (zaf TyAt b la lc L toks len (Sx.zaw f (toks.drop q)) q W))
  (zq : ∀(q':Nat) (W:World),q<q'→Rd W b la lc L q'→q'≤toks.length→Calls Tryz.prog 46 #[.pointer (some ⟨b,0,none⟩)] W (zaf TyAt b la lc L toks len (Sx.typ f (toks.drop q')) q' W))
  (w:World)(h:Rd w b la lc L q)(hq:q≤toks.length) :
  Calls Tryz.prog 46 #[.pointer (some ⟨b,0,none⟩)] w (zaf TyAt b la lc L toks len (Sx.typ (f+1) (toks.drop q)) q w):=by
 have hb:=h.blk.lt;have qQ:=h.glt (by rw [hL];simp;omega);have hst:Sx.typ (f+1) (toks.drop q)=(Sx.zaw f (toks.drop q)).bind fun a r=>if (Sx.hd r).text=Sx.arrow then (Sx.typ f r.tail).map fun b=>.mk Sx.arrow [a,b] else .ok a r:=by rw [Sx.typ]
 rw [hst];clear hst;have O0:Old w (w.alloc (.cells #[.string ⟨#[]⟩,.slice none 0 0] 35)):=(Old.refl w).alloc _;have qD:=Blk.new w #[.string ⟨#[]⟩,.slice none 0 0] 35;have dz:=hda _ (h.old O0) hq;obtain⟨qp,qr⟩ : ∃qp,w.alloc (.cells #[.string ⟨#[]⟩,.slice none 0 0] 35)=qp:=⟨_,rfl⟩;have qw:qp.heap.size=w.heap.size+1:=by rw [← qr];simp
 rw [qr] at O0 qD dz;have vh:=qya qr;have qi:=qya qw;clear qr qw
 go_enter Tryz.func46,Tryz.ntmps46
 go_wp2_with fail
 rw [vh.out]
 (with_reducible refine dz.mono ?_)
 rintro e w2 ⟨f2,hp⟩;have jE:=f2.size;cases hres:Sx.zaw f (toks.drop q) with
 | bad rest=>
  rw [hres] at hp;have hp:e=panS (zah len rest):=hp;subst hp;have HR:=qya hres;clear hres;go_wp2;refine⟨rfl,Fr.trans (Old.but O0 b) f2,?_⟩;rw [HR.out];rfl
 | ok y rest=>
  rw [hres] at hp;obtain⟨yv,q',rfl,qq,qx,qX,h2,lZ⟩:=hp;obtain⟨nm,l2,n2,c2,rfl⟩:=lZ.parts;obtain⟨x,hx⟩ : ∃x,L[q']? = some x:=⟨_,List.getElem?_eq_getElem (by rw [hL];simp;omega)⟩;obtain⟨jb,hd2,-⟩:=zc2 hL hx qX;have fm:(Sx.zaw f (toks.drop q)).bind (fun a r=>if (Sx.hd r).text=Sx.arrow then (Sx.typ f r.tail).map fun b=>.mk Sx.arrow [a,b] else .ok a r)=if x.s.toList=Sx.arrow then (Sx.typ f (toks.drop (q'+1))).map fun b=>.mk Sx.arrow [y,b] else .ok y (toks.drop q'):=by
   rw [hres,qq];show (if (Sx.hd (toks.drop q')).text=Sx.arrow then _ else _)=_;rw [hd2];simp
  have HN:=qya fm;have HX:=qya hx;clear hres qq hx jb hd2 fm;have jp:(⟨#[45,62]⟩:ByteArray).toList=[45,62]:=qyw [45,62];have HL:=qya jp;clear jp;have kV:=Blk.new w2 #[.string nm,.slice l2 n2 c2] 35;have O2:Old w2 (w2.alloc (.cells #[.string nm,.slice l2 n2 c2] 35)):=(Old.refl w2).alloc _;have uY:(w2.alloc (.cells #[.string nm,.slice l2 n2 c2] 35)).heap.size=w2.heap.size+1:=qyd _ _;obtain⟨w3,p8⟩ : ∃w3,w2.alloc (.cells #[.string nm,.slice l2 n2 c2] 35)=w3:=⟨_,rfl⟩;rw [p8] at kV O2 uY;have HW3:=qya p8;have mF:=qya uY;clear p8 uY;cases hc:(x.s.toList == [45,62])
  ·go_wp2_with fail
   rw [HW3.out]
   (with_reducible refine (ze6 w3 b la lc L q' (h2.old O2) x HX.out ⟨#[45,62]⟩ (by rw [HL.out];exact hc)).mono ?_)
   rintro e w4 ⟨rfl,o4⟩;have uY:=mF.out;have qw:=qi.out;have hz4:=o4.size;have kV4:=kV.keep o4 (fun e=>e);obtain⟨v0,v1⟩:=kV4.c2;have jL:=((qD.keep f2 (by omega)).keep O2 (fun e=>e)).keep o4 (fun e=>e);obtain⟨r0,r1⟩:=jL.c2;obtain⟨g0,g1⟩:=jL.f2;have qJ:=jL.lt;clear uY qw;go_wp2;have S2:=(((Fr.refl (fun k=>k=w.heap.size) w4).setCell ⟨w.heap.size,0,none⟩ (fun _=>rfl) (.string nm)).setCell ⟨w.heap.size,1,none⟩ (fun _=>rfl) (.slice l2 n2 c2));have k3:=(jL.set 0 (.string nm)).set 1 (.slice l2 n2 c2);obtain⟨W',qv⟩ : ∃W',(w4.setCell ⟨w.heap.size,0,none⟩ (.string nm)).setCell ⟨w.heap.size,1,none⟩ (.slice l2 n2 c2)=W':=⟨_,rfl⟩;rw [qv] at S2 k3 ⊢;clear qv;obtain⟨s0,s1⟩:=k3.c2;refine bodyPost_ret (v:=.agg #[.string nm,.slice l2 n2 c2]) (by simp [results,Tryz.results46,go_sem,s0,s1]) rfl ?_;have uY:=mF.out;have qw:=qi.out;have OO:Old w2 w4:=Fr.trans O2 o4;refine⟨(Fr.trans (Old.but O0 b) (Fr.trans f2 (Old.but OO b))).trans' S2 (fun k hk e=>by omega),?_⟩;rw [HN.out,if_neg (by simpa [Sx.arrow] using hc)];exact⟨_,q',rfl,rfl,qx,qX,(h2.old OO).keep S2 (by omega) (fun g hg=>by have:=qQ g hg;omega),TyAt.more (fun k hk=>⟨by omega,qyc hk.2 (qyu OO.size S2.size)⟩) _ _ ((lZ.keep OO (fun _ _ e=>e)).keep S2 (fun k hk e=>by omega))⟩
  ·have jT:q'<toks.length:=by
    by_cases lT:q'<toks.length
    ·exact lT
    ·exfalso;have hx:=HX.out;have he:q'=toks.length:=(by omega);rw [hL,he,List.getElem?_append_right (by simp)] at hx;simp at hx;rw [← hx] at hc;have h0:(⟨#[]⟩:ByteArray).toList=[]:=qyw [];simp only [h0] at hc;cases hc
   go_wp2_with fail
   rw [HW3.out]
   (with_reducible refine (zd0 w3 b la lc L q' (h2.old O2) x HX.out ⟨#[45,62]⟩ (by rw [HL.out];exact hc)).mono ?_)
   rintro e w4 ⟨rfl,h4,f4⟩
   go_wp2_with fail
   (with_reducible refine (zq (q'+1) w4 (by omega) h4 (Nat.succ_le_of_lt jT)).mono ?_)
   rintro e w5 ⟨f5,hp⟩;have uj:But b w2 w5:=Fr.trans (Old.but O2 b) (Fr.trans f4 f5);cases hres:Sx.typ f (toks.drop (q'+1)) with
   | bad jk=>
    rw [hres] at hp;have hp:e=panS (zah len jk):=hp;subst hp;have HR:=qya hres;clear hres;go_wp2;refine⟨rfl,Fr.trans (Old.but O0 b) (Fr.trans f2 uj),?_⟩;rw [HN.out,if_pos (by simpa [Sx.arrow] using hc),HR.out];rfl
   | ok z jk=>
    rw [hres] at hp;obtain⟨zv,q2,rfl,qU,jh,qo,h5,zg⟩:=hp;obtain⟨qh,l3,n3,c3,rfl⟩:=zg.parts;have HR:=qya hres;have pP:=qya qU;clear hres qU;have uY:=mF.out;have qw:=qi.out;have hz4:=f4.size;have hz5:=f5.size;have kV5:=(kV.keep f4 (by omega)).keep f5 (by omega);obtain⟨v0,v1⟩:=kV5.c2;have j4:=((qD.keep f2 (by omega)).keep uj (by omega));have kZ:=Blk.new w5 #[.string qh,.slice l3 n3 c3] 35;have O6:Old w5 (w5.alloc (.cells #[.string qh,.slice l3 n3 c3] 35)):=(Old.refl w5).alloc _;have hz6:(w5.alloc (.cells #[.string qh,.slice l3 n3 c3] 35)).heap.size=w5.heap.size+1:=qyd _ _;have cA:=kV5.keep O6 (fun e=>e);have yH:=j4.keep O6 (fun e=>e);have hVl:=kV5.lt;have qJ:=j4.lt;obtain⟨r0,r1⟩:=j4.c2;obtain⟨g0,g1⟩:=j4.f2;obtain⟨y0,y1⟩:=cA.c2;obtain⟨z0,z1⟩:=kZ.c2;clear uY qw;go_wp2;have S2:=(((Fr.refl (fun k=>k=w.heap.size) w5).setCell ⟨w.heap.size,0,none⟩ (fun _=>rfl) (.string ⟨#[45,62]⟩)).setCell ⟨w.heap.size,1,none⟩ (fun _=>rfl) (.slice (some ⟨w5.heap.size+1,0,none⟩) 2 2));have k3:=(j4.set 0 (.string ⟨#[45,62]⟩)).set 1 (.slice (some ⟨w5.heap.size+1,0,none⟩) 2 2);have zD:((w5.setCell ⟨w.heap.size,0,none⟩ (.string ⟨#[45,62]⟩)).setCell ⟨w.heap.size,1,none⟩ (.slice (some ⟨w5.heap.size+1,0,none⟩) 2 2)).heap.size=w5.heap.size:=(by simp);obtain⟨W',qv⟩ : ∃W',(w5.setCell ⟨w.heap.size,0,none⟩ (.string ⟨#[45,62]⟩)).setCell ⟨w.heap.size,1,none⟩ (.slice (some ⟨w5.heap.size+1,0,none⟩) 2 2)=W':=⟨_,rfl⟩;rw [qv] at S2 k3 zD ⊢;clear qv;have kG:Blk ((W'.alloc (.cells #[.string qh,.slice l3 n3 c3] 35)).alloc (.cells #[.string nm,.slice l2 n2 c2,.string qh,.slice l3 n3 c3] 35)) (w5.heap.size+1) #[.string nm,.slice l2 n2 c2,.string qh,.slice l3 n3 c3] 35:=Blk.new' (by rw [qyd,zD]) _ _;have OF:Old W' ((W'.alloc (.cells #[.string qh,.slice l3 n3 c3] 35)).alloc (.cells #[.string nm,.slice l2 n2 c2,.string qh,.slice l3 n3 c3] 35)):=((Old.refl W').alloc _).alloc _;have k4:=k3.keep OF (fun e=>e);obtain⟨Wf,yw⟩ : ∃Wf,(W'.alloc (.cells #[.string qh,.slice l3 n3 c3] 35)).alloc (.cells #[.string nm,.slice l2 n2 c2,.string qh,.slice l3 n3 c3] 35)=Wf:=⟨_,rfl⟩;rw [yw] at kG OF k4 ⊢;clear yw;obtain⟨s0,s1⟩:=k4.c2;refine bodyPost_ret (v:=.agg #[.string ⟨#[45,62]⟩,.slice (some ⟨w5.heap.size+1,0,none⟩) 2 2]) (by simp [results,Tryz.results46,go_sem,s0,s1]) rfl ?_;have qw:=qi.out;have uY:=mF.out;have cZ:=kG.lt;have S3:Fr (fun k=>k=w.heap.size) w5 Wf:=Fr.trans' S2 OF (fun _ _ e=>False.elim e);refine⟨(Fr.trans (Old.but O0 b) (Fr.trans f2 uj)).trans' S3 (fun k hk e=>by omega),?_⟩;rw [HN.out,if_pos (by simpa [Sx.arrow] using hc),HR.out];refine⟨_,q2,rfl,pP.out,by omega,qo,h5.keep S3 (by omega) (fun g hg=>by have:=qQ g hg;omega),?_⟩;rw [TyAt];refine⟨_,[.string nm,.slice l2 n2 c2,.string qh,.slice l3 n3 c3],rfl,⟨⟨rfl,.inr ⟨w5.heap.size+1,2,_,rfl,qyi _,kG,qyb _,by unfold maxLen;omega,rfl,rfl⟩⟩,fun k hk => ?_⟩,?_⟩
    ·have e':w5.heap.size+1=k:=qyj (show some (w5.heap.size+1)=some k from hk);exact⟨by omega,by omega⟩
    ·have ty:=TyAt.more (F':=fun k=>w.heap.size≤k∧k<Wf.heap.size) (fun k hk=>⟨by omega,qyc hk.2 (qyu uj.size S3.size)⟩) _ _ ((lZ.keep uj (fun k hk e=>by omega)).keep S3 (fun k hk e=>by omega));have tz:=TyAt.more (F':=fun k=>w.heap.size≤k∧k<Wf.heap.size) (fun k hk=>⟨by omega,qyc hk.2 S3.size⟩) _ _ (zg.keep S3 (fun k hk e=>by omega));rw [TysAt];refine⟨_,_,_,rfl,ty,?_⟩;rw [TysAt];refine⟨_,_,_,rfl,tz,?_⟩;rw [TysAt]
end Go.Proofs.YtclgbmmambkiaaaGreatDoor
namespace Sx
def fin{α : Type}(xu:List α→α)(x : α):List α→α
 | []=>x
 | ys=>xu (x::ys)
def rest{α : Type}(el:List Lx.Tok→Res α)(xu:List α→α)(x : α)(ys:List α)(n:Nat)(l:List Lx.Tok):Res α:=
 (more [44] el n l).bind fun xs r1=>(take [41] r1).map fun _=>fin xu x (ys++xs)
theorem zl6{α : Type}(el:List Lx.Tok→Res α)(xu:List α→α)(l:List Lx.Tok):zcd el xu l=(el l).bind fun x r=>rest el xu x [] 3 r:=by
 unfold zcd rest
 congr 1
 funext x r
 congr 1
 funext xs r1
 congr 1
 funext u
 cases xs <;> rfl
theorem rest_stop {α : Type} {el : List Lx.Tok → Res α} {tup : List α → α} {x : α} {ys : List α} {n : Nat} {l : List Lx.Tok} (h : n = 0 ∨ (hd l).text ≠ [44]) : rest el tup x ys n l = (take [41] l).map fun _ => fin tup x ys := by
  have hm : more [44] el n l = .ok [] l := by
    cases n with
    | zero => rfl
    | succ n => rw [more, if_neg (by rcases h with h | h; · cases h
                                     · exact h)]
  unfold rest
  rw [hm]
  simp [Res.bind]
theorem zlq{α : Type}{el:List Lx.Tok→Res α}{xu:List α→α}{x : α}{ys:List α}{n:Nat}{l r:List Lx.Tok}(h:(hd l).text=[44])(he:el l.tail=.bad r):rest el xu x ys (n+1) l=.bad r:=by
 unfold rest;rw [more,if_pos h,he];rfl
theorem zop{α : Type}{el:List Lx.Tok→Res α}{xu:List α→α}{x y : α}{ys:List α}{n:Nat}{l r:List Lx.Tok}(h:(hd l).text=[44])(he:el l.tail=.ok y r):rest el xu x ys (n+1) l=rest el xu x (ys++[y]) n r:=by
 unfold rest;rw [more,if_pos h,he];show ((more [44] el n r).map (y :: ·)).bind _=_;cases more [44] el n r with
 | ok zs r2=>simp [Res.map,Res.bind]
 | bad r2=>rfl
end Sx
namespace Go.Proofs.YtclgbmmambkiaaaGreatDoor
open Go.RowKit
theorem zmu(l:Option Addr)(n c:Nat)(w:World):Calls Tryz.prog 229 #[.slice l n c] w fun e w'=>e=.returned (.agg #[.string ⟨#[44]⟩,.slice l n c])∧Old w w':=by
 go_enter Tryz.func229,Tryz.ntmps229
 go_wp2;refine bodyPost_ret (v:=.agg #[.string ⟨#[44]⟩,.slice l n c]) (by simp [results,Tryz.results229,go_sem]) rfl ⟨rfl,?_⟩;exact (Old.refl w).alloc _
structure GrpAt(w0:World)(b X:Nat)(xs:List Value)(ts:List Sx.Ty)(v:Value)(W:World):Prop where
 res:Blk W w0.heap.size #[.string ⟨#[]⟩,.slice none 0 0] 35
 x : ∃s sv,Blk W X #[s,sv] 35
 own:W.ownsRow (X+1) 35 2 v ts.length xs
 tys : ∃F,TysAt W F ts xs∧∀k,F k→w0.heap.size<k∧k<W.heap.size∧k≠X∧v.ownBlock≠some k
 but:But b w0 W
theorem GrpAt.old{w0:World}{b X:Nat}{xs:List Value}{ts:List Sx.Ty}{v:Value}{W W':World}(h:GrpAt w0 b X xs ts v W)(hb:b<w0.heap.size)(hX:w0.heap.size<X)(hf:But b W W'):GrpAt w0 b X xs ts v W':=by
 obtain⟨F,h1,h2⟩:=h.tys;obtain⟨s,sv,hx⟩:=h.x;refine⟨h.res.keep hf (by omega),⟨s,sv,hx.keep hf (by omega)⟩,zaa h.own hf (fun k hk e => ?_),⟨F,h1.keep hf (fun k hk e => ?_),fun k hk => ?_⟩,h.but.trans hf⟩
 ·have:=(h.own.lt k hk).1;omega
 ·have:=(h2 k hk).1;omega
 ·obtain⟨g1,g2,g3⟩:=h2 k hk;exact⟨g1,qyc g2 hf.size,g3⟩
theorem GrpAt.snoc{w0:World}{b X:Nat}{xs:List Value}{ts:List Sx.Ty}{l:Option Addr}{c:Nat}{W w4 w5 w6:World}(h:GrpAt w0 b X xs ts (.slice l ts.length c) W)(hb:b<w0.heap.size)(hX:w0.heap.size<X)
  (f4:But b W w4)(f5:But b w4 w5){z:Sx.Ty}{nm:ByteArray}{l3:Option Addr}{n3 c3:Nat}(hz:TyAt w5 (fun k=>w4.heap.size≤k∧k<w5.heap.size) z (.agg #[.string nm,.slice l3 n3 c3]))
  (F6:Fr (fun k=>k=X∨(Value.slice l ts.length c).ownBlock=some k) w5 w6)(dN : ∃s sv,Blk w6 X #[s,sv] 35){g cap:Nat}(ho:w6.ownsRow (X+1) 35 2 (.slice (some ⟨g,0,none⟩) (ts.length+1) cap) (ts.length+1) (xs++[.string nm,.slice l3 n3 c3]))
  (qZ:(Value.slice l ts.length c).ownBlock=some g∨w5.heap.size≤g):GrpAt w0 b X (xs++[.string nm,.slice l3 n3 c3]) (ts++[z]) (.slice (some ⟨g,0,none⟩) (ts++[z]).length cap) w6:=by
 obtain⟨F,h1,h2⟩:=h.tys;obtain⟨s,sv,hx⟩:=h.x;have hXW:=hx.lt;have jQ : ∀k,(Value.slice l ts.length c).ownBlock=some k→X+1≤k∧k<W.heap.size:=fun k hk=>h.own.lt k hk;have dd:Fr (fun k=>k=b∨k=X∨(Value.slice l ts.length c).ownBlock=some k) W w6:=Fr.trans' ((Fr.trans f4 f5).mono (S':=fun k=>k=b∨k=X∨(Value.slice l ts.length c).ownBlock=some k) (fun k _ e=>.inl e)) F6 (fun k _ e=>.inr e);have z4:=f4.size;have z5:=f5.size;have z6:=F6.size;refine⟨h.res.keep dd ?_,dN,?_,⟨fun k=>F k∨(w4.heap.size≤k∧k<w5.heap.size),TysAt.snoc ts xs z (.string nm) (.slice l3 n3 c3) ?_ ?_,?_⟩,h.but.trans' dd ?_⟩
 ·rintro (e | e | e)
  ·omega
  ·omega
  ·have:=jQ _ e;omega
 ·rw [qye,qyh];exact ho
 ·refine TysAt.more (fun k hk=>.inl hk) _ _ (h1.keep dd ?_);rintro k hk (e | e | e)
  ·have:=(h2 k hk).1;omega
  ·exact (h2 k hk).2.2.1 e
  ·exact (h2 k hk).2.2.2 e
 ·refine TyAt.more (fun k hk=>.inr hk) _ _ (hz.keep F6 ?_);rintro k hk (e | e)
  ·omega
  ·have:=jQ k e;omega
 ·rintro k (hk | hk)
  ·obtain⟨g1,g2,g3,g4⟩:=h2 k hk;refine⟨g1,by omega,g3,fun e => ?_⟩;have e':g=k:=qyj (show some g=some k from e);subst e';exact qZ.elim g4 (fun h=>by omega)
  ·refine⟨by omega,by omega,by omega,fun e => ?_⟩;have e':g=k:=qyj (show some g=some k from e);rcases qZ with h | h
   ·have:=(jQ _ h).2;omega
   ·omega
 ·rintro k hk (e | e | e)
  ·exact e
  ·omega
  ·have:=jQ k e;omega
theorem zbb{L:List RT}{toks:List Lx.Tok}{len:Int}(hL:RtOf L toks len){p:Nat}{x:RT}(hx:L[p]? = some x)(hp:p≤toks.length){s:List UInt8}(hs:s≠[])(hc:(x.s.toList==s)=true):p<toks.length:=by
 by_cases qx:p<toks.length
 ·exact qx
 ·exfalso;have he:p=toks.length:=by omega
  rw [hL,he,List.getElem?_append_right (by simp)] at hx;simp at hx;rw [← hx] at hc;have h0:(⟨#[]⟩:ByteArray).toList=[]:=qyw [];simp only [h0] at hc;cases s with
  | nil=>exact hs rfl
  | cons a r=>cases hc
theorem zsh(w0:World)(b:Nat)(la:Option Addr)(lc:Nat)(L:List RT)(toks:List Lx.Tok)(len:Int)(hL:RtOf L toks len)(q:Nat)(jc:Rd w0 b la lc L q)(hq:q≤toks.length)
  (el:List Lx.Tok→Sx.Res Sx.Ty)(q9 : ∀(q':Nat) (W:World),q≤q'→Rd W b la lc L q'→q'≤toks.length→Calls Tryz.prog 46 #[.pointer (some ⟨b,0,none⟩)] W (zaf TyAt b la lc L toks len (el (toks.drop q')) q' W)) :
  Calls Tryz.prog 228 #[.pointer (some ⟨b,0,none⟩),.func (.func 46) #[.pointer (some ⟨b,0,none⟩)] #[],.func (.func 229) #[] #[]] w0 (zaf TyAt b la lc L toks len (Sx.zcd el (Sx.Ty.mk [44]) (toks.drop q)) q w0):=by
 have hb:=jc.blk.lt;have qQ:=jc.glt (by rw [hL];simp;omega);rw [Sx.zl6];obtain⟨M0,qV⟩ : ∃M0,(el (toks.drop q)).bind (fun x r=>Sx.rest el (Sx.Ty.mk [44]) x [] 3 r)=M0:=⟨_,rfl⟩;rw [qV];have O0:Old w0 (w0.alloc (.cells #[.string ⟨#[]⟩,.slice none 0 0] 35)):=(Old.refl w0).alloc _;have qD:=Blk.new w0 #[.string ⟨#[]⟩,.slice none 0 0] 35;have dz:=q9 q _ (qyb q) (jc.old O0) hq;obtain⟨qp,qr⟩ : ∃qp,w0.alloc (.cells #[.string ⟨#[]⟩,.slice none 0 0] 35)=qp:=⟨_,rfl⟩;have qw:qp.heap.size=w0.heap.size+1:=by rw [← qr];simp
 rw [qr] at O0 qD dz;have vh:=qya qr;have qi:=qya qw;clear qr qw
 go_enter Tryz.func228,Tryz.ntmps228
 go_wp2_with fail
 rw [vh.out]
 (with_reducible refine dz.mono ?_)
 rintro e w2 ⟨f2,hp⟩;have jE:=f2.size;cases hres:el (toks.drop q) with
 | bad rest=>
  rw [hres] at hp;have hp:e=panS (zah len rest):=hp;subst hp;rw [hres] at qV;have HM:=qya qV;clear hres qV;go_wp2;refine⟨rfl,Fr.trans (Old.but O0 b) f2,?_⟩;rw [← HM.out];rfl
 | ok y rest=>
  rw [hres] at hp;obtain⟨yv,q',rfl,qq,qx,qX,h2,zq⟩:=hp;obtain⟨nm,l2,n2,c2,rfl⟩:=zq.parts;have jL:=qD.keep f2 (by have:=qi.out;omega);have HM:Hid (M0=Sx.rest el (Sx.Ty.mk [44]) y [] 3 (toks.drop q')):=qya (by rw [← qV,hres,qq];rfl);clear hres qq qV;have vw:=mkf
  go_upto_block 0 with fail
  go_cut [8] from 13 to 25 (fun s8 wc=>∃(ts:List Sx.Ty) (xs:List Value) (l:Option Addr) (c p:Nat),s8=.slice l ts.length c∧GrpAt w0 b w2.heap.size xs ts (.slice l ts.length c) wc∧Rd wc b la lc L p∧q<p∧p≤toks.length∧ts.head? = some y∧(M0=(Sx.take [41] (toks.drop p)).map (fun _=>Sx.fin (Sx.Ty.mk [44]) y ts.tail)))
  case first=>
   go_wp2_with fail
   go_loopg [8] 4 (fun g s8 wr=>∃(ts:List Sx.Ty) (xs:List Value) (l:Option Addr) (c p:Nat),g+ts.length=5∧ts.length≤4∧ts.head? = some y∧s8=.slice l ts.length c∧GrpAt w0 b w2.heap.size xs ts (.slice l ts.length c) wr∧Rd wr b la lc L p∧q<p∧p≤toks.length∧M0=Sx.rest el (Sx.Ty.mk [44]) y ts.tail (4-ts.length) (toks.drop p))
   case atStart=>
    have qw:=qi.out;have O4:Old w2 ((w2.alloc (.cells #[.string nm,.slice l2 n2 c2] 35)).alloc (.cells #[.string nm,.slice l2 n2 c2] 35)):=((Old.refl w2).alloc _).alloc _;have kX:=(Blk.new w2 #[.string nm,.slice l2 n2 c2] 35).alloc (.cells #[.string nm,.slice l2 n2 c2] 35);have kL:Blk ((w2.alloc (.cells #[.string nm,.slice l2 n2 c2] 35)).alloc (.cells #[.string nm,.slice l2 n2 c2] 35)) (w2.heap.size+1) #[.string nm,.slice l2 n2 c2] 35:=Blk.new' (by simp) _ _;have z4:=kL.lt;refine⟨[y],[.string nm,.slice l2 n2 c2],_,_,q',rfl,(show 1≤4 by decide),rfl,rfl,⟨jL.keep O4 (fun e=>e),⟨_,_,kX⟩,⟨rfl,.inr ⟨w2.heap.size+1,1,_,rfl,qyb _,kL,qyb _,by unfold maxLen;omega,rfl,rfl⟩⟩,⟨fun k=>qp.heap.size≤k∧k<w2.heap.size,?_,fun k hk => ?_⟩,Fr.trans (Old.but O0 b) (Fr.trans f2 (Old.but O4 b))⟩,h2.old O4,qx,qX,HM.out⟩
    ·rw [TysAt];refine⟨_,_,_,rfl,zq.keep O4 (fun _ _ e=>e),?_⟩;rw [TysAt]
    ·refine⟨by omega,by omega,by omega,fun e => ?_⟩;have e':w2.heap.size+1=k:=qyj (show some (w2.heap.size+1)=some k from e);omega
   case round=>
    obtain⟨ts,xs,l,c,p,hg,gT,yu,rfl,hG,jB,gD,vW,xj⟩:=hrel;have vD:=qya xj;clear xj;cases hlen:decide ((ts.length:Int)<4)
    ·go_wp2_with fail
     go_meet
     case rel=>
      have h4:ts.length=4:=(by have:=hlen;simp only [qyn] at this;omega);refine⟨ts,xs,l,c,p,rfl,hG,jB,gD,vW,yu,?_⟩;rw [vD.out];exact Sx.rest_stop (.inl (by omega))
    ·obtain⟨x,hx⟩ : ∃x,L[p]? = some x:=⟨_,List.getElem?_eq_getElem (by rw [hL];simp;omega)⟩;obtain⟨jb,hd2,-⟩:=zc2 hL hx vW;have jp:(⟨#[44]⟩:ByteArray).toList=[44]:=qyw [44];have HL:=qya jp;have HX:=qya hx;have H2:=qya hd2;clear jp hx jb hd2;cases hc:(x.s.toList == [44])
     ·go_wp2_with fail
      (with_reducible refine (ze6 wr b la lc L p jB x HX.out ⟨#[44]⟩ (by rw [HL.out];exact hc)).mono ?_)
      rintro e w4 ⟨rfl,o4⟩
      go_wp2_with fail
      go_meet
      case rel=>
       refine⟨ts,xs,l,c,p,rfl,hG.old hb (by have:=qi.out;omega) (o4.but b),jB.old o4,gD,vW,yu,?_⟩;rw [vD.out];exact Sx.rest_stop (.inr (by rw [H2.out];simpa using hc))
     ·go_wp2_with fail
      (with_reducible refine (zd0 wr b la lc L p jB x HX.out ⟨#[44]⟩ (by rw [HL.out];exact hc)).mono ?_)
      rintro e w4 ⟨rfl,h4,f4⟩;have vU:=zbb hL HX.out vW (by decide) hc;have zj:=hG.old hb (by have:=qi.out;omega) f4;have hn4 : ∃n,4-ts.length=n+1∧4-(ts.length+1)=n:=⟨3-ts.length,by have:=hlen;simp only [qyo] at this;omega,by omega⟩;obtain⟨n,hn,xg⟩:=hn4;have HN:=qya hn;have cz:=qya xg;clear hn xg
      go_wp2_with fail
      (with_reducible refine (q9 (p+1) w4 (by omega) h4 (Nat.succ_le_of_lt vU)).mono ?_)
      rintro e w5 ⟨f5,hp⟩;cases hres:el (toks.drop (p+1)) with
      | bad jk=>
       rw [hres] at hp;have hp:e=panS (zah len jk):=hp;subst hp;have HR:=qya hres;clear hres;go_wp2;refine⟨rfl,zj.but.trans f5,?_⟩;rw [vD.out,HN.out,Sx.zlq (by rw [H2.out];simpa using hc) (by rw [qys];exact HR.out)]
      | ok z jk=>
       rw [hres] at hp;obtain⟨zv,q2,rfl,qU,jh,qo,h5,zg⟩:=hp;obtain⟨qh,l3,n3,c3,rfl⟩:=zg.parts;have HR:=qya hres;have pP:=qya qU;clear hres qU;have zo:=zj.old hb (by have:=qi.out;omega) f5;obtain⟨sx,svx,xP⟩:=zo.x;obtain⟨cX0,cX1⟩:=xP.c2;obtain⟨gX0,gX1⟩:=xP.f2;have dT:=xP.lt;have vH:=zo.own;obtain⟨i0,hi,qw,j5,jE⟩:=info_parts zqn;have FX:Fr (fun k=>k=w2.heap.size) w5 ((w5.setCell ⟨w2.heap.size,0,none⟩ (.string qh)).setCell ⟨w2.heap.size,1,none⟩ (.slice l3 n3 c3)):=((Fr.refl (fun k=>k=w2.heap.size) w5).setCell ⟨w2.heap.size,0,none⟩ (fun _=>rfl) (.string qh)).setCell ⟨w2.heap.size,1,none⟩ (fun _=>rfl) (.slice l3 n3 c3);have kX:=(xP.set 0 (.string qh)).set 1 (.slice l3 n3 c3);have we:=zaa zo.own FX (fun k hk e=>by have:=(zo.own.lt k hk).1;omega);have pI:((w5.setCell ⟨w2.heap.size,0,none⟩ (.string qh)).setCell ⟨w2.heap.size,1,none⟩ (.slice l3 n3 c3)).heap.size=w5.heap.size:=(by simp);have qR : ∀j u,[Value.string qh,Value.slice l3 n3 c3][j]? = some u→(((w5.setCell ⟨w2.heap.size,0,none⟩ (.string qh)).setCell ⟨w2.heap.size,1,none⟩ (.slice l3 n3 c3)).alloc (.cells #[.string qh,.slice l3 n3 c3] 35)).cell? ((⟨w5.heap.size,0,none⟩:Addr).add j)=some u:=by
        have:=World.news_of_block (Blk.new ((w5.setCell ⟨w2.heap.size,0,none⟩ (.string qh)).setCell ⟨w2.heap.size,1,none⟩ (.slice l3 n3 c3)) #[.string qh,.slice l3 n3 c3] 35)
        rwa [pI] at this
       have yD:ts.length<4:=(by have:=hlen;simp only [qyo] at this;omega);have ru:(((w5.setCell ⟨w2.heap.size,0,none⟩ (.string qh)).setCell ⟨w2.heap.size,1,none⟩ (.slice l3 n3 c3)).alloc (.cells #[.string qh,.slice l3 n3 c3] 35)).heap.size=w5.heap.size+1:=(by rw [qyd,pI]);have FA:=FX.alloc (.cells #[.string qh,.slice l3 n3 c3] 35);have n8:=kX.alloc (.cells #[.string qh,.slice l3 n3 c3] 35);have wi:=we.alloc (.cells #[.string qh,.slice l3 n3 c3] 35)
       go_wp2_with (first
        | (at_builtin;refine wpList_append_lies _ rfl _ _ 33 rfl (w2.heap.size+1) 35 i0 (.agg #[.string ⟨#[]⟩,.slice none 0 0]) 2 40 Tryz.underlying33 hi qw j5 jE rfl (by decide) _ ts.length xs rfl wi ⟨w5.heap.size,0,none⟩ 1 1 [.string qh,.slice l3 n3 c3] rfl rfl qR (by intro u hu;simp at hu;rcases hu with rfl | rfl <;> rfl) (by decide) (by unfold maxLen;omega) (by omega) (by omega) (w5.heap.size+1) ru ?_;intro g cap w6 j7 fN qZ uN)
        | fail)
       have qZ:(Value.slice l ts.length c).ownBlock=some g∨g=w5.heap.size+1:=qZ;have F6:Fr (fun k=>k=w2.heap.size∨(Value.slice l ts.length c).ownBlock=some k) w5 w6:=(FA.mono (fun k _ e=>.inl e)).grown fN (fun k e _=>.inr e);have n9:Blk w6 w2.heap.size #[.string qh,.slice l3 n3 c3] 35:=Blk.keep n8 (S:=fun k=>(Value.slice l ts.length c).ownBlock=some k) ((Fr.refl _ _).grown fN (fun k e _=>e)) (fun e=>by have:=(vH.lt _ e).1;omega);have rP:=zj.snoc hb (by have:=qi.out;omega) (But.refl b w4) f5 zg F6 ⟨_,_,n9⟩ j7 (qZ.imp id (fun h=>by omega))
       go_roundg (gk-1)
       case measure=>omega
       case rel=>
        refine⟨ts++[z],_,_,_,q2,by rw [qye,qyh];omega,by rw [qye,qyh];omega,?_,by rw [qye,qyh],rP,h5.keep F6 ?_ (fun g' kI => ?_),by omega,qo,?_⟩
        ·cases ts with
         | nil=>cases yu
         | cons a r=>exact yu
        ·rintro (e | e)
         ·have:=qi.out;omega
         ·have:=(vH.lt _ e).1;have:=qi.out;omega
        ·have:=qQ g' kI;have:=qi.out;rintro (e | e)
         ·omega
         ·have:=(vH.lt _ e).1;omega
        ·rw [vD.out,HN.out,Sx.zop (by rw [H2.out];simpa using hc) (by rw [qys];exact HR.out),qye,qyh,cz.out,pP.out];cases ts with
         | nil=>cases yu
         | cons a r=>rfl
  case rest=>
   obtain⟨ts,xs,l,c,p,rfl,hG,jB,gD,vW,yu,xj⟩:=hcut;obtain⟨x,hx⟩ : ∃x,L[p]? = some x:=⟨_,List.getElem?_eq_getElem (by rw [hL];simp;omega)⟩;obtain⟨jb,hd2,vj⟩:=zc2 hL hx vW;have jp:(⟨#[41]⟩:ByteArray).toList=[41]:=qyw [41];have HL:=qya jp;have HX:=qya hx;have H2:=qya hd2;have H3:=qya vj;have vD:=qya xj;clear jp hx jb hd2 vj xj;cases hc:(x.s.toList == [41])
   ·go_wp2_with fail
    (with_reducible refine (zhw wc b la lc L p jB x HX.out ⟨#[41]⟩ (by rw [HL.out];exact hc)).mono ?_)
    rintro e w4 ⟨rfl,f4⟩;go_wp2;refine⟨rfl,hG.but.trans f4,?_⟩;rw [vD.out,Sx.take,if_neg (by rw [H2.out];simpa using hc)];show panS _=panS _;rw [H3.out]
   ·have vU:=zbb hL HX.out vW (by decide) hc;have xF:M0=.ok (Sx.fin (Sx.Ty.mk [44]) y ts.tail) (toks.drop (p+1)):=by
     rw [vD.out,Sx.take,if_pos (by rw [H2.out];simpa using hc),qys];rfl
    have mP:=qya xF;clear xF
    go_wp2_with fail
    (with_reducible refine (ze3 wc b la lc L p jB x HX.out ⟨#[41]⟩ (by rw [HL.out];exact hc)).mono ?_)
    rintro e w4 ⟨rfl,h4,f4⟩;have zj:=hG.old hb (by have:=qi.out;omega) f4;obtain⟨r0,r1⟩:=zj.res.c2;obtain⟨g0,g1⟩:=zj.res.f2;have qJ:=zj.res.lt;obtain⟨F,fk,td⟩:=zj.tys;have zc:=zj.own;cases ts with
    | nil=>cases yu
    | cons a r=>
     cases yu;cases r with
     | nil=>
      rw [TysAt] at fk;obtain⟨s1,sv1,ys,rfl,fx,sX⟩:=fk;rw [TysAt] at sX;subst sX;obtain⟨xN,l1,n1,c1,he⟩:=fx.parts;cases he;obtain⟨g,cap,xf,-,-⟩:=zc.form (by simp);cases xf;have d0:w4.cell? ⟨g,0,none⟩=some (.string xN):=(by rw [zc.cellAt 0 (by simp)];rfl);have d1:w4.cell? ⟨g,1,none⟩=some (.slice l1 n1 c1):=(by rw [zc.cellAt 1 (by simp)];rfl);go_wp2;have S2:=(((Fr.refl (fun k=>k=w0.heap.size) w4).setCell ⟨w0.heap.size,0,none⟩ (fun _=>rfl) (.string xN)).setCell ⟨w0.heap.size,1,none⟩ (fun _=>rfl) (.slice l1 n1 c1));have k3:=(zj.res.set 0 (.string xN)).set 1 (.slice l1 n1 c1);obtain⟨W',qv⟩ : ∃W',(w4.setCell ⟨w0.heap.size,0,none⟩ (.string xN)).setCell ⟨w0.heap.size,1,none⟩ (.slice l1 n1 c1)=W':=⟨_,rfl⟩;rw [qv] at S2 k3 ⊢;clear qv;obtain⟨s0,s1⟩:=k3.c2;refine bodyPost_ret (v:=.agg #[.string xN,.slice l1 n1 c1]) (by simp [results,Tryz.results228,go_sem,s0,s1]) rfl ?_;refine⟨zj.but.trans' S2 (fun k hk e=>by omega),?_⟩;rw [mP.out];exact⟨_,p+1,rfl,rfl,by omega,Nat.succ_le_of_lt vU,h4.keep S2 (by omega) (fun g hg=>by have:=qQ g hg;omega),TyAt.more (fun k hk=>⟨Nat.le_of_lt (td k hk).1,qyc (td k hk).2.1 S2.size⟩) _ _ (fx.keep S2 (fun k hk e=>by have:=(td k hk).1;omega))⟩
     | cons a2 r2=>
      have htwo:(((y::a2::r2:List Sx.Ty).length:Int)==1)=false:=by
       simp only [qxh,qyg,ne_eq];omega
      go_wp2_with fail
      (with_reducible refine (zmu l _ c w4).mono ?_)
      rintro e w5 ⟨rfl,o5⟩;have zo:=zj.old hb (by have:=qi.out;omega) (o5.but b);obtain⟨r0,r1⟩:=zo.res.c2;obtain⟨g0,g1⟩:=zo.res.f2;have qJ:=zo.res.lt;go_wp2;have S2:=(((Fr.refl (fun k=>k=w0.heap.size) w5).setCell ⟨w0.heap.size,0,none⟩ (fun _=>rfl) (.string ⟨#[44]⟩)).setCell ⟨w0.heap.size,1,none⟩ (fun _=>rfl) (.slice l (r2.length+1+1) c));have k3:=(zo.res.set 0 (.string ⟨#[44]⟩)).set 1 (.slice l (r2.length+1+1) c);obtain⟨W',qv⟩ : ∃W',(w5.setCell ⟨w0.heap.size,0,none⟩ (.string ⟨#[44]⟩)).setCell ⟨w0.heap.size,1,none⟩ (.slice l (r2.length+1+1) c)=W':=⟨_,rfl⟩;rw [qv] at S2 k3 ⊢;clear qv;obtain⟨s0,s1⟩:=k3.c2;refine bodyPost_ret (v:=.agg #[.string ⟨#[44]⟩,.slice l (r2.length+1+1) c]) (by simp [results,Tryz.results228,go_sem,s0,s1]) rfl ?_;refine⟨zo.but.trans' S2 (fun k hk e=>by omega),?_⟩;rw [mP.out];obtain⟨F5,gq,th⟩:=zo.tys;have gM:w5.ownsRow (w2.heap.size+1) 35 2 (.slice l (r2.length+1+1) c) (r2.length+1+1) xs:=zo.own;refine⟨_,p+1,rfl,rfl,by omega,Nat.succ_le_of_lt vU,(h4.old o5).keep S2 (by omega) (fun g hg=>by have:=qQ g hg;omega),?_⟩;show TyAt W' _ (Sx.Ty.mk [44] (y::a2::r2)) _;rw [TyAt];have jQ:=fun k hk=>gM.lt k hk;have z5:=S2.size;have hX0:w0.heap.size<w2.heap.size:=(by have:=qi.out;omega);refine⟨_,xs,rfl,⟨zaa (gM.mono (qyi _)) S2 (fun k hk e=>by have:=(jQ k hk).1;omega),fun k hk=>⟨by have:=(jQ k hk).1;omega,qyc (jQ k hk).2 z5⟩⟩,TysAt.more (fun k hk=>⟨Nat.le_of_lt (th k hk).1,qyc (th k hk).2.1 z5⟩) _ _ (gq.keep S2 (fun k hk e=>by have:=(th k hk).1;omega))⟩
end Go.Proofs.YtclgbmmambkiaaaGreatDoor
namespace Go.Proofs.YtclgbmmambkiaaaGreatDoor.P
open Go.RowKit
theorem tupleX_is(l:Option Addr)(n c:Nat)(w:World):Calls Tryz.prog 181 #[.slice l n c] w fun e w'=>e=.returned (.agg #[.int .i64 3,.string ⟨#[44]⟩,.slice l n c])∧Old w w':=by
 go_enter Tryz.func181,Tryz.ntmps181
 go_wp2;refine bodyPost_ret (v:=.agg #[.int .i64 3,.string ⟨#[44]⟩,.slice l n c]) (by simp [results,Tryz.results181,go_sem]) rfl ⟨rfl,?_⟩;exact (Old.refl w).alloc _
structure GrpAt(w0:World)(b X:Nat)(xs:List Value)(ts:List Sx.Pa)(v:Value)(W:World):Prop where
 res:Blk W w0.heap.size #[.int .i64 0,.string ⟨#[]⟩,.slice none 0 0] 37
 x : ∃y0 y1 y2,Blk W X #[y0,y1,y2] 37
 own:W.ownsRow (X+1) 37 3 v ts.length xs
 tys : ∃F,PasAt W F ts xs∧∀k,F k→w0.heap.size<k∧k<W.heap.size∧k≠X∧v.ownBlock≠some k
 but:But b w0 W
theorem GrpAt.old{w0:World}{b X:Nat}{xs:List Value}{ts:List Sx.Pa}{v:Value}{W W':World}(h:GrpAt w0 b X xs ts v W)(hb:b<w0.heap.size)(hX:w0.heap.size<X)(hf:But b W W'):GrpAt w0 b X xs ts v W':=by
 obtain⟨F,h1,h2⟩:=h.tys;obtain⟨y0,y1,y2,hx⟩:=h.x;refine⟨h.res.keep hf (by omega),⟨y0,y1,y2,hx.keep hf (by omega)⟩,zaa h.own hf (fun k hk e => ?_),⟨F,h1.keep hf (fun k hk e => ?_),fun k hk => ?_⟩,h.but.trans hf⟩
 ·have:=(h.own.lt k hk).1;omega
 ·have:=(h2 k hk).1;omega
 ·obtain⟨g1,g2,g3⟩:=h2 k hk;exact⟨g1,qyc g2 hf.size,g3⟩
theorem GrpAt.snoc{w0:World}{b X:Nat}{xs:List Value}{ts:List Sx.Pa}{l:Option Addr}{c:Nat}{W w4 w5 w6:World}(h:GrpAt w0 b X xs ts (.slice l ts.length c) W)(hb:b<w0.heap.size)(hX:w0.heap.size<X)
  (f4:But b W w4)(f5:But b w4 w5){z:Sx.Pa}{kd:Int}{nm:ByteArray}{l2:Option Addr}{n2 c2:Nat}(hz:PaAt w5 (fun k=>w4.heap.size≤k∧k<w5.heap.size) z (.agg #[.int .i64 kd,.string nm,.slice l2 n2 c2]))
  (F6:Fr (fun k=>k=X∨(Value.slice l ts.length c).ownBlock=some k) w5 w6)(dN : ∃y0 y1 y2,Blk w6 X #[y0,y1,y2] 37){g cap:Nat}(ho:w6.ownsRow (X+1) 37 3 (.slice (some ⟨g,0,none⟩) (ts.length+1) cap) (ts.length+1) (xs++[.int .i64 kd,.string nm,.slice l2 n2 c2]))
  (qZ:(Value.slice l ts.length c).ownBlock=some g∨w5.heap.size≤g):GrpAt w0 b X (xs++[.int .i64 kd,.string nm,.slice l2 n2 c2]) (ts++[z]) (.slice (some ⟨g,0,none⟩) (ts++[z]).length cap) w6:=by
 obtain⟨F,h1,h2⟩:=h.tys;obtain⟨y0,y1,y2,hx⟩:=h.x;have hXW:=hx.lt;have jQ : ∀k,(Value.slice l ts.length c).ownBlock=some k→X+1≤k∧k<W.heap.size:=fun k hk=>h.own.lt k hk;have dd:Fr (fun k=>k=b∨k=X∨(Value.slice l ts.length c).ownBlock=some k) W w6:=Fr.trans' ((Fr.trans f4 f5).mono (S':=fun k=>k=b∨k=X∨(Value.slice l ts.length c).ownBlock=some k) (fun k _ e=>.inl e)) F6 (fun k _ e=>.inr e);have z4:=f4.size;have z5:=f5.size;have z6:=F6.size;refine⟨h.res.keep dd ?_,dN,?_,⟨fun k=>F k∨(w4.heap.size≤k∧k<w5.heap.size),PasAt.snoc ts xs z (.int .i64 kd) (.string nm) (.slice l2 n2 c2) ?_ ?_,?_⟩,h.but.trans' dd ?_⟩
 ·rintro (e | e | e)
  ·omega
  ·omega
  ·have:=jQ _ e;omega
 ·rw [qye,qyh];exact ho
 ·refine PasAt.more (fun k hk=>.inl hk) _ _ (h1.keep dd ?_);rintro k hk (e | e | e)
  ·have:=(h2 k hk).1;omega
  ·exact (h2 k hk).2.2.1 e
  ·exact (h2 k hk).2.2.2 e
 ·refine PaAt.more (fun k hk=>.inr hk) _ _ (hz.keep F6 ?_);rintro k hk (e | e)
  ·omega
  ·have:=jQ k e;omega
 ·rintro k (hk | hk)
  ·obtain⟨g1,g2,g3,g4⟩:=h2 k hk;refine⟨g1,by omega,g3,fun e => ?_⟩;have e':g=k:=qyj (show some g=some k from e);subst e';exact qZ.elim g4 (fun h=>by omega)
  ·refine⟨by omega,by omega,by omega,fun e => ?_⟩;have e':g=k:=qyj (show some g=some k from e);rcases qZ with h | h
   ·have:=(jQ _ h).2;omega
   ·omega
 ·rintro k hk (e | e | e)
  ·exact e
  ·omega
  ·have:=jQ k e;omega
theorem groupX_any(w0:World)(b:Nat)(la:Option Addr)(lc:Nat)(L:List RT)(toks:List Lx.Tok)(len:Int)(hL:RtOf L toks len)(q:Nat)(jc:Rd w0 b la lc L q)(hq:q≤toks.length)
  (el:List Lx.Tok→Sx.Res Sx.Pa)(q9 : ∀(q':Nat) (W:World),q≤q'→Rd W b la lc L q'→q'≤toks.length→Calls Tryz.prog 49 #[.pointer (some ⟨b,0,none⟩)] W (zaf PaAt b la lc L toks len (el (toks.drop q')) q' W)) :
  Calls Tryz.prog 180 #[.pointer (some ⟨b,0,none⟩),.func (.func 49) #[.pointer (some ⟨b,0,none⟩)] #[],.func (.func 181) #[] #[]] w0 (zaf PaAt b la lc L toks len (Sx.zcd el (Sx.Pa.mk 3 [44]) (toks.drop q)) q w0):=by
 have hb:=jc.blk.lt;have qQ:=jc.glt (by rw [hL];simp;omega);rw [Sx.zl6];obtain⟨M0,qV⟩ : ∃M0,(el (toks.drop q)).bind (fun x r=>Sx.rest el (Sx.Pa.mk 3 [44]) x [] 3 r)=M0:=⟨_,rfl⟩;rw [qV];have O0:Old w0 (w0.alloc (.cells #[.int .i64 0,.string ⟨#[]⟩,.slice none 0 0] 37)):=(Old.refl w0).alloc _;have qD:=Blk.new w0 #[.int .i64 0,.string ⟨#[]⟩,.slice none 0 0] 37;have dz:=q9 q _ (qyb q) (jc.old O0) hq;obtain⟨qp,qr⟩ : ∃qp,w0.alloc (.cells #[.int .i64 0,.string ⟨#[]⟩,.slice none 0 0] 37)=qp:=⟨_,rfl⟩;have qw:qp.heap.size=w0.heap.size+1:=by rw [← qr];simp
 rw [qr] at O0 qD dz;have vh:=qya qr;have qi:=qya qw;clear qr qw
 go_enter Tryz.func180,Tryz.ntmps180
 go_wp2_with fail
 rw [vh.out]
 (with_reducible refine dz.mono ?_)
 rintro e w2 ⟨f2,hp⟩;have jE:=f2.size;cases hres:el (toks.drop q) with
 | bad rest=>
  rw [hres] at hp;have hp:e=panS (zah len rest):=hp;subst hp;rw [hres] at qV;have HM:=qya qV;clear hres qV;go_wp2;refine⟨rfl,Fr.trans (Old.but O0 b) f2,?_⟩;rw [← HM.out];rfl
 | ok y rest=>
  rw [hres] at hp;obtain⟨yv,q',rfl,qq,qx,qX,h2,zq⟩:=hp;obtain⟨kd,nm,l2,n2,c2,rfl⟩:=zq.parts;have jL:=qD.keep f2 (by have:=qi.out;omega);have HM:Hid (M0=Sx.rest el (Sx.Pa.mk 3 [44]) y [] 3 (toks.drop q')):=qya (by rw [← qV,hres,qq];rfl);clear hres qq qV;have vw:=mkf
  go_upto_block 0 with fail
  go_cut [8] from 13 to 25 (fun s8 wc=>∃(ts:List Sx.Pa) (xs:List Value) (l:Option Addr) (c p:Nat),s8=.slice l ts.length c∧GrpAt w0 b w2.heap.size xs ts (.slice l ts.length c) wc∧Rd wc b la lc L p∧q<p∧p≤toks.length∧ts.head? = some y∧(M0=(Sx.take [41] (toks.drop p)).map (fun _=>Sx.fin (Sx.Pa.mk 3 [44]) y ts.tail)))
  case first=>
   go_wp2_with fail
   go_loopg [8] 4 (fun g s8 wr=>∃(ts:List Sx.Pa) (xs:List Value) (l:Option Addr) (c p:Nat),g+ts.length=5∧ts.length≤4∧ts.head? = some y∧s8=.slice l ts.length c∧GrpAt w0 b w2.heap.size xs ts (.slice l ts.length c) wr∧Rd wr b la lc L p∧q<p∧p≤toks.length∧M0=Sx.rest el (Sx.Pa.mk 3 [44]) y ts.tail (4-ts.length) (toks.drop p))
   case atStart=>
    have qw:=qi.out;have O4:Old w2 ((w2.alloc (.cells #[.int .i64 kd,.string nm,.slice l2 n2 c2] 37)).alloc (.cells #[.int .i64 kd,.string nm,.slice l2 n2 c2] 37)):=((Old.refl w2).alloc _).alloc _;have kX:=(Blk.new w2 #[.int .i64 kd,.string nm,.slice l2 n2 c2] 37).alloc (.cells #[.int .i64 kd,.string nm,.slice l2 n2 c2] 37);have kL:Blk ((w2.alloc (.cells #[.int .i64 kd,.string nm,.slice l2 n2 c2] 37)).alloc (.cells #[.int .i64 kd,.string nm,.slice l2 n2 c2] 37)) (w2.heap.size+1) #[.int .i64 kd,.string nm,.slice l2 n2 c2] 37:=Blk.new' (by simp) _ _;have z4:=kL.lt;refine⟨[y],[.int .i64 kd,.string nm,.slice l2 n2 c2],_,_,q',rfl,(show 1≤4 by decide),rfl,rfl,⟨jL.keep O4 (fun e=>e),⟨_,_,_,kX⟩,⟨rfl,.inr ⟨w2.heap.size+1,1,_,rfl,qyb _,kL,qyb _,by unfold maxLen;omega,rfl,rfl⟩⟩,⟨fun k=>qp.heap.size≤k∧k<w2.heap.size,?_,fun k hk => ?_⟩,Fr.trans (Old.but O0 b) (Fr.trans f2 (Old.but O4 b))⟩,h2.old O4,qx,qX,HM.out⟩
    ·rw [PasAt];refine⟨_,_,_,_,rfl,zq.keep O4 (fun _ _ e=>e),?_⟩;rw [PasAt]
    ·refine⟨by omega,by omega,by omega,fun e => ?_⟩;have e':w2.heap.size+1=k:=qyj (show some (w2.heap.size+1)=some k from e);omega
   case round=>
    obtain⟨ts,xs,l,c,p,hg,gT,yu,rfl,hG,jB,gD,vW,xj⟩:=hrel;have vD:=qya xj;clear xj;cases hlen:decide ((ts.length:Int)<4)
    ·go_wp2_with fail
     go_meet
     case rel=>
      have h4:ts.length=4:=(by have:=hlen;simp only [qyn] at this;omega);refine⟨ts,xs,l,c,p,rfl,hG,jB,gD,vW,yu,?_⟩;rw [vD.out];exact Sx.rest_stop (.inl (by omega))
    ·obtain⟨x,hx⟩ : ∃x,L[p]? = some x:=⟨_,List.getElem?_eq_getElem (by rw [hL];simp;omega)⟩;obtain⟨jb,hd2,-⟩:=zc2 hL hx vW;have jp:(⟨#[44]⟩:ByteArray).toList=[44]:=qyw [44];have HL:=qya jp;have HX:=qya hx;have H2:=qya hd2;clear jp hx jb hd2;cases hc:(x.s.toList == [44])
     ·go_wp2_with fail
      (with_reducible refine (ze6 wr b la lc L p jB x HX.out ⟨#[44]⟩ (by rw [HL.out];exact hc)).mono ?_)
      rintro e w4 ⟨rfl,o4⟩
      go_wp2_with fail
      go_meet
      case rel=>
       refine⟨ts,xs,l,c,p,rfl,hG.old hb (by have:=qi.out;omega) (o4.but b),jB.old o4,gD,vW,yu,?_⟩;rw [vD.out];exact Sx.rest_stop (.inr (by rw [H2.out];simpa using hc))
     ·go_wp2_with fail
      (with_reducible refine (zd0 wr b la lc L p jB x HX.out ⟨#[44]⟩ (by rw [HL.out];exact hc)).mono ?_)
      rintro e w4 ⟨rfl,h4,f4⟩;have vU:=zbb hL HX.out vW (by decide) hc;have zj:=hG.old hb (by have:=qi.out;omega) f4;have hn4 : ∃n,4-ts.length=n+1∧4-(ts.length+1)=n:=⟨3-ts.length,by have:=hlen;simp only [qyo] at this;omega,by omega⟩;obtain⟨n,hn,xg⟩:=hn4;have HN:=qya hn;have cz:=qya xg;clear hn xg
      go_wp2_with fail
      (with_reducible refine (q9 (p+1) w4 (by omega) h4 (Nat.succ_le_of_lt vU)).mono ?_)
      rintro e w5 ⟨f5,hp⟩;cases hres:el (toks.drop (p+1)) with
      | bad jk=>
       rw [hres] at hp;have hp:e=panS (zah len jk):=hp;subst hp;have HR:=qya hres;clear hres;go_wp2;refine⟨rfl,zj.but.trans f5,?_⟩;rw [vD.out,HN.out,Sx.zlq (by rw [H2.out];simpa using hc) (by rw [qys];exact HR.out)]
      | ok z jk=>
       rw [hres] at hp;obtain⟨zv,q2,rfl,qU,jh,qo,h5,zg⟩:=hp;obtain⟨qI,qh,l3,n3,c3,rfl⟩:=zg.parts;have HR:=qya hres;have pP:=qya qU;clear hres qU;have zo:=zj.old hb (by have:=qi.out;omega) f5;obtain⟨y0,y1,y2,xP⟩:=zo.x;obtain⟨cX0,cX1,cX2⟩:=xP.c3;obtain⟨gX0,gX1,gX2⟩:=xP.f3;have dT:=xP.lt;have vH:=zo.own;obtain⟨i0,hi,qw,j5,jE⟩:=info_parts zya;have FX:Fr (fun k=>k=w2.heap.size) w5 (((w5.setCell ⟨w2.heap.size,0,none⟩ (.int .i64 qI)).setCell ⟨w2.heap.size,1,none⟩ (.string qh)).setCell ⟨w2.heap.size,2,none⟩ (.slice l3 n3 c3)):=(((Fr.refl (fun k=>k=w2.heap.size) w5).setCell ⟨w2.heap.size,0,none⟩ (fun _=>rfl) (.int .i64 qI)).setCell ⟨w2.heap.size,1,none⟩ (fun _=>rfl) (.string qh)).setCell ⟨w2.heap.size,2,none⟩ (fun _=>rfl) (.slice l3 n3 c3);have kX:=((xP.set 0 (.int .i64 qI)).set 1 (.string qh)).set 2 (.slice l3 n3 c3);have we:=zaa zo.own FX (fun k hk e=>by have:=(zo.own.lt k hk).1;omega);have pI:(((w5.setCell ⟨w2.heap.size,0,none⟩ (.int .i64 qI)).setCell ⟨w2.heap.size,1,none⟩ (.string qh)).setCell ⟨w2.heap.size,2,none⟩ (.slice l3 n3 c3)).heap.size=w5.heap.size:=(by simp);have qR : ∀j u,[Value.int .i64 qI,Value.string qh,Value.slice l3 n3 c3][j]? = some u→((((w5.setCell ⟨w2.heap.size,0,none⟩ (.int .i64 qI)).setCell ⟨w2.heap.size,1,none⟩ (.string qh)).setCell ⟨w2.heap.size,2,none⟩ (.slice l3 n3 c3)).alloc (.cells #[.int .i64 qI,.string qh,.slice l3 n3 c3] 37)).cell? ((⟨w5.heap.size,0,none⟩:Addr).add j)=some u:=by
        have:=World.news_of_block (Blk.new (((w5.setCell ⟨w2.heap.size,0,none⟩ (.int .i64 qI)).setCell ⟨w2.heap.size,1,none⟩ (.string qh)).setCell ⟨w2.heap.size,2,none⟩ (.slice l3 n3 c3)) #[.int .i64 qI,.string qh,.slice l3 n3 c3] 37)
        rwa [pI] at this
       have yD:ts.length<4:=(by have:=hlen;simp only [qyo] at this;omega);have ru:((((w5.setCell ⟨w2.heap.size,0,none⟩ (.int .i64 qI)).setCell ⟨w2.heap.size,1,none⟩ (.string qh)).setCell ⟨w2.heap.size,2,none⟩ (.slice l3 n3 c3)).alloc (.cells #[.int .i64 qI,.string qh,.slice l3 n3 c3] 37)).heap.size=w5.heap.size+1:=(by rw [qyd,pI]);have FA:=FX.alloc (.cells #[.int .i64 qI,.string qh,.slice l3 n3 c3] 37);have n8:=kX.alloc (.cells #[.int .i64 qI,.string qh,.slice l3 n3 c3] 37);have wi:=we.alloc (.cells #[.int .i64 qI,.string qh,.slice l3 n3 c3] 37)
       go_wp2_with (first
        | (at_builtin;refine wpList_append_lies _ rfl _ _ 30 rfl (w2.heap.size+1) 37 i0 (.agg #[.int .i64 0,.string ⟨#[]⟩,.slice none 0 0]) 3 48 Tryz.underlying30 hi qw j5 jE rfl (by decide) _ ts.length xs rfl wi ⟨w5.heap.size,0,none⟩ 1 1 [.int .i64 qI,.string qh,.slice l3 n3 c3] rfl rfl qR (by intro u hu;simp at hu;rcases hu with rfl | rfl | rfl <;> rfl) (by decide) (by unfold maxLen;omega) (by omega) (by omega) (w5.heap.size+1) ru ?_;intro g cap w6 j7 fN qZ uN)
        | fail)
       have qZ:(Value.slice l ts.length c).ownBlock=some g∨g=w5.heap.size+1:=qZ;have F6:Fr (fun k=>k=w2.heap.size∨(Value.slice l ts.length c).ownBlock=some k) w5 w6:=(FA.mono (fun k _ e=>.inl e)).grown fN (fun k e _=>.inr e);have n9:Blk w6 w2.heap.size #[.int .i64 qI,.string qh,.slice l3 n3 c3] 37:=Blk.keep n8 (S:=fun k=>(Value.slice l ts.length c).ownBlock=some k) ((Fr.refl _ _).grown fN (fun k e _=>e)) (fun e=>by have:=(vH.lt _ e).1;omega);have rP:=zj.snoc hb (by have:=qi.out;omega) (But.refl b w4) f5 zg F6 ⟨_,_,_,n9⟩ j7 (qZ.imp id (fun h=>by omega))
       go_roundg (gk-1)
       case measure=>omega
       case rel=>
        refine⟨ts++[z],_,_,_,q2,by rw [qye,qyh];omega,by rw [qye,qyh];omega,?_,by rw [qye,qyh],rP,h5.keep F6 ?_ (fun g' kI => ?_),by omega,qo,?_⟩
        ·cases ts with
         | nil=>cases yu
         | cons a r=>exact yu
        ·rintro (e | e)
         ·have:=qi.out;omega
         ·have:=(vH.lt _ e).1;have:=qi.out;omega
        ·have:=qQ g' kI;have:=qi.out;rintro (e | e)
         ·omega
         ·have:=(vH.lt _ e).1;omega
        ·rw [vD.out,HN.out,Sx.zop (by rw [H2.out];simpa using hc) (by rw [qys];exact HR.out),qye,qyh,cz.out,pP.out];cases ts with
         | nil=>cases yu
         | cons a r=>rfl
  case rest=>
   obtain⟨ts,xs,l,c,p,rfl,hG,jB,gD,vW,yu,xj⟩:=hcut;obtain⟨x,hx⟩ : ∃x,L[p]? = some x:=⟨_,List.getElem?_eq_getElem (by rw [hL];simp;omega)⟩;obtain⟨jb,hd2,vj⟩:=zc2 hL hx vW;have jp:(⟨#[41]⟩:ByteArray).toList=[41]:=qyw [41];have HL:=qya jp;have HX:=qya hx;have H2:=qya hd2;have H3:=qya vj;have vD:=qya xj;clear jp hx jb hd2 vj xj;cases hc:(x.s.toList == [41])
   ·go_wp2_with fail
    (with_reducible refine (zhw wc b la lc L p jB x HX.out ⟨#[41]⟩ (by rw [HL.out];exact hc)).mono ?_)
    rintro e w4 ⟨rfl,f4⟩;go_wp2;refine⟨rfl,hG.but.trans f4,?_⟩;rw [vD.out,Sx.take,if_neg (by rw [H2.out];simpa using hc)];show panS _=panS _;rw [H3.out]
   ·have vU:=zbb hL HX.out vW (by decide) hc;have xF:M0=.ok (Sx.fin (Sx.Pa.mk 3 [44]) y ts.tail) (toks.drop (p+1)):=by
     rw [vD.out,Sx.take,if_pos (by rw [H2.out];simpa using hc),qys];rfl
    have mP:=qya xF;clear xF
    go_wp2_with fail
    (with_reducible refine (ze3 wc b la lc L p jB x HX.out ⟨#[41]⟩ (by rw [HL.out];exact hc)).mono ?_)
    rintro e w4 ⟨rfl,h4,f4⟩;have zj:=hG.old hb (by have:=qi.out;omega) f4;obtain⟨rc0,rc1,rc2⟩:=zj.res.c3;obtain⟨gc0,gc1,gc2⟩:=zj.res.f3;have qJ:=zj.res.lt;obtain⟨F,fk,td⟩:=zj.tys;have zc:=zj.own;cases ts with
    | nil=>cases yu
    | cons a r=>
     cases yu;cases r with
     | nil=>
      rw [PasAt] at fk;obtain⟨u0,u1,u2,ys,rfl,fx,sX⟩:=fk;rw [PasAt] at sX;subst sX;obtain⟨uB,xN,l1,n1,c1,he⟩:=fx.parts;cases he;obtain⟨g,cap,xf,-,-⟩:=zc.form (by simp);cases xf;have d0:w4.cell? ⟨g,0,none⟩=some (.int .i64 uB):=(by rw [zc.cellAt 0 (by simp)];rfl);have d1:w4.cell? ⟨g,1,none⟩=some (.string xN):=(by rw [zc.cellAt 1 (by simp)];rfl);have d2:w4.cell? ⟨g,2,none⟩=some (.slice l1 n1 c1):=(by rw [zc.cellAt 2 (by simp)];rfl);go_wp2;have S2:=(((Fr.refl (fun k=>k=w0.heap.size) w4).setCell ⟨w0.heap.size,0,none⟩ (fun _=>rfl) (.int .i64 uB)).setCell ⟨w0.heap.size,1,none⟩ (fun _=>rfl) (.string xN)).setCell ⟨w0.heap.size,2,none⟩ (fun _=>rfl) (.slice l1 n1 c1);have k3:=((zj.res.set 0 (.int .i64 uB)).set 1 (.string xN)).set 2 (.slice l1 n1 c1);obtain⟨W',qv⟩ : ∃W',((w4.setCell ⟨w0.heap.size,0,none⟩ (.int .i64 uB)).setCell ⟨w0.heap.size,1,none⟩ (.string xN)).setCell ⟨w0.heap.size,2,none⟩ (.slice l1 n1 c1)=W':=⟨_,rfl⟩;rw [qv] at S2 k3 ⊢;clear qv;obtain⟨s0,s1,s2⟩:=k3.c3;refine bodyPost_ret (v:=.agg #[.int .i64 uB,.string xN,.slice l1 n1 c1]) (by simp [results,Tryz.results180,go_sem,s0,s1,s2]) rfl ?_;refine⟨zj.but.trans' S2 (fun k hk e=>by omega),?_⟩;rw [mP.out];exact⟨_,p+1,rfl,rfl,by omega,Nat.succ_le_of_lt vU,h4.keep S2 (by omega) (fun g hg=>by have:=qQ g hg;omega),PaAt.more (fun k hk=>⟨Nat.le_of_lt (td k hk).1,qyc (td k hk).2.1 S2.size⟩) _ _ (fx.keep S2 (fun k hk e=>by have:=(td k hk).1;omega))⟩
     | cons a2 r2=>
      have htwo:(((y::a2::r2:List Sx.Pa).length:Int)==1)=false:=by
       simp only [qxh,qyg,ne_eq];omega
      go_wp2_with fail
      (with_reducible refine (tupleX_is l _ c w4).mono ?_)
      rintro e w5 ⟨rfl,o5⟩;have zo:=zj.old hb (by have:=qi.out;omega) (o5.but b);obtain⟨rc0,rc1,rc2⟩:=zo.res.c3;obtain⟨gc0,gc1,gc2⟩:=zo.res.f3;have qJ:=zo.res.lt;go_wp2;have S2:=(((Fr.refl (fun k=>k=w0.heap.size) w5).setCell ⟨w0.heap.size,0,none⟩ (fun _=>rfl) (.int .i64 3)).setCell ⟨w0.heap.size,1,none⟩ (fun _=>rfl) (.string ⟨#[44]⟩)).setCell ⟨w0.heap.size,2,none⟩ (fun _=>rfl) (.slice l (r2.length+1+1) c);have k3:=((zo.res.set 0 (.int .i64 3)).set 1 (.string ⟨#[44]⟩)).set 2 (.slice l (r2.length+1+1) c);obtain⟨W',qv⟩ : ∃W',((w5.setCell ⟨w0.heap.size,0,none⟩ (.int .i64 3)).setCell ⟨w0.heap.size,1,none⟩ (.string ⟨#[44]⟩)).setCell ⟨w0.heap.size,2,none⟩ (.slice l (r2.length+1+1) c)=W':=⟨_,rfl⟩;rw [qv] at S2 k3 ⊢;clear qv;obtain⟨s0,s1,s2⟩:=k3.c3;refine bodyPost_ret (v:=.agg #[.int .i64 3,.string ⟨#[44]⟩,.slice l (r2.length+1+1) c]) (by simp [results,Tryz.results180,go_sem,s0,s1,s2]) rfl ?_;refine⟨zo.but.trans' S2 (fun k hk e=>by omega),?_⟩;rw [mP.out];obtain⟨F5,gq,th⟩:=zo.tys;have gM:w5.ownsRow (w2.heap.size+1) 37 3 (.slice l (r2.length+1+1) c) (r2.length+1+1) xs:=zo.own;refine⟨_,p+1,rfl,rfl,by omega,Nat.succ_le_of_lt vU,(h4.old o5).keep S2 (by omega) (fun g hg=>by have:=qQ g hg;omega),?_⟩;show PaAt W' _ (Sx.Pa.mk 3 [44] (y::a2::r2)) _;rw [PaAt];have jQ:=fun k hk=>gM.lt k hk;have z5:=S2.size;have hX0:w0.heap.size<w2.heap.size:=(by have:=qi.out;omega);refine⟨_,xs,rfl,⟨zaa (gM.mono (qyi _)) S2 (fun k hk e=>by have:=(jQ k hk).1;omega),fun k hk=>⟨by have:=(jQ k hk).1;omega,qyc (jQ k hk).2 z5⟩⟩,PasAt.more (fun k hk=>⟨Nat.le_of_lt (th k hk).1,qyc (th k hk).2.1 z5⟩) _ _ (gq.keep S2 (fun k hk e=>by have:=(th k hk).1;omega))⟩
end Go.Proofs.YtclgbmmambkiaaaGreatDoor.P
namespace Go.Proofs.YtclgbmmambkiaaaGreatDoor
open Go.RowKit
theorem zoa(t:Lx.Tok)(W:World):Calls Tryz.prog 106 #[rtV (rt t)] W fun e W'=>e=.returned (.bool (Sx.zbo t))∧Old W W':=by
 have hk:=zc5 (rt t);have ht:=zfj (rt t)
 go_enter Tryz.func106,Tryz.ntmps106
 have hx:Sx.zbo t=((rt t).k==2||(rt t).k==3||(rt t).s.toList == [95]||(rt t).s.toList == [40]):=by
  rw [zd7];unfold Sx.zbo;show (decide (t.kind=2)||decide (t.kind=3)||decide (t.text=[95])||decide (t.text=[40]))=((t.kind==2)||(t.kind==3)||(t.text == [95])||(t.text == [40]));rw [Bool.beq_eq_decide_eq,Bool.beq_eq_decide_eq,Bool.beq_eq_decide_eq,Bool.beq_eq_decide_eq]
 have HX:=qya hx;clear hx;go_wp2
 all_goals
  go_ret;refine⟨?_,(Old.refl W).alloc _⟩;rw [HX.out];simp [*]
theorem zgs(t:Lx.Tok)(W:World):Calls Tryz.prog 283 #[rtV (rt t)] W fun e W'=>e=.returned (.bool (Sx.zai t))∧Old W W':=by
 have hk:=zc5 (rt t);have ht:=zfj (rt t)
 go_enter Tryz.func283,Tryz.ntmps283
 have hx:Sx.zai t=((rt t).k==1||(rt t).k==2||(rt t).k==3||(rt t).s.toList == [40]):=by
  rw [zd7];unfold Sx.zai;show (decide (t.kind=1)||decide (t.kind=2)||decide (t.kind=3)||decide (t.text=[40]))=((t.kind==1)||(t.kind==2)||(t.kind==3)||(t.text == [40]));rw [Bool.beq_eq_decide_eq,Bool.beq_eq_decide_eq,Bool.beq_eq_decide_eq,Bool.beq_eq_decide_eq]
 have HX:=qya hx;clear hx;go_wp2
 all_goals
  go_ret;refine⟨?_,(Old.refl W).alloc _⟩;rw [HX.out];simp [*]
theorem zlc(b:Nat)(la:Option Addr)(lc:Nat)(L:List RT)(toks:List Lx.Tok)(len:Int)(hL:RtOf L toks len)(f:Nat)
  (q:Nat)(zq : ∀(q':Nat) (W:World),q<q'→Rd W b la lc L q'→q'≤toks.length→Calls Tryz.prog 46 #[.pointer (some ⟨b,0,none⟩)] W (zaf TyAt b la lc L toks len (Sx.typ f (toks.drop q')) q' W))
  (w:World)(h:Rd w b la lc L q)(hq:q≤toks.length) :
  Calls Tryz.prog 174 #[.pointer (some ⟨b,0,none⟩)] w (zaf TyAt b la lc L toks len (Sx.zak (f+1) (toks.drop q)) q w):=by
 have hb:=h.blk.lt;have qQ:=h.glt (by rw [hL];simp;omega);obtain⟨x,hx⟩ : ∃x,L[q]? = some x:=⟨_,List.getElem?_eq_getElem (by rw [hL];simp;omega)⟩;obtain⟨jb,hd2,vj⟩:=zc2 hL hx hq;have hst:Sx.zak (f+1) (toks.drop q)=if x.k=4∨x.k=3 then .ok (.mk x.s.toList []) (toks.drop (q+1)) else if x.s.toList=[40] then Sx.zcd (Sx.typ f) (.mk [44]) (toks.drop (q+1)) else .bad (toks.drop q):=by
  rw [Sx.zak,jb,hd2,qys]
 obtain⟨M0,qV⟩ : ∃M0,Sx.zak (f+1) (toks.drop q)=M0:=⟨_,rfl⟩;rw [qV] at hst ⊢;have HM:=qya hst;clear hst qV;have O0:Old w (w.alloc (.cells #[.string ⟨#[]⟩,.slice none 0 0] 35)):=(Old.refl w).alloc _;have qD:=Blk.new w #[.string ⟨#[]⟩,.slice none 0 0] 35;have hn:=zd5 _ b la lc L q (h.old O0) x hx;obtain⟨qp,qr⟩ : ∃qp,w.alloc (.cells #[.string ⟨#[]⟩,.slice none 0 0] 35)=qp:=⟨_,rfl⟩;have qw:qp.heap.size=w.heap.size+1:=by rw [← qr];simp
 rw [qr] at O0 qD hn;have vh:=qya qr;have qi:=qya qw;have HX:=qya hx;have H1:=qya jb;have H2:=qya hd2;have H3:=qya vj;have jp:(⟨#[40]⟩:ByteArray).toList=[40]:=qyw [40];have HL:=qya jp;clear qr qw hx jb hd2 vj jp
 go_enter Tryz.func174,Tryz.ntmps174
 go_wp2_with fail
 rw [vh.out]
 (with_reducible refine hn.mono ?_)
 rintro e w2 ⟨rfl,h2,f2⟩;have kT:=Blk.new w2 #[.int .i64 x.k,.int .i64 x.n,.string x.s,.int .i64 x.a] 59;have O2:Old w2 (w2.alloc (.cells #[.int .i64 x.k,.int .i64 x.n,.string x.s,.int .i64 x.a] 59)):=(Old.refl w2).alloc _;have z2:=f2.size;have jL:=qD.keep f2 (by omega);have xZ:=jL.keep O2 (fun e=>e);obtain⟨c0,c1,c2,c3,-⟩:=kT.four;obtain⟨r0,r1⟩:=xZ.c2;obtain⟨g0,g1⟩:=xZ.f2;have qJ:=xZ.lt;have kS : ∀(W:World) (P:Prop),P→W=((w2.alloc (.cells #[.int .i64 x.k,.int .i64 x.n,.string x.s,.int .i64 x.a] 59)).setCell ⟨w.heap.size,0,none⟩ (.string x.s)).setCell ⟨w.heap.size,1,none⟩ (.slice none 0 0)→M0=.ok (.mk x.s.toList []) (toks.drop (q+1))→q<toks.length →
   zaf TyAt b la lc L toks len M0 q w (.returned (.agg #[.string x.s,.slice none 0 0])) W∧W.cell? ⟨w.heap.size,0,none⟩=some (.string x.s)∧W.cell? ⟨w.heap.size,1,none⟩=some (.slice none 0 0):=by
  intro W P _ hW hM qx;have S2:=(((Fr.refl (fun k=>k=w.heap.size) (w2.alloc (.cells #[.int .i64 x.k,.int .i64 x.n,.string x.s,.int .i64 x.a] 59))).setCell ⟨w.heap.size,0,none⟩ (fun _=>rfl) (.string x.s)).setCell ⟨w.heap.size,1,none⟩ (fun _=>rfl) (.slice none 0 0));have k3:=(xZ.set 0 (.string x.s)).set 1 (.slice none 0 0);rw [← hW] at S2 k3;refine⟨⟨(Fr.trans (Old.but O0 b) (Fr.trans f2 (Old.but O2 b))).trans' S2 (fun k hk e=>by omega),?_⟩,k3.cell (i:=0) (v:=.string x.s) rfl,k3.cell (i:=1) (v:=.slice none 0 0) rfl⟩;rw [hM];refine⟨_,q+1,rfl,rfl,by omega,qx,(h2.old O2).keep S2 (by omega) (fun g hg=>by have:=qQ g hg;omega),?_⟩;rw [TyAt];exact⟨_,[],by rw [show bv x.s.toList=.string x.s from by show Value.string ⟨x.s.toList.toArray⟩=.string x.s;rw [ByteArray.toList_eq]],⟨⟨rfl,.inl ⟨rfl,rfl⟩⟩,fun k hk=>by cases hk⟩,by rw [TysAt]⟩
 have pm:x.k≠0→q<toks.length:=fun hk=>by
  obtain⟨t,r,h1,_⟩:=zep hL HX.out hk;exact h1
 cases hk4:(x.k==4)
 ·cases hk3:(x.k==3)
  ·have hkn : ¬(x.k=4∨x.k=3):=(by rintro (e | e) <;> simp [e] at hk4 hk3);cases hc:(x.s.toList == [40])
   ·have hM:M0=.bad (toks.drop q):=(by rw [HM.out,if_neg hkn,if_neg (by simpa using hc)]);have xx:=qya hM;clear hM;go_wp2;refine⟨rfl,Fr.trans (Old.but O0 b) (Fr.trans f2 (Old.but O2 b)),?_⟩;rw [xx.out];show panS _=panS _;rw [H3.out]
   ·have hM:M0=Sx.zcd (Sx.typ f) (.mk [44]) (toks.drop (q+1)):=(by rw [HM.out,if_neg hkn,if_pos (by simpa using hc)]);have xx:=qya hM;have jT:=zbb hL HX.out hq (by decide) hc;clear hM;have vw:=mkf;have hg:=zsh _ b la lc L toks len hL (q+1) (h2.old O2) jT (Sx.typ f) (fun q' W hl h hq=>zq q' W (by omega) h hq)
    go_wp2_with fail
    (with_reducible refine hg.mono ?_)
    rintro e w5 ⟨f5,hp⟩;have uj:But b w2 w5:=Fr.trans (Old.but O2 b) f5;cases hres:Sx.zcd (Sx.typ f) (.mk [44]) (toks.drop (q+1)) with
    | bad jk=>
     rw [hres] at hp;have hp:e=panS (zah len jk):=hp;subst hp;have HR:=qya hres;clear hres;go_wp2;refine⟨rfl,Fr.trans (Old.but O0 b) (Fr.trans f2 uj),?_⟩;rw [xx.out,HR.out]
    | ok z jk=>
     rw [hres] at hp;obtain⟨zv,q2,rfl,qU,jh,qo,h5,zg⟩:=hp;obtain⟨qh,l3,n3,c3,rfl⟩:=zg.parts;have HR:=qya hres;have pP:=qya qU;clear hres qU;have z3:(w2.alloc (.cells #[.int .i64 x.k,.int .i64 x.n,.string x.s,.int .i64 x.a] 59)).heap.size=w2.heap.size+1:=qyd _ _;have z5:=f5.size;have j4:=jL.keep uj (by omega);obtain⟨r0,r1⟩:=j4.c2;obtain⟨g0,g1⟩:=j4.f2;have qJ:=j4.lt;go_wp2;have S2:=(((Fr.refl (fun k=>k=w.heap.size) w5).setCell ⟨w.heap.size,0,none⟩ (fun _=>rfl) (.string qh)).setCell ⟨w.heap.size,1,none⟩ (fun _=>rfl) (.slice l3 n3 c3));have k3:=(j4.set 0 (.string qh)).set 1 (.slice l3 n3 c3);obtain⟨W',qv⟩ : ∃W',(w5.setCell ⟨w.heap.size,0,none⟩ (.string qh)).setCell ⟨w.heap.size,1,none⟩ (.slice l3 n3 c3)=W':=⟨_,rfl⟩;rw [qv] at S2 k3 ⊢;clear qv;obtain⟨s0,s1⟩:=k3.c2;refine bodyPost_ret (v:=.agg #[.string qh,.slice l3 n3 c3]) (by simp [results,Tryz.results174,go_sem,s0,s1]) rfl ?_;refine⟨(Fr.trans (Old.but O0 b) (Fr.trans f2 uj)).trans' S2 (fun k hk e=>by omega),?_⟩;rw [xx.out,HR.out];exact⟨_,q2,rfl,pP.out,by omega,qo,h5.keep S2 (by omega) (fun g hg=>by have:=qQ g hg;omega),TyAt.more (fun k hk=>⟨by omega,qyc hk.2 S2.size⟩) _ _ (zg.keep S2 (fun k hk e=>by omega))⟩
  ·have hM:M0=.ok (.mk x.s.toList []) (toks.drop (q+1)):=(by rw [HM.out,if_pos (.inr (by simpa using hk3))]);have xx:=qya hM;clear hM;go_wp2;obtain⟨W',qv⟩ : ∃W',((w2.alloc (.cells #[.int .i64 x.k,.int .i64 x.n,.string x.s,.int .i64 x.a] 59)).setCell ⟨w.heap.size,0,none⟩ (.string x.s)).setCell ⟨w.heap.size,1,none⟩ (.slice none 0 0)=W':=⟨_,rfl⟩;obtain⟨hp,s0,s1⟩:=kS W' True trivial qv.symm xx.out (pm (fun e=>by rw [e] at hk3;cases hk3));rw [qv];clear qv;exact bodyPost_ret (v:=.agg #[.string x.s,.slice none 0 0]) (by simp [results,Tryz.results174,go_sem,s0,s1]) rfl hp
 ·have hM:M0=.ok (.mk x.s.toList []) (toks.drop (q+1)):=by rw [HM.out,if_pos (.inl (by simpa using hk4))]
  have xx:=qya hM;clear hM;go_wp2;obtain⟨W',qv⟩ : ∃W',((w2.alloc (.cells #[.int .i64 x.k,.int .i64 x.n,.string x.s,.int .i64 x.a] 59)).setCell ⟨w.heap.size,0,none⟩ (.string x.s)).setCell ⟨w.heap.size,1,none⟩ (.slice none 0 0)=W':=⟨_,rfl⟩;obtain⟨hp,s0,s1⟩:=kS W' True trivial qv.symm xx.out (pm (fun e=>by rw [e] at hk4;cases hk4));rw [qv];clear qv;exact bodyPost_ret (v:=.agg #[.string x.s,.slice none 0 0]) (by simp [results,Tryz.results174,go_sem,s0,s1]) rfl hp
theorem zic(b:Nat)(la:Option Addr)(lc:Nat)(L:List RT)(toks:List Lx.Tok)(len:Int)(hL:RtOf L toks len) : ∀(f:Nat),
  (∀(q:Nat) (W:World),3*(toks.length-q)+3≤f→Rd W b la lc L q→q≤toks.length→Calls Tryz.prog 46 #[.pointer (some ⟨b,0,none⟩)] W (zaf TyAt b la lc L toks len (Sx.typ f (toks.drop q)) q W)) ∧
  (∀(q:Nat) (W:World),3*(toks.length-q)+2≤f→Rd W b la lc L q→q≤toks.length→Calls Tryz.prog 98 #[.pointer (some ⟨b,0,none⟩)] W (zaf TyAt b la lc L toks len (Sx.zaw f (toks.drop q)) q W)) ∧
  (∀(q:Nat) (W:World),3*(toks.length-q)+1≤f→Rd W b la lc L q→q≤toks.length→Calls Tryz.prog 174 #[.pointer (some ⟨b,0,none⟩)] W (zaf TyAt b la lc L toks len (Sx.zak f (toks.drop q)) q W))
 | 0=>⟨fun q W h=>by omega,fun q W h=>by omega,fun q W h=>by omega⟩
 | f+1=>by
  obtain⟨h1,h2,h3⟩:=zic b la lc L toks len hL f;refine⟨fun q W hf hr hq => ?_,fun q W hf hr hq => ?_,fun q W hf hr hq => ?_⟩
  ·exact zvh b la lc L toks len hL f q (fun W' jf jq=>h2 q W' (by omega) jf jq) (fun q' W' hl jf jq=>h1 q' W' (by omega) jf jq) W hr hq
  ·exact zme b la lc L toks len hL f q (fun q' W' hl jf jq=>h3 q' W' (by omega) jf jq) W hr hq
  ·exact zlc b la lc L toks len hL f q (fun q' W' hl jf jq=>h1 q' W' (by omega) jf jq) W hr hq
theorem zv4(b:Nat)(la:Option Addr)(lc:Nat)(L:List RT)(toks:List Lx.Tok)(len:Int)(hL:RtOf L toks len)(f:Nat)
  (q:Nat)(fo : ∀(q':Nat) (W:World),q≤q'→Rd W b la lc L q'→q'≤toks.length→Calls Tryz.prog 103 #[.pointer (some ⟨b,0,none⟩)] W (zaf PaAt b la lc L toks len (Sx.zaq f (toks.drop q')) q' W))
  (w:World)(h:Rd w b la lc L q)(hq:q≤toks.length) :
  Calls Tryz.prog 49 #[.pointer (some ⟨b,0,none⟩)] w (zaf PaAt b la lc L toks len (Sx.pat (f+1) (toks.drop q)) q w):=by
 obtain⟨x,hx⟩ : ∃x,L[q]? = some x:=⟨_,List.getElem?_eq_getElem (by rw [hL];simp;omega)⟩;obtain⟨jb,hd2,-⟩:=zc2 hL hx hq;have hk:=zc5 x;have hb:=h.blk.lt;have qQ:=h.glt (by rw [hL];simp;omega);have HX:=qya hx;clear hx;cases hc:(x.k != 3)
 ·have hc2:x.k=3:=by simpa using hc
  have jT:q<toks.length:=by
   obtain⟨t,r,h1,_⟩:=zep hL HX.out (by omega);exact h1
  have HC:=qya hc;have tB:=qya hc2;have H1:=qya jb;have H2:=qya hd2;clear hc2 jb hd2
  go_enter Tryz.func49,Tryz.ntmps49
  go_wp2_with fail
  (with_reducible refine (zbt _ b la lc L q (h.old ((Old.refl w).alloc _)) x HX.out).mono ?_)
  rintro e w1 ⟨rfl,o1⟩;have O1:=((Old.refl w).alloc (.cells #[.int .i64 0,.string ⟨#[]⟩,.slice none 0 0] 37)).trans o1;have h1:=h.old O1
  go_wp2_with fail
  (with_reducible refine (zu1 _ b la lc L q h1 x HX.out HC.out).mono ?_)
  rintro e w2 ⟨rfl,h2,f2⟩;have hm:=callsIn_wide.1 (P.manyX_any w2 b la lc L toks len hL (q+1) h2 jT Sx.zbo zoa (Sx.zaq f) (fun q' W hl h hq=>fo q' W (Nat.le_of_succ_le hl) h (Nat.le_of_lt hq)) (toks.drop q).length (by simp;omega));have qm:Sx.pat (f+1) (toks.drop q)=(Sx.many Sx.zbo (Sx.zaq f) (toks.drop q).length (toks.drop (q+1))).map fun xs=>.mk 3 x.s.toList xs:=by
   rw [Sx.pat,if_pos (by rw [H1.out];exact tB.out),H2.out];simp
  rw [qm];have uE:=qya qm;clear qm;have kR:=(Blk.new w #[.int .i64 0,.string ⟨#[]⟩,.slice none 0 0] 37).keep o1 (fun e=>e);have j5:=o1.size;rw [qyd] at j5;have jE:=f2.size
  go_wp2_with fail
  (with_reducible refine hm.mono ?_)
  rintro e w3 ⟨f3,hp⟩;have uY:=f3.size;cases hres:Sx.many Sx.zbo (Sx.zaq f) (toks.drop q).length (toks.drop (q+1)) with
  | bad rest=>
   rw [hres] at hp;have hp:e=panS (zah len rest):=hp;subst hp;have HR:=qya hres;clear hres;go_wp2;refine⟨rfl,(Fr.trans (Old.but O1 b) (Fr.trans f2 f3)),?_⟩
   first | rw [uE.out,HR.out] | rw [HR.out]
   rfl
  | ok ts rest=>
   rw [hres] at hp;obtain⟨v,xs,F,q',rfl,qq,qx,qX,h3,qz,uv,hF⟩:=hp;obtain⟨l2,c2,rfl⟩:=zad qz;have jL:=(kR.keep f2 (by omega)).keep f3 (by omega);obtain⟨rc0,rc1,rc2⟩:=jL.c3;obtain⟨gc0,gc1,gc2⟩:=jL.f3;have qJ:=jL.lt;have HR:=qya hres;have tG:=qya qq;clear hres qq;go_wp2;have S2:=((((Fr.refl (fun k=>k=w.heap.size) w3).setCell ⟨w.heap.size,0,none⟩ (fun _=>rfl) (.int .i64 3)).setCell ⟨w.heap.size,1,none⟩ (fun _=>rfl) (.string x.s)).setCell ⟨w.heap.size,2,none⟩ (fun _=>rfl) (.slice l2 ts.length c2));have k3:=((jL.set 0 (.int .i64 3)).set 1 (.string x.s)).set 2 (.slice l2 ts.length c2);obtain⟨W',qv⟩ : ∃W',((w3.setCell ⟨w.heap.size,0,none⟩ (.int .i64 3)).setCell ⟨w.heap.size,1,none⟩ (.string x.s)).setCell ⟨w.heap.size,2,none⟩ (.slice l2 ts.length c2)=W':=⟨_,rfl⟩;rw [qv] at S2 k3 ⊢;clear qv;obtain⟨s0,s1,s2⟩:=k3.c3;refine bodyPost_ret (v:=.agg #[.int .i64 3,.string x.s,.slice l2 ts.length c2]) (by simp [results,Tryz.results49,go_sem,s0,s1,s2]) rfl ?_;refine⟨(Fr.trans (Old.but O1 b) (Fr.trans f2 f3)).trans' S2 (fun k hk e=>by omega),?_⟩
   first | rw [uE.out,HR.out] | rw [HR.out]
   refine⟨_,q',rfl,tG.out,by omega,qX,h3.keep S2 (by omega) (fun g hg=>by have:=qQ g hg;omega),?_⟩;rw [PaAt];refine⟨_,xs,by rw [show bv x.s.toList=.string x.s from by show Value.string ⟨x.s.toList.toArray⟩=.string x.s;rw [ByteArray.toList_eq]],⟨zaa (qz.mono (qyi _)) S2 (fun k hk e=>by have:=(qz.lt k hk).1;omega),fun k hk=>⟨by have:=(qz.lt k hk).1;omega,qyc (qz.lt k hk).2 S2.size⟩⟩,PasAt.more (fun k hk=>⟨by have:=(hF k hk).1;omega,qyc (hF k hk).2 S2.size⟩) _ _ (uv.keep S2 (fun k hk e=>by have:=(hF k hk).1;omega))⟩
 ·have ux:Sx.pat (f+1) (toks.drop q)=Sx.zaq f (toks.drop q):=by
   rw [Sx.pat,if_neg (by rw [jb];simpa using hc)]
  rw [ux];have jb:=qya jb;have hd2:=qya hd2
  go_enter Tryz.func49,Tryz.ntmps49
  go_wp2_with fail
  (with_reducible refine (zbt _ b la lc L q (h.old ((Old.refl w).alloc _)) x HX.out).mono ?_)
  rintro e w1 ⟨rfl,o1⟩;have O1:=((Old.refl w).alloc (.cells #[.int .i64 0,.string ⟨#[]⟩,.slice none 0 0] 37)).trans o1;have h1:=h.old O1;have kR:=(Blk.new w #[.int .i64 0,.string ⟨#[]⟩,.slice none 0 0] 37).keep o1 (fun e=>e);have j5:=o1.size;rw [qyd] at j5
  go_wp2_with fail
  (with_reducible refine (fo q w1 (qyb q) h1 hq).mono ?_)
  rintro e w2 ⟨f2,hp⟩;cases hres:Sx.zaq f (toks.drop q) with
  | bad rest=>
   rw [hres] at hp;have hp:e=panS (zah len rest):=hp;subst hp;have HR:=qya hres;clear hres;go_wp2;refine⟨rfl,Fr.trans (Old.but O1 b) f2,?_⟩;rfl
  | ok y rest=>
   rw [hres] at hp;obtain⟨yv,q',rfl,qq,qx,qX,h2,zq⟩:=hp;obtain⟨kd,nm,l2,n2,c2,rfl⟩:=zq.parts;have jL:=kR.keep f2 (by omega);obtain⟨rc0,rc1,rc2⟩:=jL.c3;obtain⟨gc0,gc1,gc2⟩:=jL.f3;have qJ:=jL.lt;have HR:=qya hres;have HR0:=qya ux;have tG:=qya qq;clear hres ux qq;go_wp2;have S2:=((((Fr.refl (fun k=>k=w.heap.size) w2).setCell ⟨w.heap.size,0,none⟩ (fun _=>rfl) (.int .i64 kd)).setCell ⟨w.heap.size,1,none⟩ (fun _=>rfl) (.string nm)).setCell ⟨w.heap.size,2,none⟩ (fun _=>rfl) (.slice l2 n2 c2));have k3:=((jL.set 0 (.int .i64 kd)).set 1 (.string nm)).set 2 (.slice l2 n2 c2);obtain⟨W',qv⟩ : ∃W',((w2.setCell ⟨w.heap.size,0,none⟩ (.int .i64 kd)).setCell ⟨w.heap.size,1,none⟩ (.string nm)).setCell ⟨w.heap.size,2,none⟩ (.slice l2 n2 c2)=W':=⟨_,rfl⟩;rw [qv] at S2 k3 ⊢;clear qv;obtain⟨s0,s1,s2⟩:=k3.c3;refine bodyPost_ret (v:=.agg #[.int .i64 kd,.string nm,.slice l2 n2 c2]) (by simp [results,Tryz.results49,go_sem,s0,s1,s2]) rfl ?_;refine⟨(Fr.trans (Old.but O1 b) f2).trans' S2 (fun k hk e=>by omega),?_⟩;rw [HR.out];refine⟨_,q',rfl,tG.out,qx,qX,h2.keep S2 (by omega) (fun g hg=>by have:=qQ g hg;omega),PaAt.more (fun k hk=>⟨by omega,qyc hk.2 S2.size⟩) _ _ (zq.keep S2 (fun k hk e=>by omega))⟩
theorem zcf(s:ByteArray):bv s.toList=.string s:=by
 show Value.string ⟨s.toList.toArray⟩=.string s;rw [ByteArray.toList_eq]
theorem zne(b:Nat)(la:Option Addr)(lc:Nat)(L:List RT)(toks:List Lx.Tok)(len:Int)(hL:RtOf L toks len)(f:Nat)
  (q:Nat)(zq : ∀(q':Nat) (W:World),q<q'→Rd W b la lc L q'→q'≤toks.length→Calls Tryz.prog 49 #[.pointer (some ⟨b,0,none⟩)] W (zaf PaAt b la lc L toks len (Sx.pat f (toks.drop q')) q' W))
  (w:World)(h:Rd w b la lc L q)(hq:q≤toks.length) :
  Calls Tryz.prog 103 #[.pointer (some ⟨b,0,none⟩)] w (zaf PaAt b la lc L toks len (Sx.zaq (f+1) (toks.drop q)) q w):=by
 have hb:=h.blk.lt;have qQ:=h.glt (by rw [hL];simp;omega);obtain⟨x,hx⟩ : ∃x,L[q]? = some x:=⟨_,List.getElem?_eq_getElem (by rw [hL];simp;omega)⟩;obtain⟨jb,hd2,vj⟩:=zc2 hL hx hq;have hst:Sx.zaq (f+1) (toks.drop q)=if x.s.toList=[95] then .ok (.mk 1 [] []) (toks.drop (q+1)) else if x.k=2 then .ok (.mk 2 x.s.toList []) (toks.drop (q+1)) else if x.k=3 then .ok (.mk 3 x.s.toList []) (toks.drop (q+1)) else if x.s.toList=[40] then Sx.zcd (Sx.pat f) (.mk 3 [44]) (toks.drop (q+1)) else .bad (toks.drop q):=by
  rw [Sx.zaq,jb,hd2,qys]
 obtain⟨M0,qV⟩ : ∃M0,Sx.zaq (f+1) (toks.drop q)=M0:=⟨_,rfl⟩;rw [qV] at hst ⊢;have HM:=qya hst;clear hst qV;have O0:Old w (w.alloc (.cells #[.int .i64 0,.string ⟨#[]⟩,.slice none 0 0] 37)):=(Old.refl w).alloc _;have qD:=Blk.new w #[.int .i64 0,.string ⟨#[]⟩,.slice none 0 0] 37;have hn:=zd5 _ b la lc L q (h.old O0) x hx;obtain⟨qp,qr⟩ : ∃qp,w.alloc (.cells #[.int .i64 0,.string ⟨#[]⟩,.slice none 0 0] 37)=qp:=⟨_,rfl⟩;have qw:qp.heap.size=w.heap.size+1:=by rw [← qr];simp
 rw [qr] at O0 qD hn;have vh:=qya qr;have qi:=qya qw;have HX:=qya hx;have H1:=qya jb;have H2:=qya hd2;have H3:=qya vj;have jp:(⟨#[40]⟩:ByteArray).toList=[40]:=qyw [40];have HL:=qya jp;clear qr qw hx jb hd2 vj jp
 go_enter Tryz.func103,Tryz.ntmps103
 go_wp2_with fail
 rw [vh.out]
 (with_reducible refine hn.mono ?_)
 rintro e w2 ⟨rfl,h2,f2⟩;have kT:=Blk.new w2 #[.int .i64 x.k,.int .i64 x.n,.string x.s,.int .i64 x.a] 59;have O2:Old w2 (w2.alloc (.cells #[.int .i64 x.k,.int .i64 x.n,.string x.s,.int .i64 x.a] 59)):=(Old.refl w2).alloc _;have z2:=f2.size;have jL:=qD.keep f2 (by omega);have xZ:=jL.keep O2 (fun e=>e);obtain⟨c0,c1,c2,c3,-⟩:=kT.four;obtain⟨r0,r1,r2⟩:=xZ.c3;obtain⟨g0,g1,g2⟩:=xZ.f3;have qJ:=xZ.lt;have kS : ∀(W:World) (kd:Int) (nm:ByteArray),W=(((w2.alloc (.cells #[.int .i64 x.k,.int .i64 x.n,.string x.s,.int .i64 x.a] 59)).setCell ⟨w.heap.size,0,none⟩ (.int .i64 kd)).setCell ⟨w.heap.size,1,none⟩ (.string nm)).setCell ⟨w.heap.size,2,none⟩ (.slice none 0 0)→M0=.ok (.mk kd nm.toList []) (toks.drop (q+1))→q<toks.length →
   zaf PaAt b la lc L toks len M0 q w (.returned (.agg #[.int .i64 kd,.string nm,.slice none 0 0])) W∧W.cell? ⟨w.heap.size,0,none⟩=some (.int .i64 kd)∧W.cell? ⟨w.heap.size,1,none⟩=some (.string nm)∧W.cell? ⟨w.heap.size,2,none⟩=some (.slice none 0 0):=by
  intro W kd nm hW hM qx;have S2:=((((Fr.refl (fun k=>k=w.heap.size) (w2.alloc (.cells #[.int .i64 x.k,.int .i64 x.n,.string x.s,.int .i64 x.a] 59))).setCell ⟨w.heap.size,0,none⟩ (fun _=>rfl) (.int .i64 kd)).setCell ⟨w.heap.size,1,none⟩ (fun _=>rfl) (.string nm)).setCell ⟨w.heap.size,2,none⟩ (fun _=>rfl) (.slice none 0 0));have k3:=((xZ.set 0 (.int .i64 kd)).set 1 (.string nm)).set 2 (.slice none 0 0);rw [← hW] at S2 k3;refine⟨⟨(Fr.trans (Old.but O0 b) (Fr.trans f2 (Old.but O2 b))).trans' S2 (fun k hk e=>by omega),?_⟩,k3.cell (i:=0) rfl,k3.cell (i:=1) rfl,k3.cell (i:=2) rfl⟩;rw [hM];refine⟨_,q+1,rfl,rfl,by omega,qx,(h2.old O2).keep S2 (by omega) (fun g hg=>by have:=qQ g hg;omega),?_⟩;rw [PaAt];exact⟨_,[],by rw [zcf],⟨⟨rfl,.inl ⟨rfl,rfl⟩⟩,fun k hk=>by cases hk⟩,by rw [PasAt]⟩
 have pm:x.k≠0→q<toks.length:=fun hk=>by
  obtain⟨t,r,h1,_⟩:=zep hL HX.out hk;exact h1
 cases hu:(x.s.toList == [95])
 ·cases hk2:(x.k==2)
  ·cases hk3:(x.k==3)
   ·cases hc:(x.s.toList == [40])
    ·have hM:M0=.bad (toks.drop q):=(by rw [HM.out,if_neg (by simpa using hu),if_neg (by simpa using hk2),if_neg (by simpa using hk3),if_neg (by simpa using hc)]);have xx:=qya hM;clear hM;go_wp2;refine⟨rfl,Fr.trans (Old.but O0 b) (Fr.trans f2 (Old.but O2 b)),?_⟩;rw [xx.out];show panS _=panS _;rw [H3.out]
    ·have hM:M0=Sx.zcd (Sx.pat f) (.mk 3 [44]) (toks.drop (q+1)):=(by rw [HM.out,if_neg (by simpa using hu),if_neg (by simpa using hk2),if_neg (by simpa using hk3),if_pos (by simpa using hc)]);have xx:=qya hM;have jT:=zbb hL HX.out hq (by decide) hc;clear hM;have vw:=mkf;have hg:=P.groupX_any _ b la lc L toks len hL (q+1) (h2.old O2) jT (Sx.pat f) (fun q' W hl h hq=>zq q' W (by omega) h hq)
     go_wp2_with fail
     (with_reducible refine hg.mono ?_)
     rintro e w5 ⟨f5,hp⟩;have uj:But b w2 w5:=Fr.trans (Old.but O2 b) f5;cases hres:Sx.zcd (Sx.pat f) (.mk 3 [44]) (toks.drop (q+1)) with
     | bad jk=>
      rw [hres] at hp;have hp:e=panS (zah len jk):=hp;subst hp;have HR:=qya hres;clear hres;go_wp2;refine⟨rfl,Fr.trans (Old.but O0 b) (Fr.trans f2 uj),?_⟩;rw [xx.out,HR.out]
     | ok z jk=>
      rw [hres] at hp;obtain⟨zv,q2,rfl,qU,jh,qo,h5,zg⟩:=hp;obtain⟨qI,qh,l3,n3,c3,rfl⟩:=zg.parts;have HR:=qya hres;have pP:=qya qU;clear hres qU;have z3:(w2.alloc (.cells #[.int .i64 x.k,.int .i64 x.n,.string x.s,.int .i64 x.a] 59)).heap.size=w2.heap.size+1:=qyd _ _;have z5:=f5.size;have j4:=jL.keep uj (by omega);obtain⟨r0,r1,r2⟩:=j4.c3;obtain⟨g0,g1,g2⟩:=j4.f3;have qJ:=j4.lt;go_wp2;have S2:=((((Fr.refl (fun k=>k=w.heap.size) w5).setCell ⟨w.heap.size,0,none⟩ (fun _=>rfl) (.int .i64 qI)).setCell ⟨w.heap.size,1,none⟩ (fun _=>rfl) (.string qh)).setCell ⟨w.heap.size,2,none⟩ (fun _=>rfl) (.slice l3 n3 c3));have k3:=((j4.set 0 (.int .i64 qI)).set 1 (.string qh)).set 2 (.slice l3 n3 c3);obtain⟨W',qv⟩ : ∃W',((w5.setCell ⟨w.heap.size,0,none⟩ (.int .i64 qI)).setCell ⟨w.heap.size,1,none⟩ (.string qh)).setCell ⟨w.heap.size,2,none⟩ (.slice l3 n3 c3)=W':=⟨_,rfl⟩;rw [qv] at S2 k3 ⊢;clear qv;obtain⟨s0,s1,s2⟩:=k3.c3;refine bodyPost_ret (v:=.agg #[.int .i64 qI,.string qh,.slice l3 n3 c3]) (by simp [results,Tryz.results103,go_sem,s0,s1,s2]) rfl ?_;refine⟨(Fr.trans (Old.but O0 b) (Fr.trans f2 uj)).trans' S2 (fun k hk e=>by omega),?_⟩;rw [xx.out,HR.out];exact⟨_,q2,rfl,pP.out,by omega,qo,h5.keep S2 (by omega) (fun g hg=>by have:=qQ g hg;omega),PaAt.more (fun k hk=>⟨by omega,qyc hk.2 S2.size⟩) _ _ (zg.keep S2 (fun k hk e=>by omega))⟩
   ·have hM:M0=.ok (.mk 3 x.s.toList []) (toks.drop (q+1)):=(by rw [HM.out,if_neg (by simpa using hu),if_neg (by simpa using hk2),if_pos (by simpa using hk3)]);have xx:=qya hM;clear hM;go_wp2;obtain⟨W',qv⟩ : ∃W',(((w2.alloc (.cells #[.int .i64 x.k,.int .i64 x.n,.string x.s,.int .i64 x.a] 59)).setCell ⟨w.heap.size,0,none⟩ (.int .i64 3)).setCell ⟨w.heap.size,1,none⟩ (.string x.s)).setCell ⟨w.heap.size,2,none⟩ (.slice none 0 0)=W':=⟨_,rfl⟩;obtain⟨hp,s0,s1,s2⟩:=kS W' 3 x.s qv.symm xx.out (pm (fun e=>by rw [e] at hk3;cases hk3));rw [qv];clear qv;exact bodyPost_ret (v:=.agg #[.int .i64 3,.string x.s,.slice none 0 0]) (by simp [results,Tryz.results103,go_sem,s0,s1,s2]) rfl hp
  ·have hM:M0=.ok (.mk 2 x.s.toList []) (toks.drop (q+1)):=(by rw [HM.out,if_neg (by simpa using hu),if_pos (by simpa using hk2)]);have xx:=qya hM;clear hM;go_wp2;obtain⟨W',qv⟩ : ∃W',(((w2.alloc (.cells #[.int .i64 x.k,.int .i64 x.n,.string x.s,.int .i64 x.a] 59)).setCell ⟨w.heap.size,0,none⟩ (.int .i64 2)).setCell ⟨w.heap.size,1,none⟩ (.string x.s)).setCell ⟨w.heap.size,2,none⟩ (.slice none 0 0)=W':=⟨_,rfl⟩;obtain⟨hp,s0,s1,s2⟩:=kS W' 2 x.s qv.symm xx.out (pm (fun e=>by rw [e] at hk2;cases hk2));rw [qv];clear qv;exact bodyPost_ret (v:=.agg #[.int .i64 2,.string x.s,.slice none 0 0]) (by simp [results,Tryz.results103,go_sem,s0,s1,s2]) rfl hp
 ·have hM:M0=.ok (.mk 1 (⟨#[]⟩:ByteArray).toList []) (toks.drop (q+1)):=by rw [HM.out,if_pos (by simpa using hu)];rw [show (⟨#[]⟩:ByteArray).toList=[] from qyw []]
  have xx:=qya hM;have jT:=zbb hL HX.out hq (by decide) hu;clear hM;go_wp2;obtain⟨W',qv⟩ : ∃W',(((w2.alloc (.cells #[.int .i64 x.k,.int .i64 x.n,.string x.s,.int .i64 x.a] 59)).setCell ⟨w.heap.size,0,none⟩ (.int .i64 1)).setCell ⟨w.heap.size,1,none⟩ (.string ⟨#[]⟩)).setCell ⟨w.heap.size,2,none⟩ (.slice none 0 0)=W':=⟨_,rfl⟩;obtain⟨hp,s0,s1,s2⟩:=kS W' 1 ⟨#[]⟩ qv.symm xx.out jT;rw [qv];clear qv;exact bodyPost_ret (v:=.agg #[.int .i64 1,.string ⟨#[]⟩,.slice none 0 0]) (by simp [results,Tryz.results103,go_sem,s0,s1,s2]) rfl hp
theorem zqe(b:Nat)(la:Option Addr)(lc:Nat)(L:List RT)(toks:List Lx.Tok)(len:Int)(hL:RtOf L toks len) : ∀(f:Nat),
  (∀(q:Nat) (W:World),2*(toks.length-q)+2≤f→Rd W b la lc L q→q≤toks.length→Calls Tryz.prog 49 #[.pointer (some ⟨b,0,none⟩)] W (zaf PaAt b la lc L toks len (Sx.pat f (toks.drop q)) q W)) ∧
  (∀(q:Nat) (W:World),2*(toks.length-q)+1≤f→Rd W b la lc L q→q≤toks.length→Calls Tryz.prog 103 #[.pointer (some ⟨b,0,none⟩)] W (zaf PaAt b la lc L toks len (Sx.zaq f (toks.drop q)) q W))
 | 0=>⟨fun q W h=>by omega,fun q W h=>by omega⟩
 | f+1=>by
  obtain⟨h1,h3⟩:=zqe b la lc L toks len hL f;refine⟨fun q W hf hr hq => ?_,fun q W hf hr hq => ?_⟩
  ·exact zv4 b la lc L toks len hL f q (fun q' W' hl jf jq=>h3 q' W' (by omega) jf jq) W hr hq
  ·exact zne b la lc L toks len hL f q (fun q' W' hl jf jq=>h1 q' W' (by omega) jf jq) W hr hq
def zq1{α : Type}(b:Nat)(la:Option Addr)(lc:Nat)(L:List RT)(toks:List Lx.Tok)(len:Int)(Val : α→Value→Prop)(r:Sx.Res α)(q:Nat)(W:World)(e:Ending)(W':World):Prop:=
 But b W W'∧match r with
  | .ok x rest=>∃v,e=.returned v∧Val x v∧rest=toks.drop (q+1)∧q+1≤toks.length∧Rd W' b la lc L (q+1)
  | .bad rest=>e=panS (zah len rest)
theorem zbq(W:World)(b:Nat)(la:Option Addr)(lc:Nat)(L:List RT)(toks:List Lx.Tok)(len:Int)(hL:RtOf L toks len)(q:Nat)(h:Rd W b la lc L q)(hq:q≤toks.length)(s:ByteArray)(t:List UInt8)(hs:s.toList=t)(ht:t≠[]) :
  Calls Tryz.prog 74 #[.pointer (some ⟨b,0,none⟩),.string s] W (zq1 b la lc L toks len (fun _ v=>v=.tuple #[]) (Sx.take t (toks.drop q)) q W):=by
 obtain⟨x,hx⟩ : ∃x,L[q]? = some x:=⟨_,List.getElem?_eq_getElem (by rw [hL];simp;omega)⟩;obtain⟨jb,hd2,vj⟩:=zc2 hL hx hq;cases hc:(x.s.toList==t)
 ·refine (zhw W b la lc L q h x hx s (by rw [hs];exact hc)).mono ?_;rintro e W' ⟨rfl,f⟩;refine⟨f,?_⟩;rw [Sx.take,if_neg (by rw [hd2];simpa using hc)];show panS _=panS _;rw [vj]
 ·refine (ze3 W b la lc L q h x hx s (by rw [hs];exact hc)).mono ?_;rintro e W' ⟨rfl,h',f⟩;refine⟨f,?_⟩;rw [Sx.take,if_pos (by rw [hd2];simpa using hc),qys];exact⟨_,rfl,rfl,rfl,zbb hL hx hq ht hc,h'⟩
theorem zh3(W:World)(b:Nat)(la:Option Addr)(lc:Nat)(L:List RT)(toks:List Lx.Tok)(len:Int)(hL:RtOf L toks len)(q:Nat)(h:Rd W b la lc L q)(hq:q≤toks.length) :
  Calls Tryz.prog 147 #[.pointer (some ⟨b,0,none⟩)] W (zq1 b la lc L toks len (fun (x:List UInt8) v=>∃s:ByteArray,v=.string s∧s.toList=x) (Sx.zag 2 (toks.drop q)) q W):=by
 obtain⟨x,hx⟩ : ∃x,L[q]? = some x:=⟨_,List.getElem?_eq_getElem (by rw [hL];simp;omega)⟩;obtain⟨jb,hd2,vj⟩:=zc2 hL hx hq;have HX:=qya hx;have H1:=qya jb;have H2:=qya hd2;have H3:=qya vj;clear hx jb hd2 vj;cases hc:(x.k != 2)
 ·have hk:x.k=2:=by simpa using hc
  have qx:q<toks.length:=by
   obtain⟨t,r,h1,_⟩:=zep hL HX.out (by omega);exact h1
  have HC:=qya hc;have HK:=qya hk;clear hc hk
  go_enter Tryz.func147,Tryz.ntmps147
  go_wp2_with fail
  (with_reducible refine (zle W b la lc L q h x HX.out 2 HC.out).mono ?_)
  rintro e w1 ⟨rfl,h1,f1⟩;go_wp2;go_ret;refine⟨f1,?_⟩;rw [Sx.zag,if_pos (by rw [H1.out];exact HK.out),qys];exact⟨_,rfl,⟨_,rfl,by rw [H2.out]⟩,rfl,qx,h1⟩
 ·have HC:=qya hc;clear hc
  go_enter Tryz.func147,Tryz.ntmps147
  go_wp2_with fail
  (with_reducible refine (zlf W b la lc L q h x HX.out 2 HC.out).mono ?_)
  rintro e w1 ⟨rfl,f1⟩;go_wp2;refine⟨rfl,f1,?_⟩;rw [Sx.zag,if_neg (by rw [H1.out];simpa using HC.out)];show panS _=panS _;rw [H3.out]
theorem zy4{L:List RT}{toks:List Lx.Tok}{len:Int}(h:RtOf L toks len){q:Nat}{x:RT}(hx:L[q]? = some x)(hq:q<toks.length):(Sx.hd (toks.drop q)).num=x.n:=by
 unfold RtOf at h;subst h;rw [List.getElem?_append_left (by simpa using hq),List.getElem?_map,List.getElem?_eq_getElem hq] at hx;have:=qyj hx;rw [List.drop_eq_getElem_cons hq,← this];rfl
theorem ExsAt.two{F:Nat→Prop}{w:World}{x y:Sx.Ex}{a0 a1 a2 a3 a4 a5 b0 b1 b2 b3 b4 b5:Value}(hx:ExAt w F x (.agg #[a0,a1,a2,a3,a4,a5]))(hy:ExAt w F y (.agg #[b0,b1,b2,b3,b4,b5])):ExsAt w F [x,y] [a0,a1,a2,a3,a4,a5,b0,b1,b2,b3,b4,b5]:=by
 rw [ExsAt];refine⟨_,_,_,_,_,_,_,rfl,hx,?_⟩;rw [ExsAt];refine⟨_,_,_,_,_,_,_,rfl,hy,?_⟩;rw [ExsAt]
theorem ExsAt.one{F:Nat→Prop}{w:World}{x:Sx.Ex}{a0 a1 a2 a3 a4 a5:Value}(hx:ExAt w F x (.agg #[a0,a1,a2,a3,a4,a5])):ExsAt w F [x] [a0,a1,a2,a3,a4,a5]:=by
 rw [ExsAt];refine⟨_,_,_,_,_,_,_,rfl,hx,?_⟩;rw [ExsAt]
theorem RowAt.full{w:World}{F:Nat→Prop}{e:TypeId}{size g n:Nat}{xs:List Value}(hb:Blk w g xs.toArray e)(hl:xs.length=n*size)(hn:n≤maxLen)(hF:F g):RowAt w F e size (.slice (some ⟨g,0,none⟩) n n) n xs:=by
 refine⟨⟨hl,.inr ⟨g,n,xs.toArray,rfl,qyi _,hb,qyb _,hn,by simpa using hl,List.take_of_length_le (Nat.le_of_eq hl)⟩⟩,fun k hk => ?_⟩;have e:g=k:=qyj (show some g=some k from hk);exact e▸hF
theorem RowAt.none(w:World)(F:Nat→Prop)(e:TypeId)(size:Nat):RowAt w F e size (.slice none 0 0) 0 []:=
 ⟨⟨by simp,.inl ⟨rfl,rfl⟩⟩,fun k hk=>by cases hk⟩
end Go.Proofs.YtclgbmmambkiaaaGreatDoor
namespace Sx
open Lx (Tok)
variable (ex:List Tok→Res Ex)
def fnE(l:List Tok):Res Ex:=(take wFn l).bind fun _ r=>(zag 2 r).bind fun x r=>(take gives r).bind fun _ r=>(ex r).map fun b=>.mk 5 0 [] x [b] []
def zhq(l:List Tok):Res (B×Ex):=(zag 2 l).bind fun n r=>(take [61] r).bind fun _ r=>(ex r).map fun b=>(n,b)
def funE(l:List Tok):Res Fun:=(zag 2 l).bind fun n r=>(zhq ex r).map fun x=>⟨n,x.1,x.2⟩
def zf3(a:Ex)(l:List Tok):Res (List Ex):=(take wIn l).bind fun _ r=>(ex r).map fun b=>[a,b]
def letE(l:List Tok):Res Ex:=(take wLet l).bind fun _ r=>
 if (hd r).text=wFun then (funE ex r.tail).bind fun x r=>(zf3 ex x.body r).map fun l=>.mk 7 0 x.name x.arg l []
 else (zhq ex r).bind fun x r=>(zf3 ex x.2 r).map fun l=>.mk 6 0 x.1 [] l []
def ifE(l:List Tok):Res Ex:=(take wIf l).bind fun _ r=>(ex r).bind fun a r=>(take zdt r).bind fun _ r=>(ex r).bind fun b r=>(take zcn r).bind fun _ r=>(ex r).map fun c=>.mk 8 0 [] [] [a,b,c] [.mk 3 zfh [],.mk 3 zdh []]
def zy7(l:List Tok):Res Ex:=
 if (hd l).kind=1 then .ok (.mk 1 (hd l).num [] [] [] []) l.tail
 else if (hd l).kind=2 then .ok (.mk 2 0 (hd l).text [] [] []) l.tail
 else if (hd l).kind=3 then .ok (.mk 3 0 (hd l).text [] [] []) l.tail
 else if (hd l).text=[40] then zcd ex (fun xs=>.mk 3 0 [44] [] xs []) l.tail
 else .bad l
def appF(a b:Ex):Ex:=.mk 4 0 [] [] [a,b] []
def appE(l:List Tok):Res Ex:=
 if (hd l).kind=3 then (many zai ex l.length l.tail).map fun xs=>.mk 3 0 (hd l).text [] xs []
 else (ex l).bind fun a r=>(many zai ex r.length r).map fun xs=>xs.foldl appF a
def sumE(l:List Tok):Res Ex:=(ex l).bind fun a r=>chain ex zdz r.length a r
def prodE(l:List Tok):Res Ex:=(ex l).bind fun a r=>chain ex zdc r.length a r
def compE(l:List Tok):Res Ex:=(ex l).bind fun a r=>if (hd r).text=[60]∨(hd r).text=[61] then (ex r.tail).map fun b=>op (hd r).text a b else .ok a r
variable (pt:List Tok→Res Pa)
def armE(l:List Tok):Res (Pa×Ex):=(pt l).bind fun p r=>(take gives r).bind fun _ r=>(ex r).map fun b=>(p,b)
def endE(a:Ex)(xs:List (Pa×Ex))(l:List Tok):Res Ex:=(take wEnd l).map fun _=>.mk 8 0 [] [] (a::xs.map Prod.snd) (xs.map Prod.fst)
def zmj(a:Ex)(xs:List (Pa×Ex))(m:Nat)(l:List Tok):Res Ex:=(row [124] (armE ex pt) m l).bind fun ys r=>endE a (xs++ys) r
theorem zjn{a:Ex}{xs:List (Pa×Ex)}{m:Nat}{l r:List Tok}(h:armE ex pt l=.bad r):zmj ex pt a xs m l=.bad r:=by
 unfold zmj row;rw [h];rfl
theorem zs0{a:Ex}{xs:List (Pa×Ex)}{m:Nat}{l r:List Tok}{y:Pa×Ex}(h:armE ex pt l=.ok y r)(hs:(hd r).text≠[124]):zmj ex pt a xs m l=endE a (xs++[y]) r:=by
 have hm:more [124] (armE ex pt) m r=.ok [] r:=by
  cases m with
  | zero=>rfl
  | succ m=>rw [more,if_neg hs]
 unfold zmj row;rw [h];show ((more [124] (armE ex pt) m r).map (y :: ·)).bind _=_;rw [hm];rfl
theorem zsz{a:Ex}{xs:List (Pa×Ex)}{m:Nat}{l r:List Tok}{y:Pa×Ex}(h:armE ex pt l=.ok y r)(hs:(hd r).text=[124]):zmj ex pt a xs (m+1) l=zmj ex pt a (xs++[y]) m r.tail:=by
 unfold zmj row;rw [h];show ((more [124] (armE ex pt) (m+1) r).map (y :: ·)).bind _=_;rw [more,if_pos hs];cases armE ex pt r.tail with
 | bad r2=>rfl
 | ok z r2=>
  show (((more [124] (armE ex pt) m r2).map (z :: ·)).map (y :: ·)).bind _=((more [124] (armE ex pt) m r2).map (z :: ·)).bind _;cases more [124] (armE ex pt) m r2 with
  | bad r3=>rfl
  | ok zs r3=>simp [Res.map,Res.bind]
end Sx

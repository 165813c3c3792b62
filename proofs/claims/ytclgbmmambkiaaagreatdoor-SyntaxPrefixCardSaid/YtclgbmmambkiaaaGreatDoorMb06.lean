/- Part 06 -/
import Derived.Test.YtclgbmmambkiaaaGreatDoorMb05
import Derived.OwnWalkIn
import Derived.Deep.AppendLies
set_option maxRecDepth 100000
set_option maxHeartbeats 4000000
set_option linter.unusedVariables false
set_option linter.unusedSimpArgs false
namespace Go.Proofs.YtclgbmmambkiaaaGreatDoor
open Go.RowKit
def Sx.case2E(ex yz:List Lx.Tok→Sx.Res Sx.Ex)(pt:List Lx.Tok→Sx.Res Sx.Pa)(n:Nat)(l:List Lx.Tok):Sx.Res Sx.Ex:=(Sx.take Sx.zft l).bind fun _ r=>(ex r).bind fun a r=>(Sx.take Sx.wOf r).bind fun _ r=>(Sx.row [124] (Sx.armE yz pt) n r).bind fun xs r=>Sx.endE a xs r
def Stop(p:Prop):Prop:=p
theorem Stop.out{p:Prop}(h:Stop p):p:=h
theorem Stop.mk{p:Prop}(h:p):Stop p:=h
structure CsAt(w0:World)(b V:Nat)(a:Sx.Ex)(xs:List (Sx.Pa×Sx.Ex))(W:World):Prop where
 res:Blk W w0.heap.size #[.int .i64 0,.int .i64 0,.string ⟨#[]⟩,.string ⟨#[]⟩,.slice none 0 0,.slice none 0 0] 32
 rows : ∃(ls:Option Addr) (cs:Nat) (xa:List Value) (lp:Option Addr) (cp:Nat) (xp:List Value) (F:Nat→Prop),Blk W V #[.int .i64 8,.int .i64 0,.string ⟨#[]⟩,.string ⟨#[]⟩,.slice ls (xs.length+1) cs,.slice lp xs.length cp] 32 ∧
  W.ownsRow (w0.heap.size+1) 32 6 (.slice ls (xs.length+1) cs) (xs.length+1) xa∧W.ownsRow (w0.heap.size+1) 37 3 (.slice lp xs.length cp) xs.length xp∧ExsAt W F (a::xs.map Prod.snd) xa∧PasAt W F (xs.map Prod.fst) xp ∧
  (∀k,(Value.slice ls (xs.length+1) cs).ownBlock=some k→k≠V∧(Value.slice lp xs.length cp).ownBlock≠some k)∧(∀k,(Value.slice lp xs.length cp).ownBlock=some k→k≠V) ∧
  ∀k,F k→w0.heap.size<k∧k<W.heap.size∧k≠V∧(Value.slice ls (xs.length+1) cs).ownBlock≠some k∧(Value.slice lp xs.length cp).ownBlock≠some k
 but:But b w0 W
theorem CsAt.old{w0:World}{b V:Nat}{a:Sx.Ex}{xs:List (Sx.Pa×Sx.Ex)}{W W':World}(h:CsAt w0 b V a xs W)(hb:b<w0.heap.size)(hV:w0.heap.size<V)(hf:But b W W'):CsAt w0 b V a xs W':=by
 obtain⟨ls,cs,xa,lp,cp,xp,F,h1,h2,h3,h4,h5,h6,h7,h8⟩:=h.rows;refine⟨h.res.keep hf (by omega),⟨ls,cs,xa,lp,cp,xp,F,h1.keep hf (by omega),zaa h2 hf (fun k hk e => ?_),zaa h3 hf (fun k hk e => ?_),h4.keep hf (fun k hk e => ?_),h5.keep hf (fun k hk e => ?_),h6,h7,fun k hk => ?_⟩,h.but.trans hf⟩
 ·have:=(h2.lt k hk).1;omega
 ·have:=(h3.lt k hk).1;omega
 ·have:=(h8 k hk).1;omega
 ·have:=(h8 k hk).1;omega
 ·obtain⟨g1,g2,g3⟩:=h8 k hk;exact⟨g1,qyc g2 hf.size,g3⟩
theorem CsAt.snoc{w0:World}{b V:Nat}{a:Sx.Ex}{xs:List (Sx.Pa×Sx.Ex)}{W w1 w2 w3 w4 w9:World}(hb:b<w0.heap.size)(hV:w0.heap.size<V)(hres:Blk W w0.heap.size #[.int .i64 0,.int .i64 0,.string ⟨#[]⟩,.string ⟨#[]⟩,.slice none 0 0,.slice none 0 0] 32)(zb:But b w0 W)
  {ls:Option Addr}{cs:Nat}{xa:List Value}{lp:Option Addr}{cp:Nat}{xp:List Value}{F:Nat→Prop}(hVW:V<W.heap.size)
  (h2:W.ownsRow (w0.heap.size+1) 32 6 (.slice ls (xs.length+1) cs) (xs.length+1) xa)(h3:W.ownsRow (w0.heap.size+1) 37 3 (.slice lp xs.length cp) xs.length xp)(h4:ExsAt W F (a::xs.map Prod.snd) xa)(h5:PasAt W F (xs.map Prod.fst) xp)
  (h6 : ∀k,(Value.slice ls (xs.length+1) cs).ownBlock=some k→k≠V∧(Value.slice lp xs.length cp).ownBlock≠some k)(h7 : ∀k,(Value.slice lp xs.length cp).ownBlock=some k→k≠V)
  (h8 : ∀k,F k→w0.heap.size<k∧k<W.heap.size∧k≠V∧(Value.slice ls (xs.length+1) cs).ownBlock≠some k∧(Value.slice lp xs.length cp).ownBlock≠some k)
  (f1:But b W w1)(f2:But b w1 w2)(f3:But b w2 w3)(f4:But b w3 w4){p:Sx.Pa}{e:Sx.Ex}{wM:Int}{wX:ByteArray}{wN:Option Addr}{wW cap:Nat}{yF yV:Int}{yX yM:ByteArray}{yW:Option Addr}{yY yS:Nat}{yU:Option Addr}{yK yR:Nat}
  (hp:PaAt w1 (fun k=>W.heap.size≤k∧k<w1.heap.size) p (.agg #[.int .i64 wM,.string wX,.slice wN wW cap]))(he:ExAt w4 (fun k=>w3.heap.size≤k∧k<w4.heap.size) e (.agg #[.int .i64 yF,.int .i64 yV,.string yX,.string yM,.slice yW yY yS,.slice yU yK yR]))
  (F9:Fr (fun k=>k=V∨(Value.slice lp xs.length cp).ownBlock=some k∨(Value.slice ls (xs.length+1) cs).ownBlock=some k) w4 w9){gp fE ga uD:Nat}
  (k9:Blk w9 V #[.int .i64 8,.int .i64 0,.string ⟨#[]⟩,.string ⟨#[]⟩,.slice (some ⟨ga,0,none⟩) (xs.length+1+1) uD,.slice (some ⟨gp,0,none⟩) (xs.length+1) fE] 32)
  (oa:w9.ownsRow (w0.heap.size+1) 32 6 (.slice (some ⟨ga,0,none⟩) (xs.length+1+1) uD) (xs.length+1+1) (xa++[.int .i64 yF,.int .i64 yV,.string yX,.string yM,.slice yW yY yS,.slice yU yK yR]))(op:w9.ownsRow (w0.heap.size+1) 37 3 (.slice (some ⟨gp,0,none⟩) (xs.length+1) fE) (xs.length+1) (xp++[.int .i64 wM,.string wX,.slice wN wW cap]))
  (ej:(Value.slice ls (xs.length+1) cs).ownBlock=some ga∨w4.heap.size≤ga)(lI:(Value.slice lp xs.length cp).ownBlock=some gp∨w4.heap.size≤gp)(zh:ga≠gp):CsAt w0 b V a (xs++[(p,e)]) w9:=by
 have z1:=f1.size;have z2:=f2.size;have z3:=f3.size;have z4:=f4.size;have z9:=F9.size;have fT:=fun k hk=>h2.lt k hk;have fB:=fun k hk=>h3.lt k hk;have F0:Fr (fun k=>k=b∨k=V∨(Value.slice lp xs.length cp).ownBlock=some k∨(Value.slice ls (xs.length+1) cs).ownBlock=some k) W w9:=Fr.trans' ((Fr.trans f1 (Fr.trans f2 (Fr.trans f3 f4))).mono (fun k _ e=>.inl e)) F9 (fun k _ e=>.inr e);have F1:Fr (fun k=>k=b∨k=V∨(Value.slice lp xs.length cp).ownBlock=some k∨(Value.slice ls (xs.length+1) cs).ownBlock=some k) w1 w9:=Fr.trans' ((Fr.trans f2 (Fr.trans f3 f4)).mono (fun k _ e=>.inl e)) F9 (fun k _ e=>.inr e);have hFne : ∀k,F k→¬(k=b∨k=V∨(Value.slice lp xs.length cp).ownBlock=some k∨(Value.slice ls (xs.length+1) cs).ownBlock=some k):=by
  rintro k hk (e | e | e | e)
  ·have:=(h8 k hk).1;omega
  ·exact (h8 k hk).2.2.1 e
  ·exact (h8 k hk).2.2.2.2 e
  ·exact (h8 k hk).2.2.2.1 e
 have hl:(xs++[(p,e)]).length=xs.length+1:=by rw [qye,qyh]
 refine⟨hres.keep F0 ?_,⟨some ⟨ga,0,none⟩,uD,xa++[.int .i64 yF,.int .i64 yV,.string yX,.string yM,.slice yW yY yS,.slice yU yK yR],some ⟨gp,0,none⟩,fE,xp++[.int .i64 wM,.string wX,.slice wN wW cap],fun k=>F k∨(W.heap.size≤k∧k<w1.heap.size)∨(w3.heap.size≤k∧k<w4.heap.size),?_,?_,?_,?_,?_,?_,?_,?_⟩,zb.trans' F0 ?_⟩
 ·rintro (e | e | e | e)
  ·omega
  ·omega
  ·have:=fB _ e;omega
  ·have:=fT _ e;omega
 ·rw [hl];exact k9
 ·rw [hl];exact oa
 ·rw [hl];exact op
 ·rw [List.map_append];refine ExsAt.snoc (a::xs.map Prod.snd) xa e (.int .i64 yF) (.int .i64 yV) (.string yX) (.string yM) (.slice yW yY yS) (.slice yU yK yR) (ExsAt.more (fun k hk=>.inl hk) _ _ (h4.keep F0 hFne)) (ExAt.more (fun k hk=>.inr (.inr hk)) _ _ (he.keep F9 ?_));rintro k hk (e | e | e)
  ·omega
  ·have:=fB _ e;omega
  ·have:=fT _ e;omega
 ·rw [List.map_append];refine PasAt.snoc (xs.map Prod.fst) xp p (.int .i64 wM) (.string wX) (.slice wN wW cap) (PasAt.more (fun k hk=>.inl hk) _ _ (h5.keep F0 hFne)) (PaAt.more (fun k hk=>.inr (.inl hk)) _ _ (hp.keep F1 ?_));rintro k hk (e | e | e | e)
  ·omega
  ·omega
  ·have:=fB _ e;omega
  ·have:=fT _ e;omega
 ·intro k hk;have e':ga=k:=qyj (show some ga=some k from hk);subst e';refine⟨?_,fun e=>zh (qyj (show some gp=some ga from e)).symm⟩;rcases ej with h | h
  ·exact (h6 _ h).1
  ·omega
 ·intro k hk;have e':gp=k:=qyj (show some gp=some k from hk);subst e';rcases lI with h | h
  ·exact h7 _ h
  ·omega
 ·rintro k (hk | hk | hk)
  ·obtain⟨g1,g2,g3,g4,g5⟩:=h8 k hk;refine⟨g1,by omega,g3,fun e => ?_,fun e => ?_⟩
   ·have e':ga=k:=qyj (show some ga=some k from e);subst e';exact ej.elim g4 (fun h=>by omega)
   ·have e':gp=k:=qyj (show some gp=some k from e);subst e';exact lI.elim g5 (fun h=>by omega)
  ·have mj:=zb.size;refine⟨by omega,by omega,by omega,fun e => ?_,fun e => ?_⟩
   ·have e':ga=k:=qyj (show some ga=some k from e);rcases ej with h | h
    ·have:=fT _ h;omega
    ·omega
   ·have e':gp=k:=qyj (show some gp=some k from e);rcases lI with h | h
    ·have:=fB _ h;omega
    ·omega
  ·have mj:=zb.size;refine⟨by omega,by omega,by omega,fun e => ?_,fun e => ?_⟩
   ·have e':ga=k:=qyj (show some ga=some k from e);rcases ej with h | h
    ·have:=fT _ h;omega
    ·omega
   ·have e':gp=k:=qyj (show some gp=some k from e);rcases lI with h | h
    ·have:=fB _ h;omega
    ·omega
 ·rintro k hk (e | e | e | e)
  ·exact e
  ·omega
  ·have:=fB _ e;omega
  ·have:=fT _ e;omega
theorem zu6(b:Nat)(la:Option Addr)(lc:Nat)(L:List RT)(toks:List Lx.Tok)(len:Int)(hL:RtOf L toks len)(ex yz:List Lx.Tok→Sx.Res Sx.Ex)(pt:List Lx.Tok→Sx.Res Sx.Pa)(q:Nat)(yC : ∀(q':Nat) (W:World),q<q'→Rd W b la lc L q'→q'≤toks.length→Calls Tryz.prog 43 #[.pointer (some ⟨b,0,none⟩)] W (zaf ExAt b la lc L toks len (ex (toks.drop q')) q' W))(ew : ∀(q':Nat) (W:World),q<q'→Rd W b la lc L q'→q'≤toks.length→Calls Tryz.prog 43 #[.pointer (some ⟨b,0,none⟩)] W (zaf ExAt b la lc L toks len (yz (toks.drop q')) q' W))
  (hpt : ∀(q':Nat) (W:World),q<q'→Rd W b la lc L q'→q'≤toks.length→Calls Tryz.prog 49 #[.pointer (some ⟨b,0,none⟩)] W (zaf PaAt b la lc L toks len (pt (toks.drop q')) q' W))
  (N:Nat)(hN:toks.length-q≤N)(w:World)(h:Rd w b la lc L q)(hq:q≤toks.length)(M0:Sx.Res Sx.Ex)(HM:Hid (M0=Sx.case2E ex yz pt N (toks.drop q))) :
  Calls Tryz.prog 92 #[.pointer (some ⟨b,0,none⟩)] w (zaf ExAt b la lc L toks len M0 q w):=by
 have HL:=qya (show (⟨#[99,97,115,101]⟩:ByteArray).toList=Sx.zft from qyw [99,97,115,101]);have cx:=qya (show (⟨#[111,102]⟩:ByteArray).toList=Sx.wOf from qyw [111,102]);have HL3:=qya (show (⟨#[101,110,100]⟩:ByteArray).toList=Sx.wEnd from qyw [101,110,100]);have HL4:=qya (show (⟨#[61,62]⟩:ByteArray).toList=Sx.gives from qyw [61,62]);have HL5:=qya (show (⟨#[124]⟩:ByteArray).toList=[124] from qyw [124]);have HM:Hid (M0=(Sx.take Sx.zft (toks.drop q)).bind fun _ r=>(ex r).bind fun a r=>(Sx.take Sx.wOf r).bind fun _ r=>(Sx.row [124] (Sx.armE yz pt) N r).bind fun xs r=>Sx.endE a xs r):=HM;have few:L.length≤1000000:=h.few;have hlen:L.length=toks.length+1:=by rw [hL];simp
 have hb:=h.blk.lt;have qQ:=h.glt (by rw [hL];simp;omega);have O0:Old w (w.alloc (.cells #[.int .i64 0,.int .i64 0,.string ⟨#[]⟩,.string ⟨#[]⟩,.slice none 0 0,.slice none 0 0] 32)):=(Old.refl w).alloc _;have qD:=Blk.new w #[.int .i64 0,.int .i64 0,.string ⟨#[]⟩,.string ⟨#[]⟩,.slice none 0 0,.slice none 0 0] 32;have h0:=h.old O0;obtain⟨qp,qr⟩ : ∃qp,w.alloc (.cells #[.int .i64 0,.int .i64 0,.string ⟨#[]⟩,.string ⟨#[]⟩,.slice none 0 0,.slice none 0 0] 32)=qp:=⟨_,rfl⟩;have qw:qp.heap.size=w.heap.size+1:=by rw [← qr];simp
 rw [qr] at O0 qD h0;have vh:=qya qr;have qi:=qya qw;clear qr qw
 go_enter Tryz.func92,Tryz.ntmps92
 go_wp2_with fail
 rw [vh.out]
 (with_reducible refine (zbq qp b la lc L toks len hL q h0 hq ⟨#[99,97,115,101]⟩ Sx.zft HL.out (by decide)).mono ?_)
 rintro e w1 ⟨f1,hp⟩;cases hres:Sx.take Sx.zft (toks.drop q) with
 | bad rest=>
  rw [hres] at hp;have hp:e=panS (zah len rest):=hp;subst hp;have HR:=qya hres;clear hres;go_wp2;refine⟨rfl,Fr.trans (Old.but O0 b) f1,?_⟩;rw [HM.out,HR.out]
  try rfl
 | ok ww rest=>
  rw [hres] at hp;obtain⟨_,rfl,rfl,qq,xK,h1⟩:=hp;have HM:Hid (M0=(ex (toks.drop (q+1))).bind fun a r=>(Sx.take Sx.wOf r).bind fun _ r=>(Sx.row [124] (Sx.armE yz pt) N r).bind fun xs r=>Sx.endE a xs r):=qya (by rw [HM.out,hres,qq];try rfl);clear hres qq
  go_wp2_with fail
  (with_reducible refine (yC (q+1) w1 (by omega) h1 xK).mono ?_)
  rintro e w2 ⟨f2,hp⟩;cases hres:ex (toks.drop (q+1)) with
  | bad rest=>
   rw [hres] at hp;have hp:e=panS (zah len rest):=hp;subst hp;have HR:=qya hres;clear hres;go_wp2;refine⟨rfl,Fr.trans (Old.but O0 b) (Fr.trans f1 f2),?_⟩;rw [HM.out,HR.out]
   try rfl
  | ok zQ rest=>
   rw [hres] at hp;obtain⟨v2,q2,rfl,qq,jh,qo,h2,fP⟩:=hp;have HM:Hid (M0=(Sx.take Sx.wOf (toks.drop q2)).bind fun _ r=>(Sx.row [124] (Sx.armE yz pt) N r).bind fun xs r=>Sx.endE zQ xs r):=qya (by rw [HM.out,hres,qq];try rfl);clear hres qq;obtain⟨jg,jX,jU,jC,jF,jW,jP,jG,jY,jH,rfl⟩:=fP.parts;have o2:=(Old.refl w2).alloc (.cells #[.int .i64 jg,.int .i64 jX,.string jU,.string jC,.slice jF jW jP,.slice jG jY jH] 32);have wy:(w2.alloc (.cells #[.int .i64 jg,.int .i64 jX,.string jU,.string jC,.slice jF jW jP,.slice jG jY jH] 32)).heap.size=w2.heap.size+1:=qyd _ _;have kA:=Blk.new w2 #[.int .i64 jg,.int .i64 jX,.string jU,.string jC,.slice jF jW jP,.slice jG jY jH] 32;have gY:=qya wy;clear wy
   go_wp2_with fail
   (with_reducible refine (zbq _ b la lc L toks len hL q2 (h2.old o2) qo ⟨#[111,102]⟩ Sx.wOf cx.out (by decide)).mono ?_)
   rintro e w3 ⟨f3,hp⟩;cases hres:Sx.take Sx.wOf (toks.drop q2) with
   | bad rest=>
    rw [hres] at hp;have hp:e=panS (zah len rest):=hp;subst hp;have HR:=qya hres;clear hres;go_wp2;refine⟨rfl,Fr.trans (Old.but O0 b) (Fr.trans f1 (Fr.trans f2 (Fr.trans (Old.but o2 b) f3))),?_⟩;rw [HM.out,HR.out]
    try rfl
   | ok vC rest=>
    rw [hres] at hp;obtain⟨_,rfl,rfl,qq,uU,h3⟩:=hp;have HM:Hid (M0=Sx.zmj yz pt zQ [] N (toks.drop (q2+1))):=qya (by rw [HM.out,hres,qq];try rfl);clear hres qq;have wy:=gY.out;have qw:=qi.out;have z1:=f1.size;have z2:=f2.size;have z3:=f3.size;have kA3:=kA.keep f3 (by omega);obtain⟨hU,fI,fA,cH,cF,cG⟩:=kA3.c6;have uZ:But b qp w3:=Fr.trans f1 (Fr.trans f2 (Fr.trans (Old.but o2 b) f3));have xZ:=qD.keep uZ (by omega);have vw:=mkf;have HZ:=qya qw;have HV:Hid (w.heap.size<w3.heap.size+1):=qya (by omega);clear wy qw
    go_upto_block 0 with fail
    go_cut [5] from 17 to 37 (fun s5 wc=>∃(xs:List (Sx.Pa×Sx.Ex)) (p:Nat),CsAt w b (w3.heap.size+1) zQ xs wc∧Rd wc b la lc L p∧q<p∧p≤toks.length∧M0=Sx.endE zQ xs (toks.drop p))
    case first=>
     go_wp2_with fail
     go_loopg [5] (toks.length-(q2+1)+1) (fun g s5 wr=>∃(xs:List (Sx.Pa×Sx.Ex)) (m p:Nat),CsAt w b (w3.heap.size+1) zQ xs wr∧Rd wr b la lc L p∧q<p∧p≤toks.length∧xs.length≤p∧((s5=.bool true∧g=toks.length-p+1∧toks.length-p≤m∧M0=Sx.zmj yz pt zQ xs m (toks.drop p))∨(s5=.bool false∧g=0∧M0=Sx.endE zQ xs (toks.drop p))))
     case atStart=>
      have wy:=gY.out;have qw:=HZ.out;have O4:Old w3 ((w3.alloc (.cells #[.int .i64 jg,.int .i64 jX,.string jU,.string jC,.slice jF jW jP,.slice jG jY jH] 32)).alloc (.cells #[.int .i64 8,.int .i64 0,.string ⟨#[]⟩,.string ⟨#[]⟩,.slice (some ⟨w3.heap.size,0,none⟩) 1 1,.slice none 0 0] 32)):=((Old.refl w3).alloc _).alloc _;have kG:Blk ((w3.alloc (.cells #[.int .i64 jg,.int .i64 jX,.string jU,.string jC,.slice jF jW jP,.slice jG jY jH] 32)).alloc (.cells #[.int .i64 8,.int .i64 0,.string ⟨#[]⟩,.string ⟨#[]⟩,.slice (some ⟨w3.heap.size,0,none⟩) 1 1,.slice none 0 0] 32)) w3.heap.size #[.int .i64 jg,.int .i64 jX,.string jU,.string jC,.slice jF jW jP,.slice jG jY jH] 32:=(Blk.new w3 _ _).alloc _;have kV:Blk ((w3.alloc (.cells #[.int .i64 jg,.int .i64 jX,.string jU,.string jC,.slice jF jW jP,.slice jG jY jH] 32)).alloc (.cells #[.int .i64 8,.int .i64 0,.string ⟨#[]⟩,.string ⟨#[]⟩,.slice (some ⟨w3.heap.size,0,none⟩) 1 1,.slice none 0 0] 32)) (w3.heap.size+1) #[.int .i64 8,.int .i64 0,.string ⟨#[]⟩,.string ⟨#[]⟩,.slice (some ⟨w3.heap.size,0,none⟩) 1 1,.slice none 0 0] 32:=Blk.new' (by simp) _ _;have z4:=kV.lt;have zl:1≤maxLen:=(by decide);refine⟨[],N,q2+1,⟨xZ.keep O4 (fun e=>e),⟨some ⟨w3.heap.size,0,none⟩,1,[.int .i64 jg,.int .i64 jX,.string jU,.string jC,.slice jF jW jP,.slice jG jY jH],none,0,[],fun k=>w1.heap.size≤k∧k<w2.heap.size,kV,⟨rfl,.inr ⟨w3.heap.size,1,_,rfl,by omega,kG,qyb _,zl,rfl,rfl⟩⟩,⟨rfl,.inl ⟨rfl,rfl⟩⟩,?_,by show PasAt _ _ [] [];rw [PasAt],fun k hk => ?_,fun k hk=>(by cases hk),fun k hk => ?_⟩,Fr.trans (Old.but O0 b) (Fr.trans uZ (Old.but O4 b))⟩,h3.old O4,by omega,uU,qyi _,.inl ⟨rfl,rfl,by omega,HM.out⟩⟩
      ·exact ExsAt.one (((fP.keep o2 (fun _ _ e=>e)).keep f3 (fun k hk e=>by omega)).keep O4 (fun _ _ e=>e))
      ·have e':w3.heap.size=k:=qyj (show some w3.heap.size=some k from hk);exact⟨by omega,fun e=>by cases e⟩
      ·refine⟨by omega,by omega,by omega,fun e => ?_,fun e=>by cases e⟩;have e':w3.heap.size=k:=qyj (show some w3.heap.size=some k from e);omega
     case round=>
      obtain⟨xs,m,p,hC,hrp,gD,vW,xR,hcase⟩:=hrel;rcases hcase with ⟨rfl,hg,hm,xj⟩ | ⟨rfl,hg,xj⟩
      ·obtain⟨ls,cs,xa,lp,cp,xp,F,kV,oa,op,ta,tp,d1,d2,d3⟩:=hC.rows;have vD:=qya xj;have hVW:=kV.lt;have zb:=hC.but;have hCres:=hC.res;have mj:=zb.size;have HG:=qya hg;have xx:=qya hm;clear xj hg hm
       go_wp2_with fail
       (with_reducible refine (hpt p wr (by omega) hrp vW).mono ?_)
       rintro e w5 ⟨f5,hp⟩;cases hresP:pt (toks.drop p) with
       | bad rest=>
        rw [hresP] at hp;have hp:e=panS (zah len rest):=hp;subst hp;have HR:=qya hresP;clear hresP;go_wp2;refine⟨rfl,zb.trans f5,?_⟩;rw [vD.out,Sx.zjn yz pt (by unfold Sx.armE;rw [HR.out];rfl)]
       | ok pa rest=>
        rw [hresP] at hp;obtain⟨pv,p5,rfl,qq,bB,uf,h5,htp⟩:=hp;obtain⟨wM,wX,wN,wW,cap,rfl⟩:=htp.parts;have HP:=qya (hresP.trans (congrArg _ qq));clear hresP qq;have o5:=(Old.refl w5).alloc (.cells #[.int .i64 wM,.string wX,.slice wN wW cap] 37);have mB:(w5.alloc (.cells #[.int .i64 wM,.string wX,.slice wN wW cap] 37)).heap.size=w5.heap.size+1:=qyd _ _;have kP:=Blk.new w5 #[.int .i64 wM,.string wX,.slice wN wW cap] 37;have ZO5:=qya mB;clear mB
        go_wp2_with fail
        (with_reducible refine (zbq _ b la lc L toks len hL p5 (h5.old o5) uf ⟨#[61,62]⟩ Sx.gives HL4.out (by decide)).mono ?_)
        rintro e w6 ⟨f6,hp⟩;cases hresT:Sx.take Sx.gives (toks.drop p5) with
        | bad rest=>
         rw [hresT] at hp;have hp:e=panS (zah len rest):=hp;subst hp;have HR:=qya hresT;clear hresT;go_wp2;refine⟨rfl,zb.trans (Fr.trans f5 (Fr.trans (Old.but o5 b) f6)),?_⟩;rw [vD.out,Sx.zjn yz pt (r:=rest) (by unfold Sx.armE;rw [HP.out];show (Sx.take Sx.gives (toks.drop p5)).bind _=_;rw [HR.out];rfl)]
        | ok u rest=>
         rw [hresT] at hp;obtain⟨_,rfl,rfl,qq,hq6,h6⟩:=hp;have HT:=qya (hresT.trans (congrArg _ qq));clear hresT qq
         go_wp2_with fail
         (with_reducible refine (ew (p5+1) w6 (by omega) h6 hq6).mono ?_)
         rintro e w7 ⟨f7,hp⟩;cases hresE:yz (toks.drop (p5+1)) with
         | bad rest=>
          rw [hresE] at hp;have hp:e=panS (zah len rest):=hp;subst hp;have HR:=qya hresE;clear hresE;go_wp2;refine⟨rfl,zb.trans (Fr.trans f5 (Fr.trans (Old.but o5 b) (Fr.trans f6 f7))),?_⟩;rw [vD.out,Sx.zjn yz pt (r:=rest) (by unfold Sx.armE;rw [HP.out];show (Sx.take Sx.gives (toks.drop p5)).bind _=_;rw [HT.out];show (yz (toks.drop (p5+1))).map _=_;rw [HR.out];rfl)]
         | ok ee rest=>
          rw [hresE] at hp;obtain⟨ev,p7,rfl,qq,hlt7,lN,h7,rp⟩:=hp;obtain⟨yF,yV,yX,yM,yW,yY,yS,yU,yK,yR,rfl⟩:=rp.parts;have HA:Hid (Sx.armE yz pt (toks.drop p)=.ok (pa,ee) (toks.drop p7)):=qya (by unfold Sx.armE;rw [HP.out];show (Sx.take Sx.gives (toks.drop p5)).bind _=_;rw [HT.out];show (yz (toks.drop (p5+1))).map _=_;rw [hresE,qq];rfl);clear hresE qq;have mB:=ZO5.out;have z5:=f5.size;have z6:=f6.size;have z7:=f7.size;have HVo:=HV.out;have F57:But b wr w7:=Fr.trans f5 (Fr.trans (Old.but o5 b) (Fr.trans f6 f7));have z57:=F57.size;have oE:=(Old.refl w7).alloc (.cells #[.int .i64 yF,.int .i64 yV,.string yX,.string yM,.slice yW yY yS,.slice yU yK yR] 32);have zoE:(w7.alloc (.cells #[.int .i64 yF,.int .i64 yV,.string yX,.string yM,.slice yW yY yS,.slice yU yK yR] 32)).heap.size=w7.heap.size+1:=qyd _ _;have kE:=Blk.new w7 #[.int .i64 yF,.int .i64 yV,.string yX,.string yM,.slice yW yY yS,.slice yU yK yR] 32;have py:=(kV.keep F57 (by omega)).keep oE (fun e=>e);have kP7:=(kP.keep (Fr.trans f6 f7) (by omega)).keep oE (fun e=>e);have jQ:=fun k hk=>op.lt k hk;have fT:=fun k hk=>oa.lt k hk;have op7:=zaa op F57 (fun k hk e=>by have:=(jQ k hk).1;omega);have oa7:=zaa oa F57 (fun k hk e=>by have:=(fT k hk).1;omega);have opB:=(op7.alloc (.cells #[.int .i64 yF,.int .i64 yV,.string yX,.string yM,.slice yW yY yS,.slice yU yK yR] 32)).alloc (.cells #[.int .i64 wM,.string wX,.slice wN wW cap] 37);have oaB:=(oa7.alloc (.cells #[.int .i64 yF,.int .i64 yV,.string yX,.string yM,.slice yW yY yS,.slice yU yK yR] 32)).alloc (.cells #[.int .i64 wM,.string wX,.slice wN wW cap] 37);have kVB:=py.alloc (.cells #[.int .i64 wM,.string wX,.slice wN wW cap] 37);have kEB:=kE.alloc (.cells #[.int .i64 wM,.string wX,.slice wN wW cap] 37);have zB:((w7.alloc (.cells #[.int .i64 yF,.int .i64 yV,.string yX,.string yM,.slice yW yY yS,.slice yU yK yR] 32)).alloc (.cells #[.int .i64 wM,.string wX,.slice wN wW cap] 37)).heap.size=w7.heap.size+1+1:=(by rw [qyd,zoE]);have lC : ∀j u,[Value.int .i64 wM,Value.string wX,Value.slice wN wW cap][j]? = some u→((w7.alloc (.cells #[.int .i64 yF,.int .i64 yV,.string yX,.string yM,.slice yW yY yS,.slice yU yK yR] 32)).alloc (.cells #[.int .i64 wM,.string wX,.slice wN wW cap] 37)).cell? ((⟨w7.heap.size+1,0,none⟩:Addr).add j)=some u:=by
           have:=World.news_of_block (Blk.new (w7.alloc (.cells #[.int .i64 yF,.int .i64 yV,.string yX,.string yM,.slice yW yY yS,.slice yU yK yR] 32)) #[.int .i64 wM,.string wX,.slice wN wW cap] 37)
           rwa [zoE] at this
          obtain⟨iP,hiP,hzP,hzP1,hzP2⟩:=info_parts zya;obtain⟨iE,hiE,hzE,ry,rx⟩:=info_parts zyb;have sY:xs.length≤1000000:=(by omega);have kvf0:=py.c 4 (.slice ls (xs.length+1) cs) rfl;have kvf1:=py.c 5 (.slice lp xs.length cp) rfl;obtain⟨kpf0,kpf1,kpf2⟩:=kP7.c3;have HZo:=qya mB;have hVE : ¬(w7.heap.size=w3.heap.size+1):=(by omega);have hVE2 : ¬(w3.heap.size+1=w7.heap.size):=(by omega);have hlV:w3.heap.size+1<w7.heap.size:=(by omega);have gvf4:=py.free 4;have gvf5:=py.free 5;clear mB
          go_wp2_with (first | (at_builtin;refine Stop.out ?_) | fail)
          refine Stop.mk ?_;refine wpList_append_lies _ rfl _ _ 30 rfl (w.heap.size+1) 37 iP (.agg #[.int .i64 0,.string ⟨#[]⟩,.slice none 0 0]) 3 48 Tryz.underlying30 hiP hzP hzP1 hzP2 rfl (by decide) _ xs.length xp rfl opB ⟨w7.heap.size+1,0,none⟩ 1 1 [.int .i64 wM,.string wX,.slice wN wW cap] rfl rfl lC (by intro u hu;simp at hu;rcases hu with rfl | rfl | rfl <;> rfl) (by decide) (by unfold maxLen;omega) (by omega) (by omega) (w7.heap.size+1+1) zB ?_;intro gp fE w8 op8 t9 fb hlt8;have fb:(Value.slice lp xs.length cp).ownBlock=some gp∨gp=w7.heap.size+1+1:=fb;have F8:Fr (fun k=>(Value.slice lp xs.length cp).ownBlock=some k) ((w7.alloc (.cells #[.int .i64 yF,.int .i64 yV,.string yX,.string yM,.slice yW yY yS,.slice yU yK yR] 32)).alloc (.cells #[.int .i64 wM,.string wX,.slice wN wW cap] 37)) w8:=(Fr.refl _ _).grown t9 (fun k e _=>e);have lh:=kVB.keep F8 (fun e=>d2 _ e rfl);have pA:=kEB.keep F8 (fun e=>by have:=(jQ _ e).2;omega);have oa8:=zaa oaB F8 (fun k hk e=>(d1 k hk).2 e);have lA:gp≠w3.heap.size+1:=by
           rcases fb with h | h
           ·exact d2 _ h
           ·omega
          have v8_4:=lh.c 4 (.slice ls (xs.length+1) cs) rfl;have v8_5:=lh.c 5 (.slice lp xs.length cp) rfl;have g8_5:=lh.free 5;have g8_4:=lh.free 4;have l8:=lh.lt;obtain⟨e8_0,e8_1,e8_2,e8_3,e8_4,e8_5⟩:=pA.c6;have z8:=F8.size;have FV5:Fr (fun k=>k=w3.heap.size+1) w8 (w8.setCell ⟨w3.heap.size+1,5,none⟩ (.slice (some ⟨gp,0,none⟩) (xs.length+1) fE)):=(Fr.refl (fun k=>k=w3.heap.size+1) w8).setCell ⟨w3.heap.size+1,5,none⟩ (fun _=>rfl) _;have zV5:(w8.setCell ⟨w3.heap.size+1,5,none⟩ (.slice (some ⟨gp,0,none⟩) (xs.length+1) fE)).heap.size=w8.heap.size:=(by simp);have oaC:=(zaa oa8 FV5 (fun k hk e=>(d1 k hk).1 e)).alloc (.cells #[.int .i64 yF,.int .i64 yV,.string yX,.string yM,.slice yW yY yS,.slice yU yK yR] 32);have opC:=(zaa op8 FV5 (fun k hk e=>by cases hk;exact lA e)).alloc (.cells #[.int .i64 yF,.int .i64 yV,.string yX,.string yM,.slice yW yY yS,.slice yU yK yR] 32);have kVC:=(Blk.set lh 5 (.slice (some ⟨gp,0,none⟩) (xs.length+1) fE)).alloc (.cells #[.int .i64 yF,.int .i64 yV,.string yX,.string yM,.slice yW yY yS,.slice yU yK yR] 32);have zC:((w8.setCell ⟨w3.heap.size+1,5,none⟩ (.slice (some ⟨gp,0,none⟩) (xs.length+1) fE)).alloc (.cells #[.int .i64 yF,.int .i64 yV,.string yX,.string yM,.slice yW yY yS,.slice yU yK yR] 32)).heap.size=w8.heap.size+1:=(by rw [qyd,zV5]);have bD : ∀j u,[Value.int .i64 yF,Value.int .i64 yV,Value.string yX,Value.string yM,Value.slice yW yY yS,Value.slice yU yK yR][j]? = some u→((w8.setCell ⟨w3.heap.size+1,5,none⟩ (.slice (some ⟨gp,0,none⟩) (xs.length+1) fE)).alloc (.cells #[.int .i64 yF,.int .i64 yV,.string yX,.string yM,.slice yW yY yS,.slice yU yK yR] 32)).cell? ((⟨w8.heap.size,0,none⟩:Addr).add j)=some u:=by
           have:=World.news_of_block (Blk.new (w8.setCell ⟨w3.heap.size+1,5,none⟩ (.slice (some ⟨gp,0,none⟩) (xs.length+1) fE)) #[.int .i64 yF,.int .i64 yV,.string yX,.string yM,.slice yW yY yS,.slice yU yK yR] 32)
           rwa [zV5] at this
          go_wp2_with (first | (at_builtin;refine Stop.out ?_) | fail)
          refine Stop.mk ?_;refine wpList_append_lies _ rfl _ _ 29 rfl (w.heap.size+1) 32 iE (.agg #[.int .i64 0,.int .i64 0,.string ⟨#[]⟩,.string ⟨#[]⟩,.slice none 0 0,.slice none 0 0]) 6 96 Tryz.underlying29 hiE hzE ry rx rfl (by decide) _ (xs.length+1) xa rfl oaC ⟨w8.heap.size,0,none⟩ 1 1 [.int .i64 yF,.int .i64 yV,.string yX,.string yM,.slice yW yY yS,.slice yU yK yR] rfl rfl bD (by intro u hu;simp at hu;rcases hu with rfl | rfl | rfl | rfl | rfl | rfl <;> rfl) (by decide) (by unfold maxLen;omega) (by omega) (by omega) (w8.heap.size+1) zC ?_;intro ga uD w9 oa9 hg9 dG hlt9;have dG:(Value.slice ls (xs.length+1) cs).ownBlock=some ga∨ga=w8.heap.size+1:=dG;have F9:Fr (fun k=>(Value.slice ls (xs.length+1) cs).ownBlock=some k) ((w8.setCell ⟨w3.heap.size+1,5,none⟩ (.slice (some ⟨gp,0,none⟩) (xs.length+1) fE)).alloc (.cells #[.int .i64 yF,.int .i64 yV,.string yX,.string yM,.slice yW yY yS,.slice yU yK yR] 32)) w9:=(Fr.refl _ _).grown hg9 (fun k e _=>e);have kV9:=kVC.keep F9 (fun e=>(d1 _ e).1 rfl);have v9_4:=kV9.c 4 (.slice ls (xs.length+1) cs) rfl;have g9_4:=kV9.free 4;have l9:=kV9.lt
          go_wp2_with fail
          have FP7:Fr (fun k=>k=w3.heap.size+1∨(Value.slice lp xs.length cp).ownBlock=some k∨(Value.slice ls (xs.length+1) cs).ownBlock=some k) w7 ((w7.alloc (.cells #[.int .i64 yF,.int .i64 yV,.string yX,.string yM,.slice yW yY yS,.slice yU yK yR] 32)).alloc (.cells #[.int .i64 wM,.string wX,.slice wN wW cap] 37)):=((Fr.refl _ w7).alloc _).alloc _;have FV4:Fr (fun k=>k=w3.heap.size+1) w9 (w9.setCell ⟨w3.heap.size+1,4,none⟩ (.slice (some ⟨ga,0,none⟩) (xs.length+1+1) uD)):=(Fr.refl (fun k=>k=w3.heap.size+1) w9).setCell ⟨w3.heap.size+1,4,none⟩ (fun _=>rfl) _;have F79:=Fr.trans' (Fr.trans' (Fr.trans' (Fr.trans' FP7 F8 (fun k _ e=>.inr (.inl e))) (FV5.alloc (.cells #[.int .i64 yF,.int .i64 yV,.string yX,.string yM,.slice yW yY yS,.slice yU yK yR] 32)) (fun k _ e=>.inl e)) F9 (fun k _ e=>.inr (.inr e))) FV4 (fun k _ e=>.inl e);have hgaV:ga≠w3.heap.size+1:=by
           rcases dG with h | h
           ·exact (d1 _ h).1
           ·omega
          have ej:(Value.slice ls (xs.length+1) cs).ownBlock=some ga∨w7.heap.size≤ga:=dG.imp id (fun h=>by omega);have lI:(Value.slice lp xs.length cp).ownBlock=some gp∨w7.heap.size≤gp:=fb.imp id (fun h=>by omega);have zh:ga≠gp:=by
           intro e;rcases dG with h | h
           ·rcases fb with h' | h'
            ·exact (d1 _ h).2 (by rw [e];exact h')
            ·have:=fT _ h;omega
           ·rcases fb with h' | h'
            ·have:=jQ _ h';omega
            ·omega
          have oa10:=zaa oa9 FV4 (fun k hk e=>by cases hk;exact hgaV e);have op10:=zaa (zaa opC F9 (fun k hk e=>by
           have e':gp=k:=qyj (show some gp=some k from hk);subst e';rcases fb with h' | h'
           ·exact (d1 _ e).2 h'
           ·have:=fT _ e;omega)) FV4 (fun k hk e=>by cases hk;exact lA e)
          have k10:Blk (w9.setCell ⟨w3.heap.size+1,4,none⟩ (.slice (some ⟨ga,0,none⟩) (xs.length+1+1) uD)) (w3.heap.size+1) #[.int .i64 8,.int .i64 0,.string ⟨#[]⟩,.string ⟨#[]⟩,.slice (some ⟨ga,0,none⟩) (xs.length+1+1) uD,.slice (some ⟨gp,0,none⟩) (xs.length+1) fE] 32:=by
           have:=Blk.set kV9 4 (.slice (some ⟨ga,0,none⟩) (xs.length+1+1) uD);simpa only [qxd,qxe,qxf] using this
          have eV:CsAt w b (w3.heap.size+1) zQ (xs++[(pa,ee)]) (w9.setCell ⟨w3.heap.size+1,4,none⟩ (.slice (some ⟨ga,0,none⟩) (xs.length+1+1) uD)):=CsAt.snoc hb HVo hCres zb hVW oa op ta tp d1 d2 d3 f5 (Old.but o5 b) f6 f7 htp rp F79 k10 oa10 op10 ej lI zh;have tr:=h7.keep F79 (by
           rintro (e | e | e)
           ·omega
           ·have:=jQ _ e;omega
           ·have:=fT _ e;omega) (fun g' kI=>by
           have:=qQ g' kI;rintro (e | e | e)
           ·omega
           ·have:=jQ _ e;omega
           ·have:=fT _ e;omega)
          obtain⟨cC,fq⟩ : ∃cC,w9.setCell ⟨w3.heap.size+1,4,none⟩ (.slice (some ⟨ga,0,none⟩) (xs.length+1+1) uD)=cC:=⟨_,rfl⟩;rw [fq] at eV tr ⊢;obtain⟨x,hx⟩ : ∃x,L[p7]? = some x:=⟨_,List.getElem?_eq_getElem (by omega)⟩;obtain⟨jb,hd2,-⟩:=zc2 hL hx lN;have HX:=qya hx;have H2:=qya hd2;have hlx:(xs++[(pa,ee)]).length=xs.length+1:=(by rw [qye,qyh]);have HLX:=qya hlx;clear hlx hx jb hd2 fq FP7 FV4 F79 hgaV ej lI zh oa10 op10 k10 kV9 v9_4 g9_4 l9 F9 dG hlt9 hg9 oa9 bD zC kVC opC oaC zV5 FV5 z8 e8_0 e8_1 e8_2 e8_3 e8_4 e8_5 l8 g8_4 g8_5 v8_4 v8_5 lA oa8 pA lh F8 fb op8 t9 hlt8;clear kEB kVB oaB opB oa7 op7 kP7 py kE oE;have HG':=HG;cases hc:(x.s.toList == [124])
          ·(with_reducible refine (ze6 cC b la lc L p7 tr x HX.out ⟨#[124]⟩ (by rw [HL5.out];exact hc)).mono ?_)
           rintro e w11 ⟨rfl,fF⟩
           go_wp2_with fail
           go_roundg 0
           case measure=>have:=HG.out;omega
           case rel=>
            refine⟨xs++[(pa,ee)],m,p7,eV.old hb HV.out (fF.but b),tr.old fF,by omega,lN,by rw [HLX.out];omega,.inr ⟨rfl,rfl,?_⟩⟩;rw [vD.out];exact Sx.zs0 yz pt HA.out (by rw [H2.out];simpa using hc)
          ·(with_reducible refine (zd0 cC b la lc L p7 tr x HX.out ⟨#[124]⟩ (by rw [HL5.out];exact hc)).mono ?_)
           rintro e w11 ⟨rfl,h11,uL⟩;have vU:=zbb hL HX.out lN (by decide) hc;obtain⟨m',hm'⟩ : ∃m',m=m'+1:=⟨m-1,by have:=xx.out;omega⟩;have HMm:=qya hm';clear hm'
           go_wp2_with fail
           go_roundg (toks.length-(p7+1)+1)
           case measure=>have:=HG.out;omega
           case rel=>
            refine⟨xs++[(pa,ee)],m',p7+1,eV.old hb HV.out uL,h11,by omega,by omega,by rw [HLX.out];omega,.inl ⟨rfl,rfl,by have:=xx.out;have:=HMm.out;omega,?_⟩⟩;rw [vD.out,HMm.out,Sx.zsz yz pt HA.out (by rw [H2.out];simpa using hc),qys]
      ·have vD:=qya xj;clear xj
       go_wp2_with fail
       go_meet
       case rel=>exact⟨xs,p,hC,hrp,gD,vW,vD.out⟩
    case rest=>
     obtain⟨xs,p,hC,hrp,gD,vW,xj⟩:=hcut;have HM:Hid (M0=(Sx.take Sx.wEnd (toks.drop p)).map fun _=>.mk 8 0 [] [] (zQ::xs.map Prod.snd) (xs.map Prod.fst)):=qya xj;clear xj
     go_wp2_with fail
     (with_reducible refine (zbq wc b la lc L toks len hL p hrp vW ⟨#[101,110,100]⟩ Sx.wEnd HL3.out (by decide)).mono ?_)
     rintro e w5 ⟨f5,hp⟩;cases hres:Sx.take Sx.wEnd (toks.drop p) with
     | bad rest=>
      rw [hres] at hp;have hp:e=panS (zah len rest):=hp;subst hp;have HR:=qya hres;clear hres;go_wp2;refine⟨rfl,hC.but.trans f5,?_⟩;rw [HM.out,HR.out]
      try rfl
     | ok xJ rest=>
      rw [hres] at hp;obtain⟨_,rfl,rfl,qq,hq5,h5⟩:=hp;have HM:Hid (M0=.ok (.mk 8 0 [] [] (zQ::xs.map Prod.snd) (xs.map Prod.fst)) (toks.drop (p+1))):=qya (by rw [HM.out,hres,qq];try rfl);clear hres qq;have HVo:=HV.out;have hC5:=hC.old hb HVo f5;obtain⟨ls,cs,xa,lp,cp,xp,F,kV,oa,op,ta,tp,d1,d2,d3⟩:=hC5.rows;have zb:=hC5.but;obtain⟨vv0,vv1,vv2,vv3,vv4,vv5⟩:=kV.c6;obtain⟨vM,kp,kr,kJ,ko,ki⟩:=hC5.res.c6;obtain⟨kq,kn,ke,xk,xv,xz⟩:=hC5.res.f6;have qJ:=hC5.res.lt;go_wp2;obtain⟨Wf,qv,S2,k3,zD⟩:=hC5.res.put6 (.int .i64 8) (.int .i64 0) (.string ⟨#[]⟩) (.string ⟨#[]⟩) (.slice ls (xs.length+1) cs) (.slice lp xs.length cp);rw [qv];clear qv;obtain⟨qP,qC,qA,jv,jz,jj⟩:=k3.c6;refine bodyPost_ret (v:=.agg #[.int .i64 8,.int .i64 0,.string ⟨#[]⟩,.string ⟨#[]⟩,.slice ls (xs.length+1) cs,.slice lp xs.length cp]) (by simp [results,Tryz.results92,go_sem,qP,qC,qA,jv,jz,jj]) rfl ?_;have S3:=S2;have z9:=S3.size;have fT:=fun k hk=>oa.lt k hk;have fB:=fun k hk=>op.lt k hk;refine⟨zb.trans' S3 (fun k hk e=>by omega),?_⟩;rw [HM.out];refine⟨_,p+1,rfl,rfl,by omega,hq5,h5.keep S3 (by omega) (fun g hg=>by have:=qQ g hg;omega),?_⟩;rw [ExAt];refine⟨_,xa,_,xp,rfl,?_,ExsAt.more (fun k hk=>⟨Nat.le_of_lt (d3 k hk).1,qyc (d3 k hk).2.1 z9⟩) _ _ (ta.keep S3 (fun k hk e=>by have:=(d3 k hk).1;omega)),?_,PasAt.more (fun k hk=>⟨Nat.le_of_lt (d3 k hk).1,qyc (d3 k hk).2.1 z9⟩) _ _ (tp.keep S3 (fun k hk e=>by have:=(d3 k hk).1;omega))⟩
      ·rw [qxh,List.length_map];exact⟨zaa (oa.mono (qyi _)) S3 (fun k hk e=>by have:=(fT k hk).1;omega),fun k hk=>⟨by have:=(fT k hk).1;omega,qyc (fT k hk).2 z9⟩⟩
      ·rw [List.length_map];exact⟨zaa (op.mono (qyi _)) S3 (fun k hk e=>by have:=(fB k hk).1;omega),fun k hk=>⟨by have:=(fB k hk).1;omega,qyc (fB k hk).2 z9⟩⟩
def Sx.exprE(ex yz cp:List Lx.Tok→Sx.Res Sx.Ex)(pt:List Lx.Tok→Sx.Res Sx.Pa)(l:List Lx.Tok):Sx.Res Sx.Ex:=
 if (Sx.hd l).text=Sx.wFn then Sx.fnE ex l else if (Sx.hd l).text=Sx.wLet then Sx.letE ex l else if (Sx.hd l).text=Sx.zft then Sx.case2E ex yz pt l.length l else if (Sx.hd l).text=Sx.wIf then Sx.ifE ex l else cp l
theorem Sx.arm_is(f:Nat):Sx.arm (f+1)=Sx.armE (Sx.expr f) (fun l=>Sx.pat (4*l.length+4) l):=by
 funext l
 rw [Sx.arm];rfl
theorem Sx.expr_is(f:Nat)(l:List Lx.Tok):Sx.expr (f+2) l=Sx.exprE (Sx.expr (f+1)) (Sx.expr f) (Sx.comp (f+1)) (fun l=>Sx.pat (4*l.length+4) l) l:=by
 rw [Sx.expr,Sx.exprE]
 by_cases h1:(Sx.hd l).text=Sx.wFn
 ·rw [if_pos h1,if_pos h1,Sx.fnE,Sx.take,if_pos h1];rfl
 ·rw [if_neg h1,if_neg h1]
  by_cases h2:(Sx.hd l).text=Sx.wLet
  ·rw [if_pos h2,if_pos h2,Sx.letE,Sx.take,if_pos h2];show _=if (Sx.hd l.tail).text=Sx.wFun then _ else _
   by_cases h3:(Sx.hd l.tail).text=Sx.wFun
   ·rw [if_pos h3,if_pos h3];unfold Sx.funE Sx.zhq Sx.zf3;cases Sx.zag 2 l.tail.tail with
    | bad r=>rfl
    | ok n r=>
     show (Sx.zag 2 r).bind _=(((Sx.zag 2 r).bind _).map _).bind _;cases Sx.zag 2 r with
     | bad r=>rfl
     | ok x r=>
      show (Sx.take [61] r).bind _=(((Sx.take [61] r).bind _).map _).bind _;cases Sx.take [61] r with
      | bad r=>rfl
      | ok u r=>
       show (Sx.expr (f+1) r).bind _=(((Sx.expr (f+1) r).map _).map _).bind _;cases Sx.expr (f+1) r with
       | bad r=>rfl
       | ok a r=>
        show (Sx.take Sx.wIn r).bind _=((Sx.take Sx.wIn r).bind _).map _;cases Sx.take Sx.wIn r with
        | bad r=>rfl
        | ok u r=>
         show (Sx.expr (f+1) r).map _=((Sx.expr (f+1) r).map _).map _;cases Sx.expr (f+1) r <;> rfl
   ·rw [if_neg h3,if_neg h3];unfold Sx.zhq Sx.zf3;cases Sx.zag 2 l.tail with
    | bad r=>rfl
    | ok n r=>
     show (Sx.take [61] r).bind _=((Sx.take [61] r).bind _).bind _;cases Sx.take [61] r with
     | bad r=>rfl
     | ok u r=>
      show (Sx.expr (f+1) r).bind _=((Sx.expr (f+1) r).map _).bind _;cases Sx.expr (f+1) r with
      | bad r=>rfl
      | ok a r=>
       show (Sx.take Sx.wIn r).bind _=((Sx.take Sx.wIn r).bind _).map _;cases Sx.take Sx.wIn r with
       | bad r=>rfl
       | ok u r=>
        show (Sx.expr (f+1) r).map _=((Sx.expr (f+1) r).map _).map _;cases Sx.expr (f+1) r <;> rfl
  ·rw [if_neg h2,if_neg h2]
   by_cases h3:(Sx.hd l).text=Sx.zft
   ·rw [if_pos h3,if_pos h3,Sx.case2E,Sx.take,if_pos h3,Sx.arm_is];rfl
   ·rw [if_neg h3,if_neg h3]
    by_cases h4:(Sx.hd l).text=Sx.wIf
    ·rw [if_pos h4,if_pos h4,Sx.ifE,Sx.take,if_pos h4];rfl
    ·rw [if_neg h4,if_neg h4]
theorem zuu(b:Nat)(la:Option Addr)(lc:Nat)(L:List RT)(toks:List Lx.Tok)(len:Int)(hL:RtOf L toks len)(ex yz cp:List Lx.Tok→Sx.Res Sx.Ex)(pt:List Lx.Tok→Sx.Res Sx.Pa)(q:Nat)(yC : ∀(q':Nat) (W:World),q<q'→Rd W b la lc L q'→q'≤toks.length→Calls Tryz.prog 43 #[.pointer (some ⟨b,0,none⟩)] W (zaf ExAt b la lc L toks len (ex (toks.drop q')) q' W))(ew : ∀(q':Nat) (W:World),q<q'→Rd W b la lc L q'→q'≤toks.length→Calls Tryz.prog 43 #[.pointer (some ⟨b,0,none⟩)] W (zaf ExAt b la lc L toks len (yz (toks.drop q')) q' W))
  (hpt : ∀(q':Nat) (W:World),q<q'→Rd W b la lc L q'→q'≤toks.length→Calls Tryz.prog 49 #[.pointer (some ⟨b,0,none⟩)] W (zaf PaAt b la lc L toks len (pt (toks.drop q')) q' W))
  (hcp : ∀(W:World),Rd W b la lc L q→Calls Tryz.prog 94 #[.pointer (some ⟨b,0,none⟩)] W (zaf ExAt b la lc L toks len (cp (toks.drop q)) q W))
  (w:World)(h:Rd w b la lc L q)(hq:q≤toks.length)(M0:Sx.Res Sx.Ex)(HM:Hid (M0=Sx.exprE ex yz cp pt (toks.drop q))) :
  Calls Tryz.prog 43 #[.pointer (some ⟨b,0,none⟩)] w (zaf ExAt b la lc L toks len M0 q w):=by
 obtain⟨x,hx⟩ : ∃x,L[q]? = some x:=⟨_,List.getElem?_eq_getElem (by rw [hL];simp;omega)⟩;obtain⟨jb,hd2,vj⟩:=zc2 hL hx hq;have HM:Hid (M0=if x.s.toList=[102,110] then Sx.fnE ex (toks.drop q) else if x.s.toList=[108,101,116] then Sx.letE ex (toks.drop q) else if x.s.toList=[99,97,115,101] then Sx.case2E ex yz pt (toks.length-q) (toks.drop q) else if x.s.toList=[105,102] then Sx.ifE ex (toks.drop q) else cp (toks.drop q)):=qya (by rw [HM.out,Sx.exprE,hd2,qym];rfl);have HX:=qya hx;have ht:=zfj x;clear hx jb hd2 vj;have hb:=h.blk.lt;have qQ:=h.glt (by rw [hL];simp;omega);have O0:Old w (w.alloc (.cells #[.int .i64 0,.int .i64 0,.string ⟨#[]⟩,.string ⟨#[]⟩,.slice none 0 0,.slice none 0 0] 32)):=(Old.refl w).alloc _;have qD:=Blk.new w #[.int .i64 0,.int .i64 0,.string ⟨#[]⟩,.string ⟨#[]⟩,.slice none 0 0,.slice none 0 0] 32;have h0:=h.old O0;obtain⟨qp,qr⟩ : ∃qp,w.alloc (.cells #[.int .i64 0,.int .i64 0,.string ⟨#[]⟩,.string ⟨#[]⟩,.slice none 0 0,.slice none 0 0] 32)=qp:=⟨_,rfl⟩;have qw:qp.heap.size=w.heap.size+1:=by rw [← qr];simp
 rw [qr] at O0 qD h0;have vh:=qya qr;have qi:=qya qw;clear qr qw
 go_enter Tryz.func43,Tryz.ntmps43
 go_wp2_with fail
 rw [vh.out]
 (with_reducible refine (zbt qp b la lc L q h0 x HX.out).mono ?_)
 rintro e w1 ⟨rfl,O1⟩;have h1:=h0.old O1;cases hc0:(x.s.toList == [102,110])
 ·skip
  cases hc1:(x.s.toList == [108,101,116])
  ·skip
   cases hc2:(x.s.toList == [99,97,115,101])
   ·skip
    cases hc3:(x.s.toList == [105,102])
    ·have HM:Hid (M0=cp (toks.drop q)):=qya (by rw [HM.out,if_neg (by simpa using hc0),if_neg (by simpa using hc1),if_neg (by simpa using hc2),if_neg (by simpa using hc3)])
     go_wp2_with fail
     (with_reducible refine (hcp w1 h1).mono ?_)
     rintro e w5 ⟨f5,hp⟩;cases hres:cp (toks.drop q) with
     | bad rest=>
      rw [hres] at hp;have hp:e=panS (zah len rest):=hp;subst hp;have HR:=qya hres;clear hres;go_wp2;refine⟨rfl,Fr.trans (Old.but O0 b) (Fr.trans (Old.but O1 b) f5),?_⟩;rw [HM.out,HR.out]
      try rfl
     | ok xJ rest=>
      rw [hres] at hp;obtain⟨v5,q2,rfl,qq,jh,qo,h5,xV⟩:=hp;have HM:Hid (M0=.ok xJ (toks.drop q2)):=qya (by rw [HM.out,hres,qq];try rfl);clear hres qq;obtain⟨vn,vd,zE,vl,vq,zA,zS,zH,zL,zN,rfl⟩:=xV.parts;have wx:But b qp w5:=Fr.trans (Old.but O1 b) f5;have z1:=O1.size;have z5:=f5.size;have qw:=qi.out;have j4:=qD.keep wx (by omega);obtain⟨vM,kp,kr,kJ,ko,ki⟩:=j4.c6;obtain⟨kq,kn,ke,xk,xv,xz⟩:=j4.f6;have qJ:=j4.lt;clear qw;go_wp2;obtain⟨Wf,qv,S2,k3,zD⟩:=j4.put6 (.int .i64 vn) (.int .i64 vd) (.string zE) (.string vl) (.slice vq zA zS) (.slice zH zL zN);rw [qv];clear qv;obtain⟨qP,qC,qA,jv,jz,jj⟩:=k3.c6;refine bodyPost_ret (v:=.agg #[.int .i64 vn,.int .i64 vd,.string zE,.string vl,.slice vq zA zS,.slice zH zL zN]) (by simp [results,Tryz.results43,go_sem,qP,qC,qA,jv,jz,jj]) rfl ?_;have S3:=S2;have qw:=qi.out;refine⟨(Fr.trans (Old.but O0 b) wx).trans' S3 (fun k hk e=>by omega),?_⟩;rw [HM.out];exact⟨_,q2,rfl,rfl,by omega,qo,h5.keep S3 (by omega) (fun g hg=>by have:=qQ g hg;omega),ExAt.more (fun k hk=>⟨by omega,qyc hk.2 S3.size⟩) _ _ (xV.keep S3 (fun k hk e=>by omega))⟩
    ·have HM:Hid (M0=Sx.ifE ex (toks.drop q)):=qya (by rw [HM.out,if_neg (by simpa using hc0),if_neg (by simpa using hc1),if_neg (by simpa using hc2),if_pos (by simpa using hc3)])
     go_wp2_with fail
     (with_reducible refine (zst b la lc L toks len hL ex q yC w1 h1 hq _ (qya rfl)).mono ?_)
     rintro e w5 ⟨f5,hp⟩;cases hres:Sx.ifE ex (toks.drop q) with
     | bad rest=>
      rw [hres] at hp;have hp:e=panS (zah len rest):=hp;subst hp;have HR:=qya hres;clear hres;go_wp2;refine⟨rfl,Fr.trans (Old.but O0 b) (Fr.trans (Old.but O1 b) f5),?_⟩;rw [HM.out,HR.out]
      try rfl
     | ok xJ rest=>
      rw [hres] at hp;obtain⟨v5,q2,rfl,qq,jh,qo,h5,xV⟩:=hp;have HM:Hid (M0=.ok xJ (toks.drop q2)):=qya (by rw [HM.out,hres,qq];try rfl);clear hres qq;obtain⟨vn,vd,zE,vl,vq,zA,zS,zH,zL,zN,rfl⟩:=xV.parts;have wx:But b qp w5:=Fr.trans (Old.but O1 b) f5;have z1:=O1.size;have z5:=f5.size;have qw:=qi.out;have j4:=qD.keep wx (by omega);obtain⟨vM,kp,kr,kJ,ko,ki⟩:=j4.c6;obtain⟨kq,kn,ke,xk,xv,xz⟩:=j4.f6;have qJ:=j4.lt;clear qw;go_wp2;obtain⟨Wf,qv,S2,k3,zD⟩:=j4.put6 (.int .i64 vn) (.int .i64 vd) (.string zE) (.string vl) (.slice vq zA zS) (.slice zH zL zN);rw [qv];clear qv;obtain⟨qP,qC,qA,jv,jz,jj⟩:=k3.c6;refine bodyPost_ret (v:=.agg #[.int .i64 vn,.int .i64 vd,.string zE,.string vl,.slice vq zA zS,.slice zH zL zN]) (by simp [results,Tryz.results43,go_sem,qP,qC,qA,jv,jz,jj]) rfl ?_;have S3:=S2;have qw:=qi.out;refine⟨(Fr.trans (Old.but O0 b) wx).trans' S3 (fun k hk e=>by omega),?_⟩;rw [HM.out];exact⟨_,q2,rfl,rfl,by omega,qo,h5.keep S3 (by omega) (fun g hg=>by have:=qQ g hg;omega),ExAt.more (fun k hk=>⟨by omega,qyc hk.2 S3.size⟩) _ _ (xV.keep S3 (fun k hk e=>by omega))⟩
   ·have HM:Hid (M0=Sx.case2E ex yz pt (toks.length-q) (toks.drop q)):=qya (by rw [HM.out,if_neg (by simpa using hc0),if_neg (by simpa using hc1),if_pos (by simpa using hc2)])
    go_wp2_with fail
    (with_reducible refine (zu6 b la lc L toks len hL ex yz pt q yC ew hpt (toks.length-q) (qyb _) w1 h1 hq _ (qya rfl)).mono ?_)
    rintro e w5 ⟨f5,hp⟩;cases hres:Sx.case2E ex yz pt (toks.length-q) (toks.drop q) with
    | bad rest=>
     rw [hres] at hp;have hp:e=panS (zah len rest):=hp;subst hp;have HR:=qya hres;clear hres;go_wp2;refine⟨rfl,Fr.trans (Old.but O0 b) (Fr.trans (Old.but O1 b) f5),?_⟩;rw [HM.out,HR.out]
     try rfl
    | ok xJ rest=>
     rw [hres] at hp;obtain⟨v5,q2,rfl,qq,jh,qo,h5,xV⟩:=hp;have HM:Hid (M0=.ok xJ (toks.drop q2)):=qya (by rw [HM.out,hres,qq];try rfl);clear hres qq;obtain⟨vn,vd,zE,vl,vq,zA,zS,zH,zL,zN,rfl⟩:=xV.parts;have wx:But b qp w5:=Fr.trans (Old.but O1 b) f5;have z1:=O1.size;have z5:=f5.size;have qw:=qi.out;have j4:=qD.keep wx (by omega);obtain⟨vM,kp,kr,kJ,ko,ki⟩:=j4.c6;obtain⟨kq,kn,ke,xk,xv,xz⟩:=j4.f6;have qJ:=j4.lt;clear qw;go_wp2;obtain⟨Wf,qv,S2,k3,zD⟩:=j4.put6 (.int .i64 vn) (.int .i64 vd) (.string zE) (.string vl) (.slice vq zA zS) (.slice zH zL zN);rw [qv];clear qv;obtain⟨qP,qC,qA,jv,jz,jj⟩:=k3.c6;refine bodyPost_ret (v:=.agg #[.int .i64 vn,.int .i64 vd,.string zE,.string vl,.slice vq zA zS,.slice zH zL zN]) (by simp [results,Tryz.results43,go_sem,qP,qC,qA,jv,jz,jj]) rfl ?_;have S3:=S2;have qw:=qi.out;refine⟨(Fr.trans (Old.but O0 b) wx).trans' S3 (fun k hk e=>by omega),?_⟩;rw [HM.out];exact⟨_,q2,rfl,rfl,by omega,qo,h5.keep S3 (by omega) (fun g hg=>by have:=qQ g hg;omega),ExAt.more (fun k hk=>⟨by omega,qyc hk.2 S3.size⟩) _ _ (xV.keep S3 (fun k hk e=>by omega))⟩
  ·have HM:Hid (M0=Sx.letE ex (toks.drop q)):=qya (by rw [HM.out,if_neg (by simpa using hc0),if_pos (by simpa using hc1)])
   go_wp2_with fail
   (with_reducible refine (zx8 b la lc L toks len hL ex q yC w1 h1 hq _ (qya rfl)).mono ?_)
   rintro e w5 ⟨f5,hp⟩;cases hres:Sx.letE ex (toks.drop q) with
   | bad rest=>
    rw [hres] at hp;have hp:e=panS (zah len rest):=hp;subst hp;have HR:=qya hres;clear hres;go_wp2;refine⟨rfl,Fr.trans (Old.but O0 b) (Fr.trans (Old.but O1 b) f5),?_⟩;rw [HM.out,HR.out]
    try rfl
   | ok xJ rest=>
    rw [hres] at hp;obtain⟨v5,q2,rfl,qq,jh,qo,h5,xV⟩:=hp;have HM:Hid (M0=.ok xJ (toks.drop q2)):=qya (by rw [HM.out,hres,qq];try rfl);clear hres qq;obtain⟨vn,vd,zE,vl,vq,zA,zS,zH,zL,zN,rfl⟩:=xV.parts;have wx:But b qp w5:=Fr.trans (Old.but O1 b) f5;have z1:=O1.size;have z5:=f5.size;have qw:=qi.out;have j4:=qD.keep wx (by omega);obtain⟨vM,kp,kr,kJ,ko,ki⟩:=j4.c6;obtain⟨kq,kn,ke,xk,xv,xz⟩:=j4.f6;have qJ:=j4.lt;clear qw;go_wp2;obtain⟨Wf,qv,S2,k3,zD⟩:=j4.put6 (.int .i64 vn) (.int .i64 vd) (.string zE) (.string vl) (.slice vq zA zS) (.slice zH zL zN);rw [qv];clear qv;obtain⟨qP,qC,qA,jv,jz,jj⟩:=k3.c6;refine bodyPost_ret (v:=.agg #[.int .i64 vn,.int .i64 vd,.string zE,.string vl,.slice vq zA zS,.slice zH zL zN]) (by simp [results,Tryz.results43,go_sem,qP,qC,qA,jv,jz,jj]) rfl ?_;have S3:=S2;have qw:=qi.out;refine⟨(Fr.trans (Old.but O0 b) wx).trans' S3 (fun k hk e=>by omega),?_⟩;rw [HM.out];exact⟨_,q2,rfl,rfl,by omega,qo,h5.keep S3 (by omega) (fun g hg=>by have:=qQ g hg;omega),ExAt.more (fun k hk=>⟨by omega,qyc hk.2 S3.size⟩) _ _ (xV.keep S3 (fun k hk e=>by omega))⟩
 ·have HM:Hid (M0=Sx.fnE ex (toks.drop q)):=qya (by rw [HM.out,if_pos (by simpa using hc0)])
  go_wp2_with fail
  (with_reducible refine (zn1 b la lc L toks len hL ex q yC w1 h1 hq _ (qya rfl)).mono ?_)
  rintro e w5 ⟨f5,hp⟩;cases hres:Sx.fnE ex (toks.drop q) with
  | bad rest=>
   rw [hres] at hp;have hp:e=panS (zah len rest):=hp;subst hp;have HR:=qya hres;clear hres;go_wp2;refine⟨rfl,Fr.trans (Old.but O0 b) (Fr.trans (Old.but O1 b) f5),?_⟩;rw [HM.out,HR.out]
   try rfl
  | ok xJ rest=>
   rw [hres] at hp;obtain⟨v5,q2,rfl,qq,jh,qo,h5,xV⟩:=hp;have HM:Hid (M0=.ok xJ (toks.drop q2)):=qya (by rw [HM.out,hres,qq];try rfl);clear hres qq;obtain⟨vn,vd,zE,vl,vq,zA,zS,zH,zL,zN,rfl⟩:=xV.parts;have wx:But b qp w5:=Fr.trans (Old.but O1 b) f5;have z1:=O1.size;have z5:=f5.size;have qw:=qi.out;have j4:=qD.keep wx (by omega);obtain⟨vM,kp,kr,kJ,ko,ki⟩:=j4.c6;obtain⟨kq,kn,ke,xk,xv,xz⟩:=j4.f6;have qJ:=j4.lt;clear qw;go_wp2;obtain⟨Wf,qv,S2,k3,zD⟩:=j4.put6 (.int .i64 vn) (.int .i64 vd) (.string zE) (.string vl) (.slice vq zA zS) (.slice zH zL zN);rw [qv];clear qv;obtain⟨qP,qC,qA,jv,jz,jj⟩:=k3.c6;refine bodyPost_ret (v:=.agg #[.int .i64 vn,.int .i64 vd,.string zE,.string vl,.slice vq zA zS,.slice zH zL zN]) (by simp [results,Tryz.results43,go_sem,qP,qC,qA,jv,jz,jj]) rfl ?_;have S3:=S2;have qw:=qi.out;refine⟨(Fr.trans (Old.but O0 b) wx).trans' S3 (fun k hk e=>by omega),?_⟩;rw [HM.out];exact⟨_,q2,rfl,rfl,by omega,qo,h5.keep S3 (by omega) (fun g hg=>by have:=qQ g hg;omega),ExAt.more (fun k hk=>⟨by omega,qyc hk.2 S3.size⟩) _ _ (xV.keep S3 (fun k hk e=>by omega))⟩
theorem zjg(b:Nat)(la:Option Addr)(lc:Nat)(L:List RT)(toks:List Lx.Tok)(len:Int)(hL:RtOf L toks len) : ∀(n f:Nat),f≤n →
  (∀(q:Nat) (W:World),7*(toks.length-q)+6≤f→Rd W b la lc L q→q≤toks.length→Calls Tryz.prog 43 #[.pointer (some ⟨b,0,none⟩)] W (zaf ExAt b la lc L toks len (Sx.expr f (toks.drop q)) q W)) ∧
  (∀(q:Nat) (W:World),7*(toks.length-q)+5≤f→Rd W b la lc L q→q≤toks.length→Calls Tryz.prog 94 #[.pointer (some ⟨b,0,none⟩)] W (zaf ExAt b la lc L toks len (Sx.comp f (toks.drop q)) q W)) ∧
  (∀(q:Nat) (W:World),7*(toks.length-q)+4≤f→Rd W b la lc L q→q≤toks.length→Calls Tryz.prog 169 #[.pointer (some ⟨b,0,none⟩)] W (zaf ExAt b la lc L toks len (Sx.sum f (toks.drop q)) q W)) ∧
  (∀(q:Nat) (W:World),7*(toks.length-q)+3≤f→Rd W b la lc L q→q≤toks.length→Calls Tryz.prog 226 #[.pointer (some ⟨b,0,none⟩)] W (zaf ExAt b la lc L toks len (Sx.prod f (toks.drop q)) q W)) ∧
  (∀(q:Nat) (W:World),7*(toks.length-q)+2≤f→Rd W b la lc L q→q≤toks.length→Calls Tryz.prog 270 #[.pointer (some ⟨b,0,none⟩)] W (zaf ExAt b la lc L toks len (Sx.app f (toks.drop q)) q W)) ∧
  (∀(q:Nat) (W:World),7*(toks.length-q)+1≤f→Rd W b la lc L q→q≤toks.length→Calls Tryz.prog 284 #[.pointer (some ⟨b,0,none⟩)] W (zaf ExAt b la lc L toks len (Sx.atom f (toks.drop q)) q W))
 | 0,f,hn=>⟨fun q W h=>by omega,fun q W h=>by omega,fun q W h=>by omega,fun q W h=>by omega,fun q W h=>by omega,fun q W h=>by omega⟩
 | n+1,f,hn=>by
  cases f with
  | zero=>exact⟨fun q W h=>by omega,fun q W h=>by omega,fun q W h=>by omega,fun q W h=>by omega,fun q W h=>by omega,fun q W h=>by omega⟩
  | succ f=>
   obtain⟨h1,h2,h3,h4,h5,h6⟩:=zjg b la lc L toks len hL n f (by omega);refine⟨fun q W hf hr hq => ?_,fun q W hf hr hq => ?_,fun q W hf hr hq => ?_,fun q W hf hr hq => ?_,fun q W hf hr hq => ?_,fun q W hf hr hq => ?_⟩
   ·cases f with
    | zero=>omega
    | succ f=>
     obtain⟨g1,g2,g3,g4,g5,g6⟩:=zjg b la lc L toks len hL n f (by omega);rw [Sx.expr_is];refine zuu b la lc L toks len hL (Sx.expr (f+1)) (Sx.expr f) (Sx.comp (f+1)) (fun l=>Sx.pat (4*l.length+4) l) q (fun q' W' hl jf jq=>h1 q' W' (by omega) jf jq) (fun q' W' hl jf jq=>g1 q' W' (by omega) jf jq) (fun q' W' hl jf jq => ?_) (fun W' jf=>h2 q W' (by omega) jf hq) W hr hq _ (qya rfl);exact (zqe b la lc L toks len hL (4*(toks.drop q').length+4)).1 q' W' (by rw [qym];omega) jf jq
   ·exact zj3 b la lc L toks len hL (Sx.sum f) q (fun q' W' hl jf jq=>h3 q' W' (by omega) jf jq) W hr hq _ (qya (by rw [Sx.comp];rfl))
   ·exact zxt b la lc L toks len hL (Sx.prod f) q (fun q' W' hl jf jq=>h4 q' W' (by omega) jf jq) W hr hq _ (qya (by rw [Sx.sum];rfl))
   ·exact zoq b la lc L toks len hL (Sx.app f) q (fun q' W' hl jf jq=>h5 q' W' (by omega) jf jq) W hr hq _ (qya (by rw [Sx.prod];rfl))
   ·exact zjo b la lc L toks len hL (Sx.atom f) q (fun q' W' hl jf jq=>h6 q' W' (by omega) jf jq) W hr hq _ (qya (by rw [Sx.app];rfl))
   ·exact zva b la lc L toks len hL (Sx.expr f) q (fun q' W' hl jf jq=>h1 q' W' (by omega) jf jq) W hr hq _ (qya (by rw [Sx.atom];rfl))
end Go.Proofs.YtclgbmmambkiaaaGreatDoor
namespace Sx
def rowE{α : Type}(kj:B)(el:List Lx.Tok→Res α)(ts:List α)(n:Nat)(l:List Lx.Tok):Res (List α):=(more kj el n l).map (ts ++ ·)
theorem zxl{α : Type}{kj:B}{el:List Lx.Tok→Res α}{n:Nat}{l r:List Lx.Tok}{x : α}(h:el l=.ok x r):row kj el n l=rowE kj el [x] n r:=by
 unfold row rowE;rw [h];show (more kj el n r).map _=_;rfl
theorem zto{α : Type}{kj:B}{el:List Lx.Tok→Res α}{n:Nat}{l r:List Lx.Tok}(h:el l=.bad r):row kj el n l=.bad r:=by
 unfold row;rw [h];rfl
theorem ztq{α : Type}{kj:B}{el:List Lx.Tok→Res α}{ts:List α}{n:Nat}{l:List Lx.Tok}(h:(hd l).text≠kj):rowE kj el ts n l=.ok ts l:=by
 have hm:more kj el n l=.ok [] l:=by
  cases n with
  | zero=>rfl
  | succ n=>rw [more,if_neg h]
 unfold rowE;rw [hm];simp [Res.map]
theorem zqb{α : Type}{kj:B}{el:List Lx.Tok→Res α}{ts:List α}{n:Nat}{l r:List Lx.Tok}(h:(hd l).text=kj)(he:el l.tail=.bad r):rowE kj el ts (n+1) l=.bad r:=by
 unfold rowE;rw [more,if_pos h,he];rfl
theorem ztp{α : Type}{kj:B}{el:List Lx.Tok→Res α}{ts:List α}{n:Nat}{l r:List Lx.Tok}{y : α}(h:(hd l).text=kj)(he:el l.tail=.ok y r):rowE kj el ts (n+1) l=rowE kj el (ts++[y]) n r:=by
 unfold rowE;rw [more,if_pos h,he];show ((more kj el n r).map (y :: ·)).map _=_;cases more kj el n r with
 | ok zs r2=>simp [Res.map]
 | bad r2=>rfl
end Sx
namespace Go.Proofs.YtclgbmmambkiaaaGreatDoor
open Go.RowKit
def ElsAt{α : Type}(At : α→Value→Prop)(m:Nat):List α→List Value→Prop
 | [],xs=>xs=[]
 | t::r,xs=>∃hd ys,xs=hd++ys∧hd.length=m∧At t (.agg hd.toArray)∧ElsAt At m r ys
theorem ElsAt.imp{α : Type}{At At' : α→Value→Prop}{m:Nat}(hi : ∀t v,At t v→At' t v) : ∀(ts:List α) (xs:List Value),ElsAt At m ts xs→ElsAt At' m ts xs
 | [],xs,h=>h
 | t::r,xs,⟨hd,ys,h1,h2,h3,h4⟩=>⟨hd,ys,h1,h2,hi _ _ h3,ElsAt.imp hi r ys h4⟩
theorem ElsAt.snoc{α : Type}{At : α→Value→Prop}{m:Nat} : ∀(ts:List α) (xs:List Value) (t : α) (hd:List Value),ElsAt At m ts xs→hd.length=m→At t (.agg hd.toArray)→ElsAt At m (ts++[t]) (xs++hd)
 | [],xs,t,hd,h,hm,ha=>by
  have:xs=[]:=h;subst this;exact⟨hd,[],by simp,hm,ha,rfl⟩
 | a::r,xs,t,hd,⟨hd',ys,h1,h2,h3,h4⟩,hm,ha=>⟨hd',ys++hd,by rw [h1,List.append_assoc],h2,h3,ElsAt.snoc r ys t hd h4 hm ha⟩
structure Lies{α : Type}(At:World→(Nat→Prop)→α→Value→Prop):Prop where
 keep : ∀ {S F:Nat→Prop} {w w':World},Fr S w w'→(∀k,F k→¬S k)→∀t v,At w F t v→At w' F t v
 more : ∀ {F F':Nat→Prop} {w:World},(∀k,F k→F' k)→∀t v,At w F t v→At w F' t v
def LsAt{α : Type}(At:World→(Nat→Prop)→α→Value→Prop)(T:TypeId)(m:Nat)(w:World)(F:Nat→Prop)(l:List α)(v:Value):Prop:=∃xs,RowAt w F T m v l.length xs∧ElsAt (At w F) m l xs
theorem Lies.ls{α : Type}{At:World→(Nat→Prop)→α→Value→Prop}(h:Lies At)(T:TypeId)(m:Nat):Lies (LsAt At T m):=
 ⟨fun hf hn t v ⟨xs,h1,h2⟩=>⟨xs,h1.keep hf hn,ElsAt.imp (h.keep hf hn) _ _ h2⟩,fun hn t v ⟨xs,h1,h2⟩=>⟨xs,h1.more hn,ElsAt.imp (h.more hn) _ _ h2⟩⟩
structure RwAt{α : Type}(At:World→(Nat→Prop)→α→Value→Prop)(T:TypeId)(m:Nat)(w0:World)(b X:Nat)(xs:List Value)(ts:List α)(v:Value)(W:World):Prop where
 x : ∃cs:List Value,cs.length=m∧Blk W X cs.toArray T
 own:W.ownsRow (X+1) T m v ts.length xs
 els : ∃F,ElsAt (At W F) m ts xs∧∀k,F k→w0.heap.size≤k∧k<W.heap.size∧k≠X∧v.ownBlock≠some k
 but:But b w0 W
theorem RwAt.old{α : Type}{At:World→(Nat→Prop)→α→Value→Prop}(hA:Lies At){T:TypeId}{m:Nat}{w0:World}{b X:Nat}{xs:List Value}{ts:List α}{v:Value}{W W':World}(h:RwAt At T m w0 b X xs ts v W)(hb:b<w0.heap.size)(hX:w0.heap.size≤X)(hf:But b W W'):RwAt At T m w0 b X xs ts v W':=by
 obtain⟨F,h1,h2⟩:=h.els;obtain⟨cs,hm,hx⟩:=h.x;refine⟨⟨cs,hm,hx.keep hf (by omega)⟩,zaa h.own hf (fun k hk e => ?_),⟨F,ElsAt.imp (hA.keep hf (fun k hk e => ?_)) _ _ h1,fun k hk => ?_⟩,h.but.trans hf⟩
 ·have:=(h.own.lt k hk).1;omega
 ·have:=(h2 k hk).1;omega
 ·obtain⟨g1,g2,g3⟩:=h2 k hk;exact⟨g1,qyc g2 hf.size,g3⟩
theorem RwAt.snoc{α : Type}{At:World→(Nat→Prop)→α→Value→Prop}(hA:Lies At){T:TypeId}{m:Nat}{w0:World}{b X:Nat}{xs:List Value}{ts:List α}{l:Option Addr}{c:Nat}{W w5 w6:World}(h:RwAt At T m w0 b X xs ts (.slice l ts.length c) W)(hb:b<w0.heap.size)(hX:w0.heap.size≤X)
  (f5:But b W w5){z : α}{hd:List Value}(hm:hd.length=m)(hz:At w5 (fun k=>W.heap.size≤k∧k<w5.heap.size) z (.agg hd.toArray))
  (F6:Fr (fun k=>k=X∨(Value.slice l ts.length c).ownBlock=some k) w5 w6)(dN:Blk w6 X hd.toArray T){g cap:Nat}(ho:w6.ownsRow (X+1) T m (.slice (some ⟨g,0,none⟩) (ts.length+1) cap) (ts.length+1) (xs++hd))
  (qZ:(Value.slice l ts.length c).ownBlock=some g∨w5.heap.size≤g):RwAt At T m w0 b X (xs++hd) (ts++[z]) (.slice (some ⟨g,0,none⟩) (ts++[z]).length cap) w6:=by
 obtain⟨F,h1,h2⟩:=h.els;obtain⟨cs,hm0,hx⟩:=h.x;have hXW:=hx.lt;have mj:=h.but.size;have jQ : ∀k,(Value.slice l ts.length c).ownBlock=some k→X+1≤k∧k<W.heap.size:=fun k hk=>h.own.lt k hk;have dd:Fr (fun k=>k=b∨k=X∨(Value.slice l ts.length c).ownBlock=some k) W w6:=Fr.trans' (f5.mono (S':=fun k=>k=b∨k=X∨(Value.slice l ts.length c).ownBlock=some k) (fun k _ e=>.inl e)) F6 (fun k _ e=>.inr e);have z5:=f5.size;have z6:=F6.size;refine⟨⟨hd,hm,dN⟩,?_,⟨fun k=>F k∨(W.heap.size≤k∧k<w5.heap.size),ElsAt.snoc ts xs z hd ?_ hm ?_,?_⟩,h.but.trans' dd ?_⟩
 ·rw [qye,qyh];exact ho
 ·refine ElsAt.imp (hA.more (fun k hk=>.inl hk)) _ _ (ElsAt.imp (hA.keep dd ?_) _ _ h1);rintro k hk (e | e | e)
  ·have:=(h2 k hk).1;omega
  ·exact (h2 k hk).2.2.1 e
  ·exact (h2 k hk).2.2.2 e
 ·refine hA.more (fun k hk=>.inr hk) _ _ (hA.keep F6 ?_ _ _ hz);rintro k hk (e | e)
  ·omega
  ·have:=jQ k e;omega
 ·rintro k (hk | hk)
  ·obtain⟨g1,g2,g3,g4⟩:=h2 k hk;refine⟨g1,by omega,g3,fun e => ?_⟩;have e':g=k:=qyj (show some g=some k from e);subst e';exact qZ.elim g4 (fun h=>by omega)
  ·refine⟨by omega,by omega,by omega,fun e => ?_⟩;have e':g=k:=qyj (show some g=some k from e);rcases qZ with h | h
   ·have:=(jQ _ h).2;omega
   ·omega
 ·rintro k hk (e | e | e)
  ·exact e
  ·omega
  ·have:=jQ k e;omega
def ConAt(w:World)(F:Nat→Prop)(c:Sx.Con)(v:Value):Prop:=∃(s:ByteArray) (sv:Value) (xs:List Value),v=.agg #[.string s,sv]∧s.toList=c.name∧RowAt w F 35 2 sv c.args.length xs∧TysAt w F c.args xs
theorem zb1:Lies ConAt:=⟨fun hf hn t v ⟨s,sv,xs,h1,h2,h3,h4⟩=>⟨s,sv,xs,h1,h2,h3.keep hf hn,TysAt.keep hf hn _ _ h4⟩,fun hn t v ⟨s,sv,xs,h1,h2,h3,h4⟩=>⟨s,sv,xs,h1,h2,h3.more hn,TysAt.more hn _ _ h4⟩⟩
theorem zb0:Lies FunAt:=⟨fun hf hn t v ⟨s,u,a0,a1,a2,a3,a4,a5,h1,h2,h3,h4⟩=>⟨s,u,a0,a1,a2,a3,a4,a5,h1,h2,h3,ExAt.keep hf hn _ _ h4⟩,fun hn t v ⟨s,u,a0,a1,a2,a3,a4,a5,h1,h2,h3,h4⟩=>⟨s,u,a0,a1,a2,a3,a4,a5,h1,h2,h3,ExAt.more hn _ _ h4⟩⟩
theorem ConAt.parts{w:World}{F:Nat→Prop}{c:Sx.Con}{v:Value}(h:ConAt w F c v) : ∃(s:ByteArray) (la:Option Addr) (na ca:Nat),v=.agg #[.string s,.slice la na ca]:=by
 obtain⟨s,sv,xs,rfl,_,h3,_⟩:=h;obtain⟨la,c,rfl⟩:=zad h3.1;exact⟨s,la,_,c,rfl⟩
theorem FunAt.parts{w:World}{F:Nat→Prop}{c:Sx.Fun}{v:Value}(h:FunAt w F c v) : ∃(s t:ByteArray) (kd nu:Int) (nm ag:ByteArray) (la:Option Addr) (na ca:Nat) (lp:Option Addr) (np cp:Nat),v=.agg #[.string s,.string t,.int .i64 kd,.int .i64 nu,.string nm,.string ag,.slice la na ca,.slice lp np cp]:=by
 obtain⟨s,t,a0,a1,a2,a3,a4,a5,rfl,_,_,h4⟩:=h;obtain⟨kd,nu,nm,ag,la,na,ca,lp,np,cp,he⟩:=h4.parts;cases he;exact⟨s,t,kd,nu,nm,ag,la,na,ca,lp,np,cp,rfl⟩
theorem zwc{cs:List Value}(h:cs.length=2) : ∃a b,cs=[a,b]:=by
 match cs,h with
 | [a,b],_=>exact⟨a,b,rfl⟩
theorem zr5{cs:List Value}(h:cs.length=8) : ∃a b c d e f g i,cs=[a,b,c,d,e,f,g,i]:=by
 match cs,h with
 | [a,b,c,d,e,f,g,i],_=>exact⟨a,b,c,d,e,f,g,i,rfl⟩
theorem zy1:(Tryz.prog.info? 177).map (fun i=>(i.zero,i.size,i.bytes))=some (some (.agg #[.string ⟨#[]⟩,.slice none 0 0]),2,40):=by kernel_rfl
theorem zv0(b:Nat)(vB:Option Addr)(px:Nat)(L:List RT)(toks:List Lx.Tok)(len:Int)(hL:RtOf L toks len)(kj:ByteArray)(sp:List UInt8)(fw:kj.toList=sp)(zh:sp≠[])(q:Nat)
  (el:List Lx.Tok→Sx.Res Sx.Con)(q9 : ∀(q':Nat) (W:World),q≤q'→Rd W b vB px L q'→q'≤toks.length→Calls Tryz.prog 216 #[.pointer (some ⟨b,0,none⟩)] W (zaf ConAt b vB px L toks len (el (toks.drop q')) q' W))
  (w:World)(h:Rd w b vB px L q)(hq:q≤toks.length)(N:Nat)(hN:toks.length-q≤N)(M0:Sx.Res (List Sx.Con))(HM:Hid (M0=Sx.row sp el N (toks.drop q))) :
  Calls Tryz.prog 215 #[.pointer (some ⟨b,0,none⟩),.string kj,.func (.func 216) #[.pointer (some ⟨b,0,none⟩)] #[]] w (zaf (LsAt ConAt 177 2) b vB px L toks len M0 q w):=by
 have hb:=h.blk.lt;have qQ:=h.glt (by rw [hL];simp;omega);have few:L.length≤1000000:=h.few;have hlen:L.length=toks.length+1:=by rw [hL];simp
 have HSP:=qya fw;clear fw
 go_enter Tryz.func215,Tryz.ntmps215
 go_wp2_with fail
 (with_reducible refine (q9 q w (qyb q) h hq).mono ?_)
 rintro e w2 ⟨f2,hp⟩;have jE:=f2.size;cases hres:el (toks.drop q) with
 | bad rest=>
  rw [hres] at hp;have hp:e=panS (zah len rest):=hp;subst hp;have HR:=qya hres;clear hres;go_wp2;refine⟨rfl,f2,?_⟩;rw [HM.out,Sx.zto HR.out]
 | ok y rest=>
  rw [hres] at hp;obtain⟨yv,q',rfl,qq,qx,qX,h2,zq⟩:=hp;obtain⟨nm,la,na,ca,rfl⟩:=zq.parts;have HM:Hid (M0=Sx.rowE sp el [y] N (toks.drop q')):=qya (by rw [HM.out,Sx.zxl hres,qq]);clear hres qq
  go_wp2_with fail
  go_loopg [8] (toks.length-q'+1) (fun g s8 wr=>∃(ts:List Sx.Con) (xs:List Value) (l:Option Addr) (c n p:Nat),s8=.slice l ts.length c∧RwAt ConAt 177 2 w b w2.heap.size xs ts (.slice l ts.length c) wr∧Rd wr b vB px L p∧q<p∧p≤toks.length∧g=toks.length-p+1∧toks.length-p≤n∧ts.length≤p∧M0=Sx.rowE sp el ts n (toks.drop p))
  case atStart=>
   have O4:Old w2 ((w2.alloc (.cells #[.string nm,.slice la na ca] 177)).alloc (.cells #[.string nm,.slice la na ca] 177)):=((Old.refl w2).alloc _).alloc _;have kX:=(Blk.new w2 #[.string nm,.slice la na ca] 177).alloc (.cells #[.string nm,.slice la na ca] 177);have kL:Blk ((w2.alloc (.cells #[.string nm,.slice la na ca] 177)).alloc (.cells #[.string nm,.slice la na ca] 177)) (w2.heap.size+1) #[.string nm,.slice la na ca] 177:=Blk.new' (by simp) _ _;have z4:=kL.lt;refine⟨[y],[.string nm,.slice la na ca],some ⟨w2.heap.size+1,0,none⟩,1,N,q',rfl,⟨⟨[.string nm,.slice la na ca],rfl,kX⟩,⟨rfl,.inr ⟨w2.heap.size+1,1,_,rfl,qyb _,kL,qyb _,by unfold maxLen;omega,rfl,rfl⟩⟩,⟨fun k=>w.heap.size≤k∧k<w2.heap.size,⟨[.string nm,.slice la na ca],[],rfl,rfl,(zb1).keep O4 (fun _ _ e=>e) _ _ zq,rfl⟩,fun k hk => ?_⟩,Fr.trans f2 (Old.but O4 b)⟩,h2.old O4,qx,qX,rfl,by omega,by show 1≤q';omega,HM.out⟩;refine⟨by omega,by omega,by omega,fun e => ?_⟩;have e':w2.heap.size+1=k:=qyj (show some (w2.heap.size+1)=some k from e);omega
  case round=>
   obtain⟨ts,xs,l,c,n,p,rfl,hG,jB,gD,vW,hg,hn,htl,xj⟩:=hrel;have vD:=qya xj;have HG:=qya hg;have HN:=qya hn;obtain⟨x,hx⟩ : ∃x,L[p]? = some x:=⟨_,List.getElem?_eq_getElem (by omega)⟩;obtain⟨jb,hd2,-⟩:=zc2 hL hx vW;have HX:=qya hx;have H2:=qya hd2;clear xj hg hn hx jb hd2;cases hc:(x.s.toList==sp)
   ·go_wp2_with fail
    (with_reducible refine (ze6 wr b vB px L p jB x HX.out kj (by rw [HSP.out];exact hc)).mono ?_)
    rintro e w4 ⟨rfl,o4⟩;have zj:=hG.old zb1 hb jE (o4.but b);have xI:M0=.ok ts (toks.drop p):=(by rw [vD.out,Sx.ztq (by rw [H2.out];simpa using hc)]);have su:=qya xI;clear xI;go_wp2;go_ret;refine⟨zj.but,?_⟩;rw [su.out];obtain⟨F,h1,h2⟩:=zj.els;exact⟨_,p,rfl,rfl,gD,vW,jB.old o4,xs,⟨zj.own.mono (qyi _),fun k hk=>⟨by have:=(zj.own.lt k hk).1;omega,(zj.own.lt k hk).2⟩⟩,ElsAt.imp ((zb1).more (fun k hk=>⟨(h2 k hk).1,(h2 k hk).2.1⟩)) _ _ h1⟩
   ·go_wp2_with fail
    (with_reducible refine (zd0 wr b vB px L p jB x HX.out kj (by rw [HSP.out];exact hc)).mono ?_)
    rintro e w4 ⟨rfl,h4,f4⟩;have vU:=zbb hL HX.out vW zh hc;have zj:=hG.old zb1 hb jE f4;obtain⟨n',xg⟩ : ∃n',n=n'+1:=⟨n-1,by have:=HN.out;omega⟩;have cz:=qya xg;clear xg
    go_wp2_with fail
    (with_reducible refine (q9 (p+1) w4 (by omega) h4 (Nat.succ_le_of_lt vU)).mono ?_)
    rintro e w5 ⟨f5,hp⟩;cases hres:el (toks.drop (p+1)) with
    | bad jk=>
     rw [hres] at hp;have hp:e=panS (zah len jk):=hp;subst hp;have HR:=qya hres;clear hres;go_wp2;refine⟨rfl,zj.but.trans f5,?_⟩;rw [vD.out,cz.out,Sx.zqb (by rw [H2.out];simpa using hc) (by rw [qys];exact HR.out)]
    | ok z jk=>
     rw [hres] at hp;obtain⟨zv,q2,rfl,qU,jh,qo,h5,zg⟩:=hp;obtain⟨qh,jR,jN,jD,rfl⟩:=zg.parts;have HR:=qya hres;have pP:=qya qU;clear hres qU;have zo:=zj.old zb1 hb jE f5;obtain⟨cs,qn,xP⟩:=zo.x;obtain⟨y0,y1,rfl⟩:=zwc qn;obtain⟨cX0,cX1⟩:=xP.c2;obtain⟨gX0,gX1⟩:=xP.f2;have dT:=xP.lt;have vH:=zo.own;obtain⟨i0,hi,qw,j5,li⟩:=info_parts zy1;have FX:Fr (fun k=>k=w2.heap.size) w5 ((w5.setCell ⟨w2.heap.size,0,none⟩ (.string qh)).setCell ⟨w2.heap.size,1,none⟩ (.slice jR jN jD)):=((Fr.refl (fun k=>k=w2.heap.size) w5).setCell ⟨w2.heap.size,0,none⟩ (fun _=>rfl) (.string qh)).setCell ⟨w2.heap.size,1,none⟩ (fun _=>rfl) (.slice jR jN jD);have kX:Blk ((w5.setCell ⟨w2.heap.size,0,none⟩ (.string qh)).setCell ⟨w2.heap.size,1,none⟩ (.slice jR jN jD)) w2.heap.size #[.string qh,.slice jR jN jD] 177:=by
      have:=(xP.set 0 (.string qh)).set 1 (.slice jR jN jD);simpa only [qxd,qxe,qxf] using this
     have we:=zaa zo.own FX (fun k hk e=>by have:=(zo.own.lt k hk).1;omega);have pI:((w5.setCell ⟨w2.heap.size,0,none⟩ (.string qh)).setCell ⟨w2.heap.size,1,none⟩ (.slice jR jN jD)).heap.size=w5.heap.size:=(by simp);have qR : ∀j u,[Value.string qh,Value.slice jR jN jD][j]? = some u→(((w5.setCell ⟨w2.heap.size,0,none⟩ (.string qh)).setCell ⟨w2.heap.size,1,none⟩ (.slice jR jN jD)).alloc (.cells #[.string qh,.slice jR jN jD] 177)).cell? ((⟨w5.heap.size,0,none⟩:Addr).add j)=some u:=by
      have:=World.news_of_block (Blk.new ((w5.setCell ⟨w2.heap.size,0,none⟩ (.string qh)).setCell ⟨w2.heap.size,1,none⟩ (.slice jR jN jD)) #[.string qh,.slice jR jN jD] 177)
      rwa [pI] at this
     have ru:(((w5.setCell ⟨w2.heap.size,0,none⟩ (.string qh)).setCell ⟨w2.heap.size,1,none⟩ (.slice jR jN jD)).alloc (.cells #[.string qh,.slice jR jN jD] 177)).heap.size=w5.heap.size+1:=(by rw [qyd,pI]);have FA:=FX.alloc (.cells #[.string qh,.slice jR jN jD] 177);have n8:=kX.alloc (.cells #[.string qh,.slice jR jN jD] 177);have wi:=we.alloc (.cells #[.string qh,.slice jR jN jD] 177);have htl':ts.length≤1000000:=by omega
     go_wp2_with (first | (at_builtin;refine Stop.out ?_) | fail)
     refine Stop.mk ?_;refine wpList_append_lies _ rfl _ _ 79 rfl (w2.heap.size+1) 177 i0 (.agg #[.string ⟨#[]⟩,.slice none 0 0]) 2 40 Tryz.underlying79 hi qw j5 li rfl (by decide) _ ts.length xs rfl wi ⟨w5.heap.size,0,none⟩ 1 1 [.string qh,.slice jR jN jD] rfl rfl qR (by intro u hu;simp at hu;rcases hu with rfl | rfl <;> rfl) (by decide) (by unfold maxLen;omega) (by omega) (by omega) (w5.heap.size+1) ru ?_;intro g cap w6 j7 fN qZ uN
     go_wp2_with fail
     have qZ:(Value.slice l ts.length c).ownBlock=some g∨g=w5.heap.size+1:=qZ;have F6:Fr (fun k=>k=w2.heap.size∨(Value.slice l ts.length c).ownBlock=some k) w5 w6:=(FA.mono (fun k _ e=>.inl e)).grown fN (fun k e _=>.inr e);have n9:Blk w6 w2.heap.size #[.string qh,.slice jR jN jD] 177:=Blk.keep n8 (S:=fun k=>(Value.slice l ts.length c).ownBlock=some k) ((Fr.refl _ _).grown fN (fun k e _=>e)) (fun e=>by have:=(vH.lt _ e).1;omega);have rP:=zj.snoc zb1 hb jE f5 (hd:=[.string qh,.slice jR jN jD]) rfl zg F6 n9 j7 (qZ.imp id (fun h=>by omega))
     go_roundg (toks.length-q2+1)
     case measure=>have:=HG.out;omega
     case rel=>
      refine⟨ts++[z],_,_,_,n',q2,by rw [qye,qyh],rP,h5.keep F6 ?_ (fun g' kI => ?_),by omega,qo,rfl,by have:=HN.out;have:=cz.out;omega,by rw [qye,qyh];omega,?_⟩
      ·rintro (e | e)
       ·omega
       ·have:=(vH.lt _ e).1;omega
      ·have:=qQ g' kI;rintro (e | e)
       ·omega
       ·have:=(vH.lt _ e).1;omega
      ·rw [vD.out,cz.out,Sx.ztp (by rw [H2.out];simpa using hc) (by rw [qys];exact HR.out),pP.out]
theorem zy0:(Tryz.prog.info? 144).map (fun i=>(i.zero,i.size,i.bytes))=some (some (.agg #[.string ⟨#[]⟩,.string ⟨#[]⟩,.int .i64 0,.int .i64 0,.string ⟨#[]⟩,.string ⟨#[]⟩,.slice none 0 0,.slice none 0 0]),8,128):=by kernel_rfl
theorem zvz(b:Nat)(vB:Option Addr)(px:Nat)(L:List RT)(toks:List Lx.Tok)(len:Int)(hL:RtOf L toks len)(kj:ByteArray)(sp:List UInt8)(fw:kj.toList=sp)(zh:sp≠[])(q:Nat)
  (el:List Lx.Tok→Sx.Res Sx.Fun)(q9 : ∀(q':Nat) (W:World),q≤q'→Rd W b vB px L q'→q'≤toks.length→Calls Tryz.prog 150 #[.pointer (some ⟨b,0,none⟩)] W (zaf FunAt b vB px L toks len (el (toks.drop q')) q' W))
  (w:World)(h:Rd w b vB px L q)(hq:q≤toks.length)(N:Nat)(hN:toks.length-q≤N)(M0:Sx.Res (List Sx.Fun))(HM:Hid (M0=Sx.row sp el N (toks.drop q))) :
  Calls Tryz.prog 149 #[.pointer (some ⟨b,0,none⟩),.string kj,.func (.func 150) #[.pointer (some ⟨b,0,none⟩)] #[]] w (zaf (LsAt FunAt 144 8) b vB px L toks len M0 q w):=by
 have hb:=h.blk.lt;have qQ:=h.glt (by rw [hL];simp;omega);have few:L.length≤1000000:=h.few;have hlen:L.length=toks.length+1:=by rw [hL];simp
 have HSP:=qya fw;clear fw
 go_enter Tryz.func149,Tryz.ntmps149
 go_wp2_with fail
 (with_reducible refine (q9 q w (qyb q) h hq).mono ?_)
 rintro e w2 ⟨f2,hp⟩;have jE:=f2.size;cases hres:el (toks.drop q) with
 | bad rest=>
  rw [hres] at hp;have hp:e=panS (zah len rest):=hp;subst hp;have HR:=qya hres;clear hres;go_wp2;refine⟨rfl,f2,?_⟩;rw [HM.out,Sx.zto HR.out]
 | ok y rest=>
  rw [hres] at hp;obtain⟨yv,q',rfl,qq,qx,qX,h2,zq⟩:=hp;obtain⟨s0,t0,kd,nu,nm,ag,la,na,ca,lp,np,cp,rfl⟩:=zq.parts;have HM:Hid (M0=Sx.rowE sp el [y] N (toks.drop q')):=qya (by rw [HM.out,Sx.zxl hres,qq]);clear hres qq
  go_wp2_with fail
  go_loopg [8] (toks.length-q'+1) (fun g s8 wr=>∃(ts:List Sx.Fun) (xs:List Value) (l:Option Addr) (c n p:Nat),s8=.slice l ts.length c∧RwAt FunAt 144 8 w b w2.heap.size xs ts (.slice l ts.length c) wr∧Rd wr b vB px L p∧q<p∧p≤toks.length∧g=toks.length-p+1∧toks.length-p≤n∧ts.length≤p∧M0=Sx.rowE sp el ts n (toks.drop p))
  case atStart=>
   have O4:Old w2 ((w2.alloc (.cells #[.string s0,.string t0,.int .i64 kd,.int .i64 nu,.string nm,.string ag,.slice la na ca,.slice lp np cp] 144)).alloc (.cells #[.string s0,.string t0,.int .i64 kd,.int .i64 nu,.string nm,.string ag,.slice la na ca,.slice lp np cp] 144)):=((Old.refl w2).alloc _).alloc _;have kX:=(Blk.new w2 #[.string s0,.string t0,.int .i64 kd,.int .i64 nu,.string nm,.string ag,.slice la na ca,.slice lp np cp] 144).alloc (.cells #[.string s0,.string t0,.int .i64 kd,.int .i64 nu,.string nm,.string ag,.slice la na ca,.slice lp np cp] 144);have kL:Blk ((w2.alloc (.cells #[.string s0,.string t0,.int .i64 kd,.int .i64 nu,.string nm,.string ag,.slice la na ca,.slice lp np cp] 144)).alloc (.cells #[.string s0,.string t0,.int .i64 kd,.int .i64 nu,.string nm,.string ag,.slice la na ca,.slice lp np cp] 144)) (w2.heap.size+1) #[.string s0,.string t0,.int .i64 kd,.int .i64 nu,.string nm,.string ag,.slice la na ca,.slice lp np cp] 144:=Blk.new' (by simp) _ _;have z4:=kL.lt;refine⟨[y],[.string s0,.string t0,.int .i64 kd,.int .i64 nu,.string nm,.string ag,.slice la na ca,.slice lp np cp],some ⟨w2.heap.size+1,0,none⟩,1,N,q',rfl,⟨⟨[.string s0,.string t0,.int .i64 kd,.int .i64 nu,.string nm,.string ag,.slice la na ca,.slice lp np cp],rfl,kX⟩,⟨rfl,.inr ⟨w2.heap.size+1,1,_,rfl,qyb _,kL,qyb _,by unfold maxLen;omega,rfl,rfl⟩⟩,⟨fun k=>w.heap.size≤k∧k<w2.heap.size,⟨[.string s0,.string t0,.int .i64 kd,.int .i64 nu,.string nm,.string ag,.slice la na ca,.slice lp np cp],[],rfl,rfl,(zb0).keep O4 (fun _ _ e=>e) _ _ zq,rfl⟩,fun k hk => ?_⟩,Fr.trans f2 (Old.but O4 b)⟩,h2.old O4,qx,qX,rfl,by omega,by show 1≤q';omega,HM.out⟩;refine⟨by omega,by omega,by omega,fun e => ?_⟩;have e':w2.heap.size+1=k:=qyj (show some (w2.heap.size+1)=some k from e);omega
  case round=>
   obtain⟨ts,xs,l,c,n,p,rfl,hG,jB,gD,vW,hg,hn,htl,xj⟩:=hrel;have vD:=qya xj;have HG:=qya hg;have HN:=qya hn;obtain⟨x,hx⟩ : ∃x,L[p]? = some x:=⟨_,List.getElem?_eq_getElem (by omega)⟩;obtain⟨jb,hd2,-⟩:=zc2 hL hx vW;have HX:=qya hx;have H2:=qya hd2;clear xj hg hn hx jb hd2;cases hc:(x.s.toList==sp)
   ·go_wp2_with fail
    (with_reducible refine (ze6 wr b vB px L p jB x HX.out kj (by rw [HSP.out];exact hc)).mono ?_)
    rintro e w4 ⟨rfl,o4⟩;have zj:=hG.old zb0 hb jE (o4.but b);have xI:M0=.ok ts (toks.drop p):=(by rw [vD.out,Sx.ztq (by rw [H2.out];simpa using hc)]);have su:=qya xI;clear xI;go_wp2;go_ret;refine⟨zj.but,?_⟩;rw [su.out];obtain⟨F,h1,h2⟩:=zj.els;exact⟨_,p,rfl,rfl,gD,vW,jB.old o4,xs,⟨zj.own.mono (qyi _),fun k hk=>⟨by have:=(zj.own.lt k hk).1;omega,(zj.own.lt k hk).2⟩⟩,ElsAt.imp ((zb0).more (fun k hk=>⟨(h2 k hk).1,(h2 k hk).2.1⟩)) _ _ h1⟩
   ·go_wp2_with fail
    (with_reducible refine (zd0 wr b vB px L p jB x HX.out kj (by rw [HSP.out];exact hc)).mono ?_)
    rintro e w4 ⟨rfl,h4,f4⟩;have vU:=zbb hL HX.out vW zh hc;have zj:=hG.old zb0 hb jE f4;obtain⟨n',xg⟩ : ∃n',n=n'+1:=⟨n-1,by have:=HN.out;omega⟩;have cz:=qya xg;clear xg
    go_wp2_with fail
    (with_reducible refine (q9 (p+1) w4 (by omega) h4 (Nat.succ_le_of_lt vU)).mono ?_)
    rintro e w5 ⟨f5,hp⟩;cases hres:el (toks.drop (p+1)) with
    | bad jk=>
     rw [hres] at hp;have hp:e=panS (zah len jk):=hp;subst hp;have HR:=qya hres;clear hres;go_wp2;refine⟨rfl,zj.but.trans f5,?_⟩;rw [vD.out,cz.out,Sx.zqb (by rw [H2.out];simpa using hc) (by rw [qys];exact HR.out)]
    | ok z jk=>
     rw [hres] at hp;obtain⟨zv,q2,rfl,qU,jh,qo,h5,zg⟩:=hp;obtain⟨s2,t2,qI,j3,qh,j9,jR,jN,jD,wD,wV,gJ,rfl⟩:=zg.parts;have HR:=qya hres;have pP:=qya qU;clear hres qU;have zo:=zj.old zb0 hb jE f5;obtain⟨cs,qn,xP⟩:=zo.x;obtain⟨y0,y1,y2,y3,y4,y5,y6,y7,rfl⟩:=zr5 qn;obtain⟨cX0,cX1,cX2,cX3,cX4,cX5,cX6,cX7⟩:=xP.c8;obtain⟨gX0,gX1,gX2,gX3,gX4,gX5,gX6,gX7⟩:=xP.f8;have dT:=xP.lt;have vH:=zo.own;obtain⟨i0,hi,qw,j5,li⟩:=info_parts zy0;have FX:Fr (fun k=>k=w2.heap.size) w5 ((((((((w5.setCell ⟨w2.heap.size,0,none⟩ (.string s2)).setCell ⟨w2.heap.size,1,none⟩ (.string t2)).setCell ⟨w2.heap.size,2,none⟩ (.int .i64 qI)).setCell ⟨w2.heap.size,3,none⟩ (.int .i64 j3)).setCell ⟨w2.heap.size,4,none⟩ (.string qh)).setCell ⟨w2.heap.size,5,none⟩ (.string j9)).setCell ⟨w2.heap.size,6,none⟩ (.slice jR jN jD)).setCell ⟨w2.heap.size,7,none⟩ (.slice wD wV gJ)):=((((((((Fr.refl (fun k=>k=w2.heap.size) w5).setCell ⟨w2.heap.size,0,none⟩ (fun _=>rfl) (.string s2)).setCell ⟨w2.heap.size,1,none⟩ (fun _=>rfl) (.string t2)).setCell ⟨w2.heap.size,2,none⟩ (fun _=>rfl) (.int .i64 qI)).setCell ⟨w2.heap.size,3,none⟩ (fun _=>rfl) (.int .i64 j3)).setCell ⟨w2.heap.size,4,none⟩ (fun _=>rfl) (.string qh)).setCell ⟨w2.heap.size,5,none⟩ (fun _=>rfl) (.string j9)).setCell ⟨w2.heap.size,6,none⟩ (fun _=>rfl) (.slice jR jN jD)).setCell ⟨w2.heap.size,7,none⟩ (fun _=>rfl) (.slice wD wV gJ);have kX:Blk ((((((((w5.setCell ⟨w2.heap.size,0,none⟩ (.string s2)).setCell ⟨w2.heap.size,1,none⟩ (.string t2)).setCell ⟨w2.heap.size,2,none⟩ (.int .i64 qI)).setCell ⟨w2.heap.size,3,none⟩ (.int .i64 j3)).setCell ⟨w2.heap.size,4,none⟩ (.string qh)).setCell ⟨w2.heap.size,5,none⟩ (.string j9)).setCell ⟨w2.heap.size,6,none⟩ (.slice jR jN jD)).setCell ⟨w2.heap.size,7,none⟩ (.slice wD wV gJ)) w2.heap.size #[.string s2,.string t2,.int .i64 qI,.int .i64 j3,.string qh,.string j9,.slice jR jN jD,.slice wD wV gJ] 144:=by
      have:=(((((((xP.set 0 (.string s2)).set 1 (.string t2)).set 2 (.int .i64 qI)).set 3 (.int .i64 j3)).set 4 (.string qh)).set 5 (.string j9)).set 6 (.slice jR jN jD)).set 7 (.slice wD wV gJ);simpa only [qxd,qxe,qxf] using this
     have we:=zaa zo.own FX (fun k hk e=>by have:=(zo.own.lt k hk).1;omega);have pI:((((((((w5.setCell ⟨w2.heap.size,0,none⟩ (.string s2)).setCell ⟨w2.heap.size,1,none⟩ (.string t2)).setCell ⟨w2.heap.size,2,none⟩ (.int .i64 qI)).setCell ⟨w2.heap.size,3,none⟩ (.int .i64 j3)).setCell ⟨w2.heap.size,4,none⟩ (.string qh)).setCell ⟨w2.heap.size,5,none⟩ (.string j9)).setCell ⟨w2.heap.size,6,none⟩ (.slice jR jN jD)).setCell ⟨w2.heap.size,7,none⟩ (.slice wD wV gJ)).heap.size=w5.heap.size:=(by simp);have qR : ∀j u,[Value.string s2,Value.string t2,Value.int .i64 qI,Value.int .i64 j3,Value.string qh,Value.string j9,Value.slice jR jN jD,Value.slice wD wV gJ][j]? = some u→(((((((((w5.setCell ⟨w2.heap.size,0,none⟩ (.string s2)).setCell ⟨w2.heap.size,1,none⟩ (.string t2)).setCell ⟨w2.heap.size,2,none⟩ (.int .i64 qI)).setCell ⟨w2.heap.size,3,none⟩ (.int .i64 j3)).setCell ⟨w2.heap.size,4,none⟩ (.string qh)).setCell ⟨w2.heap.size,5,none⟩ (.string j9)).setCell ⟨w2.heap.size,6,none⟩ (.slice jR jN jD)).setCell ⟨w2.heap.size,7,none⟩ (.slice wD wV gJ)).alloc (.cells #[.string s2,.string t2,.int .i64 qI,.int .i64 j3,.string qh,.string j9,.slice jR jN jD,.slice wD wV gJ] 144)).cell? ((⟨w5.heap.size,0,none⟩:Addr).add j)=some u:=by
      have:=World.news_of_block (Blk.new ((((((((w5.setCell ⟨w2.heap.size,0,none⟩ (.string s2)).setCell ⟨w2.heap.size,1,none⟩ (.string t2)).setCell ⟨w2.heap.size,2,none⟩ (.int .i64 qI)).setCell ⟨w2.heap.size,3,none⟩ (.int .i64 j3)).setCell ⟨w2.heap.size,4,none⟩ (.string qh)).setCell ⟨w2.heap.size,5,none⟩ (.string j9)).setCell ⟨w2.heap.size,6,none⟩ (.slice jR jN jD)).setCell ⟨w2.heap.size,7,none⟩ (.slice wD wV gJ)) #[.string s2,.string t2,.int .i64 qI,.int .i64 j3,.string qh,.string j9,.slice jR jN jD,.slice wD wV gJ] 144)
      rwa [pI] at this
     have ru:(((((((((w5.setCell ⟨w2.heap.size,0,none⟩ (.string s2)).setCell ⟨w2.heap.size,1,none⟩ (.string t2)).setCell ⟨w2.heap.size,2,none⟩ (.int .i64 qI)).setCell ⟨w2.heap.size,3,none⟩ (.int .i64 j3)).setCell ⟨w2.heap.size,4,none⟩ (.string qh)).setCell ⟨w2.heap.size,5,none⟩ (.string j9)).setCell ⟨w2.heap.size,6,none⟩ (.slice jR jN jD)).setCell ⟨w2.heap.size,7,none⟩ (.slice wD wV gJ)).alloc (.cells #[.string s2,.string t2,.int .i64 qI,.int .i64 j3,.string qh,.string j9,.slice jR jN jD,.slice wD wV gJ] 144)).heap.size=w5.heap.size+1:=(by rw [qyd,pI]);have FA:=FX.alloc (.cells #[.string s2,.string t2,.int .i64 qI,.int .i64 j3,.string qh,.string j9,.slice jR jN jD,.slice wD wV gJ] 144);have n8:=kX.alloc (.cells #[.string s2,.string t2,.int .i64 qI,.int .i64 j3,.string qh,.string j9,.slice jR jN jD,.slice wD wV gJ] 144);have wi:=we.alloc (.cells #[.string s2,.string t2,.int .i64 qI,.int .i64 j3,.string qh,.string j9,.slice jR jN jD,.slice wD wV gJ] 144);have htl':ts.length≤1000000:=by omega
     go_wp2_with (first | (at_builtin;refine Stop.out ?_) | fail)
     refine Stop.mk ?_;refine wpList_append_lies _ rfl _ _ 82 rfl (w2.heap.size+1) 144 i0 (.agg #[.string ⟨#[]⟩,.string ⟨#[]⟩,.int .i64 0,.int .i64 0,.string ⟨#[]⟩,.string ⟨#[]⟩,.slice none 0 0,.slice none 0 0]) 8 128 Tryz.underlying82 hi qw j5 li rfl (by decide) _ ts.length xs rfl wi ⟨w5.heap.size,0,none⟩ 1 1 [.string s2,.string t2,.int .i64 qI,.int .i64 j3,.string qh,.string j9,.slice jR jN jD,.slice wD wV gJ] rfl rfl qR (by intro u hu;simp at hu;rcases hu with rfl | rfl | rfl | rfl | rfl | rfl | rfl | rfl <;> rfl) (by decide) (by unfold maxLen;omega) (by omega) (by omega) (w5.heap.size+1) ru ?_;intro g cap w6 j7 fN qZ uN
     go_wp2_with fail
     have qZ:(Value.slice l ts.length c).ownBlock=some g∨g=w5.heap.size+1:=qZ;have F6:Fr (fun k=>k=w2.heap.size∨(Value.slice l ts.length c).ownBlock=some k) w5 w6:=(FA.mono (fun k _ e=>.inl e)).grown fN (fun k e _=>.inr e);have n9:Blk w6 w2.heap.size #[.string s2,.string t2,.int .i64 qI,.int .i64 j3,.string qh,.string j9,.slice jR jN jD,.slice wD wV gJ] 144:=Blk.keep n8 (S:=fun k=>(Value.slice l ts.length c).ownBlock=some k) ((Fr.refl _ _).grown fN (fun k e _=>e)) (fun e=>by have:=(vH.lt _ e).1;omega);have rP:=zj.snoc zb0 hb jE f5 (hd:=[.string s2,.string t2,.int .i64 qI,.int .i64 j3,.string qh,.string j9,.slice jR jN jD,.slice wD wV gJ]) rfl zg F6 n9 j7 (qZ.imp id (fun h=>by omega))
     go_roundg (toks.length-q2+1)
     case measure=>have:=HG.out;omega
     case rel=>
      refine⟨ts++[z],_,_,_,n',q2,by rw [qye,qyh],rP,h5.keep F6 ?_ (fun g' kI => ?_),by omega,qo,rfl,by have:=HN.out;have:=cz.out;omega,by rw [qye,qyh];omega,?_⟩
      ·rintro (e | e)
       ·omega
       ·have:=(vH.lt _ e).1;omega
      ·have:=qQ g' kI;rintro (e | e)
       ·omega
       ·have:=(vH.lt _ e).1;omega
      ·rw [vD.out,cz.out,Sx.ztp (by rw [H2.out];simpa using hc) (by rw [qys];exact HR.out),pP.out]
theorem zu2(W:World)(b:Nat)(la:Option Addr)(lc:Nat)(L:List RT)(toks:List Lx.Tok)(len:Int)(hL:RtOf L toks len)(q:Nat)(h:Rd W b la lc L q)(hq:q≤toks.length) :
  Calls Tryz.prog 104 #[.pointer (some ⟨b,0,none⟩)] W (zq1 b la lc L toks len (fun (x:List UInt8) v=>∃s:ByteArray,v=.string s∧s.toList=x) (Sx.zag 3 (toks.drop q)) q W):=by
 obtain⟨x,hx⟩ : ∃x,L[q]? = some x:=⟨_,List.getElem?_eq_getElem (by rw [hL];simp;omega)⟩;obtain⟨jb,hd2,vj⟩:=zc2 hL hx hq;have HX:=qya hx;have H1:=qya jb;have H2:=qya hd2;have H3:=qya vj;clear hx jb hd2 vj;cases hc:(x.k != 3)
 ·have hk:x.k=3:=by simpa using hc
  have qx:q<toks.length:=by
   obtain⟨t,r,h1,_⟩:=zep hL HX.out (by omega);exact h1
  have HC:=qya hc;have HK:=qya hk;clear hc hk
  go_enter Tryz.func104,Tryz.ntmps104
  go_wp2_with fail
  (with_reducible refine (zle W b la lc L q h x HX.out 3 HC.out).mono ?_)
  rintro e w1 ⟨rfl,h1,f1⟩;go_wp2;go_ret;refine⟨f1,?_⟩;rw [Sx.zag,if_pos (by rw [H1.out];exact HK.out),qys];exact⟨_,rfl,⟨_,rfl,by rw [H2.out]⟩,rfl,qx,h1⟩
 ·have HC:=qya hc;clear hc
  go_enter Tryz.func104,Tryz.ntmps104
  go_wp2_with fail
  (with_reducible refine (zlf W b la lc L q h x HX.out 3 HC.out).mono ?_)
  rintro e w1 ⟨rfl,f1⟩;go_wp2;refine⟨rfl,f1,?_⟩;rw [Sx.zag,if_neg (by rw [H1.out];simpa using HC.out)];show panS _=panS _;rw [H3.out]
theorem zs6(W:World)(b:Nat)(la:Option Addr)(lc:Nat)(L:List RT)(toks:List Lx.Tok)(len:Int)(hL:RtOf L toks len)(q:Nat)(h:Rd W b la lc L q)(hq:q≤toks.length) :
  Calls Tryz.prog 214 #[.pointer (some ⟨b,0,none⟩)] W (zq1 b la lc L toks len (fun (x:List UInt8) v=>∃s:ByteArray,v=.string s∧s.toList=x) (Sx.zag 4 (toks.drop q)) q W):=by
 obtain⟨x,hx⟩ : ∃x,L[q]? = some x:=⟨_,List.getElem?_eq_getElem (by rw [hL];simp;omega)⟩;obtain⟨jb,hd2,vj⟩:=zc2 hL hx hq;have HX:=qya hx;have H1:=qya jb;have H2:=qya hd2;have H3:=qya vj;clear hx jb hd2 vj;cases hc:(x.k != 4)
 ·have hk:x.k=4:=by simpa using hc
  have qx:q<toks.length:=by
   obtain⟨t,r,h1,_⟩:=zep hL HX.out (by omega);exact h1
  have HC:=qya hc;have HK:=qya hk;clear hc hk
  go_enter Tryz.func214,Tryz.ntmps214
  go_wp2_with fail
  (with_reducible refine (zle W b la lc L q h x HX.out 4 HC.out).mono ?_)
  rintro e w1 ⟨rfl,h1,f1⟩;go_wp2;go_ret;refine⟨f1,?_⟩;rw [Sx.zag,if_pos (by rw [H1.out];exact HK.out),qys];exact⟨_,rfl,⟨_,rfl,by rw [H2.out]⟩,rfl,qx,h1⟩
 ·have HC:=qya hc;clear hc
  go_enter Tryz.func214,Tryz.ntmps214
  go_wp2_with fail
  (with_reducible refine (zlf W b la lc L q h x HX.out 4 HC.out).mono ?_)
  rintro e w1 ⟨rfl,f1⟩;go_wp2;refine⟨rfl,f1,?_⟩;rw [Sx.zag,if_neg (by rw [H1.out];simpa using HC.out)];show panS _=panS _;rw [H3.out]
theorem zn5(b:Nat)(la:Option Addr)(lc:Nat)(L:List RT)(toks:List Lx.Tok)(len:Int)(hL:RtOf L toks len)(q:Nat)
  (w:World)(h:Rd w b la lc L q)(hq:q≤toks.length)(M0:Sx.Res Sx.Con)(HM:Hid (M0=Sx.con (toks.drop q))) :
  Calls Tryz.prog 216 #[.pointer (some ⟨b,0,none⟩)] w (zaf ConAt b la lc L toks len M0 q w):=by
 have HM:Hid (M0=(Sx.zag 3 (toks.drop q)).bind fun n r=>(Sx.many Sx.za7 (fun l=>Sx.zak (Sx.fuel l) l) r.length r).map fun xs=>⟨n,xs⟩):=HM;have hb:=h.blk.lt;have qQ:=h.glt (by rw [hL];simp;omega);have O0:Old w (w.alloc (.cells #[.string ⟨#[]⟩,.slice none 0 0] 177)):=(Old.refl w).alloc _;have qD:=Blk.new w #[.string ⟨#[]⟩,.slice none 0 0] 177;have h0:=h.old O0;obtain⟨qp,qr⟩ : ∃qp,w.alloc (.cells #[.string ⟨#[]⟩,.slice none 0 0] 177)=qp:=⟨_,rfl⟩;have qw:qp.heap.size=w.heap.size+1:=by rw [← qr];simp
 rw [qr] at O0 qD h0;have vh:=qya qr;have qi:=qya qw;clear qr qw
 go_enter Tryz.func216,Tryz.ntmps216
 go_wp2_with fail
 rw [vh.out]
 (with_reducible refine (zu2 qp b la lc L toks len hL q h0 hq).mono ?_)
 rintro e w1 ⟨f1,hp⟩;cases hres:Sx.zag 3 (toks.drop q) with
 | bad rest=>
  rw [hres] at hp;have hp:e=panS (zah len rest):=hp;subst hp;have HR:=qya hres;clear hres;go_wp2;refine⟨rfl,Fr.trans (Old.but O0 b) f1,?_⟩;rw [HM.out,HR.out]
  try rfl
 | ok ww rest=>
  rw [hres] at hp;obtain⟨_,rfl,⟨s,rfl,hs⟩,qq,xK,h1⟩:=hp;have HM:Hid (M0=(Sx.many Sx.za7 (fun l=>Sx.zak (Sx.fuel l) l) (toks.drop (q+1)).length (toks.drop (q+1))).map fun xs=>⟨ww,xs⟩):=qya (by rw [HM.out,hres,qq];try rfl);clear hres qq;have HS:=qya hs;clear hs;have hm:=callsIn_wide.1 (znr w1 b la lc L toks len hL (q+1) h1 xK Sx.za7 zgr (fun l=>Sx.zak (Sx.fuel l) l) (fun q' W hl hr jq=>(zic b la lc L toks len hL (Sx.fuel (toks.drop q'))).2.2 q' W (by unfold Sx.fuel;rw [qym];omega) hr (Nat.le_of_lt jq)) (toks.drop (q+1)).length (by rw [qym];omega));have vw:=mkf
  go_wp2_with fail
  (with_reducible refine (hm).mono ?_)
  rintro e w3 ⟨f3,hp⟩;cases hres:Sx.many Sx.za7 (fun l=>Sx.zak (Sx.fuel l) l) (toks.drop (q+1)).length (toks.drop (q+1)) with
  | bad rest=>
   rw [hres] at hp;have hp:e=panS (zah len rest):=hp;subst hp;have HR:=qya hres;clear hres;go_wp2;refine⟨rfl,Fr.trans (Old.but O0 b) (Fr.trans f1 f3),?_⟩;rw [HM.out,HR.out]
   try rfl
  | ok vC rest=>
   rw [hres] at hp;obtain⟨v3,xs3,F3,q3,rfl,qq,uw,dD,h3,qf,htys3,zz⟩:=hp;have HM:Hid (M0=.ok ⟨ww,vC⟩ (toks.drop q3)):=qya (by rw [HM.out,hres,qq];try rfl);clear hres qq;obtain⟨l3,c3,rfl⟩:=zad qf;have uZ:But b qp w3:=Fr.trans f1 f3;have z03:=uZ.size;have z01:=f1.size;have z3:=f3.size;have qw:=qi.out;have xZ:=qD.keep uZ (by omega);obtain⟨vM,kp⟩:=xZ.c2;obtain⟨kq,kn⟩:=xZ.f2;have qJ:=xZ.lt;clear qw;go_wp2;have S2:=((Fr.refl (fun k=>k=w.heap.size) w3).setCell ⟨w.heap.size,0,none⟩ (fun _=>rfl) (.string s)).setCell ⟨w.heap.size,1,none⟩ (fun _=>rfl) (.slice l3 vC.length c3);have k3:Blk ((w3.setCell ⟨w.heap.size,0,none⟩ (.string s)).setCell ⟨w.heap.size,1,none⟩ (.slice l3 vC.length c3)) w.heap.size #[.string s,.slice l3 vC.length c3] 177:=by
    have:=(xZ.set 0 (.string s)).set 1 (.slice l3 vC.length c3);simpa only [qxd,qxe,qxf] using this
   have zD:((w3.setCell ⟨w.heap.size,0,none⟩ (.string s)).setCell ⟨w.heap.size,1,none⟩ (.slice l3 vC.length c3)).heap.size=w3.heap.size:=(by simp);obtain⟨Wf,qv⟩ : ∃W1,(w3.setCell ⟨w.heap.size,0,none⟩ (.string s)).setCell ⟨w.heap.size,1,none⟩ (.slice l3 vC.length c3)=W1:=⟨_,rfl⟩;rw [qv] at S2 k3 zD ⊢;clear qv;obtain⟨qP,qC⟩:=k3.c2;refine bodyPost_ret (v:=.agg #[.string s,.slice l3 vC.length c3]) (by simp [results,Tryz.results216,go_sem,qP,qC]) rfl ?_;have S3:=S2;have qw:=qi.out;have zf:=S3.size;refine⟨(Fr.trans (Old.but O0 b) uZ).trans' S3 (fun k hk e=>by omega),?_⟩;rw [HM.out];refine⟨_,q3,rfl,rfl,by omega,dD,h3.keep S3 (by omega) (fun g hg=>by have:=qQ g hg;omega),s,_,xs3,rfl,HS.out,⟨zaa (qf.mono (qyi _)) S3 (fun k hk e=>by have:=(qf.lt k hk).1;omega),fun k hk=>⟨by have:=(qf.lt k hk).1;omega,qyc (qf.lt k hk).2 zf⟩⟩,TysAt.more (fun k hk=>⟨by have:=(zz k hk).1;omega,qyc (zz k hk).2 zf⟩) _ _ (htys3.keep S3 (fun k hk e=>by have:=(zz k hk).1;omega))⟩
end Go.Proofs.YtclgbmmambkiaaaGreatDoor
namespace Go
variable {P:Program} {w:World}
theorem zbi{F:Fence}{nF:Nat}{ops:Array Oper}{rest:List Oper}{o:Oper}{a:Act}{Q:Exit→Act→World→Prop}(hgd:o.guard=none)(s x:Operand)(t:TypeId)
  (ho:o.op=.call { callee:=.builtin .append,args:=#[s,x],argTypes:=#[t,t] })
  (base:Nat)(e:TypeId)(i:TypeInfo)(z:Value)(size bytes:Nat)(ht:P.underlying t=some (.slice e))(hi:P.info? e=some i)(hz:i.zero=some z)
  (fg:i.size=size)(hby:i.bytes=bytes)(rk:z.cells.size=size)(qY:0<size)
  (v:Value)(n:Nat)(xs:List Value)(hs:a.eval s=v)(qz:w.ownsRow base e size v n xs)
  (ad:Addr)(m c:Nat)(jw:List Value)(hx:a.eval x=.slice (some ad) m c)(hl:jw.length=m*size)(qR : ∀j u,jw[j]? = some u→w.cell? (ad.add j)=some u)(h1 : ∀u∈jw,u.oneCell'=true)
  (hm:0<m)(h63:n+m≤maxLen)(ue:(n+m)*bytes≤140737488355328)(ua:base≤w.heap.size)(H:Nat)(hH:w.heap.size=H)
  (h : ∀g cap w',w'.ownsRow base e size (.slice (some ⟨g,0,none⟩) (n+m) cap) (n+m) (xs++jw)→w.grownBy w' v.ownBlock→(v.ownBlock=some g∨g=H)→g<w'.heap.size→wpListIn F nF P ops Q rest (a.put o.dst (.slice (some ⟨g,0,none⟩) (n+m) cap)) w') :
  wpListIn F nF P ops Q (o::rest) a w:=by
 refine wpListIn_plain hgd fun K hK => ?_;obtain⟨g,cap,w',hr,h2,h3,h4,h5⟩:=run_append_lies (P:=P) w t o.type base e i z size bytes ht hi hz fg hby rk qY v n xs qz ad m c jw hl qR h1 hm h63 ue ua H hH;unfold Oper.wpIn;refine⟨by simp [Oper.about,ho,resolve,Target.leads,Sem.run_pure],?_⟩;rw [Oper.semAt_plain F _ _ (by rw [ho];intro c ul;cases ul)];simp [execOp,ho,resolve,invoke,builtin,hs,hx,hr,Result.andThen];exact hK _ _ (h g cap w' h2 h3 h4 h5)
end Go
namespace Go.Proofs.YtclgbmmambkiaaaGreatDoor.S
open Go.RowKit
attribute [local go_sem] Oper.semAt_some
def StAt(_:World)(_:Nat→Prop)(x:List UInt8)(v:Value):Prop:=∃s:ByteArray,v=.string s∧s.toList=x
theorem StAt.bv{w:World}{F:Nat→Prop}{x:List UInt8}{s:ByteArray}(h:StAt w F x (.string s)):Value.string s=bv x:=by
 obtain⟨s',h1,h2⟩:=h;cases h1;rw [← h2,zcf]
theorem own_ne_ty{w:World}{base:Nat}{e:TypeId}{size:Nat}{v u:Value}{n:Nat}{xs:List Value}{T:TypeId}(h:w.ownsRow base e size v n xs){k:Nat}(hk:v.ownBlock=some k)(ho:Blk w k #[u] T)(hT:T≠e):False:=
 zan h hk ho (by intro cs fr he;cases he;exact hT rfl)
structure ManyAt(w0:World)(b A E R l D:Nat)(bf ef:Value)(st:Loop)(ts:List (List UInt8))(W:World):Prop where
 bg : ∃T,T≠9∧Blk W A #[bf] T
 el : ∃T,T≠9∧Blk W E #[ef] T
 box : ∃v,Blk W R #[v] 78∧W.ownsRow w0.heap.size 9 1 v ts.length (ts.map bv)
 L:W.heap[l]? = some (.loop st)
 K:W.heap[D]? = some (.deferred (some []))
 but:But b w0 W
theorem ManyAt.old{w0:World}{b A E R l D:Nat}{bf ef:Value}{st:Loop}{ts:List (List UInt8)}{W W':World}(h:ManyAt w0 b A E R l D bf ef st ts W)(hb:b<w0.heap.size)(hA:b<A)(hE:b<E)(hR:b<R)(hl:b<l)(hD:b<D)(hf:But b W W'):ManyAt w0 b A E R l D bf ef st ts W':=by
 obtain⟨v,h1,h2⟩:=h.box;obtain⟨TA,hTA,kx⟩:=h.bg;obtain⟨TE,hTE,q9⟩:=h.el;refine⟨⟨TA,hTA,kx.keep hf (by omega)⟩,⟨TE,hTE,q9.keep hf (by omega)⟩,⟨v,h1.keep hf (by omega),zaa h2 hf (fun k hk e => ?_)⟩,hf.heap h.L (by omega),hf.heap h.K (by omega),h.but.trans hf⟩;have:=(h2.lt k hk).1;omega
theorem ManyAt.loop{w0:World}{b A E R l D:Nat}{bf ef:Value}{st gS:Loop}{ts:List (List UInt8)}{W W':World}(h:ManyAt w0 b A E R l D bf ef st ts W)(hl:w0.heap.size≤l)(xd:A≠l)(yh:E≠l)(qJ:R≠l)(yB:D≠l)(hf:Fr (fun k=>k=b∨k=l) W W')(hA:A≠b)(hE:E≠b)(hR:R≠b)(hD:D≠b)(hb:b<w0.heap.size)(hL:W'.heap[l]? = some (.loop gS)):ManyAt w0 b A E R l D bf ef gS ts W':=by
 obtain⟨v,h1,h2⟩:=h.box;obtain⟨TA,hTA,kx⟩:=h.bg;obtain⟨TE,hTE,q9⟩:=h.el;have tA : ∀k,v.ownBlock=some k→k≠l:=fun k hk e=>zan h2 hk (e▸h.L) (by intro cs fr;exact fun e=>by cases e);refine⟨⟨TA,hTA,kx.keep hf (by omega)⟩,⟨TE,hTE,q9.keep hf (by omega)⟩,⟨v,h1.keep hf (by omega),zaa h2 hf (fun k hk e => ?_)⟩,hL,hf.heap h.K (by omega),h.but.trans' hf ?_⟩
 ·have:=(h2.lt k hk).1;have:=tA k hk;omega
 ·intro k hk e;rcases e with e | e
  ·exact e
  ·omega
def ManyJ(w0:World)(b A E R l D:Nat)(bf ef:Value)(qj:LoopState→Option Code→Loop)(la:Option Addr)(lc:Nat)(L:List RT)(toks:List Lx.Tok)(q0:Nat)(bg:Lx.Tok→Bool)(el:List Lx.Tok→Sx.Res (List UInt8))(M0:Sx.Res (List (List UInt8)))(q:Nat)(W:World):Prop:=
 ∃ts m,ManyAt w0 b A E R l D bf ef (qj .ready none) ts W∧Rd W b la lc L q∧q≤toks.length∧toks.length-q≤m∧q0+ts.length≤q∧M0=(Sx.many bg el m (toks.drop q)).map (ts ++ ·)
def ManyF(w0:World)(b A E R l D:Nat)(bf ef:Value)(qj:LoopState→Option Code→Loop)(la:Option Addr)(lc:Nat)(L:List RT)(toks:List Lx.Tok)(q0:Nat)(M0:Sx.Res (List (List UInt8)))(W:World):Prop:=
 ∃ts q,ManyAt w0 b A E R l D bf ef (qj .done (some (.exit 0))) ts W∧Rd W b la lc L q∧q≤toks.length∧q0+ts.length≤q∧M0=.ok ts (toks.drop q)
def ManyP(w0:World)(b D:Nat)(len:Int)(M0:Sx.Res (List (List UInt8)))(c:List PanicEntry)(W:World):Prop:=
 ∃rest,M0=.bad rest∧Ending.panicked c=panS (zah len rest)∧But b w0 W∧W.heap[D]? = some (.deferred (some []))
theorem infoS:(Tryz.prog.info? 9).map (fun i=>(i.zero,i.size,i.bytes))=some (some (.string ⟨#[]⟩),1,16):=by kernel_rfl
theorem manyX_yield(n:Nat)(w0:World)(b A E R l D:Nat)(hb:b<w0.heap.size)(hA:w0.heap.size≤A)(hE:w0.heap.size≤E)(hR:w0.heap.size≤R)(hl:w0.heap.size≤l)(hD:w0.heap.size≤D)(xd:A≠l)(yh:E≠l)(qJ:R≠l)(yB:D≠l)(rT:A≠R)(eJ:E≠R)(rD:D≠R)
  (Ac Bc:Code)(jI:zay (Tryz.f212.body.getD .skip)=some (Ac,Bc))(tm:Array Value)
  (f0 f1 f2 f3 f6 f8 f9 fY uL gm gr f14 gn gt gd gf fX fK fV fZ pG:Value)
  (jS:tm=#[f0,f1,f2,f3,.pointer (some ⟨A,0,none⟩),.pointer (some ⟨E,0,none⟩),f6,.pointer (some ⟨R,0,none⟩),f8,f9,fY,uL,gm,gr,f14,gn,gt,gd,gf,fX,fK,fV,fZ,pG])
  (qj:LoopState→Option Code→Loop)(qu:qj=fun st pe => { state:=st,pending:=pe,fn:=212,tmps:=tm,params:=#[12],assign:=Ac,body:=Bc,defers:=D })
  (la:Option Addr)(lc:Nat)(L:List RT)(toks:List Lx.Tok)(len:Int)(hL:RtOf L toks len)(qE : ∀g,la=some g→g.block<w0.heap.size)
  (bg:Lx.Tok→Bool)(kx : ∀(t:Lx.Tok) (W:World),Calls Tryz.prog 213 #[rtV (rt t)] W fun e W'=>e=.returned (.bool (bg t))∧Old W W')
  (q0:Nat)(el:List Lx.Tok→Sx.Res (List UInt8))(q9 : ∀(q:Nat) (W:World),q0≤q→Rd W b la lc L q→q<toks.length→Calls Tryz.prog 214 #[.pointer (some ⟨b,0,none⟩)] W (zaf StAt b la lc L toks len (el (toks.drop q)) q W))
  (M0:Sx.Res (List (List UInt8)))(q:Nat)(x:RT)(W:World)(hx:L[q]? = some x)(hk:x.k≠0)
  (h:ManyJ w0 b A E R l D (.func (.func 213) #[] #[]) (.func (.func 214) #[.pointer (some ⟨b,0,none⟩)] #[]) qj la lc L toks q0 bg el M0 q W) :
  YieldAt Fence.wide n Tryz.prog l #[rtV x] W (zdj (ManyJ w0 b A E R l D (.func (.func 213) #[] #[]) (.func (.func 214) #[.pointer (some ⟨b,0,none⟩)] #[]) qj la lc L toks q0 bg el M0) q
   (ManyF w0 b A E R l D (.func (.func 213) #[] #[]) (.func (.func 214) #[.pointer (some ⟨b,0,none⟩)] #[]) qj la lc L toks q0 M0) (ManyP w0 b D len M0)):=by
 obtain⟨ts,m,hM,jc,dU,hm,ci,qV⟩:=h;obtain⟨t,r,hq,qW,rfl⟩:=zep hL hx hk;have km:=hM.L;have vP:=km;rw [qu] at vP;refine⟨212,_,Ac,Bc,run_yield (P:=Tryz.prog) (args:=#[rtV (rt t)]) vP rfl,roundIn_of_wpIn_panics (F:=Fence.wide) (fn:=Tryz.f212) trivial Tryz.func212 ?_⟩;have j8:=jI;simp only [Tryz.f212,Option.getD_some,zay,Option.orElse_none,Option.orElse_some,Option.some.injEq,Prod.mk.injEq] at j8;obtain⟨yp,kw⟩:=j8;rw [jS];simp only [Array.foldl,Array.zip,List.zip];rw [← yp];clear jI yp vP;gi_wp2;obtain⟨W1,qd⟩ : ∃W1,W.alloc (.cells #[.int .i64 (rt t).k,.int .i64 (rt t).n,.string (rt t).s,.int .i64 (rt t).a] 59)=W1:=⟨_,rfl⟩;rw [qd];have nT:Blk W1 W.heap.size #[.int .i64 (rt t).k,.int .i64 (rt t).n,.string (rt t).s,.int .i64 (rt t).a] 59:=by rw [← qd];exact Blk.new _ _ _
 have O1:Old W W1:=by rw [← qd];exact (Old.refl W).alloc _
 have L1:W1.heap[l]? = some (.loop (qj .ready none)):=O1.heap km (by simp);clear qd;refine⟨_,run_beginRound L1 (by rw [qu]),?_⟩;have gj:Hid ({ { qj .ready none with state:=.busy } with state:=.ready,pending:=none } = qj .ready none):=qya (by rw [qu]);have fD:Hid ({ { qj .ready none with state:=.busy } with state:=.done,pending:=some (.exit 0) } = qj .done (some (.exit 0))):=qya (by rw [qu]);clear jS qu;obtain⟨W2,jJ⟩ : ∃W2,W1.putObj l (.loop { qj .ready none with state:=.busy })=W2:=⟨_,rfl⟩;rw [jJ];obtain⟨v,fL,qz⟩:=hM.box;obtain⟨TA,hTA,yT⟩:=hM.bg;obtain⟨TE,hTE,uM⟩:=hM.el;have hRW:R<W.heap.size:=fL.lt;have gx:l<W.heap.size:=zaj km;have dH:W.heap.size≠l:=by omega
 have F2:Fr (fun k=>k=l) W W2:=by rw [← jJ];exact (Fr.old O1).putObj l _ (fun _=>rfl)
 have wq:Blk W2 W.heap.size #[.int .i64 (rt t).k,.int .i64 (rt t).n,.string (rt t).s,.int .i64 (rt t).a] 59:=by rw [← jJ];exact nT.putObj dH _
 have L2:W2.heap[l]? = some (.loop { qj .ready none with state:=.busy }):=by rw [← jJ];exact World.putObj_heap_same (zaj L1)
 clear jJ;have qG:Rd W2 b la lc L q:=jc.keep F2 (by omega) (fun g hg=>by have:=qE g hg;omega);have dy:=yT.keep F2 xd;have vI:=uM.keep F2 yh;have xi:=fL.keep F2 qJ;obtain⟨n0,n1,n2,n3,-⟩:=wq.four;have a0:=dy.cell (i:=0) rfl;have e0:=vI.cell (i:=0) rfl;have HB:=qya kw;rw [← kw];clear kw;cases hbx:bg t
 ·have kh:=qya hbx
  gi_wp2_with fail
  refine⟨trivial,fun e=>by simp [Fence.wide] at e,CallsIn.inRound l ((callsIn_wide.2 (kx t W2)).mono ?_)⟩;rintro e w3 ⟨rfl,O3⟩;rw [kh.out];have L3:=O3.heap L2 (fun e=>e);have qN:=qG.old O3;gi_wp2;obtain⟨W',qv⟩ : ∃W',w3.putObj l (.loop (qj .done (some (.exit 0))))=W':=⟨_,rfl⟩;have qy:=run_endRound (P:=Tryz.prog) (some (.exit 0)) L3;have qe:(Instr.endRound l (some (.exit 0))).run Tryz.prog w3=.ok (.bool false) W':=by rw [← qv,← fD.out];exact qy
  have F3:Fr (fun k=>k=b∨k=l) W W':=by rw [← qv];exact ((Fr.trans' F2 O3 (fun _ _ e=>False.elim e)).mono (fun k _ e=>.inr e)).putObj l _ (fun _=>.inr rfl)
  refine⟨_,_,qe,.inr (.inl ⟨rfl,ts,q,hM.loop hl xd yh qJ yB F3 (by omega) (by omega) (by omega) (by omega) hb (by rw [← qv];exact World.putObj_heap_same (zaj L3)),?_,dU,ci,?_⟩)⟩
  ·rw [← qv];exact qN.keep ((Fr.refl (fun k=>k=l) w3).putObj l _ (fun _=>rfl)) (by omega) (fun g hg=>by have:=qE g hg;omega)
  ·rw [qV,Sx.zgk (by rw [qW];exact kh.out)];simp [Sx.Res.map]
 ·have kh:=qya hbx
  gi_wp2_with fail
  refine⟨trivial,fun e=>by simp [Fence.wide] at e,CallsIn.inRound l ((callsIn_wide.2 (kx t W2)).mono ?_)⟩;rintro e w3 ⟨rfl,O3⟩;rw [kh.out];have L3:=O3.heap L2 (fun e=>e);have qN:=qG.old O3;have e3:=(Blk.keep vI O3 (fun e=>e)).cell (i:=0) rfl;have vf:=Blk.keep xi O3 (fun e=>e);have bC : ∃m',m=m'+1:=⟨m-1,by omega⟩;obtain⟨m',rfl⟩:=bC;have qm:Sx.many bg el (m'+1) (toks.drop q)=(el (toks.drop q)).bind fun x r=>(Sx.many bg el m' r).map (x :: ·):=by
   rw [Sx.many,if_pos ⟨by rw [qW];exact hk,by rw [qW];exact kh.out⟩]
  have uE:=qya qm;have zX:=qya qV;clear qm qV
  gi_wp2_with fail
  refine⟨trivial,fun e=>by simp [Fence.wide] at e,CallsIn.inRound l ((callsIn_wide.2 (q9 q w3 (by omega) qN hq)).mono ?_)⟩;rintro e w4 ⟨f4,hp⟩;have F4:Fr (fun k=>k=b∨k=l) W w4:=Fr.trans' (Fr.trans' (F2.mono (S':=fun k=>k=b∨k=l) (fun k _ e=>.inr e)) O3 (fun _ _ e=>False.elim e)) f4 (fun k _ e=>.inl e);cases hres:el (toks.drop q) with
  | bad rest=>
   rw [hres] at hp;have hp:e=panS (zah len rest):=hp;subst hp;have xB:=qya hres;clear hres;gi_wp2;refine⟨rfl,.inr (.inr ⟨_,rfl,rest,?_,rfl,hM.but.trans' F4 (fun k hk e=>by omega),F4.heap hM.K (by omega)⟩)⟩;rw [zX.out,uE.out,xB.out];rfl
  | ok y rest=>
   rw [hres] at hp;obtain⟨yv,q',rfl,qq,qx,qX,gz,zq⟩:=hp;have xB:=qya hres;clear hres;obtain⟨nm,rfl,dF⟩:=zq;have L4:=f4.heap L3 (by omega);have dk:=vf.keep f4 (by omega);have bP : ∀k,v.ownBlock=some k→k≠D:=fun k hk e=>zan qz hk (e▸hM.K) (by intro cs fr;exact fun e=>by cases e);have pi : ∀k,v.ownBlock=some k→k≠l:=fun k hk e=>zan qz hk (e▸hM.L) (by intro cs fr;exact fun e=>by cases e);have ri : ∀k,v.ownBlock=some k→k≠A:=fun k hk e=>own_ne_ty qz hk (e▸yT) hTA;have lH : ∀k,v.ownBlock=some k→k≠E:=fun k hk e=>own_ne_ty qz hk (e▸uM) hTE;have hoR : ∀k,v.ownBlock=some k→k≠R:=fun k hk e=>own_ne_ty qz hk (e▸fL) (by decide);have uu:=zaa qz F4 (fun k hk e=>by
    have:=(qz.lt k hk).1;have:=pi k hk;omega)
   have lX:W.heap.size≤w3.heap.size:=qyu F2.size O3.size;have lK:=f4.size;have kH:=uu.alloc (.cells #[.string nm] 9);have dS:=dk.alloc (.cells #[.string nm] 9);have L5:(w4.alloc (.cells #[.string nm] 9)).heap[l]? = _:=((Old.refl w4).alloc _).heap L4 (fun e=>e);have O5:Old w4 (w4.alloc (.cells #[.string nm] 9)):=(Old.refl w4).alloc _;have z5:(w4.alloc (.cells #[.string nm] 9)).heap.size=w4.heap.size+1:=qyd _ _;have qR : ∀j u,[Value.string nm][j]? = some u→(w4.alloc (.cells #[.string nm] 9)).cell? ((⟨w4.heap.size,0,none⟩:Addr).add j)=some u:=World.news_of_block (Blk.new w4 #[.string nm] 9);have r4:=dk.c 0 v rfl;have hRl4:=dk.lt;obtain⟨i0,hi,qw,j5,jE⟩:=info_parts infoS;obtain⟨lv,cv,rfl⟩:=zad qz;have eu:ts.length≤1000000:=(by have:=jc.few;have:=jc.le;omega);have mj:=hM.but.size;have hRlr : ¬R=l:=qJ
   gi_wp2_with (first | (gi_at_builtin;refine Stop.out ?_) | fail)
   refine Stop.mk ?_;refine zbi rfl _ _ 78 rfl w0.heap.size 9 i0 (.string ⟨#[]⟩) 1 16 Tryz.underlying78 hi qw j5 jE rfl (by decide) _ ts.length (ts.map bv) rfl kH ⟨w4.heap.size,0,none⟩ 1 1 [.string nm] rfl rfl qR (by intro u hu;simp at hu;subst hu;rfl) (by decide) (by unfold maxLen;omega) (by omega) (by omega) (w4.heap.size+1) z5 ?_;intro g cap w6 j7 fN qZ uN;have qZ:(Value.slice lv ts.length cv).ownBlock=some g∨g=w4.heap.size+1:=qZ;have F6:Fr (fun k=>(Value.slice lv ts.length cv).ownBlock=some k) (w4.alloc (.cells #[.string nm] 9)) w6:=(Fr.refl _ _).grown fN (fun k e _=>e);have xC:=dS.keep F6 (fun e=>hoR _ e rfl);have L6:=F6.heap L5 (fun e=>pi _ e rfl);have hlW2:l<W.heap.size:=zaj hM.L;have xm:g≠R:=by
    rcases qZ with h | h
    ·exact hoR _ h
    ·omega
   have qQ:g≠l:=by
    rcases qZ with h | h
    ·exact pi _ h
    ·omega
   have r6:=xC.c 0 (.slice lv ts.length cv) rfl;have e6:=xC.free 0;have hRl6:=xC.lt;gi_wp2;have FR:Fr (fun k=>k=R) w6 (w6.setCell ⟨R,0,none⟩ (.slice (some ⟨g,0,none⟩) (ts.length+1) cap)):=(Fr.refl (fun k=>k=R) w6).setCell ⟨R,0,none⟩ (fun _=>rfl) _;have yf:Blk (w6.setCell ⟨R,0,none⟩ (.slice (some ⟨g,0,none⟩) (ts.length+1) cap)) R #[.slice (some ⟨g,0,none⟩) (ts.length+1) cap] 78:=xC.set 0 (.slice (some ⟨g,0,none⟩) (ts.length+1) cap);have j6:=zaa j7 FR (fun k hk e=>by cases hk;exact xm e);have L7:=FR.heap L6 (fun e=>qJ e.symm);obtain⟨w7,hw7⟩ : ∃w7,w6.setCell ⟨R,0,none⟩ (.slice (some ⟨g,0,none⟩) (ts.length+1) cap)=w7:=⟨_,rfl⟩;rw [hw7] at FR yf j6 L7 ⊢;clear hw7;obtain⟨W',qv⟩ : ∃W',w7.putObj l (.loop (qj .ready none))=W':=⟨_,rfl⟩;have qy:=run_endRound (P:=Tryz.prog) none L7;have qe:(Instr.endRound l none).run Tryz.prog w7=.ok (.bool true) W':=(by rw [← qv,← gj.out];exact qy);have F7:Fr (fun k=>k=l∨k=R∨(Value.slice lv ts.length cv).ownBlock=some k) w4 W':=by
    rw [← qv];exact (Fr.trans' (Fr.trans' (Fr.old O5) F6 (fun k hk e=>.inr (.inr e))) FR (fun k hk e=>.inr (.inl e))).putObj l _ (fun _=>.inl rfl)
   have F8:Fr (fun k=>k=b∨k=l∨k=R∨(Value.slice lv ts.length cv).ownBlock=some k) W W':=Fr.trans' (F4.mono (fun k _ e=>e.elim .inl (fun e=>.inr (.inl e)))) F7 (fun k _ e=>.inr e);have hR8:Blk W' R #[.slice (some ⟨g,0,none⟩) (ts.length+1) cap] 78:=(by rw [← qv];exact yf.putObj qJ _);have p9:=zaa j6 ((Fr.refl (fun k=>k=l) w7).putObj l (.loop (qj .ready none)) (fun _=>rfl)) (fun k hk e=>by cases hk;exact qQ e);rw [qv] at p9;have zy : ∀k,(Value.slice lv ts.length cv).ownBlock=some k→w0.heap.size≤k∧k<W.heap.size:=fun k hk=>qz.lt k hk;have L8:W'.heap[l]? = some (.loop (qj .ready none)):=(by rw [← qv];exact World.putObj_heap_same (zaj L7));have hnb:Value.string nm=bv y:=StAt.bv (w:=w4) (F:=fun _=>True) ⟨nm,rfl,dF⟩;refine⟨_,_,qe,.inl ⟨rfl,q',qx,ts++[y],m',⟨⟨TA,hTA,yT.keep F8 ?_⟩,⟨TE,hTE,uM.keep F8 ?_⟩,⟨_,hR8,?_⟩,L8,F8.heap hM.K ?_,hM.but.trans' F8 ?_⟩,?_,qX,?_,?_,?_⟩⟩
   ·rintro (e | e | e | e)
    ·omega
    ·exact xd e
    ·exact rT e
    ·exact ri _ e rfl
   ·rintro (e | e | e | e)
    ·omega
    ·exact yh e
    ·exact eJ e
    ·exact lH _ e rfl
   ·rw [qye,qyh,List.map_append,List.map_cons,List.map_nil,← hnb];exact p9
   ·rintro (e | e | e | e)
    ·omega
    ·exact yB e
    ·exact rD e
    ·exact bP _ e rfl
   ·rintro k hk (e | e | e | e)
    ·exact e
    ·omega
    ·omega
    ·have:=zy _ e;omega
   ·refine gz.keep F7 ?_ (fun g' kI => ?_)
    ·rintro (e | e | e)
     ·omega
     ·omega
     ·have:=zy _ e;omega
    ·have:=qE g' kI;rintro (e | e | e)
     ·omega
     ·omega
     ·have:=zy _ e;omega
   ·omega
   ·rw [qye,qyh];omega
   ·rw [zX.out,uE.out,xB.out,qq];show ((Sx.many bg el m' (toks.drop q')).map (y :: ·)).map (ts ++ ·)=_;cases Sx.many bg el m' (toks.drop q') with
    | ok z zr=>simp [Sx.Res.map]
    | bad zr=>rfl
end Go.Proofs.YtclgbmmambkiaaaGreatDoor.S
